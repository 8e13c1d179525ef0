/- The walk of NetKeeps. -/
import Derived.Test.YtkcncaddhfgmaaaDkAp
import Derived.Test.YtkcncaddhfgmaaaDkOv
import Derived.Test.YtkcncaddhfgmaaaDkTn
import Derived.Test.YtkcncaddhfgmaaaNtN0
namespace Go.Proofs.Ytkcncaddhfgmaaa
open Go.RowKit Go.MapKept

theorem bv_ints (l : List UInt8) : bv l = AB.ints (l.map fun x => (x.toNat : Int)) := by simp [bv, AB.ints]
def ab2 {α : Type} (x y : α) (j : Nat) : α := if j = 0 then x else y
theorem lt2 {j : Nat} (h : j < 2) : j = 0 ∨ j = 1 := by omega
theorem apart_two {w : World} {A0 A1 : Option Addr} {n0 n1 C0 C1 : Nat} {l0 l1 : List Int} (h0 : AB.R w A0 n0 C0 l0) (h1 : AB.R w A1 n1 C1 l1) (hne : ∀ g, A0 = some ⟨g, 0, none⟩ → A1 ≠ some ⟨g, 0, none⟩) (hn0 : n0 ≤ 1000000) (hn1 : n1 ≤ 1000000) :
    Calls Try.prog 14 #[.slice (some ⟨w.heap.size, 0, none⟩) 2 2] (w.alloc (.cells #[.slice A0 n0 C0, .slice A1 n1 C1] 22)) fun e w' => e = .returned (.bool true) ∧ ((∃ l, AB.R w' A0 n0 C0 l) ∧ ∃ l, AB.R w' A1 n1 C1 l) ∧ Chg (fun k => A0 = some ⟨k, 0, none⟩ ∨ A1 = some ⟨k, 0, none⟩) w w' := by
  have g := World.grownBy_alloc w (.cells #[.slice A0 n0 C0, .slice A1 n1 C1] 22) none
  refine (AB.apartBytes_any w.heap.size 2 2 (ab2 A0 A1) (ab2 n0 n1) (ab2 C0 C1) _ (by omega) (by omega) ?_ ?_ ?_ (by simp) ?_).mono ?_
  · intro k hk; rcases lt2 hk with rfl | rfl <;> simp [ab2] <;> omega
  · intro j k x hj hk hjk e1 e2
    rcases lt2 hj with rfl | rfl <;> rcases lt2 hk with rfl | rfl
    · exact hjk rfl
    · exact hne x e1 e2
    · exact hne x e2 e1
    · exact hjk rfl
  · intro k hk
    rw [cell_of_row _ w.heap.size k _ _ _ (heap_alloc_new w _)]
    rcases lt2 hk with rfl | rfl <;> rfl
  · intro j hj
    rcases lt2 hj with rfl | rfl
    · exact ⟨l0, h0.kept g (by simp)⟩
    · exact ⟨l1, h1.kept g (by simp)⟩
  · rintro e w' ⟨rfl, hc, hr⟩
    refine ⟨rfl, ⟨hr 0 (by omega), hr 1 (by omega)⟩, hc.os.trans g.os, hc.tape.trans g.tape, hc.output.trans g.output, Nat.le_trans g.size hc.size, fun k hk hn => ?_⟩
    rw [hc.block k (Nat.lt_of_lt_of_le hk g.size) ?_, g.block k hk (by simp)]
    intro j hj e
    rcases lt2 hj with rfl | rfl
    · exact hn (.inl e)
    · exact hn (.inr e)
theorem Lent.kp {T : Nat → Prop} {w w' : World} {g : Nat} {l : List UInt8} (h : LB.Lent w g l) (hk : Kp T w w') (hT : T g) : LB.Lent w' g l := by
  unfold LB.Lent at *
  rw [hk.block g (heap_lt h) (fun e => e hT)]; exact h
theorem Lent.lt {w : World} {g : Nat} {l : List UInt8} (h : LB.Lent w g l) : g < w.heap.size := heap_lt h
theorem row_of {w : World} {base : Nat} {A : Option Addr} {C n : Nat} {l : List UInt8} (h : w.ownsRow base 5 1 (.slice A n C) n (bv l)) : AB.R w A n C (l.map fun x => (x.toNat : Int)) := by
  rw [bv_ints] at h; exact AB.owns_weak h
theorem R_chg {S : Nat → Prop} {w w' : World} {A : Option Addr} {N C : Nat} {l : List Int} (h : AB.R w A N C l) (hc : Chg S w w') (hn : ∀ k, A = some ⟨k, 0, none⟩ → ¬ S k) : AB.R w' A N C l := by
  refine ⟨h.1, ?_⟩
  rcases h.2 with h2 | ⟨b, cap, cur, hv, hb, hb2, hr⟩
  · exact .inl h2
  · cases hv; exact .inr ⟨b, _, cur, rfl, hb, by rw [hc.block b (heap_lt hb2) (hn b rfl)]; exact hb2, hr⟩
theorem Nx.away {S : Nat → Prop} {w w' : World} {n : Nat} {l : List Pk} {T : Nat → Prop} (h : Nx w n l T) (hc : Chg S w w') (hS : ∀ g, S g → T g) : Nx w' n l T := by
  obtain ⟨base, m, L, h1, h2, h3, h4, h5⟩ := h
  exact ⟨base, m, L, Nat.le_trans h1 hc.size, h2.keep hc (fun g hg e => h4 g (hS g e) hg), h3, h4, fun g hg => hc.lt_of (h5 g hg)⟩
theorem blk_at {A : Option Addr} {n C g : Nat} (h : A = some ⟨g, 0, none⟩) : blk (.slice A n C) = some g := by subst h; rfl
abbrev k12 : Int × Int := (1, 2)
theorem kp1 {l : List UInt8} (h : l.length ≤ 10000) : sendOk [] k12 l = true := by simp [sendOk, bagOf]; omega
theorem kp2 (l : List UInt8) : twiceR [(k12, l)] k12 0 = (true, [(k12, l), (k12, l)]) := by simp [twiceR, peek, bagOf]
theorem kp3 (l : List UInt8) : twiceR [(k12, l), (k12, l)] k12 1 = (true, [(k12, l), (k12, l), (k12, l)]) := by simp [twiceR, peek, bagOf]
theorem kp4 (l : List UInt8) (L : List Pk) : peek ((k12, l) :: L) k12 0 = some l := by simp [peek, bagOf]
theorem kp5 (l : List UInt8) (L : List Pk) : takeP ((k12, l) :: L) k12 (Int.toNat 0) = L := by simp [takeP]
set_option maxRecDepth 100000 in
set_option maxHeartbeats 4000000 in
theorem keeps_any {w : World} {vb : Value} {lb : List UInt8} (hb : Bs w vb lb) :
    Calls Try.prog 3 #[vb] w fun e w' => e = .returned (.bool true) ∧ Below w.heap.size w w' := by
  obtain ⟨X, cx, rfl⟩ := bs_form hb
  have HBb : Hid (Bs w (.slice X lb.length cx) lb) := hb
  clear hb
  by_cases h1 : 10000 < lb.length
  · have h1' : (10000 : Int) < (lb.length : Int) := by omega
    go_enter Try.func3, Try.ntmps3
    go_wp2_with fail
    refine (awake_any _).mono ?_
    rintro e w1 ⟨rfl, hB⟩
    go_wp2_with fail
    go_ret
    exact ⟨rfl, hB⟩
  have h1' : ¬ (10000 : Int) < (lb.length : Int) := by omega
  go_enter Try.func3, Try.ntmps3
  go_wp2_with fail
  refine (new_any w).mono ?_
  rintro e w1 ⟨n, rfl, hn, hB⟩
  have HN : Hid (Nx w1 n [] (fun k => k < w.heap.size)) := hn
  have HB1 : Hid (Below w.heap.size w w1) := hB
  clear hn hB
  have hc := LB.lent_any (HBb.out.below' HB1.out) (by omega)
  go_wp2_with fail
  refine hc.mono ?_
  rintro e w2 ⟨rfl, hL, hB⟩
  obtain ⟨T, hT⟩ : ∃ T : Nat → Prop, T = fun k => k < w.heap.size ∨ (w1.heap.size ≤ k ∧ k < w2.heap.size) := ⟨_, rfl⟩
  have hN2 : Nx w2 n [] T := by rw [hT]; exact HN.out.more hB
  have hTg : T w1.heap.size := by rw [hT]; exact .inr ⟨Nat.le_refl _, Lent.lt hL⟩
  have HTl : Hid (∀ k, k < w.heap.size → T k) := by rw [hT]; exact fun k hk => .inl hk
  have HTg : Hid (T w1.heap.size) := hTg
  have HL : Hid (LB.Lent w2 w1.heap.size lb) := hL
  have HB2 : Hid (Below w.heap.size w w2) := HB1.out.trans (hB.mono HB1.out.size)
  have HX : Hid (Bs w2 (.slice X lb.length cx) lb) := HBb.out.below' HB2.out
  have HXT : Hid (∀ k, bk (.slice X lb.length cx) = some k → T k) := fun k hk => HTl.out k (HBb.out.lt hk)
  have HXg : Hid (∀ k, bk (.slice X lb.length cx) = some k → k ≠ w1.heap.size) := fun k hk e => by have := HBb.out.lt hk; have := HB1.out.size; omega
  have hc := send_any hN2 k12 hL.bs
  rw [kp1 (by omega)] at hc
  clear hN2 hTg hL hB hT HN HBb
  simp only [if_true, List.nil_append] at hc
  go_wp2_with fail
  refine hc.mono ?_
  rintro e w3 ⟨rfl, hn, hk⟩
  replace HL : Hid (LB.Lent w3 w1.heap.size lb) := Lent.kp HL.out hk HTg.out
  replace HX : Hid (Bs w3 (.slice X lb.length cx) lb) := HX.out.kp hk HXT.out
  have HB3 : Hid (Below w.heap.size w w3) := HB2.out.trans (hk.below HTl.out HB2.out.size)
  clear hc hk HB2
  have hc := twice_any hn k12 0
  rw [kp2] at hc
  clear hn
  go_wp2_with fail
  refine hc.mono ?_
  rintro e w4 ⟨rfl, hn, hk⟩
  replace HL : Hid (LB.Lent w4 w1.heap.size lb) := Lent.kp HL.out hk HTg.out
  replace HX : Hid (Bs w4 (.slice X lb.length cx) lb) := HX.out.kp hk HXT.out
  have HB4 : Hid (Below w.heap.size w w4) := HB3.out.trans (hk.below HTl.out HB3.out.size)
  clear hc hk HB3
  have hc := twice_any hn k12 1
  rw [kp3] at hc
  clear hn
  go_wp2_with fail
  refine hc.mono ?_
  rintro e w5 ⟨rfl, hn, hk⟩
  have HN : Hid (Nx w5 n [(k12, lb), (k12, lb), (k12, lb)] T) := hn
  replace HL : Hid (LB.Lent w5 w1.heap.size lb) := Lent.kp HL.out hk HTg.out
  replace HX : Hid (Bs w5 (.slice X lb.length cx) lb) := HX.out.kp hk HXT.out
  have HB5 : Hid (Below w.heap.size w w5) := HB4.out.trans (hk.below HTl.out HB4.out.size)
  clear hc hk HB4 hn
  have hc := LB.kept_any w1.heap.size lb.length (.slice X lb.length cx) lb w5 HL.out HX.out rfl (by omega)
  go_wp2_with fail
  refine hc.mono ?_
  rintro e w6 ⟨rfl, q, hw⟩
  have hB : Below w5.heap.size w5 w6 := by rw [hw]; exact below_drewN (Below.refl _ _) _
  replace HN : Hid (Nx w6 n [(k12, lb), (k12, lb), (k12, lb)] T) := HN.out.below hB
  replace HL : Hid (LB.Lent w6 w1.heap.size lb) := HL.out.below hB
  replace HX : Hid (Bs w6 (.slice X lb.length cx) lb) := HX.out.below' hB
  have HB6 : Hid (Below w.heap.size w w6) := HB5.out.trans (hB.mono HB5.out.size)
  clear hc hw hB HB5
  have hc := over_any w1.heap.size lb.length lb w6 HL.out rfl (by omega)
  go_wp2_with fail
  refine hc.mono ?_
  rintro e w7 ⟨rfl, hg⟩
  replace HN : Hid (Nx w7 n [(k12, lb), (k12, lb), (k12, lb)] T) := HN.out.away hg (fun g e => by rw [show g = w1.heap.size from e]; exact HTg.out)
  replace HX : Hid (Bs w7 (.slice X lb.length cx) lb) := HX.out.keep hg (fun k hk e => HXg.out k hk e)
  have HB7 : Hid (Below w.heap.size w w7) := HB6.out.trans (hg.below (fun k e => by rw [show k = w1.heap.size from e]; exact HB1.out.size) HB6.out.size)
  clear hc hg HL HB6
  have hc := take_some HN.out k12 0 (kp4 lb _)
  rw [kp5] at hc
  go_wp2_with fail
  refine hc.mono ?_
  rintro e w8 ⟨A8, C8, rfl, ho, hnt, hn, hk⟩
  have HX8 : Hid (w8.ownsRow 0 5 1 (.slice A8 lb.length C8) lb.length (bv lb)) := ho
  have HT8 : Hid (∀ g, blk (.slice A8 lb.length C8) = some g → ¬ T g) := hnt
  replace HX : Hid (Bs w8 (.slice X lb.length cx) lb) := HX.out.kp hk HXT.out
  have HB8 : Hid (Below w.heap.size w w8) := HB7.out.trans (hk.below HTl.out HB7.out.size)
  clear hc hk HB7 HN ho hnt
  have hc := take_some hn k12 0 (kp4 lb _)
  rw [kp5] at hc
  clear hn
  go_wp2_with fail
  refine hc.mono ?_
  rintro e w9 ⟨A9, C9, rfl, ho, hnt, hn, hk⟩
  have HN : Hid (Nx w9 n [(k12, lb)] (fun g => (T g ∨ blk (.slice A8 lb.length C8) = some g) ∨ blk (.slice A9 lb.length C9) = some g)) := hn
  have HRX : Hid (AB.R w9 A8 lb.length C8 (lb.map fun x => (x.toNat : Int))) := R_chg (row_of HX8.out) hk (fun k e h => h (.inr (blk_at e)))
  have HXB : Hid (Bs w9 (.slice A8 lb.length C8) lb) := (Bs.of_owns HX8.out).kp hk (fun k e => .inr (bk_blk e))
  have HRY : Hid (AB.R w9 A9 lb.length C9 (lb.map fun x => (x.toNat : Int))) := row_of ho
  have HNE : Hid (∀ g, A8 = some ⟨g, 0, none⟩ → A9 ≠ some ⟨g, 0, none⟩) := fun g e1 e2 => hnt g (blk_at e2) (.inr (blk_at e1))
  have HT9 : Hid (∀ g, blk (.slice A9 lb.length C9) = some g → ¬ T g) := fun g e h => hnt g e (.inl h)
  replace HX : Hid (Bs w9 (.slice X lb.length cx) lb) := HX.out.kp hk (fun k hk => .inl (HXT.out k hk))
  have HB9 : Hid (Below w.heap.size w w9) := HB8.out.trans (hk.below (fun k h => .inl (HTl.out k h)) HB8.out.size)
  clear hc hk HB8 HX8 ho hnt hn
  have hc := same_any HXB.out HX.out (by omega)
  rw [decide_eq_true rfl] at hc
  go_wp2_with fail
  refine hc.mono ?_
  rintro e w10 ⟨rfl, q2, hw⟩
  have hB : Below w9.heap.size w9 w10 := by rw [hw]; exact below_drewN (Below.refl _ _) _
  replace HN : Hid (Nx w10 n [(k12, lb)] (fun g => (T g ∨ blk (.slice A8 lb.length C8) = some g) ∨ blk (.slice A9 lb.length C9) = some g)) := HN.out.below hB
  replace HRX : Hid (AB.R w10 A8 lb.length C8 (lb.map fun x => (x.toNat : Int))) := R_chg HRX.out (Chg.of_below hB) (fun _ _ => id)
  replace HRY : Hid (AB.R w10 A9 lb.length C9 (lb.map fun x => (x.toNat : Int))) := R_chg HRY.out (Chg.of_below hB) (fun _ _ => id)
  replace HX : Hid (Bs w10 (.slice X lb.length cx) lb) := HX.out.below' hB
  have HB10 : Hid (Below w.heap.size w w10) := HB9.out.trans (hB.mono HB9.out.size)
  clear hc hw hB HB9 HXB
  have hc := apart_two HRX.out HRY.out HNE.out (by omega) (by omega)
  go_wp2_with fail
  refine hc.mono ?_
  rintro e w11 ⟨rfl, ⟨⟨lx, hrx⟩, ly, hry⟩, hg⟩
  have HLO : Hid (∀ k, A8 = some ⟨k, 0, none⟩ ∨ A9 = some ⟨k, 0, none⟩ → ¬ T k) := fun k h => by
    rcases h with h | h
    · exact HT8.out k (blk_at h)
    · exact HT9.out k (blk_at h)
  replace HN : Hid (Nx w11 n [(k12, lb)] (fun g => (T g ∨ blk (.slice A8 lb.length C8) = some g) ∨ blk (.slice A9 lb.length C9) = some g)) := HN.out.away hg (fun k h => by
    rcases h with h | h
    · exact .inl (.inr (blk_at h))
    · exact .inr (blk_at h))
  replace HRX : Hid (AB.R w11 A8 lb.length C8 lx) := hrx
  replace HRY : Hid (AB.R w11 A9 lb.length C9 ly) := hry
  replace HX : Hid (Bs w11 (.slice X lb.length cx) lb) := HX.out.keep hg (fun k hk h => HLO.out k h (HXT.out k hk))
  have HB11 : Hid (Below w.heap.size w w11) := HB10.out.trans (hg.below (fun k h => Nat.le_of_not_lt fun hlt => HLO.out k h (HTl.out k hlt)) HB10.out.size)
  clear hc hg hrx hry HB10
  have hc := turn_any A8 lb.length C8 w11 lx HRX.out (by omega)
  go_wp2_with fail
  refine hc.mono ?_
  rintro e w12 ⟨rfl, hg⟩
  replace HN : Hid (Nx w12 n [(k12, lb)] (fun g => (T g ∨ blk (.slice A8 lb.length C8) = some g) ∨ blk (.slice A9 lb.length C9) = some g)) := HN.out.away hg (fun k h => .inl (.inr (blk_at h)))
  replace HRY : Hid (AB.R w12 A9 lb.length C9 ly) := R_chg HRY.out hg (fun k e h => HNE.out k h e)
  replace HX : Hid (Bs w12 (.slice X lb.length cx) lb) := HX.out.keep hg (fun k hk h => HLO.out k (.inl h) (HXT.out k hk))
  have HB12 : Hid (Below w.heap.size w w12) := HB11.out.trans (hg.below (fun k h => Nat.le_of_not_lt fun hlt => HLO.out k (.inl h) (HTl.out k hlt)) HB11.out.size)
  clear hc hg HB11 HRX
  have hc := turn_any A9 lb.length C9 w12 ly HRY.out (by omega)
  go_wp2_with fail
  refine hc.mono ?_
  rintro e w13 ⟨rfl, hg⟩
  replace HN : Hid (Nx w13 n [(k12, lb)] (fun g => (T g ∨ blk (.slice A8 lb.length C8) = some g) ∨ blk (.slice A9 lb.length C9) = some g)) := HN.out.away hg (fun k h => .inr (blk_at h))
  replace HX : Hid (Bs w13 (.slice X lb.length cx) lb) := HX.out.keep hg (fun k hk h => HLO.out k (.inr h) (HXT.out k hk))
  have HB13 : Hid (Below w.heap.size w w13) := HB12.out.trans (hg.below (fun k h => Nat.le_of_not_lt fun hlt => HLO.out k (.inr h) (HTl.out k hlt)) HB12.out.size)
  clear hc hg HB12 HRY
  have hc := take_some HN.out k12 0 (kp4 lb _)
  rw [kp5] at hc
  go_wp2_with fail
  refine hc.mono ?_
  rintro e w14 ⟨A14, C14, rfl, ho, _, _, hk⟩
  have HZ : Hid (Bs w14 (.slice A14 lb.length C14) lb) := Bs.of_owns ho
  replace HX : Hid (Bs w14 (.slice X lb.length cx) lb) := HX.out.kp hk (fun k hk => .inl (.inl (HXT.out k hk)))
  have HB14 : Hid (Below w.heap.size w w14) := HB13.out.trans (hk.below (fun k h => .inl (.inl (HTl.out k h))) HB13.out.size)
  clear hc hk ho HN HB13
  have hc := same_any HZ.out HX.out (by omega)
  rw [decide_eq_true rfl] at hc
  go_wp2_with fail
  refine hc.mono ?_
  rintro e w15 ⟨rfl, q3, hw⟩
  have HB15 : Hid (Below w.heap.size w w15) := by rw [hw]; exact below_drewN HB14.out _
  clear hc hw
  go_wp2_with fail
  refine (awake_any _).mono ?_
  rintro e w16 ⟨rfl, hB⟩
  have HB16 : Hid (Below w.heap.size w w16) := HB15.out.trans (hB.mono HB15.out.size)
  clear hB
  go_wp2_with fail
  go_ret
  exact ⟨rfl, HB16.out⟩
end Go.Proofs.Ytkcncaddhfgmaaa
