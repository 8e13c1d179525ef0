/- The walk of DiskKeeps. -/
import Derived.Test.YtapipnbmljdmbaaGreatDkKb
import Derived.Test.YtapipnbmljdmbaaGreatDkW
namespace Go.Proofs.YtapipnbmljdmbaaGreat
open Go.RowKit Go.MapKept

theorem Lent.kp {T : Nat → Prop} {w w' : World} {g : Nat} {l : List UInt8} (h : LB.Lent w g l) (hk : Kp T w w') (hg : g < w.heap.size) (hT : T g) : LB.Lent w' g l := by
  unfold LB.Lent at *
  rw [hk.block g hg (fun e => e hT)]; exact h
theorem Lent.lt {w : World} {g : Nat} {l : List UInt8} (h : LB.Lent w g l) : g < w.heap.size := heap_lt h
theorem row_of {w : World} {base : Nat} {A : Option Addr} {C n : Nat} {l : List UInt8} (h : w.ownsRow base 5 1 (.slice A n C) n (bv l)) : AB.R w A n C (l.map fun x => (x.toNat : Int)) := by
  rw [bv_ints] at h; exact AB.owns_weak h
theorem rowT_of {w : World} {base : Nat} {A : Option Addr} {C n : Nat} {l : List (List UInt8)} (h : w.ownsRow base 9 1 (.slice A n C) n (l.map fun x => Value.string (mkS x))) : AT.R w A n C l := AB.owns_weak h
theorem row_at {w : World} {base e : Nat} {A : Option Addr} {C n : Nat} {xs : List Value} (h : w.ownsRow base e 1 (.slice A n C) n xs) : ∀ g, A = some ⟨g, 0, none⟩ → base ≤ g ∧ g < w.heap.size := fun g hg => by
  subst hg; exact h.lt g rfl

theorem Dx.away {w w' : World} {d : Nat} {room : Int} {F : List Fi} {T T' : Nat → Prop} (h : Dx w d room F T) (hc : Kp T' w w') (hT : ∀ k, k < w.heap.size → ¬ T k → T' k) : Dx w' d room F T := by
  obtain ⟨base, S, h1, h2, h3, h4⟩ := h
  exact ⟨base, S, Nat.le_trans h1 hc.size, h2.keep hc (fun k hk e => e (hT k (h2.bound k hk).2 (fun t => h3 k t hk))), h3, fun k hk => hc.lt_of (h4 k hk)⟩
theorem R_chg {S : Nat → Prop} {w w' : World} {A : Option Addr} {N C : Nat} {l : List Int} (h : AB.R w A N C l) (hc : Chg S w w') (hn : ∀ k, A = some ⟨k, 0, none⟩ → ¬ S k) : AB.R w' A N C l := by
  refine ⟨h.1, ?_⟩
  rcases h.2 with h2 | ⟨b, cap, cur, hv, hb, hb2, hr⟩
  · exact .inl h2
  · cases hv; exact .inr ⟨b, _, cur, rfl, hb, by rw [hc.block b (heap_lt hb2) (hn b rfl)]; exact hb2, hr⟩
theorem RT_chg {S : Nat → Prop} {w w' : World} {A : Option Addr} {N C : Nat} {l : List (List UInt8)} (h : AT.R w A N C l) (hc : Chg S w w') (hn : ∀ k, A = some ⟨k, 0, none⟩ → ¬ S k) : AT.R w' A N C l := by
  refine ⟨h.1, ?_⟩
  rcases h.2 with h2 | ⟨b, cap, cur, hv, hb, hb2, hr⟩
  · exact .inl h2
  · cases hv; exact .inr ⟨b, _, cur, rfl, hb, by rw [hc.block b (heap_lt hb2) (hn b rfl)]; exact hb2, hr⟩

theorem wpList_appg {w : World} {ops : Array Oper} {rest : List Oper} {o : Oper} {a : Act} {Q : Exit → Act → World → Prop} (hw : Region.wanted o (yielded ops a.tmps) = true) (s x : Operand)
    (ho : o.op = .call { callee := .builtin .append, args := #[s, x], argTypes := #[22, 22] })
    {base n : Nat} (v xv : Value) {l news : List UInt8} (hs : a.eval s = v) (hxe : a.eval x = xv) (hown : w.ownsRow base 5 1 v n (bv l)) (hx : Bs w xv news)
    (hb : base ≤ w.heap.size) (hn : l.length + news.length ≤ 140737488355328)
    (h : ∀ A C w', w'.ownsRow base 5 1 (.slice A (l.length + news.length) C) (l.length + news.length) (bv (l ++ news)) → w.grownBy w' (blk v) → wpList Tryz.prog ops Q rest (a.put o.dst (.slice A (l.length + news.length) C)) w') :
    wpList Tryz.prog ops Q (o :: rest) a w := by
  refine wpList_step fun K hK => ?_
  rw [if_pos hw]
  obtain ⟨v', w', hr, h2, h3, h4, h5⟩ := app_bytes o.type hown hx hb hn
  unfold Oper.wp execOp
  simp only [ho, resolve, invoke, builtin, Sem.run_bind, Sem.run_pure, Result.andThen_ok, List.map_toArray, List.map_cons, List.map_nil, hs, hxe, hr]
  rw [List.length_append] at h2
  obtain ⟨A, C, rfl⟩ := owns_form h2
  exact hK _ _ (h A C w' h2 h3)

set_option maxRecDepth 100000 in
set_option maxHeartbeats 8000000 in
theorem keeps_any {w : World} {vb vm : Value} {lb lm : List UInt8} (hb : Bs w vb lb) (hm : Bs w vm lm) :
    Calls Tryz.prog 3 #[vb, vm] w fun e w' => e = .returned (.bool true) ∧ Below w.heap.size w w' := by
  obtain ⟨X, cx, rfl⟩ := bs_form hb
  obtain ⟨Y, cy, rfl⟩ := bs_form hm
  have HBb : Hid (Bs w (.slice X lb.length cx) lb) := hb
  have HBm : Hid (Bs w (.slice Y lm.length cy) lm) := hm
  clear hb hm
  by_cases h1 : 10000 < lb.length
  · have h1' : (10000 : Int) < (lb.length : Int) := by omega
    go_enter Tryz.func3, Tryz.ntmps3
    go_wp2_with fail
    refine (awake_any _).mono ?_
    rintro e w1 ⟨rfl, hB⟩
    go_wp2_with fail
    go_ret
    exact ⟨rfl, hB⟩
  by_cases h2 : 10000 < lm.length
  · have h1' : ¬ (10000 : Int) < (lb.length : Int) := by omega
    have h2' : (10000 : Int) < (lm.length : Int) := by omega
    go_enter Tryz.func3, Tryz.ntmps3
    go_wp2_with fail
    refine (awake_any _).mono ?_
    rintro e w1 ⟨rfl, hB⟩
    go_wp2_with fail
    go_ret
    exact ⟨rfl, hB⟩
  have h1' : ¬ (10000 : Int) < (lb.length : Int) := by omega
  have h2' : ¬ (10000 : Int) < (lm.length : Int) := by omega
  have hcn := new_dx 1048576 (by omega) w
  rw [show max (1048576 : Int) 0 = 1048576 from rfl] at hcn
  go_enter Tryz.func3, Tryz.ntmps3
  go_wp2_with fail
  refine hcn.mono ?_
  rintro e w1 ⟨d, rfl, hd, hB⟩
  have HD1 : Hid (Dx w1 d 1048576 [] (fun k => k < w.heap.size)) := hd
  have HB1 : Hid (Below w.heap.size w w1) := hB
  clear hcn hd hB
  have hc := LB.lent_any (HBb.out.below' HB1.out) (by omega)
  go_wp2_with fail
  refine hc.mono ?_
  rintro e w2 ⟨rfl, hL, hB⟩
  have hX := hL.bs
  have HD2 : Hid (Dx w2 d 1048576 [] (fun k => k < w.heap.size ∨ (w1.heap.size ≤ k ∧ k < w2.heap.size))) := HD1.out.more hB
  have HL2 : Hid (LB.Lent w2 w1.heap.size lb) := hL
  have HB2 : Hid (Below w.heap.size w w2) := HB1.out.trans (hB.mono HB1.out.size)
  clear hc hL hB HD1
  have hc := append_dx HD2.out [97] hX rfl
  rw [(FA_first lb (by omega)).1, (FA_first lb (by omega)).2] at hc
  clear hX HD2
  go_wp2_with fail
  refine hc.mono ?_
  rintro e w3 ⟨rfl, hd, hk⟩
  have HD3 : Hid (Dx w3 d 1048576 (FA lb) (fun k => k < w.heap.size ∨ (w1.heap.size ≤ k ∧ k < w2.heap.size))) := hd
  have hl1 := Lent.lt HL2.out
  have HT : Hid (w1.heap.size < w2.heap.size) := hl1
  have HL3 : Hid (LB.Lent w3 w1.heap.size lb) := Lent.kp HL2.out hk hl1 (.inr ⟨Nat.le_refl _, hl1⟩)
  have HB3 : Hid (Below w.heap.size w w3) := HB2.out.trans (hk.below (fun k h => .inl h) HB2.out.size)
  clear hc hd hk hl1 HL2 HB2
  have hc := LB.kept_any w1.heap.size lb.length (.slice X lb.length cx) lb w3 HL3.out (HBb.out.below' HB3.out) rfl (by omega)
  go_wp2_with fail
  refine hc.mono ?_
  rintro e w4 ⟨rfl, q, hw4⟩
  have hB : Below w3.heap.size w3 w4 := by rw [hw4]; exact below_drewN (Below.refl _ _) _
  have HD4 : Hid (Dx w4 d 1048576 (FA lb) (fun k => k < w.heap.size ∨ (w1.heap.size ≤ k ∧ k < w2.heap.size))) := HD3.out.below hB
  have HL4 : Hid (LB.Lent w4 w1.heap.size lb) := HL3.out.below hB
  have HB4 : Hid (Below w.heap.size w w4) := HB3.out.trans (hB.mono HB3.out.size)
  clear hc hB hw4 HD3 HL3 HB3
  have hc := over_any w1.heap.size lb.length lb w4 HL4.out rfl (by omega)
  go_wp2_with fail
  refine hc.mono ?_
  rintro e w5 ⟨rfl, hg⟩
  have hk : Kp (fun k => k ≠ w1.heap.size) w4 w5 := ⟨hg.os, hg.tape, hg.output, hg.size, fun k hk h => hg.block k hk (fun e => h (fun ne => ne e))⟩
  have HD5 : Hid (Dx w5 d 1048576 (FA lb) (fun k => k < w.heap.size ∨ (w1.heap.size ≤ k ∧ k < w2.heap.size))) := HD4.out.away hk (fun k _ h e => h (.inr ⟨by rw [e]; exact Nat.le_refl _, by rw [e]; exact HT.out⟩))
  have HB5 : Hid (Below w.heap.size w w5) := HB4.out.trans (hg.below (fun k e => by rw [show k = w1.heap.size from e]; exact HB1.out.size) HB4.out.size)
  clear hc hg hk HD4 HL4 HB4 HB1 HT
  have hc := read_dx HD5.out [97]
  rw [FA_syn, FA_get] at hc
  go_wp2_with fail
  refine hc.mono ?_
  rintro e w6 ⟨Ax, Cx, rfl, hox, hB⟩
  have HX6 : Hid (w6.ownsRow w5.heap.size 5 1 (.slice Ax lb.length Cx) lb.length (bv lb)) := hox
  have HC6 : Hid (Below w5.heap.size w5 w6) := hB
  clear hc hox hB
  have hc := read_dx (HD5.out.below HC6.out) [97]
  rw [FA_syn, FA_get] at hc
  go_wp2_with fail
  refine hc.mono ?_
  rintro e w7 ⟨Ay, Cy, rfl, hoy, hB⟩
  have HY7 : Hid (w7.ownsRow w6.heap.size 5 1 (.slice Ay lb.length Cy) lb.length (bv lb)) := hoy
  have HE7 : Hid (Below w6.heap.size w6 w7) := hB
  have HC7 : Hid (Below w5.heap.size w5 w7) := HC6.out.trans (hB.mono HC6.out.size)
  clear hc hoy hB
  have hc := list_dx (HD5.out.below HC7.out) (by simp [FA])
  rw [FA_names, show (FA lb).length = 1 from rfl] at hc
  go_wp2_with fail
  refine hc.mono ?_
  rintro e w8 ⟨Al, Cl, rfl, hol, hB⟩
  have HL8 : Hid (w8.ownsRow w7.heap.size 9 1 (.slice Al 1 Cl) 1 (([[97]] : List (List UInt8)).map fun x => Value.string (mkS x))) := hol
  have HE8 : Hid (Below w7.heap.size w7 w8) := hB
  have HC8 : Hid (Below w5.heap.size w5 w8) := HC7.out.trans (hB.mono HC7.out.size)
  clear hc hol hB
  have hc := list_dx (HD5.out.below HC8.out) (by simp [FA])
  rw [FA_names, show (FA lb).length = 1 from rfl] at hc
  go_wp2_with fail
  refine hc.mono ?_
  rintro e w9 ⟨Am, Cm, rfl, hom, hB⟩
  have HE9 : Hid (Below w8.heap.size w8 w9) := hB
  have HC9 : Hid (Below w5.heap.size w5 w9) := HC8.out.trans (hB.mono HC8.out.size)
  have s5 := HC6.out.size
  have s6 := HE7.out.size
  have s7 := HE8.out.size
  have s8 := HE9.out.size
  have px := row_at HX6.out
  have py := row_at HY7.out
  have pl := row_at HL8.out
  have pm := row_at hom
  have HP : Hid ((∀ g, Ax = some ⟨g, 0, none⟩ → w5.heap.size ≤ g ∧ g < w6.heap.size) ∧ (∀ g, Ay = some ⟨g, 0, none⟩ → w6.heap.size ≤ g ∧ g < w7.heap.size) ∧ (∀ g, Al = some ⟨g, 0, none⟩ → w7.heap.size ≤ g ∧ g < w8.heap.size) ∧ (∀ g, Am = some ⟨g, 0, none⟩ → w8.heap.size ≤ g ∧ g < w9.heap.size)) := ⟨px, py, pl, pm⟩
  have HS : Hid (w5.heap.size ≤ w6.heap.size ∧ w6.heap.size ≤ w7.heap.size ∧ w7.heap.size ≤ w8.heap.size ∧ w8.heap.size ≤ w9.heap.size) := ⟨s5, s6, s7, s8⟩
  have e69 : Below w6.heap.size w6 w9 := HE7.out.trans ((HE8.out.trans (HE9.out.mono s7)).mono s6)
  have e79 : Below w7.heap.size w7 w9 := HE8.out.trans (HE9.out.mono s7)
  have HX9 : Hid (Bs w9 (.slice Ax lb.length Cx) lb) := (Bs.of_owns HX6.out).below' e69
  have HRX : Hid (AB.R w9 Ax lb.length Cx (lb.map fun x => (x.toNat : Int))) := (row_of HX6.out).kept (AB.below_grown e69 none) (by simp)
  have HRY : Hid (AB.R w9 Ay lb.length Cy (lb.map fun x => (x.toNat : Int))) := (row_of HY7.out).kept (AB.below_grown e79 none) (by simp)
  have HRL : Hid (AT.R w9 Al 1 Cl [[97]]) := (rowT_of HL8.out).kept (AB.below_grown HE9.out none) (by simp)
  have HRM : Hid (AT.R w9 Am 1 Cm [[97]]) := rowT_of hom
  clear hc hom hB s5 s6 s7 s8 px py pl pm e69 e79 HX6 HY7 HL8 HE7 HE8 HE9 HC6 HC7 HC8
  have hc := same_any HX9.out (HBb.out.below' (HB5.out.trans (HC9.out.mono HB5.out.size))) (by omega)
  rw [show decide (lb = lb) = true by simp] at hc
  go_wp2_with fail
  refine hc.mono ?_
  rintro e w10 ⟨rfl, q1, hw⟩
  have hB : Below w9.heap.size w9 w10 := by rw [hw]; exact below_drewN (Below.refl _ _) _
  have HC10 : Hid (Below w5.heap.size w5 w10) := HC9.out.trans (hB.mono HC9.out.size)
  replace HRX : Hid (AB.R w10 Ax lb.length Cx (lb.map fun x => (x.toNat : Int))) := HRX.out.kept (AB.below_grown hB none) (by simp)
  replace HRY : Hid (AB.R w10 Ay lb.length Cy (lb.map fun x => (x.toNat : Int))) := HRY.out.kept (AB.below_grown hB none) (by simp)
  replace HRL : Hid (AT.R w10 Al 1 Cl [[97]]) := HRL.out.kept (AB.below_grown hB none) (by simp)
  replace HRM : Hid (AT.R w10 Am 1 Cm [[97]]) := HRM.out.kept (AB.below_grown hB none) (by simp)
  clear hc hw hB HX9 HC9
  have hc := apart_two HRX.out HRY.out (fun g e1 e2 => by have := HP.out.1 g e1; have := HP.out.2.1 g e2; omega) (by omega) (by omega)
  go_wp2_with fail
  refine hc.mono ?_
  rintro e w11 ⟨rfl, ⟨lx, hrx⟩, hg⟩
  have HC11 : Hid (Below w5.heap.size w5 w11) := HC10.out.trans (hg.below (fun k h => by
    have := HS.out
    rcases h with h | h
    · have := HP.out.1 k h; omega
    · have := HP.out.2.1 k h; omega) HC10.out.size)
  replace HRX : Hid (AB.R w11 Ax lb.length Cx lx) := hrx
  replace HRL : Hid (AT.R w11 Al 1 Cl [[97]]) := RT_chg HRL.out hg (fun k e h => by
    have := HS.out
    have := HP.out.2.2.1 k e
    rcases h with h | h
    · have := HP.out.1 k h; omega
    · have := HP.out.2.1 k h; omega)
  replace HRM : Hid (AT.R w11 Am 1 Cm [[97]]) := RT_chg HRM.out hg (fun k e h => by
    have := HS.out
    have := HP.out.2.2.2 k e
    rcases h with h | h
    · have := HP.out.1 k h; omega
    · have := HP.out.2.1 k h; omega)
  clear hc hg hrx HRY HC10
  have hc := apartT_two HRL.out HRM.out (fun g e1 e2 => by have := HP.out.2.2.1 g e1; have := HP.out.2.2.2 g e2; omega) (by omega) (by omega)
  go_wp2_with fail
  refine hc.mono ?_
  rintro e w12 ⟨rfl, hg⟩
  have HC12 : Hid (Below w5.heap.size w5 w12) := HC11.out.trans (hg.below (fun k h => by
    have := HS.out
    rcases h with h | h
    · have := HP.out.2.2.1 k h; omega
    · have := HP.out.2.2.2 k h; omega) HC11.out.size)
  replace HRX : Hid (AB.R w12 Ax lb.length Cx lx) := R_chg HRX.out hg (fun k e h => by
    have := HS.out
    have := HP.out.1 k e
    rcases h with h | h
    · have := HP.out.2.2.1 k h; omega
    · have := HP.out.2.2.2 k h; omega)
  clear hc hg HRL HRM HC11
  have hc := turn_any Ax lb.length Cx w12 lx HRX.out (by omega)
  go_wp2_with fail
  refine hc.mono ?_
  rintro e w13 ⟨rfl, hg⟩
  have HC13 : Hid (Below w5.heap.size w5 w13) := HC12.out.trans (hg.below (fun k h => (HP.out.1 k h).1) HC12.out.size)
  have HB13 : Hid (Below w.heap.size w w13) := HB5.out.trans (HC13.out.mono HB5.out.size)
  clear hc hg HC12 HP HS HRX
  have hc := append_dx (HD5.out.below HC13.out) [97] (HBm.out.below' HB13.out) rfl
  rw [(FA_next lb lm (by omega) (by omega)).1, (FA_next lb lm (by omega) (by omega)).2] at hc
  clear HD5 HC13 HB5
  go_wp2_with fail
  refine hc.mono ?_
  rintro e w14 ⟨rfl, hd, hk⟩
  have HB14 : Hid (Below w.heap.size w w14) := HB13.out.trans (hk.below (fun k h => .inl h) HB13.out.size)
  clear hc hk HB13
  have hc := read_dx hd [97]
  rw [FA_syn, FA_get] at hc
  clear hd
  go_wp2_with fail
  refine hc.mono ?_
  rintro e w15 ⟨Az, Cz, rfl, hoz, hB⟩
  have HZ : Hid (Bs w15 (.slice Az (lb ++ lm).length Cz) (lb ++ lm)) := Bs.of_owns hoz
  have HB15 : Hid (Below w.heap.size w w15) := HB14.out.trans (hB.mono HB14.out.size)
  clear hc hoz hB HB14
  have hc := copyB_any (HBb.out.below' HB15.out) (by omega)
  go_wp2_with fail
  refine hc.mono ?_
  rintro e w16 ⟨A2, C2, rfl, hoc, hB⟩
  have HB16 : Hid (Below w.heap.size w w16) := HB15.out.trans (hB.mono HB15.out.size)
  have HOC : Hid (w16.ownsRow w15.heap.size 5 1 (.slice A2 lb.length C2) lb.length (bv lb)) := hoc
  have HE16 : Hid (Below w15.heap.size w15 w16) := hB
  have HBM : Hid (Bs w16 (.slice Y lm.length cy) lm) := HBm.out.below' HB16.out
  clear hc hoc hB
  go_wp2_with (at_builtin; refine wpList_appg (by first | rfl | simp [Region.wanted, yielded]) (.tmp 83) (.tmp 84) rfl (.slice A2 lb.length C2) (.slice Y lm.length cy) rfl rfl HOC.out HBM.out HE16.out.size (by omega) ?_; intro A17 C17 w17 ho17 hg17; have e17 : Below w15.heap.size w15 w17 := HE16.out.trans ((Chg.of_grown hg17).below (fun k hk => (owns_block HOC.out hk).elim fun _ h => h.2) HE16.out.size); have HZ17 : Hid (Bs w17 (.slice Az (lb.length + lm.length) Cz) (lb ++ lm)) := by have z := HZ.out.below' e17; rw [List.length_append] at z; exact z)
  have HY17 : Hid (Bs w17 (.slice A17 (lb.length + lm.length) C17) (lb ++ lm)) := Bs.of_owns ho17
  have HB17 : Hid (Below w.heap.size w w17) := HB15.out.trans (e17.mono HB15.out.size)
  clear ho17 hg17 e17
  have hc := same_any HZ17.out HY17.out (by simp; omega)
  rw [show decide (lb ++ lm = lb ++ lm) = true by simp] at hc
  refine hc.mono ?_
  rintro e w18 ⟨rfl, q2, hw⟩
  have HB18 : Hid (Below w.heap.size w w18) := by rw [hw]; exact below_drewN HB17.out _
  clear hc hw
  go_wp2_with fail
  refine (awake_any _).mono ?_
  rintro e w19 ⟨rfl, hB⟩
  have HB19 : Hid (Below w.heap.size w w19) := HB18.out.trans (hB.mono HB18.out.size)
  clear hB
  go_wp2_with fail
  go_ret
  exact ⟨rfl, HB19.out⟩
end Go.Proofs.YtapipnbmljdmbaaGreat
