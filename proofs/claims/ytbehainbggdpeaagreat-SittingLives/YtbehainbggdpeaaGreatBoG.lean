/- The walk of SittingLives. -/
import Derived.Test.YtbehainbggdpeaaGreatBoV
import Derived.Test.YtbehainbggdpeaaGreatBgP
namespace Go.Proofs.YtbehainbggdpeaaGreat
set_option linter.unusedVariables false
open Go.RowKit Go.MapKept
set_option linter.unusedVariables false

theorem iv_ints (l : List Int) : iv l = AN.ints l := rfl
def ab2 {α : Type} (x y : α) (j : Nat) : α := if j = 0 then x else y
theorem lt2 {j : Nat} (h : j < 2) : j = 0 ∨ j = 1 := by omega
theorem apart_two {w : World} {A0 A1 : Option Addr} {n0 n1 C0 C1 : Nat} {l0 l1 : List Int} (h0 : AN.R w A0 n0 C0 l0) (h1 : AN.R w A1 n1 C1 l1) (hne : ∀ g, A0 = some ⟨g, 0, none⟩ → A1 ≠ some ⟨g, 0, none⟩) (hn0 : n0 ≤ 1000000) (hn1 : n1 ≤ 1000000) :
    Calls Tryz.prog 10 #[.slice (some ⟨w.heap.size, 0, none⟩) 2 2] (w.alloc (.cells #[.slice A0 n0 C0, .slice A1 n1 C1] 31)) fun e w' => e = .returned (.bool true) ∧ Chg (fun k => A0 = some ⟨k, 0, none⟩ ∨ A1 = some ⟨k, 0, none⟩) w w' := by
  have g := World.grownBy_alloc w (.cells #[.slice A0 n0 C0, .slice A1 n1 C1] 31) none
  refine (AN.apartLongs_any w.heap.size 2 2 (ab2 A0 A1) (ab2 n0 n1) (ab2 C0 C1) _ (by omega) (by omega) ?_ ?_ ?_ (by simp) ?_).mono ?_
  · intro k hk; rcases lt2 hk with rfl | rfl <;> simp [ab2] <;> omega
  · intro j k x hj hk hjk e1 e2
    rcases lt2 hj with rfl | rfl <;> rcases lt2 hk with rfl | rfl
    · exact hjk rfl
    · exact hne x e1 e2
    · exact hne x e2 e1
    · exact hjk rfl
  · intro k hk
    rw [cell_of_row _ w.heap.size k _ _ _ (heap_alloc_new w _)]
    rcases lt2 hk with rfl | rfl <;> rfl
  · intro j hj
    rcases lt2 hj with rfl | rfl
    · exact ⟨l0, h0.kept g (by simp)⟩
    · exact ⟨l1, h1.kept g (by simp)⟩
  · rintro e w' ⟨rfl, hc, hr⟩
    refine ⟨rfl, hc.os.trans g.os, hc.tape.trans g.tape, hc.output.trans g.output, Nat.le_trans g.size hc.size, fun k hk hn => ?_⟩
    rw [hc.block k (Nat.lt_of_lt_of_le hk g.size) ?_, g.block k hk (by simp)]
    intro j hj e
    rcases lt2 hj with rfl | rfl
    · exact hn (.inl e)
    · exact hn (.inr e)
/- Two rows, the one made after the other. -/
theorem apart_rows {w1 w2 : World} {base : Nat} {A0 A1 : Option Addr} {n0 n1 C0 C1 : Nat} {l0 l1 : List Int} (h0 : w1.ownsRow base 2 1 (.slice A0 n0 C0) n0 (iv l0)) (hB : Below w1.heap.size w1 w2) (h1 : w2.ownsRow w1.heap.size 2 1 (.slice A1 n1 C1) n1 (iv l1)) (hb : base ≤ w1.heap.size) (hn0 : n0 ≤ 1000000) (hn1 : n1 ≤ 1000000) :
    Calls Tryz.prog 10 #[.slice (some ⟨w2.heap.size, 0, none⟩) 2 2] (w2.alloc (.cells #[.slice A0 n0 C0, .slice A1 n1 C1] 31)) fun e w' => e = .returned (.bool true) ∧ Below base w2 w' := by
  have h0' := owns_keep h0 (Chg.of_below hB) (fun _ _ => id)
  refine (apart_two (w := w2) (AN.owns_weak h0') (AN.owns_weak h1) ?_ hn0 hn1).mono ?_
  · intro g e1 e2
    subst e1 e2
    have a := AN.owns_lt h0
    have b := AN.owns_lt h1
    omega
  · rintro e w' ⟨rfl, hc⟩
    refine ⟨rfl, hc.below ?_ (Nat.le_trans hb hB.size)⟩
    rintro k (rfl | rfl)
    · exact (AN.owns_lt h0).1
    · exact Nat.le_trans hb (AN.owns_lt h1).1
theorem Rk.lower {w : World} {base base' r : Nat} {now : Int} {v : Value} {S : List Fi} (h : Rk w base r now v S) (hb : base' ≤ base) : Rk w base' r now v S := ⟨h.cell, owns_low h.row hb, Nat.le_trans hb h.low⟩
theorem Tw.start {w wa wb : World} {b m r : Nat} {now : Int} (hX : Bx wa b m now []) (hb : w.heap.size ≤ b) (hm : w.heap.size ≤ m) (hB1 : Below w.heap.size w wa) (hK : Rk wb wa.heap.size r now (.slice none 0 0) []) (hr : wa.heap.size ≤ r) (hB2 : Below wa.heap.size wa wb) : Tw w.heap.size wb b m r now [] := by
  have s1 := hB1.size
  have s2 := hB2.size
  refine ⟨⟨hb, hm, by omega⟩, hX.below hB2, _, hK.lower s1, fun g hg e => ?_⟩
  have h1 := hX.ltb
  have h2 := hX.ltm
  rcases e with e | e
  · rcases hg with hg | hg <;> omega
  · cases e
/- What a round says of both. -/
theorem two_all {B : Nat} {w : World} {b m r : Nat} {now : Int} {S : List Fi} (h : Tw B w b m r now S) (hL : S.length ≤ 999999) :
    Calls Tryz.prog 8 #[.pointer (some ⟨b, 0, none⟩)] w fun e w' => ∃ A C, e = .returned (.slice A S.length C) ∧ (w'.ownsRow w.heap.size 2 1 (.slice A S.length C) S.length (iv (S.map fun p => p.nm)) ∧ Tw B w' b m r now S ∧ Below B w w' ∧ Below w.heap.size w w') ∧
      Calls Tryz.prog 9 #[.pointer (some ⟨r, 0, none⟩)] w' fun e w'' => ∃ A2 C2, e = .returned (.slice A2 S.length C2) ∧ (Tw B w'' b m r now S ∧ Below B w w'' ∧ Ns w'' (.slice A S.length C) (S.map fun p => p.nm) ∧ Ns w'' (.slice A2 S.length C2) (S.map fun p => p.nm)) := by
  refine (all_any h.2.1 (by omega)).mono ?_
  rintro e w' ⟨A, C, rfl, ho, hB⟩
  have h' := h.below hB
  have hb' : Below B w w' := hB.mono h.1.2.2
  refine ⟨A, C, rfl, ⟨ho, h', hb', hB⟩, ?_⟩
  obtain ⟨_, _, v, hK, _⟩ := h'
  refine (rall_any hK hL).mono ?_
  rintro e w'' ⟨A2, C2, rfl, ho2, hB2⟩
  exact ⟨A2, C2, rfl, h.below (hB.trans (hB2.mono hB.size)), hb'.trans (hB2.mono (Nat.le_trans h.1.2.2 hB.size)), (Ns.of_owns ho).below hB2, Ns.of_owns ho2⟩

set_option maxRecDepth 100000 in
set_option maxHeartbeats 4000000 in
theorem lives_any {w : World} {x : Value} {l : List Do1} (hD : Dos w x l) (n : Int) :
    Calls Tryz.prog 3 #[.int .i64 n, x] w fun e w' => e = .returned (.bool true) ∧ Below w.heap.size w w' := by
  obtain ⟨A, C, rfl, hC⟩ := hD.form
  have HD : Hid (Dos w (.slice A l.length C) l) := hD
  have c1 := new_any n w
  have HRN : Hid (∀ w', Calls Tryz.prog 5 #[.int .i64 n] w' fun e w'' => ∃ r, e = .returned (.pointer (some ⟨r, 0, none⟩)) ∧ Rk w'' w'.heap.size r (clamp n) (.slice none 0 0) [] ∧ w'.heap.size ≤ r ∧ Below w'.heap.size w' w'') := fun w' => rnew_any n w'
  clear hD
  go_enter Tryz.func3, Tryz.ntmps3
  go_upto_if 12 with fail
  go_cut [1] from 13 to 14 (fun v1 wx => w = wx ∧ ∃ N : Nat, N ≤ 200 ∧ N ≤ l.length ∧ v1 = .slice A N C)
  case first =>
    by_cases h : 200 < l.length
    · go_wp2_with fail
      go_meet
      exact ⟨rfl, 200, Nat.le_refl _, by omega, rfl⟩
    · go_wp2_with fail
      go_meet
      exact ⟨rfl, l.length, by omega, Nat.le_refl _, rfl⟩
  case rest =>
  obtain ⟨hw1, N, hN, hNl, rfl⟩ := hcut
  subst hw1
  have HT : Hid (Dos w (.slice A N C) (l.take N)) := HD.out.take N hNl
  have HTL : Hid ((l.take N).length = N) := by show _ = _; rw [List.length_take]; omega
  obtain ⟨lt, hlt⟩ : ∃ lt, l.take N = lt := ⟨_, rfl⟩
  rw [hlt] at HT HTL
  have HN : Hid (N ≤ 200) := hN
  clear hlt hN hNl hC HD
  go_wp2_with fail
  refine c1.mono ?_
  rintro e wa ⟨b, m, rfl, hX, hb, hm, hB1⟩
  have c2 := HRN.out wa
  have HA : Hid (Bx wa b m (clamp n) [] ∧ w.heap.size ≤ b ∧ w.heap.size ≤ m ∧ Below w.heap.size w wa) := ⟨hX, hb, hm, hB1⟩
  clear c1 hX hb hm hB1
  go_wp2_with fail
  refine c2.mono ?_
  rintro e wb ⟨r, rfl, hK, hr, hB2⟩
  have HTW : Hid (Tw w.heap.size wb b m r (clamp n) [] ∧ Below w.heap.size w wb) := ⟨Tw.start HA.out.1 HA.out.2.1 HA.out.2.2.1 HA.out.2.2.2 hK hr hB2, HA.out.2.2.2.trans (hB2.mono HA.out.2.2.2.size)⟩
  clear c2 hK hr hB2 HA
  go_wp2_with fail
  have hN200 := HN.out
  go_loopw [7] (fun v7 wr => ∃ (k : Nat) (now : Int) (S : List Fi), v7 = .int .i64 k ∧ k ≤ N ∧ S.length ≤ k ∧ Tw w.heap.size wr b m r now S ∧ Below w.heap.size w wr) (fun v7 _ => N - (Go.Lib.intOf v7).toNat)
  case atStart => exact ⟨0, _, [], rfl, Nat.zero_le _, Nat.le_refl _, HTW.out.1, HTW.out.2⟩
  case round =>
    obtain ⟨k, now, S, rfl, hk, hS, hT, hB⟩ := hrel
    by_cases hlt : k < N
    · obtain ⟨g, o, rfl, hd0, hok, hg⟩ := HT.out.at k (by rw [HTL.out]; exact hlt)
      have hd := hd0.keep (Chg.of_below hB) id
      clear hd0
      generalize (lt[k]'(by rw [HTL.out]; exact hlt)) = x at hd hok
      obtain ⟨op, ses, tmo, nw⟩ := x
      have d0 := hd.c0
      have d1 := hd.c1
      have d2 := hd.c2
      have d3 := hd.c3
      have c3 := step_any hT (by omega) ⟨op, ses, tmo, nw⟩ hok
      simp only at d0 d1 d2 d3 c3
      have HB : Hid (Below w.heap.size w wr) := hB
      have HS : Hid (S.length ≤ k) := hS
      have i1 : (k : Int) < (N : Int) := by omega
      have i2 : (0 : Int) ≤ (k : Int) := by omega
      clear hd hok hT hB hS hg
      go_wp2_with fail
      refine c3.mono ?_
      rintro e w3 ⟨rfl, hB3, now3, S3, hL3, hT3⟩
      have HL3 : Hid (S3.length ≤ k + 1) := by have := HS.out; show _ ≤ _; omega
      have HB3 : Hid (Below w.heap.size w w3) := HB.out.trans hB3
      have c4 := two_all hT3 (by have := HL3.out; omega)
      clear c3 d0 d1 d2 d3 hB3 hL3 hT3
      go_wp2_with fail
      refine c4.mono ?_
      rintro e w4 ⟨A4, C4, rfl, _, c5⟩
      clear c4
      go_wp2_with fail
      refine c5.mono ?_
      rintro e w5 ⟨A5, C5, rfl, hT5, hB5, n4, n5⟩
      have c6 := same_any (la := S3.map fun p => p.nm) (lb := S3.map fun p => p.nm) n4 n5 (by have := HL3.out; rw [List.length_map]; omega)
      rw [decide_eq_true rfl] at c6
      have HT5 : Hid (Tw w.heap.size w5 b m r now3 S3 ∧ Below w.heap.size w w5) := ⟨hT5, HB3.out.trans hB5⟩
      clear c5 hT5 hB5 n4 n5
      go_wp2_with fail
      refine c6.mono ?_
      rintro e w6 ⟨rfl, q, rfl⟩
      clear c6
      go_wp2_with fail
      go_roundw
      case rel => exact ⟨k + 1, now3, S3, by go_num, by omega, HL3.out, HT5.out.1.below (below_drewN (Below.refl _ _) q), below_drewN HT5.out.2 q⟩
      case measure => simp [Go.Lib.intOf]; omega
    · obtain rfl : k = N := by omega
      have c3 := two_all hT (by omega)
      have HL : Hid (S.length ≤ 200) := by show _ ≤ _; omega
      have HB : Hid (Below w.heap.size w wr ∧ w.heap.size ≤ wr.heap.size) := ⟨hB, hB.size⟩
      clear hT hB hS
      go_wp2_with fail
      refine c3.mono ?_
      rintro e w3 ⟨A3, C3, rfl, ⟨o3, hT3, hB3, hB3'⟩, _⟩
      have c4 := two_all hT3 (by have := HL.out; omega)
      have H3 : Hid (w3.ownsRow wr.heap.size 2 1 (.slice A3 S.length C3) S.length (iv (S.map fun p => p.nm)) ∧ Below w.heap.size w w3 ∧ wr.heap.size ≤ w3.heap.size) := ⟨o3, HB.out.1.trans hB3, hB3'.size⟩
      clear c3 o3 hT3 hB3 hB3'
      go_wp2_with fail
      refine c4.mono ?_
      rintro e w4 ⟨A4, C4, rfl, ⟨o4, _, hB4, hB4'⟩, _⟩
      have c5 := apart_rows H3.out.1 hB4' o4 H3.out.2.2 (by have := HL.out; omega) (by have := HL.out; omega)
      have HB4 : Hid (Below w.heap.size w w4 ∧ w.heap.size ≤ wr.heap.size ∧ wr.heap.size ≤ w4.heap.size) := ⟨H3.out.2.1.trans hB4, HB.out.2, Nat.le_trans H3.out.2.2 hB4'.size⟩
      clear c4 o4 hB4 hB4' H3
      go_wp2_with fail
      refine c5.mono ?_
      rintro e w5 ⟨rfl, hB5⟩
      have HB5 : Hid (Below w.heap.size w w5) := HB4.out.1.trans (hB5.mono HB4.out.2.1)
      have c6 := awake_any w5
      clear c5 hB5 HB4
      go_wp2_with fail
      refine c6.mono ?_
      rintro e w6 ⟨rfl, hB6⟩
      have HB6 : Hid (Below w.heap.size w w6) := HB5.out.trans (hB6.mono HB5.out.size)
      clear c6 hB6 HB5
      go_wp2_with fail
      go_ret
      exact ⟨rfl, HB6.out⟩
end Go.Proofs.YtbehainbggdpeaaGreat
