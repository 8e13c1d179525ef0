/- The walk of what wakes the statements on deeds. -/
import Derived.Test.YtbbllgpocjipjaaGreatDoorDdV
namespace Go.Proofs.YtbbllgpocjipjaaGreatDoor.DD
set_option linter.unusedVariables false
open Go.RowKit
set_option linter.unusedVariables false

set_option maxRecDepth 100000 in
set_option maxHeartbeats 4000000 in
theorem awake_any (w : World) (hL : PA.Laid w) : Calls Tryz.prog 6 #[] w fun e w' => e = .returned (.bool true) ∧ Below w.heap.size w w' := by
  have HL : Hid (PA.Laid w) := hL
  clear hL
  go_enter Tryz.func6, Tryz.ntmps6
  go_wp2_with fail
  refine (small_any w).mono ?_
  rintro e w1 ⟨A, C, rfl, hb1, hB1⟩
  have HB1 : Hid (Below w.heap.size w w1) := hB1
  have HW1 : Hid (Bs w1 (.slice A 10 C) want0) := hb1
  clear hb1 hB1
  as_aux_lemma =>
  obtain ⟨w2, hw2⟩ : ∃ X, X = w1.alloc (.cells #[.int .i64 1, .int .u8 2, .int .i64 3, .int .i64 0, .int .i64 0, .int .i64 0, .string ⟨#[47, 97]⟩, .slice none 0 0, .int .i64 0, .int .i64 0, .int .i64 2, .int .i64 0, .int .i64 0, .int .i64 0, .slice none 0 0, .slice none 0 0] 31) := ⟨_, rfl⟩
  have hB2 : Below w1.heap.size w1 w2 := by rw [hw2]; exact (Below.refl _ _).alloc (Nat.le_refl _) _
  have HB2 : Hid (Below w.heap.size w w2) := HB1.out.trans (hB2.mono HB1.out.size)
  have HC2 : Hid (w2.heap[w1.heap.size]? = some (.cells #[.int .i64 1, .int .u8 2, .int .i64 3, .int .i64 0, .int .i64 0, .int .i64 0, .string ⟨#[47, 97]⟩, .slice none 0 0, .int .i64 0, .int .i64 0, .int .i64 2, .int .i64 0, .int .i64 0, .int .i64 0, .slice none 0 0, .slice none 0 0] 31 (0, 0))) := by rw [hw2]; exact heap_alloc_new w1 _
  have HW2 : Hid (Bs w2 (.slice A 10 C) want0) := by show Bs _ _ _; exact Bs.below' HW1.out hB2
  have hpt : Calls Tryz.prog 7 #[.agg #[.int .i64 1, .int .u8 2, .int .i64 3, .int .i64 0, .int .i64 0, .int .i64 0, .string ⟨#[47, 97]⟩, .slice none 0 0, .int .i64 0, .int .i64 0, .int .i64 2, .int .i64 0, .int .i64 0, .int .i64 0, .slice none 0 0, .slice none 0 0]] w2 fun e w' => ∃ x, e = .returned (.tuple #[x, .int .i64 0]) ∧ New w2 w' x want0 := by
    have h := put_yes' F0 [] none none none 0 0 0 w2 (HL.out.below HB2.out) (dval_nil rfl rfl rfl) F0_fit F0_right
    rw [F0_bytes] at h
    exact h
  rw [hw2] at hpt
  clear hB2 HB1 HW1
  go_wp2_with fail
  refine hpt.mono ?_
  rintro e w3 ⟨x, rfl, hN3⟩
  rw [← hw2] at hN3
  have HB3 : Hid (Below w.heap.size w w3) := HB2.out.trans (hN3.below.mono HB2.out.size)
  have HC3 : Hid (w3.heap[w1.heap.size]? = some (.cells #[.int .i64 1, .int .u8 2, .int .i64 3, .int .i64 0, .int .i64 0, .int .i64 0, .string ⟨#[47, 97]⟩, .slice none 0 0, .int .i64 0, .int .i64 0, .int .i64 2, .int .i64 0, .int .i64 0, .int .i64 0, .slice none 0 0, .slice none 0 0] 31 (0, 0))) := by show _ = _; rw [hN3.below.block _ (heap_lt HC2.out)]; exact HC2.out
  have HW3 : Hid (Bs w3 (.slice A 10 C) want0) := by show Bs _ _ _; exact Bs.below' HW2.out hN3.below
  have HX3 : Hid (Bs w3 x want0) := hN3.bs
  obtain ⟨AX, CX, rfl⟩ := bs_form hN3.bs
  clear hpt hN3 hw2 HB2 HC2 HW2 w2
  generalize w1.heap.size = pd at HC3 ⊢
  clear w1
  as_aux_lemma =>
  have hgt := dget_any HW3.out (by decide) (HL.out.below HB3.out)
  rw [F0_got] at hgt
  go_wp2_with fail
  generalize Value.tuple #[.agg #[.int .i64 1, .int .u8 2, .int .i64 3, .int .i64 0, .int .i64 0, .int .i64 0, .string ⟨#[47, 97]⟩, .slice none 0 0, .int .i64 0, .int .i64 0, .int .i64 2, .int .i64 0, .int .i64 0, .int .i64 0, .slice none 0 0, .slice none 0 0], .slice A 10 C] = G0
  generalize Value.agg #[.int .i64 1, .int .u8 2, .int .i64 3, .int .i64 0, .int .i64 0, .int .i64 0, .string ⟨#[47, 97]⟩, .slice none 0 0, .int .i64 0, .int .i64 0, .int .i64 2, .int .i64 0, .int .i64 0, .int .i64 0, .slice none 0 0, .slice none 0 0] = G1
  refine hgt.mono ?_
  rintro e w4 ⟨A1, c1, A2, c2, A3, c3, he4, hV4, hB4⟩
  have he4' : e = .returned (.tuple #[.agg #[.int .i64 1, .int .u8 2, .int .i64 3, .int .i64 0, .int .i64 0, .int .i64 0, .string ⟨#[47, 97]⟩, .slice A1 0 c1, .int .i64 0, .int .i64 0, .int .i64 2, .int .i64 0, .int .i64 0, .int .i64 0, .slice A2 0 c2, .slice A3 0 c3], .int .i64 0]) := he4
  clear he4
  subst he4'
  have HB4 : Hid (Below w.heap.size w w4) := HB3.out.trans (hB4.mono HB3.out.size)
  have HC4 : Hid (w4.heap[pd]? = some (.cells #[.int .i64 1, .int .u8 2, .int .i64 3, .int .i64 0, .int .i64 0, .int .i64 0, .string ⟨#[47, 97]⟩, .slice none 0 0, .int .i64 0, .int .i64 0, .int .i64 2, .int .i64 0, .int .i64 0, .int .i64 0, .slice none 0 0, .slice none 0 0] 31 (0, 0))) := by show _ = _; rw [hB4.block _ (heap_lt HC3.out)]; exact HC3.out
  have HW4 : Hid (Bs w4 (.slice A 10 C) want0) := by show Bs _ _ _; exact Bs.below' HW3.out hB4
  have HX4 : Hid (Bs w4 (.slice AX 10 CX) want0) := by show Bs _ _ _; exact Bs.below' HX3.out hB4
  have HV4 : Hid (DVal w4 F0 [] A1 c1 A2 c2 A3 c3) := hV4
  clear hgt hB4 HB3 HC3 HW3 HX3 hV4
  as_aux_lemma =>
  obtain ⟨w5, hw5⟩ : ∃ X, X = w4.alloc (.cells #[.int .i64 1, .int .u8 2, .int .i64 3, .int .i64 0, .int .i64 0, .int .i64 0, .string ⟨#[47, 97]⟩, .slice A1 0 c1, .int .i64 0, .int .i64 0, .int .i64 2, .int .i64 0, .int .i64 0, .int .i64 0, .slice A2 0 c2, .slice A3 0 c3] 31) := ⟨_, rfl⟩
  have hB5 : Below w4.heap.size w4 w5 := by rw [hw5]; exact (Below.refl _ _).alloc (Nat.le_refl _) _
  have hc5 : w5.heap[w4.heap.size]? = some (.cells #[.int .i64 1, .int .u8 2, .int .i64 3, .int .i64 0, .int .i64 0, .int .i64 0, .string ⟨#[47, 97]⟩, .slice A1 0 c1, .int .i64 0, .int .i64 0, .int .i64 2, .int .i64 0, .int .i64 0, .int .i64 0, .slice A2 0 c2, .slice A3 0 c3] 31 (0, 0)) := by rw [hw5]; exact heap_alloc_new w4 _
  have hltp : pd < w4.heap.size := heap_lt HC4.out
  obtain ⟨px, hpx⟩ : ∃ px, px = w4.heap.size := ⟨_, rfl⟩
  have HF : Hid (∀ w', Below w5.heap.size w5 w' → Below w.heap.size w w' ∧ w'.heap[pd]? = some (.cells #[.int .i64 1, .int .u8 2, .int .i64 3, .int .i64 0, .int .i64 0, .int .i64 0, .string ⟨#[47, 97]⟩, .slice none 0 0, .int .i64 0, .int .i64 0, .int .i64 2, .int .i64 0, .int .i64 0, .int .i64 0, .slice none 0 0, .slice none 0 0] 31 (0, 0)) ∧ w'.heap[px]? = some (.cells #[.int .i64 1, .int .u8 2, .int .i64 3, .int .i64 0, .int .i64 0, .int .i64 0, .string ⟨#[47, 97]⟩, .slice A1 0 c1, .int .i64 0, .int .i64 0, .int .i64 2, .int .i64 0, .int .i64 0, .int .i64 0, .slice A2 0 c2, .slice A3 0 c3] 31 (0, 0)) ∧ Bs w' (.slice A 10 C) want0 ∧ Bs w' (.slice AX 10 CX) want0 ∧ DVal w' F0 [] A1 c1 A2 c2 A3 c3 ∧ PA.Laid w') := by
    intro w' hB
    have hB' : Below w4.heap.size w4 w' := hB5.trans (hB.mono hB5.size)
    have hBw : Below w.heap.size w w' := HB4.out.trans (hB'.mono HB4.out.size)
    refine ⟨hBw, ?_, ?_, Bs.below' HW4.out hB', Bs.below' HX4.out hB', HV4.out.grow hB', HL.out.below hBw⟩
    · rw [hB'.block _ hltp]; exact HC4.out
    · rw [hpx, hB.block _ (heap_lt hc5)]; exact hc5
  have hr1 : Calls Tryz.prog 9 #[.agg #[.int .i64 1, .int .u8 2, .int .i64 3, .int .i64 0, .int .i64 0, .int .i64 0, .string ⟨#[47, 97]⟩, .slice none 0 0, .int .i64 0, .int .i64 0, .int .i64 2, .int .i64 0, .int .i64 0, .int .i64 0, .slice none 0 0, .slice none 0 0]] w5 fun e w' => e = .returned (.bool true) ∧ Below w5.heap.size w5 w' := by
    have h := right_any F0 [] none none none 0 0 0 w5 (HF.out w5 (Below.refl _ _)).2.2.2.2.2.2 (dval_nil rfl rfl rfl) F0_fit
    rw [F0_right] at h
    exact h
  obtain ⟨z0, z1, z2, z3, z4, z5, z6, z7, z8, z9, z10, z11, z12, z13, z14, z15⟩ := cells16 HC4.out
  rw [hw5] at hr1
  clear hB5 hc5 HC4 HW4 HX4 HV4 HB4
  go_wp2_with fail
  refine hr1.mono ?_
  rintro e w6 ⟨rfl, hB6⟩
  rw [← hw5] at hB6
  have HB6 : Hid (Below w5.heap.size w5 w6) := hB6
  clear hr1 hB6 hw5 z0 z1 z2 z3 z4 z5 z6 z7 z8 z9 z10 z11 z12 z13 z14 z15
  rw [← hpx]
  clear hpx hltp
  as_aux_lemma =>
  have hr2 : ∀ w', Below w5.heap.size w5 w' → Calls Tryz.prog 9 #[.agg #[.int .i64 0, .int .u8 0, .int .i64 0, .int .i64 0, .int .i64 0, .int .i64 0, .string ⟨#[]⟩, .slice none 0 0, .int .i64 0, .int .i64 0, .int .i64 0, .int .i64 0, .int .i64 0, .int .i64 0, .slice none 0 0, .slice none 0 0]] w' fun e w'' => e = .returned (.bool false) ∧ Below w'.heap.size w' w'' := by
    intro w' hB
    have h := right_any Fz [] none none none 0 0 0 w' (HF.out w' hB).2.2.2.2.2.2 (dval_nil rfl rfl rfl) Fz_fit
    rw [Fz_not] at h
    exact h
  have hr2 := hr2 w6 HB6.out
  go_wp2_with fail
  refine hr2.mono ?_
  rintro e w7 ⟨rfl, hB7⟩
  have HB7 : Hid (Below w5.heap.size w5 w7) := HB6.out.trans (hB7.mono HB6.out.size)
  clear hr2 hB7 HB6
  as_aux_lemma =>
  have hsb := same_any (HF.out w7 HB7.out).2.2.2.2.1 (HF.out w7 HB7.out).2.2.2.1 (by decide)
  rw [decide_eq_true (rfl : want0 = want0)] at hsb
  go_wp2_with fail
  refine hsb.mono ?_
  rintro e w8 ⟨rfl, qq, hw8⟩
  have HB8 : Hid (Below w5.heap.size w5 w8) := by
    show Below _ _ _
    rw [hw8]
    exact HB7.out.trans (((Chg.drewN Non w7 qq).below (fun _ h => h.elim) (Nat.le_refl _)).mono HB7.out.size)
  clear hsb hw8 HB7
  as_aux_lemma =>
  have hsd : Calls Tryz.prog 14 #[.agg #[.int .i64 1, .int .u8 2, .int .i64 3, .int .i64 0, .int .i64 0, .int .i64 0, .string ⟨#[47, 97]⟩, .slice A1 0 c1, .int .i64 0, .int .i64 0, .int .i64 2, .int .i64 0, .int .i64 0, .int .i64 0, .slice A2 0 c2, .slice A3 0 c3], .agg #[.int .i64 1, .int .u8 2, .int .i64 3, .int .i64 0, .int .i64 0, .int .i64 0, .string ⟨#[47, 97]⟩, .slice none 0 0, .int .i64 0, .int .i64 0, .int .i64 2, .int .i64 0, .int .i64 0, .int .i64 0, .slice none 0 0, .slice none 0 0]] w8 fun e w' => e = .returned (.bool true) ∧ Below w8.heap.size w8 w' :=
    sameD_any F0 [] A1 A2 A3 none none none c1 c2 c3 0 0 0 w8 (by decide) (by decide) (by decide) rfl (fun p hp => by simp at hp) (HF.out w8 HB8.out).2.2.2.2.2.1 (dval_nil rfl rfl rfl)
  obtain ⟨z0, z1, z2, z3, z4, z5, z6, z7, z8, z9, z10, z11, z12, z13, z14, z15⟩ := cells16 (HF.out w8 HB8.out).2.1
  obtain ⟨y0, y1, y2, y3, y4, y5, y6, y7, y8, y9, y10, y11, y12, y13, y14, y15⟩ := cells16 (HF.out w8 HB8.out).2.2.1
  go_wp2_with fail
  refine hsd.mono ?_
  rintro e w9 ⟨rfl, hB9⟩
  have HB9 : Hid (Below w5.heap.size w5 w9) := HB8.out.trans (hB9.mono HB8.out.size)
  clear hsd hB9 HB8 z0 z1 z2 z3 z4 z5 z6 z7 z8 z9 z10 z11 z12 z13 z14 z15 y0 y1 y2 y3 y4 y5 y6 y7 y8 y9 y10 y11 y12 y13 y14 y15
  as_aux_lemma =>
  have hmk := make_any 1 2 ⟨by decide, by decide⟩ ⟨by decide, by decide⟩ w9
  rw [if_pos (by decide)] at hmk
  go_wp2_with fail
  refine hmk.mono ?_
  rintro e w10 ⟨rfl, hw10⟩
  subst hw10
  clear hmk
  go_wp2
  go_ret
  exact ⟨rfl, (HF.out _ HB9.out).1⟩
end Go.Proofs.YtbbllgpocjipjaaGreatDoor.DD
