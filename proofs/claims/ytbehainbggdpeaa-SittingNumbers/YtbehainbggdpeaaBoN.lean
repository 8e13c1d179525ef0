/- SittingNumbers: times, timeouts and sessions at their ends, call by call (made by tools/genBoN.py). -/
import Derived.Test.YtbehainbggdpeaaBoE
namespace Go.Proofs.Ytbehainbggdpeaa
set_option linter.unusedSimpArgs false
set_option linter.unusedVariables false
open Go.RowKit Go.MapKept
set_option linter.unusedVariables false
set_option linter.unusedSimpArgs false

theorem Ns.own {w w' : World} {b m B : Nat} {v : Value} {l : List Int} (h : Ns w v l) (hc : Chg (Own b m) w w') (hl : ∀ k, bk v = some k → k < B) (hb : B ≤ b) (hm : B ≤ m) : Ns w' v l := h.keep hc (fun k hk e => by have := hl k hk; rcases e with e | e <;> omega)
theorem Ns.lt {w : World} {v : Value} {l : List Int} (h : Ns w v l) {k : Nat} (hk : bk v = some k) : k < w.heap.size := by
  rcases h with ⟨rfl, _⟩ | ⟨ad, c, rfl, _⟩ | ⟨h0, b, o, c, rfl, _, h2, _⟩
  · exact absurd hk (bk_zero _ _ _)
  · exact absurd hk (bk_zero _ _ _)
  · rw [bk_pos h0] at hk; cases hk; exact h2
set_option maxRecDepth 100000 in
set_option maxHeartbeats 4000000 in
theorem numbers_any (w : World) : Calls Try.prog 4 #[] w fun e w' => e = .returned (.bool true) ∧ Below w.heap.size w w' := by
  have HB : Hid (Below w.heap.size w w) := Below.refl _ _
  go_enter Try.func4, Try.ntmps4
  have c1 := new_any (-9223372036854775808) w
  rw [show clamp (-9223372036854775808) = 0 by decide] at c1
  go_wp2_with fail
  refine c1.mono ?_
  rintro e w1 ⟨b1, m1, rfl, hX, hb, hm, hB⟩
  have HBMb1 : Hid (w.heap.size ≤ b1 ∧ w.heap.size ≤ m1 ∧ w.heap.size ≤ w.heap.size) := ⟨hb, hm, HB.out.size⟩
  replace HB : Hid (Below w.heap.size w w1) := HB.out.trans (hB.mono HB.out.size)
  have HX : Hid (Bx w1 b1 m1 0 []) := hX
  clear c1 hX hb hm hB
  have c2 := add_any HX.out 0 5 (by omega)
  rw [show addE 0 5 = 2 by decide, show addR 0 0 5 [] = [] by decide] at c2
  go_wp2_with fail
  refine c2.mono ?_
  rintro e w2 ⟨rfl, hX, hc, _⟩
  replace HB : Hid (Below w.heap.size w w2) := HB.out.trans (own_below hc (by have := HBMb1.out; omega) (by have := HBMb1.out; omega) HB.out.size)
  replace HX : Hid (Bx w2 b1 m1 0 []) := hX
  clear c2 hX hc
  have c3 := add_any HX.out (-9223372036854775808) 5 (by omega)
  rw [show addE (-9223372036854775808) 5 = 2 by decide, show addR 0 (-9223372036854775808) 5 [] = [] by decide] at c3
  go_wp2_with fail
  refine c3.mono ?_
  rintro e w3 ⟨rfl, hX, hc, _⟩
  replace HB : Hid (Below w.heap.size w w3) := HB.out.trans (own_below hc (by have := HBMb1.out; omega) (by have := HBMb1.out; omega) HB.out.size)
  replace HX : Hid (Bx w3 b1 m1 0 []) := hX
  clear c3 hX hc
  have c4 := add_any HX.out 1 0 (by omega)
  rw [show addE 1 0 = 2 by decide, show addR 0 1 0 [] = [] by decide] at c4
  go_wp2_with fail
  refine c4.mono ?_
  rintro e w4 ⟨rfl, hX, hc, _⟩
  replace HB : Hid (Below w.heap.size w w4) := HB.out.trans (own_below hc (by have := HBMb1.out; omega) (by have := HBMb1.out; omega) HB.out.size)
  replace HX : Hid (Bx w4 b1 m1 0 []) := hX
  clear c4 hX hc
  have c5 := add_any HX.out 1 1001 (by omega)
  rw [show addE 1 1001 = 2 by decide, show addR 0 1 1001 [] = [] by decide] at c5
  go_wp2_with fail
  refine c5.mono ?_
  rintro e w5 ⟨rfl, hX, hc, _⟩
  replace HB : Hid (Below w.heap.size w w5) := HB.out.trans (own_below hc (by have := HBMb1.out; omega) (by have := HBMb1.out; omega) HB.out.size)
  replace HX : Hid (Bx w5 b1 m1 0 []) := hX
  clear c5 hX hc
  have c6 := add_any HX.out 1 1 (by omega)
  rw [show addE 1 1 = 0 by decide, show addR 0 1 1 [] = [⟨1, 1, 4⟩] by decide] at c6
  go_wp2_with fail
  refine c6.mono ?_
  rintro e w6 ⟨rfl, hX, hc, _⟩
  replace HB : Hid (Below w.heap.size w w6) := HB.out.trans (own_below hc (by have := HBMb1.out; omega) (by have := HBMb1.out; omega) HB.out.size)
  replace HX : Hid (Bx w6 b1 m1 0 [⟨1, 1, 4⟩]) := hX
  clear c6 hX hc
  have c7 := add_any HX.out 9223372036854775807 4 (by omega)
  rw [show addE 9223372036854775807 4 = 0 by decide, show addR 0 9223372036854775807 4 [⟨1, 1, 4⟩] = [⟨1, 1, 4⟩, ⟨9223372036854775807, 4, 4⟩] by decide] at c7
  go_wp2_with fail
  refine c7.mono ?_
  rintro e w7 ⟨rfl, hX, hc, _⟩
  replace HB : Hid (Below w.heap.size w w7) := HB.out.trans (own_below hc (by have := HBMb1.out; omega) (by have := HBMb1.out; omega) HB.out.size)
  replace HX : Hid (Bx w7 b1 m1 0 [⟨1, 1, 4⟩, ⟨9223372036854775807, 4, 4⟩]) := hX
  clear c7 hX hc
  have c8 := add_any HX.out 5 5 (by omega)
  rw [show addE 5 5 = 0 by decide, show addR 0 5 5 [⟨1, 1, 4⟩, ⟨9223372036854775807, 4, 4⟩] = [⟨1, 1, 4⟩, ⟨5, 5, 8⟩, ⟨9223372036854775807, 4, 4⟩] by decide] at c8
  go_wp2_with fail
  refine c8.mono ?_
  rintro e w8 ⟨rfl, hX, hc, _⟩
  replace HB : Hid (Below w.heap.size w w8) := HB.out.trans (own_below hc (by have := HBMb1.out; omega) (by have := HBMb1.out; omega) HB.out.size)
  replace HX : Hid (Bx w8 b1 m1 0 [⟨1, 1, 4⟩, ⟨5, 5, 8⟩, ⟨9223372036854775807, 4, 4⟩]) := hX
  clear c8 hX hc
  have c9 := add_any HX.out 9 1000 (by omega)
  rw [show addE 9 1000 = 0 by decide, show addR 0 9 1000 [⟨1, 1, 4⟩, ⟨5, 5, 8⟩, ⟨9223372036854775807, 4, 4⟩] = [⟨1, 1, 4⟩, ⟨5, 5, 8⟩, ⟨9, 1000, 1000⟩, ⟨9223372036854775807, 4, 4⟩] by decide] at c9
  go_wp2_with fail
  refine c9.mono ?_
  rintro e w9 ⟨rfl, hX, hc, _⟩
  replace HB : Hid (Below w.heap.size w w9) := HB.out.trans (own_below hc (by have := HBMb1.out; omega) (by have := HBMb1.out; omega) HB.out.size)
  replace HX : Hid (Bx w9 b1 m1 0 [⟨1, 1, 4⟩, ⟨5, 5, 8⟩, ⟨9, 1000, 1000⟩, ⟨9223372036854775807, 4, 4⟩]) := hX
  clear c9 hX hc
  have c10 := tick_any HX.out 3 (by simp)
  rw [show tickN 0 3 = 3 by decide, show told 3 [⟨1, 1, 4⟩, ⟨5, 5, 8⟩, ⟨9, 1000, 1000⟩, ⟨9223372036854775807, 4, 4⟩] = [] by decide, show rest 3 [⟨1, 1, 4⟩, ⟨5, 5, 8⟩, ⟨9, 1000, 1000⟩, ⟨9223372036854775807, 4, 4⟩] = [⟨1, 1, 4⟩, ⟨5, 5, 8⟩, ⟨9, 1000, 1000⟩, ⟨9223372036854775807, 4, 4⟩] by decide] at c10
  simp only [List.length_cons, List.length_nil] at c10
  go_wp2_with fail
  refine c10.mono ?_
  rintro e w10 ⟨A10, C10, rfl, ho, hX, hc⟩
  replace HB : Hid (Below w.heap.size w w10) := HB.out.trans (own_below hc (by have := HBMb1.out; omega) (by have := HBMb1.out; omega) HB.out.size)
  replace HX : Hid (Bx w10 b1 m1 3 [⟨1, 1, 4⟩, ⟨5, 5, 8⟩, ⟨9, 1000, 1000⟩, ⟨9223372036854775807, 4, 4⟩]) := hX
  clear c10 hX hc ho
  have c11 := tick_any HX.out (-7) (by simp)
  rw [show tickN 3 (-7) = 3 by decide, show told 3 [⟨1, 1, 4⟩, ⟨5, 5, 8⟩, ⟨9, 1000, 1000⟩, ⟨9223372036854775807, 4, 4⟩] = [] by decide, show rest 3 [⟨1, 1, 4⟩, ⟨5, 5, 8⟩, ⟨9, 1000, 1000⟩, ⟨9223372036854775807, 4, 4⟩] = [⟨1, 1, 4⟩, ⟨5, 5, 8⟩, ⟨9, 1000, 1000⟩, ⟨9223372036854775807, 4, 4⟩] by decide] at c11
  simp only [List.length_cons, List.length_nil] at c11
  go_wp2_with fail
  refine c11.mono ?_
  rintro e w11 ⟨A11, C11, rfl, ho, hX, hc⟩
  replace HB : Hid (Below w.heap.size w w11) := HB.out.trans (own_below hc (by have := HBMb1.out; omega) (by have := HBMb1.out; omega) HB.out.size)
  replace HX : Hid (Bx w11 b1 m1 3 [⟨1, 1, 4⟩, ⟨5, 5, 8⟩, ⟨9, 1000, 1000⟩, ⟨9223372036854775807, 4, 4⟩]) := hX
  clear c11 hX hc ho
  have c12 := tick_any HX.out 1152921504606846977 (by simp)
  rw [show tickN 3 1152921504606846977 = 3 by decide, show told 3 [⟨1, 1, 4⟩, ⟨5, 5, 8⟩, ⟨9, 1000, 1000⟩, ⟨9223372036854775807, 4, 4⟩] = [] by decide, show rest 3 [⟨1, 1, 4⟩, ⟨5, 5, 8⟩, ⟨9, 1000, 1000⟩, ⟨9223372036854775807, 4, 4⟩] = [⟨1, 1, 4⟩, ⟨5, 5, 8⟩, ⟨9, 1000, 1000⟩, ⟨9223372036854775807, 4, 4⟩] by decide] at c12
  simp only [List.length_cons, List.length_nil] at c12
  go_wp2_with fail
  refine c12.mono ?_
  rintro e w12 ⟨A12, C12, rfl, ho, hX, hc⟩
  replace HB : Hid (Below w.heap.size w w12) := HB.out.trans (own_below hc (by have := HBMb1.out; omega) (by have := HBMb1.out; omega) HB.out.size)
  replace HX : Hid (Bx w12 b1 m1 3 [⟨1, 1, 4⟩, ⟨5, 5, 8⟩, ⟨9, 1000, 1000⟩, ⟨9223372036854775807, 4, 4⟩]) := hX
  clear c12 hX hc ho
  have c13 := tick_any HX.out 4 (by simp)
  rw [show tickN 3 4 = 4 by decide, show told 4 [⟨1, 1, 4⟩, ⟨5, 5, 8⟩, ⟨9, 1000, 1000⟩, ⟨9223372036854775807, 4, 4⟩] = [1, 9223372036854775807] by decide, show rest 4 [⟨1, 1, 4⟩, ⟨5, 5, 8⟩, ⟨9, 1000, 1000⟩, ⟨9223372036854775807, 4, 4⟩] = [⟨5, 5, 8⟩, ⟨9, 1000, 1000⟩] by decide] at c13
  simp only [List.length_cons, List.length_nil] at c13
  go_wp2_with fail
  refine c13.mono ?_
  rintro e w13 ⟨A13, C13, rfl, ho, hX, hc⟩
  replace HB : Hid (Below w.heap.size w w13) := HB.out.trans (own_below hc (by have := HBMb1.out; omega) (by have := HBMb1.out; omega) HB.out.size)
  replace HX : Hid (Bx w13 b1 m1 4 [⟨5, 5, 8⟩, ⟨9, 1000, 1000⟩]) := hX
  have HF1 : Hid (Ns w13 (.slice A13 2 C13) [1, 9223372036854775807]) := Ns.of_owns ho
  clear c13 hX hc ho
  have c14 := same_any (HF1.out.alloc (.cells #[.int .i64 1, .int .i64 9223372036854775807] 2)) (Ns.lit w13 [1, 9223372036854775807] (cs := #[.int .i64 1, .int .i64 9223372036854775807]) 2 rfl (n := 2) rfl) (by simp)
  rw [show decide (([1, 9223372036854775807] : List Int) = [1, 9223372036854775807]) = true by decide] at c14
  go_wp2_with fail
  refine c14.mono ?_
  rintro e w14 ⟨rfl, q, hw⟩
  have hB : Below w13.heap.size w13 w14 := by rw [hw]; exact below_drewN ((Below.refl _ _).alloc (Nat.le_refl _) _) _
  clear HF1
  replace HB : Hid (Below w.heap.size w w14) := HB.out.trans (hB.mono HB.out.size)
  replace HX : Hid (Bx w14 b1 m1 4 [⟨5, 5, 8⟩, ⟨9, 1000, 1000⟩]) := HX.out.below hB
  clear c14 hw hB
  have c15 := tick_any HX.out 4 (by simp)
  rw [show tickN 4 4 = 4 by decide, show told 4 [⟨5, 5, 8⟩, ⟨9, 1000, 1000⟩] = [] by decide, show rest 4 [⟨5, 5, 8⟩, ⟨9, 1000, 1000⟩] = [⟨5, 5, 8⟩, ⟨9, 1000, 1000⟩] by decide] at c15
  simp only [List.length_cons, List.length_nil] at c15
  go_wp2_with fail
  refine c15.mono ?_
  rintro e w15 ⟨A15, C15, rfl, ho, hX, hc⟩
  replace HB : Hid (Below w.heap.size w w15) := HB.out.trans (own_below hc (by have := HBMb1.out; omega) (by have := HBMb1.out; omega) HB.out.size)
  replace HX : Hid (Bx w15 b1 m1 4 [⟨5, 5, 8⟩, ⟨9, 1000, 1000⟩]) := hX
  have HF2 : Hid (Ns w15 (.slice A15 0 C15) []) := Ns.of_owns ho
  clear c15 hX hc ho
  have c16 := same_any HF2.out (Ns.nil w15) (by simp)
  rw [show decide (([] : List Int) = []) = true by decide] at c16
  go_wp2_with fail
  refine c16.mono ?_
  rintro e w16 ⟨rfl, q, hw⟩
  have hB : Below w15.heap.size w15 w16 := by rw [hw]; exact below_drewN (Below.refl _ _) _
  clear HF2
  replace HB : Hid (Below w.heap.size w w16) := HB.out.trans (hB.mono HB.out.size)
  replace HX : Hid (Bx w16 b1 m1 4 [⟨5, 5, 8⟩, ⟨9, 1000, 1000⟩]) := HX.out.below hB
  clear c16 hw hB
  have c17 := tick_any HX.out 8 (by simp)
  rw [show tickN 4 8 = 8 by decide, show told 8 [⟨5, 5, 8⟩, ⟨9, 1000, 1000⟩] = [5] by decide, show rest 8 [⟨5, 5, 8⟩, ⟨9, 1000, 1000⟩] = [⟨9, 1000, 1000⟩] by decide] at c17
  simp only [List.length_cons, List.length_nil] at c17
  go_wp2_with fail
  refine c17.mono ?_
  rintro e w17 ⟨A17, C17, rfl, ho, hX, hc⟩
  replace HB : Hid (Below w.heap.size w w17) := HB.out.trans (own_below hc (by have := HBMb1.out; omega) (by have := HBMb1.out; omega) HB.out.size)
  replace HX : Hid (Bx w17 b1 m1 8 [⟨9, 1000, 1000⟩]) := hX
  have HF3 : Hid (Ns w17 (.slice A17 1 C17) [5]) := Ns.of_owns ho
  clear c17 hX hc ho
  have c18 := same_any (HF3.out.alloc (.cells #[.int .i64 5] 2)) (Ns.lit w17 [5] (cs := #[.int .i64 5]) 2 rfl (n := 1) rfl) (by simp)
  rw [show decide (([5] : List Int) = [5]) = true by decide] at c18
  go_wp2_with fail
  refine c18.mono ?_
  rintro e w18 ⟨rfl, q, hw⟩
  have hB : Below w17.heap.size w17 w18 := by rw [hw]; exact below_drewN ((Below.refl _ _).alloc (Nat.le_refl _) _) _
  clear HF3
  replace HB : Hid (Below w.heap.size w w18) := HB.out.trans (hB.mono HB.out.size)
  replace HX : Hid (Bx w18 b1 m1 8 [⟨9, 1000, 1000⟩]) := HX.out.below hB
  clear c18 hw hB
  have c19 := all_any HX.out (by simp)
  rw [show ([⟨9, 1000, 1000⟩] : List Fi).map (fun p => p.nm) = [9] by decide] at c19
  simp only [List.length_cons, List.length_nil] at c19
  go_wp2_with fail
  refine c19.mono ?_
  rintro e w19 ⟨A19, C19, rfl, ho, hB⟩
  replace HB : Hid (Below w.heap.size w w19) := HB.out.trans (hB.mono HB.out.size)
  replace HX : Hid (Bx w19 b1 m1 8 [⟨9, 1000, 1000⟩]) := HX.out.below hB
  have HF4 : Hid (Ns w19 (.slice A19 1 C19) [9]) := Ns.of_owns ho
  clear c19 ho hB
  have c20 := same_any (HF4.out.alloc (.cells #[.int .i64 9] 2)) (Ns.lit w19 [9] (cs := #[.int .i64 9]) 2 rfl (n := 1) rfl) (by simp)
  rw [show decide (([9] : List Int) = [9]) = true by decide] at c20
  go_wp2_with fail
  refine c20.mono ?_
  rintro e w20 ⟨rfl, q, hw⟩
  have hB : Below w19.heap.size w19 w20 := by rw [hw]; exact below_drewN ((Below.refl _ _).alloc (Nat.le_refl _) _) _
  clear HF4
  replace HB : Hid (Below w.heap.size w w20) := HB.out.trans (hB.mono HB.out.size)
  replace HX : Hid (Bx w20 b1 m1 8 [⟨9, 1000, 1000⟩]) := HX.out.below hB
  clear c20 hw hB
  clear HX
  have c21 := new_any 9223372036854775807 w20
  rw [show clamp 9223372036854775807 = 1152921504606846976 by decide] at c21
  go_wp2_with fail
  refine c21.mono ?_
  rintro e w21 ⟨b21, m21, rfl, hX, hb, hm, hB⟩
  have HBMb21 : Hid (w20.heap.size ≤ b21 ∧ w20.heap.size ≤ m21 ∧ w.heap.size ≤ w20.heap.size) := ⟨hb, hm, HB.out.size⟩
  replace HB : Hid (Below w.heap.size w w21) := HB.out.trans (hB.mono HB.out.size)
  have HX : Hid (Bx w21 b21 m21 1152921504606846976 []) := hX
  clear c21 hX hb hm hB
  have c22 := add_any HX.out 3 1 (by omega)
  rw [show addE 3 1 = 0 by decide, show addR 1152921504606846976 3 1 [] = [⟨3, 1, 1152921504606846980⟩] by decide] at c22
  go_wp2_with fail
  refine c22.mono ?_
  rintro e w22 ⟨rfl, hX, hc, _⟩
  replace HB : Hid (Below w.heap.size w w22) := HB.out.trans (own_below hc (by have := HBMb21.out; omega) (by have := HBMb21.out; omega) HB.out.size)
  replace HX : Hid (Bx w22 b21 m21 1152921504606846976 [⟨3, 1, 1152921504606846980⟩]) := hX
  clear c22 hX hc
  have c23 := tick_any HX.out 1152921504606846976 (by simp)
  rw [show tickN 1152921504606846976 1152921504606846976 = 1152921504606846976 by decide, show told 1152921504606846976 [⟨3, 1, 1152921504606846980⟩] = [] by decide, show rest 1152921504606846976 [⟨3, 1, 1152921504606846980⟩] = [⟨3, 1, 1152921504606846980⟩] by decide] at c23
  simp only [List.length_cons, List.length_nil] at c23
  go_wp2_with fail
  refine c23.mono ?_
  rintro e w23 ⟨A23, C23, rfl, ho, hX, hc⟩
  replace HB : Hid (Below w.heap.size w w23) := HB.out.trans (own_below hc (by have := HBMb21.out; omega) (by have := HBMb21.out; omega) HB.out.size)
  replace HX : Hid (Bx w23 b21 m21 1152921504606846976 [⟨3, 1, 1152921504606846980⟩]) := hX
  clear c23 hX hc ho
  clear HX
  have c24 := new_any 1152921504606846968 w23
  rw [show clamp 1152921504606846968 = 1152921504606846968 by decide] at c24
  go_wp2_with fail
  refine c24.mono ?_
  rintro e w24 ⟨b24, m24, rfl, hX, hb, hm, hB⟩
  have HBMb24 : Hid (w23.heap.size ≤ b24 ∧ w23.heap.size ≤ m24 ∧ w.heap.size ≤ w23.heap.size) := ⟨hb, hm, HB.out.size⟩
  replace HB : Hid (Below w.heap.size w w24) := HB.out.trans (hB.mono HB.out.size)
  have HX : Hid (Bx w24 b24 m24 1152921504606846968 []) := hX
  clear c24 hX hb hm hB
  have c25 := add_any HX.out 3 8 (by omega)
  rw [show addE 3 8 = 0 by decide, show addR 1152921504606846968 3 8 [] = [⟨3, 8, 1152921504606846976⟩] by decide] at c25
  go_wp2_with fail
  refine c25.mono ?_
  rintro e w25 ⟨rfl, hX, hc, _⟩
  replace HB : Hid (Below w.heap.size w w25) := HB.out.trans (own_below hc (by have := HBMb24.out; omega) (by have := HBMb24.out; omega) HB.out.size)
  replace HX : Hid (Bx w25 b24 m24 1152921504606846968 [⟨3, 8, 1152921504606846976⟩]) := hX
  clear c25 hX hc
  have c26 := add_any HX.out 4 9 (by omega)
  rw [show addE 4 9 = 0 by decide, show addR 1152921504606846968 4 9 [⟨3, 8, 1152921504606846976⟩] = [⟨3, 8, 1152921504606846976⟩, ⟨4, 9, 1152921504606846980⟩] by decide] at c26
  go_wp2_with fail
  refine c26.mono ?_
  rintro e w26 ⟨rfl, hX, hc, _⟩
  replace HB : Hid (Below w.heap.size w w26) := HB.out.trans (own_below hc (by have := HBMb24.out; omega) (by have := HBMb24.out; omega) HB.out.size)
  replace HX : Hid (Bx w26 b24 m24 1152921504606846968 [⟨3, 8, 1152921504606846976⟩, ⟨4, 9, 1152921504606846980⟩]) := hX
  clear c26 hX hc
  have c27 := tick_any HX.out 1152921504606846976 (by simp)
  rw [show tickN 1152921504606846968 1152921504606846976 = 1152921504606846976 by decide, show told 1152921504606846976 [⟨3, 8, 1152921504606846976⟩, ⟨4, 9, 1152921504606846980⟩] = [3] by decide, show rest 1152921504606846976 [⟨3, 8, 1152921504606846976⟩, ⟨4, 9, 1152921504606846980⟩] = [⟨4, 9, 1152921504606846980⟩] by decide] at c27
  simp only [List.length_cons, List.length_nil] at c27
  go_wp2_with fail
  refine c27.mono ?_
  rintro e w27 ⟨A27, C27, rfl, ho, hX, hc⟩
  replace HB : Hid (Below w.heap.size w w27) := HB.out.trans (own_below hc (by have := HBMb24.out; omega) (by have := HBMb24.out; omega) HB.out.size)
  replace HX : Hid (Bx w27 b24 m24 1152921504606846976 [⟨4, 9, 1152921504606846980⟩]) := hX
  have HFf : Hid (Ns w27 (.slice A27 1 C27) [3]) := Ns.of_owns ho
  clear c27 hX hc ho
  clear HX
  have c28 := new_any 10 w27
  rw [show clamp 10 = 10 by decide] at c28
  go_wp2_with fail
  refine c28.mono ?_
  rintro e w28 ⟨b28, m28, rfl, hX, hb, hm, hB⟩
  have HFfL : Hid (∀ k, bk (.slice A27 1 C27) = some k → k < w27.heap.size) := fun k hk => HFf.out.lt hk
  replace HFf : Hid (Ns w28 (.slice A27 1 C27) [3]) := HFf.out.below hB
  have HBMb28 : Hid (w27.heap.size ≤ b28 ∧ w27.heap.size ≤ m28 ∧ w.heap.size ≤ w27.heap.size) := ⟨hb, hm, HB.out.size⟩
  replace HB : Hid (Below w.heap.size w w28) := HB.out.trans (hB.mono HB.out.size)
  have HX : Hid (Bx w28 b28 m28 10 []) := hX
  clear c28 hX hb hm hB
  have c29 := add_any HX.out 2 4 (by omega)
  rw [show addE 2 4 = 0 by decide, show addR 10 2 4 [] = [⟨2, 4, 16⟩] by decide] at c29
  go_wp2_with fail
  refine c29.mono ?_
  rintro e w29 ⟨rfl, hX, hc, _⟩
  replace HB : Hid (Below w.heap.size w w29) := HB.out.trans (own_below hc (by have := HBMb28.out; omega) (by have := HBMb28.out; omega) HB.out.size)
  replace HFf : Hid (Ns w29 (.slice A27 1 C27) [3]) := HFf.out.own hc HFfL.out HBMb28.out.1 HBMb28.out.2.1
  replace HX : Hid (Bx w29 b28 m28 10 [⟨2, 4, 16⟩]) := hX
  clear c29 hX hc
  have c30 := add_any HX.out 2 9 (by omega)
  rw [show addE 2 9 = 0 by decide, show addR 10 2 9 [⟨2, 4, 16⟩] = [⟨2, 9, 20⟩] by decide] at c30
  go_wp2_with fail
  refine c30.mono ?_
  rintro e w30 ⟨rfl, hX, hc, _⟩
  replace HB : Hid (Below w.heap.size w w30) := HB.out.trans (own_below hc (by have := HBMb28.out; omega) (by have := HBMb28.out; omega) HB.out.size)
  replace HFf : Hid (Ns w30 (.slice A27 1 C27) [3]) := HFf.out.own hc HFfL.out HBMb28.out.1 HBMb28.out.2.1
  replace HX : Hid (Bx w30 b28 m28 10 [⟨2, 9, 20⟩]) := hX
  clear c30 hX hc
  have c31 := tick_any HX.out 16 (by simp)
  rw [show tickN 10 16 = 16 by decide, show told 16 [⟨2, 9, 20⟩] = [] by decide, show rest 16 [⟨2, 9, 20⟩] = [⟨2, 9, 20⟩] by decide] at c31
  simp only [List.length_cons, List.length_nil] at c31
  go_wp2_with fail
  refine c31.mono ?_
  rintro e w31 ⟨A31, C31, rfl, ho, hX, hc⟩
  replace HB : Hid (Below w.heap.size w w31) := HB.out.trans (own_below hc (by have := HBMb28.out; omega) (by have := HBMb28.out; omega) HB.out.size)
  replace HFf : Hid (Ns w31 (.slice A27 1 C27) [3]) := HFf.out.own hc HFfL.out HBMb28.out.1 HBMb28.out.2.1
  replace HX : Hid (Bx w31 b28 m28 16 [⟨2, 9, 20⟩]) := hX
  clear c31 hX hc ho
  have c32 := tick_any HX.out 20 (by simp)
  rw [show tickN 16 20 = 20 by decide, show told 20 [⟨2, 9, 20⟩] = [2] by decide, show rest 20 [⟨2, 9, 20⟩] = [] by decide] at c32
  simp only [List.length_cons, List.length_nil] at c32
  go_wp2_with fail
  refine c32.mono ?_
  rintro e w32 ⟨A32, C32, rfl, ho, hX, hc⟩
  replace HB : Hid (Below w.heap.size w w32) := HB.out.trans (own_below hc (by have := HBMb28.out; omega) (by have := HBMb28.out; omega) HB.out.size)
  replace HFf : Hid (Ns w32 (.slice A27 1 C27) [3]) := HFf.out.own hc HFfL.out HBMb28.out.1 HBMb28.out.2.1
  replace HX : Hid (Bx w32 b28 m28 20 []) := hX
  have HFi : Hid (Ns w32 (.slice A32 1 C32) [2]) := Ns.of_owns ho
  clear c32 hX hc ho
  have c33 := same_any (HFf.out.alloc (.cells #[.int .i64 3] 2)) (Ns.lit w32 [3] (cs := #[.int .i64 3]) 2 rfl (n := 1) rfl) (by simp)
  rw [show decide (([3] : List Int) = [3]) = true by decide] at c33
  go_wp2_with fail
  refine c33.mono ?_
  rintro e w33 ⟨rfl, q, hw⟩
  have hB : Below w32.heap.size w32 w33 := by rw [hw]; exact below_drewN ((Below.refl _ _).alloc (Nat.le_refl _) _) _
  clear HFf
  replace HB : Hid (Below w.heap.size w w33) := HB.out.trans (hB.mono HB.out.size)
  replace HX : Hid (Bx w33 b28 m28 20 []) := HX.out.below hB
  replace HFi : Hid (Ns w33 (.slice A32 1 C32) [2]) := HFi.out.below hB
  clear c33 hw hB
  have c34 := same_any (HFi.out.alloc (.cells #[.int .i64 2] 2)) (Ns.lit w33 [2] (cs := #[.int .i64 2]) 2 rfl (n := 1) rfl) (by simp)
  rw [show decide (([2] : List Int) = [2]) = true by decide] at c34
  go_wp2_with fail
  refine c34.mono ?_
  rintro e w34 ⟨rfl, q, hw⟩
  have hB : Below w33.heap.size w33 w34 := by rw [hw]; exact below_drewN ((Below.refl _ _).alloc (Nat.le_refl _) _) _
  clear HFi
  replace HB : Hid (Below w.heap.size w w34) := HB.out.trans (hB.mono HB.out.size)
  replace HX : Hid (Bx w34 b28 m28 20 []) := HX.out.below hB
  clear c34 hw hB
  have caw := awake_any w34
  clear HX
  go_wp2_with fail
  refine caw.mono ?_
  rintro e wz ⟨rfl, hB⟩
  replace HB : Hid (Below w.heap.size w wz) := HB.out.trans (hB.mono HB.out.size)
  clear caw hB
  go_wp2_with fail
  go_ret
  exact ⟨rfl, HB.out⟩
end Go.Proofs.Ytbehainbggdpeaa
