/- What wakes every statement on books; no books: the walk of SittingNil. -/
import Derived.Test.YtbehainbggdpeaaGreatBoD
namespace Go.Proofs.YtbehainbggdpeaaGreat
set_option linter.unusedSimpArgs false
set_option linter.unusedVariables false
open Go.RowKit Go.MapKept
set_option linter.unusedVariables false
set_option linter.unusedSimpArgs false

theorem own_below {b m B : Nat} {w w' : World} (h : Chg (Own b m) w w') (hb : B ≤ b) (hm : B ≤ m) (hB : B ≤ w.heap.size) : Below B w w' := h.below (fun k e => by rcases e with rfl | rfl <;> assumption) hB
theorem len0 {v : Value} (A : Option Addr) (C : Nat) (h : v = .slice A ([] : List Int).length C) : v = .slice A 0 C := h
set_option maxRecDepth 100000 in
set_option maxHeartbeats 1000000 in
theorem awake_any (w : World) : Calls Tryz.prog 11 #[] w fun e w' => e = .returned (.bool true) ∧ Below w.heap.size w w' := by
  have c1 := new_any 0 w
  rw [show clamp 0 = 0 by decide] at c1
  go_enter Tryz.func11, Tryz.ntmps11
  go_wp2_with fail
  refine c1.mono ?_
  rintro e w1 ⟨b, m, rfl, h1, hb, hm, hB1⟩
  have HBM : Hid (w.heap.size ≤ b ∧ w.heap.size ≤ m) := ⟨hb, hm⟩
  have HB : Hid (Below w.heap.size w w1) := hB1
  have c2 := add_any h1 7 5 (by omega)
  rw [show addE 7 5 = 0 by decide, show addR 0 7 5 [] = [⟨7, 5, 8⟩] by decide] at c2
  clear c1 h1 hb hm hB1
  go_wp2_with fail
  refine c2.mono ?_
  rintro e w2 ⟨rfl, h2, hc2, hs2⟩
  replace HB : Hid (Below w.heap.size w w2) := HB.out.trans (own_below hc2 HBM.out.1 HBM.out.2 HB.out.size)
  have c3 := tick_any h2 7 (by simp)
  rw [show tickN 0 7 = 7 by decide, show told 7 [⟨7, 5, 8⟩] = [] by decide, show rest 7 [⟨7, 5, 8⟩] = [⟨7, 5, 8⟩] by decide] at c3
  clear c2 h2 hc2 hs2
  simp only [List.length_nil] at c3
  go_wp2_with fail
  refine c3.mono ?_
  rintro e w3 ⟨A3, C3, rfl, _, h3, hc3⟩
  replace HB : Hid (Below w.heap.size w w3) := HB.out.trans (own_below hc3 HBM.out.1 HBM.out.2 HB.out.size)
  have c4 := touch_any h3 7
  rw [show (look 7 [⟨7, 5, 8⟩]).isSome = true by decide, show touchS 7 7 [⟨7, 5, 8⟩] = [⟨7, 5, 12⟩] by decide] at c4
  clear c3 h3 hc3
  go_wp2_with fail
  refine c4.mono ?_
  rintro e w4 ⟨rfl, h4, hc4⟩
  replace HB : Hid (Below w.heap.size w w4) := HB.out.trans (own_below hc4 HBM.out.1 HBM.out.2 HB.out.size)
  have c5 := tick_any h4 11 (by simp)
  rw [show tickN 7 11 = 11 by decide, show told 11 [⟨7, 5, 12⟩] = [] by decide, show rest 11 [⟨7, 5, 12⟩] = [⟨7, 5, 12⟩] by decide] at c5
  clear c4 h4 hc4
  simp only [List.length_nil] at c5
  go_wp2_with fail
  refine c5.mono ?_
  rintro e w5 ⟨A5, C5, rfl, _, h5, hc5⟩
  replace HB : Hid (Below w.heap.size w w5) := HB.out.trans (own_below hc5 HBM.out.1 HBM.out.2 HB.out.size)
  have c6 := tick_any h5 12 (by simp)
  rw [show tickN 11 12 = 12 by decide, show told 12 [⟨7, 5, 12⟩] = [7] by decide, show rest 12 [⟨7, 5, 12⟩] = [] by decide] at c6
  clear c5 h5 hc5
  simp only [List.length_cons, List.length_nil] at c6
  go_wp2_with fail
  refine c6.mono ?_
  rintro e w6 ⟨A6, C6, rfl, ho6, h6, hc6⟩
  replace HB : Hid (Below w.heap.size w w6) := HB.out.trans (own_below hc6 HBM.out.1 HBM.out.2 HB.out.size)
  have hn6 := Ns.of_owns ho6
  have hl6 := Ns.lit w6 [7] (cs := #[.int .i64 7]) 2 rfl (n := 1) rfl
  have c7 := same_any (hn6.alloc (.cells #[.int .i64 7] 2)) hl6 (by simp)
  rw [show decide (([7] : List Int) = [7]) = true by decide] at c7
  have HX6 : Hid (Bx w6 b m 12 []) := h6
  clear c6 h6 hc6 ho6 hn6 hl6
  go_wp2_with fail
  refine c7.mono ?_
  rintro e w7 ⟨rfl, q7, hw7⟩
  have hB7 : Below w6.heap.size w6 w7 := by rw [hw7]; exact below_drewN ((Below.refl _ _).alloc (Nat.le_refl _) _) _
  have h7 := HX6.out.below hB7
  replace HB : Hid (Below w.heap.size w w7) := HB.out.trans (hB7.mono HB.out.size)
  have c8 := tick_any h7 12 (by simp)
  rw [show tickN 12 12 = 12 by decide, show told 12 [] = [] by decide, show rest 12 [] = [] by decide] at c8
  simp only [List.length_nil] at c8
  clear c7 hw7 hB7 h7
  go_wp2_with fail
  refine c8.mono ?_
  rintro e w8 ⟨A8, C8, rfl, _, h8, hc8⟩
  replace HB : Hid (Below w.heap.size w w8) := HB.out.trans (own_below hc8 HBM.out.1 HBM.out.2 HB.out.size)
  have c9 := touch_any h8 7
  rw [show (look 7 []).isSome = false by decide] at c9
  clear c8 h8 hc8
  go_wp2_with fail
  refine c9.mono ?_
  rintro e w9 ⟨rfl, h9, hc9⟩
  replace HB : Hid (Below w.heap.size w w9) := HB.out.trans (own_below hc9 HBM.out.1 HBM.out.2 HB.out.size)
  clear c9 h9 hc9
  go_wp2_with fail
  go_ret
  exact ⟨rfl, HB.out⟩
end Go.Proofs.YtbehainbggdpeaaGreat
