/- What wakes the statements on disks. -/
import Derived.Test.YtndjlnlmlgimlaaDkX
namespace Go.Proofs.Ytndjlnlmlgimlaa
open Go.RowKit Go.MapKept

theorem litB (w : World) (l : List UInt8) {cs : Array Value} (h : (bv l).toArray = cs) {n : Nat} (hn : l.length = n) : Bs (w.alloc (.cells cs 5)) (.slice (some ⟨w.heap.size, 0, none⟩) n n) l := by
  subst h; subst hn; exact Bs_lit w l
theorem litT (w : World) (l : List (List UInt8)) {cs : Array Value} (h : (l.map fun x => Value.string (mkS x)).toArray = cs) {n : Nat} (hn : l.length = n) : Txs (w.alloc (.cells cs 9)) (.slice (some ⟨w.heap.size, 0, none⟩) n n) l := by
  subst h; subst hn; exact Txs.new w l

set_option maxRecDepth 100000 in
set_option maxHeartbeats 1000000 in
theorem awake_any (w : World) : Calls Try.prog 12 #[] w fun e w' => e = .returned (.bool true) ∧ Below w.heap.size w w' := by
  have hmk : ∀ w : World, (Instr.makeSlice 28 (.int .i64 6) (.int .i64 6)).run Try.prog w = .ok (.slice (some ⟨w.heap.size, 0, none⟩) 6 6) (w.alloc (.cells (madeCells #[.int .u8 0] 6) 5)) :=
    run_make_row' (P := Try.prog) 28 5 (.int .u8 0) 1 Try.underlying28 info5 rfl .i64 .i64 6 (by decide) (by decide)
  go_enter Try.func12, Try.ntmps12
  go_wp2_with fail
  refine (new_dx 10 (by omega) w).mono ?_
  rintro e w1 ⟨p, rfl, h1, hB1⟩
  rw [show max (10 : Int) 0 = 10 from rfl] at h1
  have HT : Hid (∀ k, k < w.heap.size → k < w.heap.size) := fun _ h => h
  obtain ⟨T, hT⟩ : ∃ T : Nat → Prop, T = fun k => k < w.heap.size := ⟨_, rfl⟩
  rw [← hT] at h1
  replace HT : Hid (∀ k, k < w.heap.size → T k) := by rw [hT]; exact fun _ h => h
  clear hT
  have hX2 := litB w1 [1, 2, 3, 4] (cs := #[.int .u8 1, .int .u8 2, .int .u8 3, .int .u8 4]) rfl rfl
  have hc2 := append_dx (h1.alloc _) [97] hX2 rfl
  have HB : Hid (Below w.heap.size w (w1.alloc (.cells #[.int .u8 1, .int .u8 2, .int .u8 3, .int .u8 4] 5))) := hB1.alloc hB1.size _
  clear hX2 h1 hB1
  rw [show appE 10 [] [97] [1, 2, 3, 4] = 0 by decide, show appR 10 [] [97] [1, 2, 3, 4] = [⟨[97], [1, 2, 3, 4], 0⟩] by decide] at hc2
  go_wp2_with fail
  refine hc2.mono ?_
  rintro e w3 ⟨rfl, h3, k3⟩
  replace HB : Hid (Below w.heap.size w w3) := HB.out.trans (k3.below HT.out HB.out.size)
  clear hc2 k3
  have hc3 := sync_dx h3 [97]
  rw [show synE [⟨[97], [1, 2, 3, 4], 0⟩] [97] = 0 by decide, show synR [⟨[97], [1, 2, 3, 4], 0⟩] [97] = [⟨[97], [1, 2, 3, 4], 4⟩] by decide] at hc3
  clear h3
  go_wp2_with fail
  refine hc3.mono ?_
  rintro e w4 ⟨rfl, h4, k4⟩
  replace HB : Hid (Below w.heap.size w w4) := HB.out.trans (k4.below HT.out HB.out.size)
  clear hc3 k4
  have hX4 := litB w4 [5, 6, 7] (cs := #[.int .u8 5, .int .u8 6, .int .u8 7]) rfl rfl
  have hc4 := append_dx (h4.alloc _) [97] hX4 rfl
  replace HB : Hid (Below w.heap.size w (w4.alloc (.cells #[.int .u8 5, .int .u8 6, .int .u8 7] 5))) := HB.out.alloc HB.out.size _
  clear hX4 h4
  rw [show appE 10 [⟨[97], [1, 2, 3, 4], 4⟩] [97] [5, 6, 7] = 0 by decide, show appR 10 [⟨[97], [1, 2, 3, 4], 4⟩] [97] [5, 6, 7] = [⟨[97], [1, 2, 3, 4, 5, 6, 7], 4⟩] by decide] at hc4
  go_wp2_with fail
  refine hc4.mono ?_
  rintro e w5 ⟨rfl, h5, k5⟩
  replace HB : Hid (Below w.heap.size w w5) := HB.out.trans (k5.below HT.out HB.out.size)
  clear hc4 k5
  have hc5 := crash_dx h5 1 (by omega)
  rw [show [⟨[97], [1, 2, 3, 4, 5, 6, 7], 4⟩].map (crash1 1) = [⟨[97], [1, 2, 3, 4, 5], 5⟩] by decide] at hc5
  clear h5
  go_wp2_with fail
  refine hc5.mono ?_
  rintro e w6 ⟨rfl, h6, k6⟩
  replace HB : Hid (Below w.heap.size w w6) := HB.out.trans (k6.below HT.out HB.out.size)
  clear hc5 k6
  have hc6 := read_dx h6 [97]
  rw [show synE [⟨[97], [1, 2, 3, 4, 5], 5⟩] [97] = 0 by decide, show getF [97] [⟨[97], [1, 2, 3, 4, 5], 5⟩] = ⟨[97], [1, 2, 3, 4, 5], 5⟩ by decide] at hc6
  go_wp2_with fail
  refine hc6.mono ?_
  rintro e w7 ⟨A7, C7, rfl, ho7, hB7⟩
  replace HB : Hid (Below w.heap.size w w7) := HB.out.trans (hB7.mono HB.out.size)
  have h7 := h6.below hB7
  have hbs7 := Bs.of_owns ho7
  simp only [List.length_cons, List.length_nil] at hbs7 ho7
  have hX7 := litB w7 [1, 2, 3, 4, 5] (cs := #[.int .u8 1, .int .u8 2, .int .u8 3, .int .u8 4, .int .u8 5]) rfl rfl
  have hc7 := same_any (hbs7.alloc (.cells #[.int .u8 1, .int .u8 2, .int .u8 3, .int .u8 4, .int .u8 5] 5)) hX7 (by decide)
  rw [show decide (([1, 2, 3, 4, 5] : List UInt8) = [1, 2, 3, 4, 5]) = true by decide] at hc7
  clear h6 ho7 hbs7 hX7 hc6
  go_wp2_with fail
  refine hc7.mono ?_
  rintro e w8 ⟨rfl, q8, hw8⟩
  have hB8 : Below w7.heap.size w7 w8 := by rw [hw8]; exact below_drewN ((Below.refl _ _).alloc (Nat.le_refl _) _) _
  replace HB : Hid (Below w.heap.size w w8) := HB.out.trans (hB8.mono HB.out.size)
  have h8 := h7.below hB8
  clear hw8 hc7 h7
  have hc8 := used_dx h8
  rw [show used [⟨[97], [1, 2, 3, 4, 5], 5⟩] = 5 by decide] at hc8
  go_wp2_with fail
  refine hc8.mono ?_
  rintro e w9 ⟨rfl, hB9⟩
  replace HB : Hid (Below w.heap.size w w9) := HB.out.trans (hB9.mono HB.out.size)
  have h9 := h8.below hB9
  clear hc8 h8
  have hX9 : Bs (w9.alloc (.cells (madeCells #[.int .u8 0] 6) 5)) (.slice (some ⟨w9.heap.size, 0, none⟩) 6 6) [0, 0, 0, 0, 0, 0] := litB w9 [0, 0, 0, 0, 0, 0] (by kernel_rfl) rfl
  have hc9 := append_dx (h9.alloc (.cells (madeCells #[.int .u8 0] 6) 5)) [98] hX9 rfl
  rw [show appE 10 [⟨[97], [1, 2, 3, 4, 5], 5⟩] [98] [0, 0, 0, 0, 0, 0] = 5 by decide, show appR 10 [⟨[97], [1, 2, 3, 4, 5], 5⟩] [98] [0, 0, 0, 0, 0, 0] = [⟨[97], [1, 2, 3, 4, 5], 5⟩] by decide] at hc9
  replace HB : Hid (Below w.heap.size w (w9.alloc (.cells (madeCells #[.int .u8 0] 6) 5))) := HB.out.alloc HB.out.size _
  clear hX9 h9
  go_wp2_with fail
  refine hc9.mono ?_
  rintro e w10 ⟨rfl, h10, k10⟩
  replace HB : Hid (Below w.heap.size w w10) := HB.out.trans (k10.below HT.out HB.out.size)
  clear hc9 k10
  have hc10 := list_dx h10 (by decide)
  rw [show sortN ([(⟨[97], [1, 2, 3, 4, 5], 5⟩ : Fi)].map (fun f : Fi => f.nm)) = [[97]] by simp [sortN]] at hc10
  go_wp2_with fail
  refine hc10.mono ?_
  rintro e w11 ⟨A11, C11, rfl, ho11, hB11⟩
  replace HB : Hid (Below w.heap.size w w11) := HB.out.trans (hB11.mono HB.out.size)
  have htx := Txs.of_owns ho11
  simp only [List.length_cons, List.length_nil] at htx ho11
  have hX11 := litT w11 [[97]] (cs := #[.string ⟨#[97]⟩]) rfl rfl
  have hc11 := texts_any (htx.keep (Chg.alloc Non w11 (.cells #[.string ⟨#[97]⟩] 9)) (fun _ _ => id)) hX11 (by decide)
  rw [show decide (([[97]] : List (List UInt8)) = [[97]]) = true by decide] at hc11
  clear h10 ho11 htx hX11 hc10
  go_wp2_with fail
  refine hc11.mono ?_
  rintro e w12 ⟨rfl, q12, hw12⟩
  have hB12 : Below w.heap.size w w12 := by rw [hw12]; exact below_drewN (HB.out.alloc HB.out.size _) _
  clear hw12 hc11
  go_wp2_with fail
  go_ret
  exact ⟨rfl, hB12⟩
end Go.Proofs.Ytndjlnlmlgimlaa
