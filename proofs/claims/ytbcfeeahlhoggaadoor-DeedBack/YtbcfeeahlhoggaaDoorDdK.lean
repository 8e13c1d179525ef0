/- The walks of fitsKind. -/
import Derived.Test.YtbcfeeahlhoggaaDoorDdW
namespace Go.Proofs.YtbcfeeahlhoggaaDoor.DD
open Go.RowKit

theorem root_flag (p : List UInt8) (b : Bool) (h : decide (p = [47]) = b) : ((mkS p).toList == [47]) = b := by
  rw [PA.mkS_toList, ← h]
  rw [Bool.eq_iff_iff]; simp
set_option maxRecDepth 100000 in
set_option maxHeartbeats 2000000 in
theorem kind12 (zx kd se tu xi ti ow ve cv to er cr : Int) (p : List UInt8) (x y z : Value) (w : World) (hL : PA.Laid w) (hk : kd = 1 ∨ kd = 2) :
    Calls Tryd.prog 50 #[.agg #[.int .i64 zx, .int .u8 kd, .int .i64 se, .int .i64 tu, .int .i64 xi, .int .i64 ti, .string (mkS p), x, .int .i64 ow, .int .i64 ve, .int .i64 cv, .int .i64 to, .int .i64 er, .int .i64 cr, y, z]] w fun e w' => e = .returned (.bool (PA.right p && decide (p ≠ [47]))) ∧ Below w.heap.size w w' := by
  generalize hX : (PA.right p && decide (p ≠ [47])) = X
  have HX : Hid ((PA.right p && decide (p ≠ [47])) = X) := hX
  clear hX
  obtain ⟨w1, hw1⟩ : ∃ X, X = w.alloc (.cells #[.int .i64 zx, .int .u8 kd, .int .i64 se, .int .i64 tu, .int .i64 xi, .int .i64 ti, .string (mkS p), x, .int .i64 ow, .int .i64 ve, .int .i64 cv, .int .i64 to, .int .i64 er, .int .i64 cr, y, z] 35) := ⟨_, rfl⟩
  have hB1 : Below w.heap.size w w1 := by rw [hw1]; exact (Below.refl _ _).alloc (Nat.le_refl _) _
  have HC1 : Hid (w1.heap[w.heap.size]? = some (.cells #[.int .i64 zx, .int .u8 kd, .int .i64 se, .int .i64 tu, .int .i64 xi, .int .i64 ti, .string (mkS p), x, .int .i64 ow, .int .i64 ve, .int .i64 cv, .int .i64 to, .int .i64 er, .int .i64 cr, y, z] 35 (0, 0))) := by rw [hw1]; exact heap_alloc_new w _
  have HB1 : Hid (Below w.heap.size w w1) := hB1
  have hc := PA.check_any p w1 (hL.below hB1)
  generalize hR : PA.right p = R at hc
  rw [hw1] at hc
  clear hB1 hL
  have fin : ∀ w2, Below w1.heap.size w1 w2 → w2.cell? ⟨w.heap.size, 6, none⟩ = some (.string (mkS p)) ∧ Below w.heap.size w w2 := fun w2 hB2 =>
    ⟨by rw [hB2.cell (p := ⟨w.heap.size, 6, none⟩) (heap_lt HC1.out), cell_at HC1.out]; rfl, HB1.out.trans (hB2.mono HB1.out.size)⟩
  have FIN : Hid _ := fin
  clear fin
  rcases hk with rfl | rfl
  all_goals
    go_enter Tryd.func50, Tryd.ntmps50
    go_wp2_with fail
    refine hc.mono ?_
    rintro e w2 ⟨rfl, hB2⟩
    rw [← hw1] at hB2
    obtain ⟨z6, hB⟩ := FIN.out w2 hB2
    have HB : Hid (Below w.heap.size w w2) := hB
    clear hc hB2 FIN hw1 hB HB1 HC1
    cases R with
    | false =>
      have hX : X = false := by rw [← HX.out, hR]; rfl
      subst hX
      go_wp2
      go_ret
      exact ⟨rfl, HB.out⟩
    | true =>
      have hX : X = decide (p ≠ [47]) := by rw [← HX.out, hR]; rfl
      have HX2 : Hid (X = decide (p ≠ [47])) := hX
      have hm := PA.mkS_toList p
      clear hX hR HX
      go_wp2
      go_ret
      exact ⟨ret_b (by rw [HX2.out, Bool.eq_iff_iff]; simp), HB.out⟩
set_option maxRecDepth 100000 in
set_option maxHeartbeats 2000000 in
theorem kind3 (zx se tu xi ti ow ve cv to er cr : Int) (p : List UInt8) (x y z : Value) (w : World) (hL : PA.Laid w) :
    Calls Tryd.prog 50 #[.agg #[.int .i64 zx, .int .u8 3, .int .i64 se, .int .i64 tu, .int .i64 xi, .int .i64 ti, .string (mkS p), x, .int .i64 ow, .int .i64 ve, .int .i64 cv, .int .i64 to, .int .i64 er, .int .i64 cr, y, z]] w fun e w' => e = .returned (.bool (PA.right p)) ∧ Below w.heap.size w w' := by
  obtain ⟨w1, hw1⟩ : ∃ X, X = w.alloc (.cells #[.int .i64 zx, .int .u8 3, .int .i64 se, .int .i64 tu, .int .i64 xi, .int .i64 ti, .string (mkS p), x, .int .i64 ow, .int .i64 ve, .int .i64 cv, .int .i64 to, .int .i64 er, .int .i64 cr, y, z] 35) := ⟨_, rfl⟩
  have hB1 : Below w.heap.size w w1 := by rw [hw1]; exact (Below.refl _ _).alloc (Nat.le_refl _) _
  have HB1 : Hid (Below w.heap.size w w1) := hB1
  have hc := PA.check_any p w1 (hL.below hB1)
  generalize PA.right p = R at hc ⊢
  rw [hw1] at hc
  clear hB1 hL
  go_enter Tryd.func50, Tryd.ntmps50
  go_wp2_with fail
  refine hc.mono ?_
  rintro e w2 ⟨rfl, hB2⟩
  rw [← hw1] at hB2
  have HB : Hid (Below w.heap.size w w2) := HB1.out.trans (hB2.mono HB1.out.size)
  clear hc hB2 hw1 HB1
  go_wp2
  go_ret
  exact ⟨rfl, HB.out⟩
set_option maxRecDepth 100000 in
set_option maxHeartbeats 2000000 in
theorem kind4 (zx se tu xi ti ow ve cv to er cr : Int) (p : ByteArray) (x y z : Value) (w : World) :
    Calls Tryd.prog 50 #[.agg #[.int .i64 zx, .int .u8 4, .int .i64 se, .int .i64 tu, .int .i64 xi, .int .i64 ti, .string p, x, .int .i64 ow, .int .i64 ve, .int .i64 cv, .int .i64 to, .int .i64 er, .int .i64 cr, y, z]] w fun e w' => e = .returned (.bool (decide (0 < to) && decide (to ≤ 1000))) ∧ Below w.heap.size w w' := by
  by_cases h : 0 < to
  · rw [decide_eq_true h, Bool.true_and]
    go_enter Tryd.func50, Tryd.ntmps50
    go_wp2
    go_ret
    exact ⟨rfl, (Below.refl _ _).alloc (Nat.le_refl _) _⟩
  · rw [decide_eq_false h, Bool.false_and]
    go_enter Tryd.func50, Tryd.ntmps50
    go_wp2
    go_ret
    exact ⟨rfl, (Below.refl _ _).alloc (Nat.le_refl _) _⟩
set_option maxRecDepth 100000 in
set_option maxHeartbeats 2000000 in
theorem kind6 (zx se tu xi ti ow ve cv to er cr : Int) (p : ByteArray) (x y z : Value) (w : World) :
    Calls Tryd.prog 50 #[.agg #[.int .i64 zx, .int .u8 6, .int .i64 se, .int .i64 tu, .int .i64 xi, .int .i64 ti, .string p, x, .int .i64 ow, .int .i64 ve, .int .i64 cv, .int .i64 to, .int .i64 er, .int .i64 cr, y, z]] w fun e w' => e = .returned (.bool true) ∧ Below w.heap.size w w' := by
  go_enter Tryd.func50, Tryd.ntmps50
  go_wp2
  go_ret
  exact ⟨rfl, (Below.refl _ _).alloc (Nat.le_refl _) _⟩
set_option maxRecDepth 100000 in
set_option maxHeartbeats 2000000 in
theorem kind9 (zx se tu xi ti ow ve cv to er cr : Int) (p : ByteArray) (x y z : Value) (w : World) :
    Calls Tryd.prog 50 #[.agg #[.int .i64 zx, .int .u8 9, .int .i64 se, .int .i64 tu, .int .i64 xi, .int .i64 ti, .string p, x, .int .i64 ow, .int .i64 ve, .int .i64 cv, .int .i64 to, .int .i64 er, .int .i64 cr, y, z]] w fun e w' => e = .returned (.bool (decide (0 < er))) ∧ Below w.heap.size w w' := by
  go_enter Tryd.func50, Tryd.ntmps50
  go_wp2
  go_ret
  exact ⟨rfl, (Below.refl _ _).alloc (Nat.le_refl _) _⟩
set_option maxRecDepth 100000 in
set_option maxHeartbeats 2000000 in
theorem kind7 (zx se tu xi ti ow ve cv to er cr : Int) (p : ByteArray) (x y z : Value) (l : List Mem) (w : World) (hM : Mems w y l) :
    Calls Tryd.prog 50 #[.agg #[.int .i64 zx, .int .u8 7, .int .i64 se, .int .i64 tu, .int .i64 xi, .int .i64 ti, .string p, x, .int .i64 ow, .int .i64 ve, .int .i64 cv, .int .i64 to, .int .i64 er, .int .i64 cr, y, z]] w fun e w' => e = .returned (.bool (decide (cr = zx) && decide (chk cr l = 0))) ∧ Below w.heap.size w w' := by
  by_cases h : cr = zx
  · rw [decide_eq_true h, Bool.true_and]
    subst h
    obtain ⟨w1, hw1⟩ : ∃ X, X = w.alloc (.cells #[.int .i64 cr, .int .u8 7, .int .i64 se, .int .i64 tu, .int .i64 xi, .int .i64 ti, .string p, x, .int .i64 ow, .int .i64 ve, .int .i64 cv, .int .i64 to, .int .i64 er, .int .i64 cr, y, z] 35) := ⟨_, rfl⟩
    have hB1 : Below w.heap.size w w1 := by rw [hw1]; exact (Below.refl _ _).alloc (Nat.le_refl _) _
    have HB1 : Hid (Below w.heap.size w w1) := hB1
    have hc := check_any (hM.below' hB1) cr
    have hd : (chk cr l == 0) = decide (chk cr l = 0) := by rw [Bool.eq_iff_iff]; simp
    rw [← hd]
    generalize chk cr l = R at hc ⊢
    rw [hw1] at hc
    clear hB1 hM hd
    go_enter Tryd.func50, Tryd.ntmps50
    go_wp2_with fail
    refine hc.mono ?_
    rintro e w2 ⟨rfl, hB2⟩
    rw [← hw1] at hB2
    have HB : Hid (Below w.heap.size w w2) := HB1.out.trans (hB2.mono HB1.out.size)
    clear hc hB2 hw1 HB1
    go_wp2
    go_ret
    exact ⟨rfl, HB.out⟩
  · rw [decide_eq_false h, Bool.false_and]
    have hb : (cr == zx) = false := by simpa using h
    clear h
    go_enter Tryd.func50, Tryd.ntmps50
    go_wp2
    go_ret
    exact ⟨rfl, (Below.refl _ _).alloc (Nat.le_refl _) _⟩
end Go.Proofs.YtbcfeeahlhoggaaDoor.DD
