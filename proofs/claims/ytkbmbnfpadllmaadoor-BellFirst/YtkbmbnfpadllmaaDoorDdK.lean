/- The comparison of five numbers with five noughts. -/
import Derived.Test.YtkbmbnfpadllmaaDoorDdW
import Derived.Laws.StructEq
namespace Go.Proofs.YtkbmbnfpadllmaaDoor.DD
open Go.RowKit

theorem headNeq (w : World) (a b c d e : Int) : (binOp .neq 84 (.agg #[.int .i64 a, .int .i64 b, .int .i64 c, .int .i64 d, .int .i64 e]) (.agg #[.int .i64 0, .int .i64 0, .int .i64 0, .int .i64 0, .int .i64 0])).run Tryd.prog w = .ok (.bool (!(decide (a = 0) && decide (b = 0) && decide (c = 0) && decide (d = 0) && decide (e = 0)))) w := by
  have u2 := Tryd.underlying2
  have z2 := Tryd.sizeOf2
  have a2 := Tryd.isAgg2
  have hq : ∀ (x y : Int) (w : World), (Op.equalIn 9999 2 (.int .i64 x) (.int .i64 y)).run Tryd.prog w = .ok (x == y) w := fun x y w => run_equalIn_int w 9998 2 .i64 .i64 x y u2
  rw [run_neq_struct, show (10000 : Nat) = 9999 + 1 from rfl, Op.equalIn]
  simp only [Sem.run_bind, run_underlying Tryd.underlying84, Result.andThen_ok]
  go_simp
  rw [show List.range' 0 5 = [0, 1, 2, 3, 4] from rfl]
  by_cases h1 : a = 0
  · subst h1
    by_cases h2 : b = 0
    · subst h2
      by_cases h3 : c = 0
      · subst h3
        by_cases h4 : d = 0
        · subst h4
          by_cases h5 : e = 0
          · subst h5
            simp [List.forIn_cons, Sem.run_bind, a2, hq]
          · simp [List.forIn_cons, Sem.run_bind, a2, hq, h5]
        · simp [List.forIn_cons, Sem.run_bind, a2, hq, h4]
      · simp [List.forIn_cons, Sem.run_bind, a2, hq, h3]
    · simp [List.forIn_cons, Sem.run_bind, a2, hq, h2]
  · simp [List.forIn_cons, Sem.run_bind, a2, hq, h1]
end Go.Proofs.YtkbmbnfpadllmaaDoor.DD
/- The walks of fitsKind. -/
namespace Go.Proofs.YtkbmbnfpadllmaaDoor.DD
open Go.RowKit

theorem root_flag (p : List UInt8) (b : Bool) (h : decide (p = [47]) = b) : ((mkS p).toList == [47]) = b := by
  rw [PA.mkS_toList, ← h]
  rw [Bool.eq_iff_iff]; simp
set_option maxRecDepth 100000 in
set_option maxHeartbeats 2000000 in
theorem kind12 (zx kd se tu xi ti ow ve cv tmo er cr : Int) (p : List UInt8) (x y z : Value) (w : World) (hL : PA.Laid w) (hk : kd = 1 ∨ kd = 2) :
    Calls Tryd.prog 46 #[.agg #[.int .i64 zx, .int .u8 kd, .int .i64 se, .int .i64 tu, .int .i64 xi, .int .i64 ti, .string (mkS p), x, .int .i64 ow, .int .i64 ve, .int .i64 cv, .int .i64 tmo, .int .i64 er, .int .i64 cr, y, z]] w fun e w' => e = .returned (.bool (PA.right p && decide (p ≠ [47]))) ∧ Below w.heap.size w w' := by
  generalize hX : (PA.right p && decide (p ≠ [47])) = X
  have HX : Hid ((PA.right p && decide (p ≠ [47])) = X) := hX
  clear hX
  obtain ⟨w1, hw1⟩ : ∃ X, X = w.alloc (.cells #[.int .i64 zx, .int .u8 kd, .int .i64 se, .int .i64 tu, .int .i64 xi, .int .i64 ti, .string (mkS p), x, .int .i64 ow, .int .i64 ve, .int .i64 cv, .int .i64 tmo, .int .i64 er, .int .i64 cr, y, z] 32) := ⟨_, rfl⟩
  have hB1 : Below w.heap.size w w1 := by rw [hw1]; exact (Below.refl _ _).alloc (Nat.le_refl _) _
  have HC1 : Hid (w1.heap[w.heap.size]? = some (.cells #[.int .i64 zx, .int .u8 kd, .int .i64 se, .int .i64 tu, .int .i64 xi, .int .i64 ti, .string (mkS p), x, .int .i64 ow, .int .i64 ve, .int .i64 cv, .int .i64 tmo, .int .i64 er, .int .i64 cr, y, z] 32 (0, 0))) := by rw [hw1]; exact heap_alloc_new w _
  have HB1 : Hid (Below w.heap.size w w1) := hB1
  have hc := PA.check_any p w1 (hL.below hB1)
  generalize hR : PA.right p = R at hc
  rw [hw1] at hc
  clear hB1 hL
  have fin : ∀ w2, Below w1.heap.size w1 w2 → w2.cell? ⟨w.heap.size, 6, none⟩ = some (.string (mkS p)) ∧ Below w.heap.size w w2 := fun w2 hB2 =>
    ⟨by rw [hB2.cell (p := ⟨w.heap.size, 6, none⟩) (heap_lt HC1.out), cell_at HC1.out]; rfl, HB1.out.trans (hB2.mono HB1.out.size)⟩
  have FIN : Hid _ := fin
  clear fin
  rcases hk with rfl | rfl
  all_goals
    go_enter Tryd.func46, Tryd.ntmps46
    go_wp2_with fail
    refine hc.mono ?_
    rintro e w2 ⟨rfl, hB2⟩
    rw [← hw1] at hB2
    obtain ⟨z6, hB⟩ := FIN.out w2 hB2
    have HB : Hid (Below w.heap.size w w2) := hB
    clear hc hB2 FIN hw1 hB HB1 HC1
    cases R with
    | false =>
      have hX : X = false := by rw [← HX.out, hR]; rfl
      subst hX
      go_wp2
      go_ret
      exact ⟨rfl, HB.out⟩
    | true =>
      have hX : X = decide (p ≠ [47]) := by rw [← HX.out, hR]; rfl
      have HX2 : Hid (X = decide (p ≠ [47])) := hX
      have hm := PA.mkS_toList p
      clear hX hR HX
      go_wp2
      go_ret
      exact ⟨ret_b (by rw [HX2.out, Bool.eq_iff_iff]; simp), HB.out⟩
set_option maxRecDepth 100000 in
set_option maxHeartbeats 2000000 in
theorem kind3 (zx se tu xi ti ow ve cv tmo er cr : Int) (p : List UInt8) (x y z : Value) (w : World) (hL : PA.Laid w) :
    Calls Tryd.prog 46 #[.agg #[.int .i64 zx, .int .u8 3, .int .i64 se, .int .i64 tu, .int .i64 xi, .int .i64 ti, .string (mkS p), x, .int .i64 ow, .int .i64 ve, .int .i64 cv, .int .i64 tmo, .int .i64 er, .int .i64 cr, y, z]] w fun e w' => e = .returned (.bool (PA.right p)) ∧ Below w.heap.size w w' := by
  obtain ⟨w1, hw1⟩ : ∃ X, X = w.alloc (.cells #[.int .i64 zx, .int .u8 3, .int .i64 se, .int .i64 tu, .int .i64 xi, .int .i64 ti, .string (mkS p), x, .int .i64 ow, .int .i64 ve, .int .i64 cv, .int .i64 tmo, .int .i64 er, .int .i64 cr, y, z] 32) := ⟨_, rfl⟩
  have hB1 : Below w.heap.size w w1 := by rw [hw1]; exact (Below.refl _ _).alloc (Nat.le_refl _) _
  have HB1 : Hid (Below w.heap.size w w1) := hB1
  have hc := PA.check_any p w1 (hL.below hB1)
  generalize PA.right p = R at hc ⊢
  rw [hw1] at hc
  clear hB1 hL
  go_enter Tryd.func46, Tryd.ntmps46
  go_wp2_with fail
  refine hc.mono ?_
  rintro e w2 ⟨rfl, hB2⟩
  rw [← hw1] at hB2
  have HB : Hid (Below w.heap.size w w2) := HB1.out.trans (hB2.mono HB1.out.size)
  clear hc hB2 hw1 HB1
  go_wp2
  go_ret
  exact ⟨rfl, HB.out⟩
set_option maxRecDepth 100000 in
set_option maxHeartbeats 2000000 in
theorem kind4 (zx se tu xi ti ow ve cv tmo er cr : Int) (p : ByteArray) (x y z : Value) (w : World) :
    Calls Tryd.prog 46 #[.agg #[.int .i64 zx, .int .u8 4, .int .i64 se, .int .i64 tu, .int .i64 xi, .int .i64 ti, .string p, x, .int .i64 ow, .int .i64 ve, .int .i64 cv, .int .i64 tmo, .int .i64 er, .int .i64 cr, y, z]] w fun e w' => e = .returned (.bool (decide (0 < tmo) && decide (tmo ≤ 1000))) ∧ Below w.heap.size w w' := by
  by_cases h : 0 < tmo
  · rw [decide_eq_true h, Bool.true_and]
    go_enter Tryd.func46, Tryd.ntmps46
    go_wp2
    go_ret
    exact ⟨rfl, (Below.refl _ _).alloc (Nat.le_refl _) _⟩
  · rw [decide_eq_false h, Bool.false_and]
    go_enter Tryd.func46, Tryd.ntmps46
    go_wp2
    go_ret
    exact ⟨rfl, (Below.refl _ _).alloc (Nat.le_refl _) _⟩
set_option maxRecDepth 100000 in
set_option maxHeartbeats 2000000 in
theorem kind6 (zx se tu xi ti ow ve cv tmo er cr : Int) (p : ByteArray) (x y z : Value) (w : World) :
    Calls Tryd.prog 46 #[.agg #[.int .i64 zx, .int .u8 6, .int .i64 se, .int .i64 tu, .int .i64 xi, .int .i64 ti, .string p, x, .int .i64 ow, .int .i64 ve, .int .i64 cv, .int .i64 tmo, .int .i64 er, .int .i64 cr, y, z]] w fun e w' => e = .returned (.bool true) ∧ Below w.heap.size w w' := by
  go_enter Tryd.func46, Tryd.ntmps46
  go_wp2
  go_ret
  exact ⟨rfl, (Below.refl _ _).alloc (Nat.le_refl _) _⟩
set_option maxRecDepth 100000 in
set_option maxHeartbeats 2000000 in
theorem kind9 (zx se tu xi ti ow ve cv tmo er cr : Int) (p : ByteArray) (x y z : Value) (w : World) :
    Calls Tryd.prog 46 #[.agg #[.int .i64 zx, .int .u8 9, .int .i64 se, .int .i64 tu, .int .i64 xi, .int .i64 ti, .string p, x, .int .i64 ow, .int .i64 ve, .int .i64 cv, .int .i64 tmo, .int .i64 er, .int .i64 cr, y, z]] w fun e w' => e = .returned (.bool (decide (0 < er))) ∧ Below w.heap.size w w' := by
  go_enter Tryd.func46, Tryd.ntmps46
  go_wp2
  go_ret
  exact ⟨rfl, (Below.refl _ _).alloc (Nat.le_refl _) _⟩
set_option maxRecDepth 100000 in
set_option maxHeartbeats 2000000 in
theorem kind7 (zx se tu xi ti ow ve cv tmo er cr : Int) (p : ByteArray) (x y z : Value) (l : List Mem) (w : World) (hM : Mems w y l) :
    Calls Tryd.prog 46 #[.agg #[.int .i64 zx, .int .u8 7, .int .i64 se, .int .i64 tu, .int .i64 xi, .int .i64 ti, .string p, x, .int .i64 ow, .int .i64 ve, .int .i64 cv, .int .i64 tmo, .int .i64 er, .int .i64 cr, y, z]] w fun e w' => e = .returned (.bool (decide (cr = zx) && decide (chk cr l = 0))) ∧ Below w.heap.size w w' := by
  by_cases h : cr = zx
  · rw [decide_eq_true h, Bool.true_and]
    subst h
    obtain ⟨w1, hw1⟩ : ∃ X, X = w.alloc (.cells #[.int .i64 cr, .int .u8 7, .int .i64 se, .int .i64 tu, .int .i64 xi, .int .i64 ti, .string p, x, .int .i64 ow, .int .i64 ve, .int .i64 cv, .int .i64 tmo, .int .i64 er, .int .i64 cr, y, z] 32) := ⟨_, rfl⟩
    have hB1 : Below w.heap.size w w1 := by rw [hw1]; exact (Below.refl _ _).alloc (Nat.le_refl _) _
    have HB1 : Hid (Below w.heap.size w w1) := hB1
    have hc := check_any (hM.below' hB1) cr
    have hd : (chk cr l == 0) = decide (chk cr l = 0) := by rw [Bool.eq_iff_iff]; simp
    rw [← hd]
    generalize chk cr l = R at hc ⊢
    rw [hw1] at hc
    clear hB1 hM hd
    go_enter Tryd.func46, Tryd.ntmps46
    go_wp2_with fail
    refine hc.mono ?_
    rintro e w2 ⟨rfl, hB2⟩
    rw [← hw1] at hB2
    have HB : Hid (Below w.heap.size w w2) := HB1.out.trans (hB2.mono HB1.out.size)
    clear hc hB2 hw1 HB1
    go_wp2
    go_ret
    exact ⟨rfl, HB.out⟩
  · rw [decide_eq_false h, Bool.false_and]
    have hb : (cr == zx) = false := by simpa using h
    clear h
    go_enter Tryd.func46, Tryd.ntmps46
    go_wp2
    go_ret
    exact ⟨rfl, (Below.refl _ _).alloc (Nat.le_refl _) _⟩
end Go.Proofs.YtkbmbnfpadllmaaDoor.DD
