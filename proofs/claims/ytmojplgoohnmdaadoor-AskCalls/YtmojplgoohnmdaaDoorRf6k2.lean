/- The document's own fits over calls, by patterns of its table. -/
import Derived.Test.YtmojplgoohnmdaaDoorRf6a
namespace Go.Proofs.YtmojplgoohnmdaaDoor.AK
set_option linter.unusedSimpArgs false
set_option linter.unusedVariables false
open Go.RowKit
set_option linter.unusedVariables false
set_option linter.unusedSimpArgs false

set_option maxRecDepth 100000 in
set_option maxHeartbeats 4000000 in
theorem rfitsDel (kd xi se tu fl ve so la ti fr : Int) (wa : Bool) (p : List UInt8) (A1 A2 A3 : Option Addr) (n1 n2 n3 c1 c2 c3 : Nat) (w : World) (hO : ∀ w', Calls Tryd.prog 73 #[.int .u8 kd] w' fun e w'' => e = .returned (.tuple #[.agg #[.bool true, .bool false, .bool false, .bool true, .bool false, .bool false, .bool false, .bool false, .bool false, .bool false], .bool true]) ∧ Below w'.heap.size w' w'') :
    Calls Tryd.prog 40 #[.agg #[.int .u8 kd, .int .i64 xi, .int .i64 se, .int .i64 tu, .string (mkS p), .slice A1 n1 c1, .int .i64 fl, .int .i64 ve, .bool wa, .int .u8 so, .int .i64 la, .int .i64 ti, .int .i64 fr, .slice A2 n2 c2, .slice A3 n3 c3]] w fun e w' => e = .returned (.bool (decide (n1 = 0 ∧ fl = 0 ∧ wa = false ∧ so = 0 ∧ la = 0 ∧ ti = 0 ∧ fr = 0 ∧ n2 = 0 ∧ n3 = 0 ∧ p.length ≤ 220 ∧ n1 ≤ 1000 ∧ 0 ≤ fl ∧ fl ≤ 3 ∧ -1 ≤ ve ∧ 0 ≤ la ∧ 0 ≤ fr ∧ n2 ≤ 7))) ∧ Below w.heap.size w w' := by
  have hms : (mkS p).size = p.length := by simp [mkS, ByteArray.size]
  have hmt : (mkS p).toList = p := by rw [ByteArray.toList_eq]; simp [mkS]
  have hp0 : p.length = 0 ↔ p = [] := List.length_eq_zero_iff
  obtain ⟨w1, hw1⟩ : ∃ X, X = w.alloc (.cells #[.int .u8 kd, .int .i64 xi, .int .i64 se, .int .i64 tu, .string (mkS p), .slice A1 n1 c1, .int .i64 fl, .int .i64 ve, .bool wa, .int .u8 so, .int .i64 la, .int .i64 ti, .int .i64 fr, .slice A2 n2 c2, .slice A3 n3 c3] 29) := ⟨_, rfl⟩
  have hB1 : Below w.heap.size w w1 := by rw [hw1]; exact (Below.refl _ _).alloc (Nat.le_refl _) _
  have HB1 : Hid (Below w.heap.size w w1) := hB1
  have HC1 : Hid (w1.heap[w.heap.size]? = some (.cells #[.int .u8 kd, .int .i64 xi, .int .i64 se, .int .i64 tu, .string (mkS p), .slice A1 n1 c1, .int .i64 fl, .int .i64 ve, .bool wa, .int .u8 so, .int .i64 la, .int .i64 ti, .int .i64 fr, .slice A2 n2 c2, .slice A3 n3 c3] 29 (0, 0))) := by rw [hw1]; exact heap_alloc_new w _
  have ho := hO w1
  rw [hw1] at ho
  generalize hU : decide (n1 = 0 ∧ fl = 0 ∧ wa = false ∧ so = 0 ∧ la = 0 ∧ ti = 0 ∧ fr = 0 ∧ n2 = 0 ∧ n3 = 0 ∧ p.length ≤ 220 ∧ n1 ≤ 1000 ∧ 0 ≤ fl ∧ fl ≤ 3 ∧ -1 ≤ ve ∧ 0 ≤ la ∧ 0 ≤ fr ∧ n2 ≤ 7) = U
  have HU : Hid (decide (n1 = 0 ∧ fl = 0 ∧ wa = false ∧ so = 0 ∧ la = 0 ∧ ti = 0 ∧ fr = 0 ∧ n2 = 0 ∧ n3 = 0 ∧ p.length ≤ 220 ∧ n1 ≤ 1000 ∧ 0 ≤ fl ∧ fl ≤ 3 ∧ -1 ≤ ve ∧ 0 ≤ la ∧ 0 ≤ fr ∧ n2 ≤ 7) = U) := hU
  clear hU hO
  go_enter Tryd.func40, Tryd.ntmps40
  go_wp2_with fail
  refine ho.mono ?_
  rintro e w2 ⟨rfl, hB2⟩
  rw [← hw1] at hB2
  have hB2' : Below w.heap.size w w2 := HB1.out.trans (hB2.mono HB1.out.size)
  have HC2 : w2.heap[w.heap.size]? = some (.cells #[.int .u8 kd, .int .i64 xi, .int .i64 se, .int .i64 tu, .string (mkS p), .slice A1 n1 c1, .int .i64 fl, .int .i64 ve, .bool wa, .int .u8 so, .int .i64 la, .int .i64 ti, .int .i64 fr, .slice A2 n2 c2, .slice A3 n3 c3] 29 (0, 0)) := by rw [hB2.block _ (heap_lt HC1.out)]; exact HC1.out
  obtain ⟨w3, hw3⟩ : ∃ X, X = w2.alloc (.cells #[.bool true, .bool false, .bool false, .bool true, .bool false, .bool false, .bool false, .bool false, .bool false, .bool false] 114) := ⟨_, rfl⟩
  have hB3 : Below w2.heap.size w2 w3 := by rw [hw3]; exact al1 _ _
  have HB3 : Hid (Below w.heap.size w w3) := hB2'.trans (hB3.mono hB2'.size)
  have HC3 : Hid (w3.heap[w.heap.size]? = some (.cells #[.int .u8 kd, .int .i64 xi, .int .i64 se, .int .i64 tu, .string (mkS p), .slice A1 n1 c1, .int .i64 fl, .int .i64 ve, .bool wa, .int .u8 so, .int .i64 la, .int .i64 ti, .int .i64 fr, .slice A2 n2 c2, .slice A3 n3 c3] 29 (0, 0))) := by show _ = _; rw [hB3.block _ (heap_lt HC2)]; exact HC2
  have HH3 : Hid (w3.heap[w2.heap.size]? = some (.cells #[.bool true, .bool false, .bool false, .bool true, .bool false, .bool false, .bool false, .bool false, .bool false, .bool false] 114 (0, 0))) := by rw [hw3]; exact heap_alloc_new w2 _
  obtain ⟨z0, z1, z2, z3, z4, z5, z6, z7, z8, z9, z10, z11, z12, z13, z14⟩ := cells15 HC3.out
  rw [hw3] at z0 z1 z2 z3 z4 z5 z6 z7 z8 z9 z10 z11 z12 z13 z14
  clear ho hB2 hB2' hw1 HB1 HC1 HC2 hB3
  as_aux_lemma =>
  go_wp2
  all_goals
    go_ret
    rw [← hw3]
    refine ⟨retb' ?_, HB3.out⟩
    rw [← HU.out]
    first
      | (symm; rw [decide_eq_false_iff_not]; intro hh; simp_all; done)
      | (symm; rw [decide_eq_false_iff_not]; intro hh; simp_all; omega)
      | (symm; rw [decide_eq_true_eq]; simp_all [mkS_len]; done)
      | (symm; rw [decide_eq_true_eq]; simp_all [mkS_len]; omega)
      | (rw [Bool.eq_iff_iff]; simp only [decide_eq_true_eq]; simp_all [mkS_len]; done)
      | (rw [Bool.eq_iff_iff]; simp only [decide_eq_true_eq]; simp_all [mkS_len]; omega)
      | (rw [Bool.eq_iff_iff]; simp_all [mkS_len]; omega)
set_option maxRecDepth 100000 in
set_option maxHeartbeats 4000000 in
theorem rfitsSet (kd xi se tu fl ve so la ti fr : Int) (wa : Bool) (p : List UInt8) (A1 A2 A3 : Option Addr) (n1 n2 n3 c1 c2 c3 : Nat) (w : World) (hO : ∀ w', Calls Tryd.prog 73 #[.int .u8 kd] w' fun e w'' => e = .returned (.tuple #[.agg #[.bool true, .bool true, .bool false, .bool true, .bool false, .bool false, .bool false, .bool false, .bool false, .bool false], .bool true]) ∧ Below w'.heap.size w' w'') :
    Calls Tryd.prog 40 #[.agg #[.int .u8 kd, .int .i64 xi, .int .i64 se, .int .i64 tu, .string (mkS p), .slice A1 n1 c1, .int .i64 fl, .int .i64 ve, .bool wa, .int .u8 so, .int .i64 la, .int .i64 ti, .int .i64 fr, .slice A2 n2 c2, .slice A3 n3 c3]] w fun e w' => e = .returned (.bool (decide (fl = 0 ∧ wa = false ∧ so = 0 ∧ la = 0 ∧ ti = 0 ∧ fr = 0 ∧ n2 = 0 ∧ n3 = 0 ∧ p.length ≤ 220 ∧ n1 ≤ 1000 ∧ 0 ≤ fl ∧ fl ≤ 3 ∧ -1 ≤ ve ∧ 0 ≤ la ∧ 0 ≤ fr ∧ n2 ≤ 7))) ∧ Below w.heap.size w w' := by
  have hms : (mkS p).size = p.length := by simp [mkS, ByteArray.size]
  have hmt : (mkS p).toList = p := by rw [ByteArray.toList_eq]; simp [mkS]
  have hp0 : p.length = 0 ↔ p = [] := List.length_eq_zero_iff
  obtain ⟨w1, hw1⟩ : ∃ X, X = w.alloc (.cells #[.int .u8 kd, .int .i64 xi, .int .i64 se, .int .i64 tu, .string (mkS p), .slice A1 n1 c1, .int .i64 fl, .int .i64 ve, .bool wa, .int .u8 so, .int .i64 la, .int .i64 ti, .int .i64 fr, .slice A2 n2 c2, .slice A3 n3 c3] 29) := ⟨_, rfl⟩
  have hB1 : Below w.heap.size w w1 := by rw [hw1]; exact (Below.refl _ _).alloc (Nat.le_refl _) _
  have HB1 : Hid (Below w.heap.size w w1) := hB1
  have HC1 : Hid (w1.heap[w.heap.size]? = some (.cells #[.int .u8 kd, .int .i64 xi, .int .i64 se, .int .i64 tu, .string (mkS p), .slice A1 n1 c1, .int .i64 fl, .int .i64 ve, .bool wa, .int .u8 so, .int .i64 la, .int .i64 ti, .int .i64 fr, .slice A2 n2 c2, .slice A3 n3 c3] 29 (0, 0))) := by rw [hw1]; exact heap_alloc_new w _
  have ho := hO w1
  rw [hw1] at ho
  generalize hU : decide (fl = 0 ∧ wa = false ∧ so = 0 ∧ la = 0 ∧ ti = 0 ∧ fr = 0 ∧ n2 = 0 ∧ n3 = 0 ∧ p.length ≤ 220 ∧ n1 ≤ 1000 ∧ 0 ≤ fl ∧ fl ≤ 3 ∧ -1 ≤ ve ∧ 0 ≤ la ∧ 0 ≤ fr ∧ n2 ≤ 7) = U
  have HU : Hid (decide (fl = 0 ∧ wa = false ∧ so = 0 ∧ la = 0 ∧ ti = 0 ∧ fr = 0 ∧ n2 = 0 ∧ n3 = 0 ∧ p.length ≤ 220 ∧ n1 ≤ 1000 ∧ 0 ≤ fl ∧ fl ≤ 3 ∧ -1 ≤ ve ∧ 0 ≤ la ∧ 0 ≤ fr ∧ n2 ≤ 7) = U) := hU
  clear hU hO
  go_enter Tryd.func40, Tryd.ntmps40
  go_wp2_with fail
  refine ho.mono ?_
  rintro e w2 ⟨rfl, hB2⟩
  rw [← hw1] at hB2
  have hB2' : Below w.heap.size w w2 := HB1.out.trans (hB2.mono HB1.out.size)
  have HC2 : w2.heap[w.heap.size]? = some (.cells #[.int .u8 kd, .int .i64 xi, .int .i64 se, .int .i64 tu, .string (mkS p), .slice A1 n1 c1, .int .i64 fl, .int .i64 ve, .bool wa, .int .u8 so, .int .i64 la, .int .i64 ti, .int .i64 fr, .slice A2 n2 c2, .slice A3 n3 c3] 29 (0, 0)) := by rw [hB2.block _ (heap_lt HC1.out)]; exact HC1.out
  obtain ⟨w3, hw3⟩ : ∃ X, X = w2.alloc (.cells #[.bool true, .bool true, .bool false, .bool true, .bool false, .bool false, .bool false, .bool false, .bool false, .bool false] 114) := ⟨_, rfl⟩
  have hB3 : Below w2.heap.size w2 w3 := by rw [hw3]; exact al1 _ _
  have HB3 : Hid (Below w.heap.size w w3) := hB2'.trans (hB3.mono hB2'.size)
  have HC3 : Hid (w3.heap[w.heap.size]? = some (.cells #[.int .u8 kd, .int .i64 xi, .int .i64 se, .int .i64 tu, .string (mkS p), .slice A1 n1 c1, .int .i64 fl, .int .i64 ve, .bool wa, .int .u8 so, .int .i64 la, .int .i64 ti, .int .i64 fr, .slice A2 n2 c2, .slice A3 n3 c3] 29 (0, 0))) := by show _ = _; rw [hB3.block _ (heap_lt HC2)]; exact HC2
  have HH3 : Hid (w3.heap[w2.heap.size]? = some (.cells #[.bool true, .bool true, .bool false, .bool true, .bool false, .bool false, .bool false, .bool false, .bool false, .bool false] 114 (0, 0))) := by rw [hw3]; exact heap_alloc_new w2 _
  obtain ⟨z0, z1, z2, z3, z4, z5, z6, z7, z8, z9, z10, z11, z12, z13, z14⟩ := cells15 HC3.out
  rw [hw3] at z0 z1 z2 z3 z4 z5 z6 z7 z8 z9 z10 z11 z12 z13 z14
  clear ho hB2 hB2' hw1 HB1 HC1 HC2 hB3
  as_aux_lemma =>
  go_wp2
  all_goals
    go_ret
    rw [← hw3]
    refine ⟨retb' ?_, HB3.out⟩
    rw [← HU.out]
    first
      | (symm; rw [decide_eq_false_iff_not]; intro hh; simp_all; done)
      | (symm; rw [decide_eq_false_iff_not]; intro hh; simp_all; omega)
      | (symm; rw [decide_eq_true_eq]; simp_all [mkS_len]; done)
      | (symm; rw [decide_eq_true_eq]; simp_all [mkS_len]; omega)
      | (rw [Bool.eq_iff_iff]; simp only [decide_eq_true_eq]; simp_all [mkS_len]; done)
      | (rw [Bool.eq_iff_iff]; simp only [decide_eq_true_eq]; simp_all [mkS_len]; omega)
      | (rw [Bool.eq_iff_iff]; simp_all [mkS_len]; omega)
set_option maxRecDepth 100000 in
set_option maxHeartbeats 4000000 in
theorem rfitsGet (kd xi se tu fl ve so la ti fr : Int) (wa : Bool) (p : List UInt8) (A1 A2 A3 : Option Addr) (n1 n2 n3 c1 c2 c3 : Nat) (w : World) (hO : ∀ w', Calls Tryd.prog 73 #[.int .u8 kd] w' fun e w'' => e = .returned (.tuple #[.agg #[.bool true, .bool false, .bool false, .bool false, .bool true, .bool false, .bool false, .bool false, .bool false, .bool false], .bool true]) ∧ Below w'.heap.size w' w'') :
    Calls Tryd.prog 40 #[.agg #[.int .u8 kd, .int .i64 xi, .int .i64 se, .int .i64 tu, .string (mkS p), .slice A1 n1 c1, .int .i64 fl, .int .i64 ve, .bool wa, .int .u8 so, .int .i64 la, .int .i64 ti, .int .i64 fr, .slice A2 n2 c2, .slice A3 n3 c3]] w fun e w' => e = .returned (.bool (decide (n1 = 0 ∧ fl = 0 ∧ ve = 0 ∧ so = 0 ∧ la = 0 ∧ ti = 0 ∧ fr = 0 ∧ n2 = 0 ∧ n3 = 0 ∧ p.length ≤ 220 ∧ n1 ≤ 1000 ∧ 0 ≤ fl ∧ fl ≤ 3 ∧ -1 ≤ ve ∧ 0 ≤ la ∧ 0 ≤ fr ∧ n2 ≤ 7))) ∧ Below w.heap.size w w' := by
  have hms : (mkS p).size = p.length := by simp [mkS, ByteArray.size]
  have hmt : (mkS p).toList = p := by rw [ByteArray.toList_eq]; simp [mkS]
  have hp0 : p.length = 0 ↔ p = [] := List.length_eq_zero_iff
  obtain ⟨w1, hw1⟩ : ∃ X, X = w.alloc (.cells #[.int .u8 kd, .int .i64 xi, .int .i64 se, .int .i64 tu, .string (mkS p), .slice A1 n1 c1, .int .i64 fl, .int .i64 ve, .bool wa, .int .u8 so, .int .i64 la, .int .i64 ti, .int .i64 fr, .slice A2 n2 c2, .slice A3 n3 c3] 29) := ⟨_, rfl⟩
  have hB1 : Below w.heap.size w w1 := by rw [hw1]; exact (Below.refl _ _).alloc (Nat.le_refl _) _
  have HB1 : Hid (Below w.heap.size w w1) := hB1
  have HC1 : Hid (w1.heap[w.heap.size]? = some (.cells #[.int .u8 kd, .int .i64 xi, .int .i64 se, .int .i64 tu, .string (mkS p), .slice A1 n1 c1, .int .i64 fl, .int .i64 ve, .bool wa, .int .u8 so, .int .i64 la, .int .i64 ti, .int .i64 fr, .slice A2 n2 c2, .slice A3 n3 c3] 29 (0, 0))) := by rw [hw1]; exact heap_alloc_new w _
  have ho := hO w1
  rw [hw1] at ho
  generalize hU : decide (n1 = 0 ∧ fl = 0 ∧ ve = 0 ∧ so = 0 ∧ la = 0 ∧ ti = 0 ∧ fr = 0 ∧ n2 = 0 ∧ n3 = 0 ∧ p.length ≤ 220 ∧ n1 ≤ 1000 ∧ 0 ≤ fl ∧ fl ≤ 3 ∧ -1 ≤ ve ∧ 0 ≤ la ∧ 0 ≤ fr ∧ n2 ≤ 7) = U
  have HU : Hid (decide (n1 = 0 ∧ fl = 0 ∧ ve = 0 ∧ so = 0 ∧ la = 0 ∧ ti = 0 ∧ fr = 0 ∧ n2 = 0 ∧ n3 = 0 ∧ p.length ≤ 220 ∧ n1 ≤ 1000 ∧ 0 ≤ fl ∧ fl ≤ 3 ∧ -1 ≤ ve ∧ 0 ≤ la ∧ 0 ≤ fr ∧ n2 ≤ 7) = U) := hU
  clear hU hO
  go_enter Tryd.func40, Tryd.ntmps40
  go_wp2_with fail
  refine ho.mono ?_
  rintro e w2 ⟨rfl, hB2⟩
  rw [← hw1] at hB2
  have hB2' : Below w.heap.size w w2 := HB1.out.trans (hB2.mono HB1.out.size)
  have HC2 : w2.heap[w.heap.size]? = some (.cells #[.int .u8 kd, .int .i64 xi, .int .i64 se, .int .i64 tu, .string (mkS p), .slice A1 n1 c1, .int .i64 fl, .int .i64 ve, .bool wa, .int .u8 so, .int .i64 la, .int .i64 ti, .int .i64 fr, .slice A2 n2 c2, .slice A3 n3 c3] 29 (0, 0)) := by rw [hB2.block _ (heap_lt HC1.out)]; exact HC1.out
  obtain ⟨w3, hw3⟩ : ∃ X, X = w2.alloc (.cells #[.bool true, .bool false, .bool false, .bool false, .bool true, .bool false, .bool false, .bool false, .bool false, .bool false] 114) := ⟨_, rfl⟩
  have hB3 : Below w2.heap.size w2 w3 := by rw [hw3]; exact al1 _ _
  have HB3 : Hid (Below w.heap.size w w3) := hB2'.trans (hB3.mono hB2'.size)
  have HC3 : Hid (w3.heap[w.heap.size]? = some (.cells #[.int .u8 kd, .int .i64 xi, .int .i64 se, .int .i64 tu, .string (mkS p), .slice A1 n1 c1, .int .i64 fl, .int .i64 ve, .bool wa, .int .u8 so, .int .i64 la, .int .i64 ti, .int .i64 fr, .slice A2 n2 c2, .slice A3 n3 c3] 29 (0, 0))) := by show _ = _; rw [hB3.block _ (heap_lt HC2)]; exact HC2
  have HH3 : Hid (w3.heap[w2.heap.size]? = some (.cells #[.bool true, .bool false, .bool false, .bool false, .bool true, .bool false, .bool false, .bool false, .bool false, .bool false] 114 (0, 0))) := by rw [hw3]; exact heap_alloc_new w2 _
  obtain ⟨z0, z1, z2, z3, z4, z5, z6, z7, z8, z9, z10, z11, z12, z13, z14⟩ := cells15 HC3.out
  rw [hw3] at z0 z1 z2 z3 z4 z5 z6 z7 z8 z9 z10 z11 z12 z13 z14
  clear ho hB2 hB2' hw1 HB1 HC1 HC2 hB3
  as_aux_lemma =>
  go_wp2
  all_goals
    go_ret
    rw [← hw3]
    refine ⟨retb' ?_, HB3.out⟩
    rw [← HU.out]
    first
      | (symm; rw [decide_eq_false_iff_not]; intro hh; simp_all; done)
      | (symm; rw [decide_eq_false_iff_not]; intro hh; simp_all; omega)
      | (symm; rw [decide_eq_true_eq]; simp_all [mkS_len]; done)
      | (symm; rw [decide_eq_true_eq]; simp_all [mkS_len]; omega)
      | (rw [Bool.eq_iff_iff]; simp only [decide_eq_true_eq]; simp_all [mkS_len]; done)
      | (rw [Bool.eq_iff_iff]; simp only [decide_eq_true_eq]; simp_all [mkS_len]; omega)
      | (rw [Bool.eq_iff_iff]; simp_all [mkS_len]; omega)
end Go.Proofs.YtmojplgoohnmdaaDoor.AK
