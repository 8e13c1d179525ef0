/- The walks of the document's own table of calls, and of its fits. -/
import Derived.Test.YtmojplgoohnmdaaDoorRe6
import Derived.Test.YtmojplgoohnmdaaDoorAkF
namespace Go.Proofs.YtmojplgoohnmdaaDoor.AK
set_option linter.unusedSimpArgs false
set_option linter.unusedVariables false
open Go.RowKit
set_option linter.unusedVariables false
set_option linter.unusedSimpArgs false

theorem retb' {a b : Bool} (h : a = b) : Ending.returned (.bool a) = .returned (.bool b) := by rw [h]
theorem al1 (w : World) (o : Obj) : Below w.heap.size w (w.alloc o) := (Below.refl _ _).alloc (Nat.le_refl _) _
theorem mkS_len (p : List UInt8) : (mkS p).size = p.length := by simp [mkS, ByteArray.size]
theorem nebQ (a b : Int) (h : a ≠ b) : (a == b) = false ∧ (a != b) = true := by simp [h]
def hasV (k : Int) : Value := .agg #[.bool (has k 0), .bool (has k 1), .bool (has k 2), .bool (has k 3), .bool (has k 4), .bool (has k 5), .bool (has k 6), .bool (has k 7), .bool (has k 9), .bool (has k 10)]
set_option maxRecDepth 100000 in
theorem rOf0c (w : World) : Calls Tryd.prog 73 #[.int .u8 0] w fun e w' => e = .returned (.tuple #[.agg #[.bool false, .bool false, .bool false, .bool false, .bool false, .bool false, .bool false, .bool false, .bool false, .bool false], .bool false]) ∧ Below w.heap.size w w' := by
  go_enter Tryd.func73, Tryd.ntmps73
  go_wp2
  refine bodyPost_ret (v := .tuple #[.agg #[.bool false, .bool false, .bool false, .bool false, .bool false, .bool false, .bool false, .bool false, .bool false, .bool false], .bool false]) (by simp [results, Tryd.results73, go_sem]) rfl ?_
  exact ⟨rfl, al1 _ _⟩
theorem rOf0 (w : World) : Calls Tryd.prog 73 #[.int .u8 0] w fun e w' => e = .returned (.tuple #[hasV 0, .bool (okQ 0)]) ∧ Below w.heap.size w w' := by
  obtain ⟨b0, b1, b2, b3, b4, b5, b6, b7, b8, b9, b10, b11, b12⟩ := bits0
  have hv : (Value.tuple #[hasV 0, .bool (okQ 0)]) = .tuple #[.agg #[.bool false, .bool false, .bool false, .bool false, .bool false, .bool false, .bool false, .bool false, .bool false, .bool false], .bool false] := by
    unfold hasV
    rw [b0, b1, b2, b3, b4, b5, b6, b7, b9, b10, show okQ 0 = false by decide]
  rw [hv]
  exact rOf0c w
set_option maxRecDepth 100000 in
theorem rOf1c (w : World) : Calls Tryd.prog 73 #[.int .u8 1] w fun e w' => e = .returned (.tuple #[.agg #[.bool false, .bool false, .bool false, .bool false, .bool false, .bool false, .bool true, .bool true, .bool false, .bool false], .bool true]) ∧ Below w.heap.size w w' := by
  go_enter Tryd.func73, Tryd.ntmps73
  go_wp2
  refine bodyPost_ret (v := .tuple #[.agg #[.bool false, .bool false, .bool false, .bool false, .bool false, .bool false, .bool true, .bool true, .bool false, .bool false], .bool true]) (by simp [results, Tryd.results73, go_sem]) rfl ?_
  exact ⟨rfl, al1 _ _⟩
theorem rOf1 (w : World) : Calls Tryd.prog 73 #[.int .u8 1] w fun e w' => e = .returned (.tuple #[hasV 1, .bool (okQ 1)]) ∧ Below w.heap.size w w' := by
  obtain ⟨b0, b1, b2, b3, b4, b5, b6, b7, b8, b9, b10, b11, b12⟩ := bits1
  have hv : (Value.tuple #[hasV 1, .bool (okQ 1)]) = .tuple #[.agg #[.bool false, .bool false, .bool false, .bool false, .bool false, .bool false, .bool true, .bool true, .bool false, .bool false], .bool true] := by
    unfold hasV
    rw [b0, b1, b2, b3, b4, b5, b6, b7, b9, b10, show okQ 1 = true by decide]
  rw [hv]
  exact rOf1c w
set_option maxRecDepth 100000 in
theorem rOf2c (w : World) : Calls Tryd.prog 73 #[.int .u8 2] w fun e w' => e = .returned (.tuple #[.agg #[.bool false, .bool false, .bool false, .bool false, .bool false, .bool false, .bool false, .bool false, .bool false, .bool false], .bool true]) ∧ Below w.heap.size w w' := by
  go_enter Tryd.func73, Tryd.ntmps73
  go_wp2
  refine bodyPost_ret (v := .tuple #[.agg #[.bool false, .bool false, .bool false, .bool false, .bool false, .bool false, .bool false, .bool false, .bool false, .bool false], .bool true]) (by simp [results, Tryd.results73, go_sem]) rfl ?_
  exact ⟨rfl, al1 _ _⟩
theorem rOf2 (w : World) : Calls Tryd.prog 73 #[.int .u8 2] w fun e w' => e = .returned (.tuple #[hasV 2, .bool (okQ 2)]) ∧ Below w.heap.size w w' := by
  obtain ⟨b0, b1, b2, b3, b4, b5, b6, b7, b8, b9, b10, b11, b12⟩ := bits2
  have hv : (Value.tuple #[hasV 2, .bool (okQ 2)]) = .tuple #[.agg #[.bool false, .bool false, .bool false, .bool false, .bool false, .bool false, .bool false, .bool false, .bool false, .bool false], .bool true] := by
    unfold hasV
    rw [b0, b1, b2, b3, b4, b5, b6, b7, b9, b10, show okQ 2 = true by decide]
  rw [hv]
  exact rOf2c w
set_option maxRecDepth 100000 in
theorem rOf3c (w : World) : Calls Tryd.prog 73 #[.int .u8 3] w fun e w' => e = .returned (.tuple #[.agg #[.bool true, .bool true, .bool true, .bool false, .bool false, .bool false, .bool false, .bool false, .bool false, .bool false], .bool true]) ∧ Below w.heap.size w w' := by
  go_enter Tryd.func73, Tryd.ntmps73
  go_wp2
  refine bodyPost_ret (v := .tuple #[.agg #[.bool true, .bool true, .bool true, .bool false, .bool false, .bool false, .bool false, .bool false, .bool false, .bool false], .bool true]) (by simp [results, Tryd.results73, go_sem]) rfl ?_
  exact ⟨rfl, al1 _ _⟩
theorem rOf3 (w : World) : Calls Tryd.prog 73 #[.int .u8 3] w fun e w' => e = .returned (.tuple #[hasV 3, .bool (okQ 3)]) ∧ Below w.heap.size w w' := by
  obtain ⟨b0, b1, b2, b3, b4, b5, b6, b7, b8, b9, b10, b11, b12⟩ := bits3
  have hv : (Value.tuple #[hasV 3, .bool (okQ 3)]) = .tuple #[.agg #[.bool true, .bool true, .bool true, .bool false, .bool false, .bool false, .bool false, .bool false, .bool false, .bool false], .bool true] := by
    unfold hasV
    rw [b0, b1, b2, b3, b4, b5, b6, b7, b9, b10, show okQ 3 = true by decide]
  rw [hv]
  exact rOf3c w
set_option maxRecDepth 100000 in
theorem rOf4c (w : World) : Calls Tryd.prog 73 #[.int .u8 4] w fun e w' => e = .returned (.tuple #[.agg #[.bool true, .bool false, .bool false, .bool true, .bool false, .bool false, .bool false, .bool false, .bool false, .bool false], .bool true]) ∧ Below w.heap.size w w' := by
  go_enter Tryd.func73, Tryd.ntmps73
  go_wp2
  refine bodyPost_ret (v := .tuple #[.agg #[.bool true, .bool false, .bool false, .bool true, .bool false, .bool false, .bool false, .bool false, .bool false, .bool false], .bool true]) (by simp [results, Tryd.results73, go_sem]) rfl ?_
  exact ⟨rfl, al1 _ _⟩
theorem rOf4 (w : World) : Calls Tryd.prog 73 #[.int .u8 4] w fun e w' => e = .returned (.tuple #[hasV 4, .bool (okQ 4)]) ∧ Below w.heap.size w w' := by
  obtain ⟨b0, b1, b2, b3, b4, b5, b6, b7, b8, b9, b10, b11, b12⟩ := bits4
  have hv : (Value.tuple #[hasV 4, .bool (okQ 4)]) = .tuple #[.agg #[.bool true, .bool false, .bool false, .bool true, .bool false, .bool false, .bool false, .bool false, .bool false, .bool false], .bool true] := by
    unfold hasV
    rw [b0, b1, b2, b3, b4, b5, b6, b7, b9, b10, show okQ 4 = true by decide]
  rw [hv]
  exact rOf4c w
set_option maxRecDepth 100000 in
theorem rOf5c (w : World) : Calls Tryd.prog 73 #[.int .u8 5] w fun e w' => e = .returned (.tuple #[.agg #[.bool true, .bool true, .bool false, .bool true, .bool false, .bool false, .bool false, .bool false, .bool false, .bool false], .bool true]) ∧ Below w.heap.size w w' := by
  go_enter Tryd.func73, Tryd.ntmps73
  go_wp2
  refine bodyPost_ret (v := .tuple #[.agg #[.bool true, .bool true, .bool false, .bool true, .bool false, .bool false, .bool false, .bool false, .bool false, .bool false], .bool true]) (by simp [results, Tryd.results73, go_sem]) rfl ?_
  exact ⟨rfl, al1 _ _⟩
theorem rOf5 (w : World) : Calls Tryd.prog 73 #[.int .u8 5] w fun e w' => e = .returned (.tuple #[hasV 5, .bool (okQ 5)]) ∧ Below w.heap.size w w' := by
  obtain ⟨b0, b1, b2, b3, b4, b5, b6, b7, b8, b9, b10, b11, b12⟩ := bits5
  have hv : (Value.tuple #[hasV 5, .bool (okQ 5)]) = .tuple #[.agg #[.bool true, .bool true, .bool false, .bool true, .bool false, .bool false, .bool false, .bool false, .bool false, .bool false], .bool true] := by
    unfold hasV
    rw [b0, b1, b2, b3, b4, b5, b6, b7, b9, b10, show okQ 5 = true by decide]
  rw [hv]
  exact rOf5c w
set_option maxRecDepth 100000 in
theorem rOf6c (w : World) : Calls Tryd.prog 73 #[.int .u8 6] w fun e w' => e = .returned (.tuple #[.agg #[.bool true, .bool false, .bool false, .bool true, .bool false, .bool false, .bool false, .bool false, .bool false, .bool false], .bool true]) ∧ Below w.heap.size w w' := by
  go_enter Tryd.func73, Tryd.ntmps73
  go_wp2
  refine bodyPost_ret (v := .tuple #[.agg #[.bool true, .bool false, .bool false, .bool true, .bool false, .bool false, .bool false, .bool false, .bool false, .bool false], .bool true]) (by simp [results, Tryd.results73, go_sem]) rfl ?_
  exact ⟨rfl, al1 _ _⟩
theorem rOf6 (w : World) : Calls Tryd.prog 73 #[.int .u8 6] w fun e w' => e = .returned (.tuple #[hasV 6, .bool (okQ 6)]) ∧ Below w.heap.size w w' := by
  obtain ⟨b0, b1, b2, b3, b4, b5, b6, b7, b8, b9, b10, b11, b12⟩ := bits6
  have hv : (Value.tuple #[hasV 6, .bool (okQ 6)]) = .tuple #[.agg #[.bool true, .bool false, .bool false, .bool true, .bool false, .bool false, .bool false, .bool false, .bool false, .bool false], .bool true] := by
    unfold hasV
    rw [b0, b1, b2, b3, b4, b5, b6, b7, b9, b10, show okQ 6 = true by decide]
  rw [hv]
  exact rOf6c w
set_option maxRecDepth 100000 in
theorem rOf7c (w : World) : Calls Tryd.prog 73 #[.int .u8 7] w fun e w' => e = .returned (.tuple #[.agg #[.bool true, .bool false, .bool false, .bool false, .bool true, .bool false, .bool false, .bool false, .bool false, .bool false], .bool true]) ∧ Below w.heap.size w w' := by
  go_enter Tryd.func73, Tryd.ntmps73
  go_wp2
  refine bodyPost_ret (v := .tuple #[.agg #[.bool true, .bool false, .bool false, .bool false, .bool true, .bool false, .bool false, .bool false, .bool false, .bool false], .bool true]) (by simp [results, Tryd.results73, go_sem]) rfl ?_
  exact ⟨rfl, al1 _ _⟩
theorem rOf7 (w : World) : Calls Tryd.prog 73 #[.int .u8 7] w fun e w' => e = .returned (.tuple #[hasV 7, .bool (okQ 7)]) ∧ Below w.heap.size w w' := by
  obtain ⟨b0, b1, b2, b3, b4, b5, b6, b7, b8, b9, b10, b11, b12⟩ := bits7
  have hv : (Value.tuple #[hasV 7, .bool (okQ 7)]) = .tuple #[.agg #[.bool true, .bool false, .bool false, .bool false, .bool true, .bool false, .bool false, .bool false, .bool false, .bool false], .bool true] := by
    unfold hasV
    rw [b0, b1, b2, b3, b4, b5, b6, b7, b9, b10, show okQ 7 = true by decide]
  rw [hv]
  exact rOf7c w
set_option maxRecDepth 100000 in
theorem rOf8c (w : World) : Calls Tryd.prog 73 #[.int .u8 8] w fun e w' => e = .returned (.tuple #[.agg #[.bool true, .bool false, .bool false, .bool false, .bool true, .bool false, .bool false, .bool false, .bool false, .bool false], .bool true]) ∧ Below w.heap.size w w' := by
  go_enter Tryd.func73, Tryd.ntmps73
  go_wp2
  refine bodyPost_ret (v := .tuple #[.agg #[.bool true, .bool false, .bool false, .bool false, .bool true, .bool false, .bool false, .bool false, .bool false, .bool false], .bool true]) (by simp [results, Tryd.results73, go_sem]) rfl ?_
  exact ⟨rfl, al1 _ _⟩
theorem rOf8 (w : World) : Calls Tryd.prog 73 #[.int .u8 8] w fun e w' => e = .returned (.tuple #[hasV 8, .bool (okQ 8)]) ∧ Below w.heap.size w w' := by
  obtain ⟨b0, b1, b2, b3, b4, b5, b6, b7, b8, b9, b10, b11, b12⟩ := bits8
  have hv : (Value.tuple #[hasV 8, .bool (okQ 8)]) = .tuple #[.agg #[.bool true, .bool false, .bool false, .bool false, .bool true, .bool false, .bool false, .bool false, .bool false, .bool false], .bool true] := by
    unfold hasV
    rw [b0, b1, b2, b3, b4, b5, b6, b7, b9, b10, show okQ 8 = true by decide]
  rw [hv]
  exact rOf8c w
set_option maxRecDepth 100000 in
theorem rOf9c (w : World) : Calls Tryd.prog 73 #[.int .u8 9] w fun e w' => e = .returned (.tuple #[.agg #[.bool true, .bool false, .bool false, .bool false, .bool true, .bool false, .bool false, .bool false, .bool false, .bool false], .bool true]) ∧ Below w.heap.size w w' := by
  go_enter Tryd.func73, Tryd.ntmps73
  go_wp2
  refine bodyPost_ret (v := .tuple #[.agg #[.bool true, .bool false, .bool false, .bool false, .bool true, .bool false, .bool false, .bool false, .bool false, .bool false], .bool true]) (by simp [results, Tryd.results73, go_sem]) rfl ?_
  exact ⟨rfl, al1 _ _⟩
theorem rOf9 (w : World) : Calls Tryd.prog 73 #[.int .u8 9] w fun e w' => e = .returned (.tuple #[hasV 9, .bool (okQ 9)]) ∧ Below w.heap.size w w' := by
  obtain ⟨b0, b1, b2, b3, b4, b5, b6, b7, b8, b9, b10, b11, b12⟩ := bits9
  have hv : (Value.tuple #[hasV 9, .bool (okQ 9)]) = .tuple #[.agg #[.bool true, .bool false, .bool false, .bool false, .bool true, .bool false, .bool false, .bool false, .bool false, .bool false], .bool true] := by
    unfold hasV
    rw [b0, b1, b2, b3, b4, b5, b6, b7, b9, b10, show okQ 9 = true by decide]
  rw [hv]
  exact rOf9c w
set_option maxRecDepth 100000 in
theorem rOf10c (w : World) : Calls Tryd.prog 73 #[.int .u8 10] w fun e w' => e = .returned (.tuple #[.agg #[.bool false, .bool false, .bool false, .bool false, .bool false, .bool false, .bool false, .bool false, .bool false, .bool false], .bool true]) ∧ Below w.heap.size w w' := by
  go_enter Tryd.func73, Tryd.ntmps73
  go_wp2
  refine bodyPost_ret (v := .tuple #[.agg #[.bool false, .bool false, .bool false, .bool false, .bool false, .bool false, .bool false, .bool false, .bool false, .bool false], .bool true]) (by simp [results, Tryd.results73, go_sem]) rfl ?_
  exact ⟨rfl, al1 _ _⟩
theorem rOf10 (w : World) : Calls Tryd.prog 73 #[.int .u8 10] w fun e w' => e = .returned (.tuple #[hasV 10, .bool (okQ 10)]) ∧ Below w.heap.size w w' := by
  obtain ⟨b0, b1, b2, b3, b4, b5, b6, b7, b8, b9, b10, b11, b12⟩ := bits10
  have hv : (Value.tuple #[hasV 10, .bool (okQ 10)]) = .tuple #[.agg #[.bool false, .bool false, .bool false, .bool false, .bool false, .bool false, .bool false, .bool false, .bool false, .bool false], .bool true] := by
    unfold hasV
    rw [b0, b1, b2, b3, b4, b5, b6, b7, b9, b10, show okQ 10 = true by decide]
  rw [hv]
  exact rOf10c w
set_option maxRecDepth 100000 in
theorem rOf11c (w : World) : Calls Tryd.prog 73 #[.int .u8 11] w fun e w' => e = .returned (.tuple #[.agg #[.bool false, .bool false, .bool false, .bool false, .bool false, .bool false, .bool false, .bool false, .bool false, .bool true], .bool true]) ∧ Below w.heap.size w w' := by
  go_enter Tryd.func73, Tryd.ntmps73
  go_wp2
  refine bodyPost_ret (v := .tuple #[.agg #[.bool false, .bool false, .bool false, .bool false, .bool false, .bool false, .bool false, .bool false, .bool false, .bool true], .bool true]) (by simp [results, Tryd.results73, go_sem]) rfl ?_
  exact ⟨rfl, al1 _ _⟩
theorem rOf11 (w : World) : Calls Tryd.prog 73 #[.int .u8 11] w fun e w' => e = .returned (.tuple #[hasV 11, .bool (okQ 11)]) ∧ Below w.heap.size w w' := by
  obtain ⟨b0, b1, b2, b3, b4, b5, b6, b7, b8, b9, b10, b11, b12⟩ := bits11
  have hv : (Value.tuple #[hasV 11, .bool (okQ 11)]) = .tuple #[.agg #[.bool false, .bool false, .bool false, .bool false, .bool false, .bool false, .bool false, .bool false, .bool false, .bool true], .bool true] := by
    unfold hasV
    rw [b0, b1, b2, b3, b4, b5, b6, b7, b9, b10, show okQ 11 = true by decide]
  rw [hv]
  exact rOf11c w
set_option maxRecDepth 100000 in
theorem rOf12c (w : World) : Calls Tryd.prog 73 #[.int .u8 12] w fun e w' => e = .returned (.tuple #[.agg #[.bool false, .bool false, .bool false, .bool false, .bool false, .bool false, .bool false, .bool false, .bool true, .bool false], .bool true]) ∧ Below w.heap.size w w' := by
  go_enter Tryd.func73, Tryd.ntmps73
  go_wp2
  refine bodyPost_ret (v := .tuple #[.agg #[.bool false, .bool false, .bool false, .bool false, .bool false, .bool false, .bool false, .bool false, .bool true, .bool false], .bool true]) (by simp [results, Tryd.results73, go_sem]) rfl ?_
  exact ⟨rfl, al1 _ _⟩
theorem rOf12 (w : World) : Calls Tryd.prog 73 #[.int .u8 12] w fun e w' => e = .returned (.tuple #[hasV 12, .bool (okQ 12)]) ∧ Below w.heap.size w w' := by
  obtain ⟨b0, b1, b2, b3, b4, b5, b6, b7, b8, b9, b10, b11, b12⟩ := bits12
  have hv : (Value.tuple #[hasV 12, .bool (okQ 12)]) = .tuple #[.agg #[.bool false, .bool false, .bool false, .bool false, .bool false, .bool false, .bool false, .bool false, .bool true, .bool false], .bool true] := by
    unfold hasV
    rw [b0, b1, b2, b3, b4, b5, b6, b7, b9, b10, show okQ 12 = true by decide]
  rw [hv]
  exact rOf12c w
set_option maxRecDepth 100000 in
theorem rOf13c (w : World) : Calls Tryd.prog 73 #[.int .u8 13] w fun e w' => e = .returned (.tuple #[.agg #[.bool false, .bool false, .bool false, .bool false, .bool false, .bool false, .bool false, .bool false, .bool false, .bool false], .bool true]) ∧ Below w.heap.size w w' := by
  go_enter Tryd.func73, Tryd.ntmps73
  go_wp2
  refine bodyPost_ret (v := .tuple #[.agg #[.bool false, .bool false, .bool false, .bool false, .bool false, .bool false, .bool false, .bool false, .bool false, .bool false], .bool true]) (by simp [results, Tryd.results73, go_sem]) rfl ?_
  exact ⟨rfl, al1 _ _⟩
theorem rOf13 (w : World) : Calls Tryd.prog 73 #[.int .u8 13] w fun e w' => e = .returned (.tuple #[hasV 13, .bool (okQ 13)]) ∧ Below w.heap.size w w' := by
  obtain ⟨b0, b1, b2, b3, b4, b5, b6, b7, b8, b9, b10, b11, b12⟩ := bits13
  have hv : (Value.tuple #[hasV 13, .bool (okQ 13)]) = .tuple #[.agg #[.bool false, .bool false, .bool false, .bool false, .bool false, .bool false, .bool false, .bool false, .bool false, .bool false], .bool true] := by
    unfold hasV
    rw [b0, b1, b2, b3, b4, b5, b6, b7, b9, b10, show okQ 13 = true by decide]
  rw [hv]
  exact rOf13c w
set_option maxRecDepth 100000 in
theorem rOf14c (w : World) : Calls Tryd.prog 73 #[.int .u8 14] w fun e w' => e = .returned (.tuple #[.agg #[.bool true, .bool false, .bool false, .bool false, .bool false, .bool true, .bool true, .bool false, .bool false, .bool false], .bool true]) ∧ Below w.heap.size w w' := by
  go_enter Tryd.func73, Tryd.ntmps73
  go_wp2
  refine bodyPost_ret (v := .tuple #[.agg #[.bool true, .bool false, .bool false, .bool false, .bool false, .bool true, .bool true, .bool false, .bool false, .bool false], .bool true]) (by simp [results, Tryd.results73, go_sem]) rfl ?_
  exact ⟨rfl, al1 _ _⟩
theorem rOf14 (w : World) : Calls Tryd.prog 73 #[.int .u8 14] w fun e w' => e = .returned (.tuple #[hasV 14, .bool (okQ 14)]) ∧ Below w.heap.size w w' := by
  obtain ⟨b0, b1, b2, b3, b4, b5, b6, b7, b8, b9, b10, b11, b12⟩ := bits14
  have hv : (Value.tuple #[hasV 14, .bool (okQ 14)]) = .tuple #[.agg #[.bool true, .bool false, .bool false, .bool false, .bool false, .bool true, .bool true, .bool false, .bool false, .bool false], .bool true] := by
    unfold hasV
    rw [b0, b1, b2, b3, b4, b5, b6, b7, b9, b10, show okQ 14 = true by decide]
  rw [hv]
  exact rOf14c w
set_option maxRecDepth 100000 in
theorem rOf_big (k : Int) (hk : 15 ≤ k) (w : World) : Calls Tryd.prog 73 #[.int .u8 k] w fun e w' => e = .returned (.tuple #[hasV k, .bool (okQ k)]) ∧ Below w.heap.size w w' := by
  have hok : okQ k = false := by unfold okQ; simp; omega
  have hv : (Value.tuple #[hasV k, .bool (okQ k)]) = .tuple #[.agg #[.bool false, .bool false, .bool false, .bool false, .bool false, .bool false, .bool false, .bool false, .bool false, .bool false], .bool false] := by
    unfold hasV
    rw [has_big hk 0, has_big hk 1, has_big hk 2, has_big hk 3, has_big hk 4, has_big hk 5, has_big hk 6, has_big hk 7, has_big hk 9, has_big hk 10, hok]
  rw [hv]
  clear hv hok
  have e1 := (nebQ k 1 (by omega)).1
  have e2 := (nebQ k 2 (by omega)).1
  have e3 := (nebQ k 3 (by omega)).1
  have e4 := (nebQ k 4 (by omega)).1
  have e5 := (nebQ k 5 (by omega)).1
  have e6 := (nebQ k 6 (by omega)).1
  have e7 := (nebQ k 7 (by omega)).1
  have e8 := (nebQ k 8 (by omega)).1
  have e9 := (nebQ k 9 (by omega)).1
  have e10 := (nebQ k 10 (by omega)).1
  have e11 := (nebQ k 11 (by omega)).1
  have e12 := (nebQ k 12 (by omega)).1
  have e13 := (nebQ k 13 (by omega)).1
  have e14 := (nebQ k 14 (by omega)).1
  go_enter Tryd.func73, Tryd.ntmps73
  go_wp2
  refine bodyPost_ret (v := .tuple #[.agg #[.bool false, .bool false, .bool false, .bool false, .bool false, .bool false, .bool false, .bool false, .bool false, .bool false], .bool false]) (by simp [results, Tryd.results73, go_sem]) rfl ?_
  exact ⟨rfl, al1 _ _⟩
theorem rOf_any (k : Int) (hk : 0 ≤ k) (w : World) : Calls Tryd.prog 73 #[.int .u8 k] w fun e w' => e = .returned (.tuple #[hasV k, .bool (okQ k)]) ∧ Below w.heap.size w w' :=
  kind_cases (P := fun k => Calls Tryd.prog 73 #[.int .u8 k] w fun e w' => e = .returned (.tuple #[hasV k, .bool (okQ k)]) ∧ Below w.heap.size w w') (rOf0 w) (rOf1 w) (rOf2 w) (rOf3 w) (rOf4 w) (rOf5 w) (rOf6 w) (rOf7 w) (rOf8 w) (rOf9 w) (rOf10 w) (rOf11 w) (rOf12 w) (rOf13 w) (rOf14 w) (fun k h => rOf_big k h w) k hk
end Go.Proofs.YtmojplgoohnmdaaDoor.AK
