/- The walk of idle. -/
import Derived.Test.YtmojplgoohnmdaaDoorAkW
namespace Go.Proofs.YtmojplgoohnmdaaDoor.AK
set_option linter.unusedVariables false
open Go.RowKit
set_option linter.unusedVariables false

set_option maxRecDepth 100000 in
theorem may_any (T m : Int) (z : Bool) (pb : Nat) (w : World) (hc : w.cell? ⟨pb, 0, none⟩ = some (.int .u16 T)) :
    Calls Tryd.prog 94 #[.int .u16 m, .bool z, .pointer (some ⟨pb, 0, none⟩)] w fun e w' => e = .returned (.bool (z || (bits BinOp.and IntKind.u16 T m != 0))) ∧ w' = w := by
  have hh := have_any T m w
  generalize (bits BinOp.and IntKind.u16 T m != 0) = h at hh ⊢
  cases z with
  | true =>
    go_enter Tryd.func94, Tryd.ntmps94
    go_wp2_with fail
    go_ret
    exact ⟨rfl, rfl⟩
  | false =>
    go_enter Tryd.func94, Tryd.ntmps94
    go_wp2_with fail
    refine hh.mono ?_
    rintro e w' ⟨rfl, rfl⟩
    go_wp2
    go_ret
    exact ⟨rfl, rfl⟩
set_option maxRecDepth 100000 in
theorem must_any (T m : Int) (z : Bool) (pb : Nat) (w : World) (hc : w.cell? ⟨pb, 0, none⟩ = some (.int .u16 T)) :
    Calls Tryd.prog 95 #[.int .u16 m, .bool z, .pointer (some ⟨pb, 0, none⟩)] w fun e w' => e = .returned (.bool (z != (bits BinOp.and IntKind.u16 T m != 0))) ∧ w' = w := by
  have hh := have_any T m w
  generalize (bits BinOp.and IntKind.u16 T m != 0) = h at hh ⊢
  go_enter Tryd.func95, Tryd.ntmps95
  go_wp2_with fail
  refine hh.mono ?_
  rintro e w' ⟨rfl, rfl⟩
  go_wp2
  go_ret
  exact ⟨rfl, rfl⟩
theorem zeq (n : Int) : (n == 0) = decide (n = 0) := by
  by_cases h : n = 0 <;> simp [h]
theorem zlen (n : Nat) : ((n : Int) == 0) = decide (n = 0) := by
  by_cases h : n = 0 <;> simp [h]
theorem zpath (p : List UInt8) : (mkS p).toList.isEmpty = decide (p = []) := by
  rw [show (mkS p).toList = p by rw [ByteArray.toList_eq]; simp [mkS]]
  cases p <;> simp
set_option maxRecDepth 100000 in
set_option maxHeartbeats 40000000 in
theorem idle_any (f : Qf) (A1 A2 A3 : Option Addr) (c1 c2 c3 : Nat) (w : World) (hL : QL w) (hk : 0 ≤ f.kind ∧ f.kind < 256) :
    Calls Tryd.prog 75 #[.agg #[.int .u8 f.kind, .int .i64 f.xid, .int .i64 f.session, .int .i64 f.turn, .string (mkS f.path), .slice A1 f.data.length c1, .int .i64 f.flags, .int .i64 f.version, .bool f.watch, .int .u8 f.sort, .int .i64 f.last, .int .i64 f.timeout, .int .i64 f.frm, .slice A2 f.mems.length c2, .slice A3 f.np c3]] w fun e w' => e = .returned (.bool (idleB f)) ∧ Below w.heap.size w w' := by
  obtain ⟨w1, hw1⟩ : ∃ X, X = w.alloc (.cells #[.int .u8 f.kind, .int .i64 f.xid, .int .i64 f.session, .int .i64 f.turn, .string (mkS f.path), .slice A1 f.data.length c1, .int .i64 f.flags, .int .i64 f.version, .bool f.watch, .int .u8 f.sort, .int .i64 f.last, .int .i64 f.timeout, .int .i64 f.frm, .slice A2 f.mems.length c2, .slice A3 f.np c3] 29) := ⟨_, rfl⟩
  have hB1 : Below w.heap.size w w1 := by rw [hw1]; exact (Below.refl _ _).alloc (Nat.le_refl _) _
  have ho := of_any f.kind hk w1 (hL.below hB1)
  obtain ⟨w2, hw2⟩ : ∃ X, X = w1.alloc (.cells #[.int .u16 (kQ f.kind.toNat)] 74) := ⟨_, rfl⟩
  have hs1 : w1.heap.size = w.heap.size + 1 := by rw [hw1]; simp
  have hB2 : Below w.heap.size w w2 := by rw [hw2]; exact hB1.alloc hB1.size _
  have HB2 : Hid (Below w.heap.size w w2) := hB2
  have hc2 : w2.cell? ⟨w.heap.size + 1, 0, none⟩ = some (.int .u16 (kQ f.kind.toNat)) := by
    rw [hw2, ← hs1, cell_at (heap_alloc_new w1 _)]; rfl
  have q0 := may_any (kQ f.kind.toNat) 1 (mkS f.path).toList.isEmpty (w.heap.size + 1) w2 hc2
  rw [show (((mkS f.path).toList.isEmpty : Bool) || (bits BinOp.and IntKind.u16 (kQ f.kind.toNat) 1 != 0)) = (decide (f.path = []) || has f.kind 0) by rw [show (1 : Int) = 2 ^ 0 by decide, has_bits hk 0 (by decide)] <;> first | simp only [zpath] | simp only [zlen] | simp only [zeq]] at q0
  have q1 := may_any (kQ f.kind.toNat) 2 ((f.data.length : Int) == 0) (w.heap.size + 1) w2 hc2
  rw [show ((((f.data.length : Int) == 0) : Bool) || (bits BinOp.and IntKind.u16 (kQ f.kind.toNat) 2 != 0)) = (decide (f.data.length = 0) || has f.kind 1) by rw [show (2 : Int) = 2 ^ 1 by decide, has_bits hk 1 (by decide)] <;> first | simp only [zpath] | simp only [zlen] | simp only [zeq]] at q1
  have q2 := may_any (kQ f.kind.toNat) 4 (f.flags == 0) (w.heap.size + 1) w2 hc2
  rw [show (((f.flags == 0) : Bool) || (bits BinOp.and IntKind.u16 (kQ f.kind.toNat) 4 != 0)) = (decide (f.flags = 0) || has f.kind 2) by rw [show (4 : Int) = 2 ^ 2 by decide, has_bits hk 2 (by decide)] <;> first | simp only [zpath] | simp only [zlen] | simp only [zeq]] at q2
  have q3 := may_any (kQ f.kind.toNat) 8 (f.version == 0) (w.heap.size + 1) w2 hc2
  rw [show (((f.version == 0) : Bool) || (bits BinOp.and IntKind.u16 (kQ f.kind.toNat) 8 != 0)) = (decide (f.version = 0) || has f.kind 3) by rw [show (8 : Int) = 2 ^ 3 by decide, has_bits hk 3 (by decide)] <;> first | simp only [zpath] | simp only [zlen] | simp only [zeq]] at q3
  have q4 := may_any (kQ f.kind.toNat) 16 (!f.watch) (w.heap.size + 1) w2 hc2
  rw [show (((!f.watch) : Bool) || (bits BinOp.and IntKind.u16 (kQ f.kind.toNat) 16 != 0)) = (!f.watch || has f.kind 4) by rw [show (16 : Int) = 2 ^ 4 by decide, has_bits hk 4 (by decide)] <;> first | simp only [zpath] | simp only [zlen] | simp only [zeq]] at q4
  have q5 := must_any (kQ f.kind.toNat) 32 (f.sort == 0) (w.heap.size + 1) w2 hc2
  rw [show (((f.sort == 0) : Bool) != (bits BinOp.and IntKind.u16 (kQ f.kind.toNat) 32 != 0)) = (decide (f.sort = 0) != has f.kind 5) by rw [show (32 : Int) = 2 ^ 5 by decide, has_bits hk 5 (by decide)] <;> first | simp only [zpath] | simp only [zlen] | simp only [zeq]] at q5
  have q6 := may_any (kQ f.kind.toNat) 64 (f.last == 0) (w.heap.size + 1) w2 hc2
  rw [show (((f.last == 0) : Bool) || (bits BinOp.and IntKind.u16 (kQ f.kind.toNat) 64 != 0)) = (decide (f.last = 0) || has f.kind 6) by rw [show (64 : Int) = 2 ^ 6 by decide, has_bits hk 6 (by decide)] <;> first | simp only [zpath] | simp only [zlen] | simp only [zeq]] at q6
  have q7 := must_any (kQ f.kind.toNat) 128 (f.timeout == 0) (w.heap.size + 1) w2 hc2
  rw [show (((f.timeout == 0) : Bool) != (bits BinOp.and IntKind.u16 (kQ f.kind.toNat) 128 != 0)) = (decide (f.timeout = 0) != has f.kind 7) by rw [show (128 : Int) = 2 ^ 7 by decide, has_bits hk 7 (by decide)] <;> first | simp only [zpath] | simp only [zlen] | simp only [zeq]] at q7
  have q8 := may_any (kQ f.kind.toNat) 256 (f.frm == 0) (w.heap.size + 1) w2 hc2
  rw [show (((f.frm == 0) : Bool) || (bits BinOp.and IntKind.u16 (kQ f.kind.toNat) 256 != 0)) = (decide (f.frm = 0) || has f.kind 8) by rw [show (256 : Int) = 2 ^ 8 by decide, has_bits hk 8 (by decide)] <;> first | simp only [zpath] | simp only [zlen] | simp only [zeq]] at q8
  have q9 := may_any (kQ f.kind.toNat) 512 ((f.mems.length : Int) == 0) (w.heap.size + 1) w2 hc2
  rw [show ((((f.mems.length : Int) == 0) : Bool) || (bits BinOp.and IntKind.u16 (kQ f.kind.toNat) 512 != 0)) = (decide (f.mems.length = 0) || has f.kind 9) by rw [show (512 : Int) = 2 ^ 9 by decide, has_bits hk 9 (by decide)] <;> first | simp only [zpath] | simp only [zlen] | simp only [zeq]] at q9
  have q10 := must_any (kQ f.kind.toNat) 1024 ((f.np : Int) == 0) (w.heap.size + 1) w2 hc2
  rw [show ((((f.np : Int) == 0) : Bool) != (bits BinOp.and IntKind.u16 (kQ f.kind.toNat) 1024 != 0)) = (decide (f.np = 0) != has f.kind 10) by rw [show (1024 : Int) = 2 ^ 10 by decide, has_bits hk 10 (by decide)] <;> first | simp only [zpath] | simp only [zlen] | simp only [zeq]] at q10
  unfold idleB
  generalize (decide (f.path = []) || has f.kind 0) = C0 at q0 ⊢
  generalize (decide (f.data.length = 0) || has f.kind 1) = C1 at q1 ⊢
  generalize (decide (f.flags = 0) || has f.kind 2) = C2 at q2 ⊢
  generalize (decide (f.version = 0) || has f.kind 3) = C3 at q3 ⊢
  generalize (!f.watch || has f.kind 4) = C4 at q4 ⊢
  generalize (decide (f.sort = 0) != has f.kind 5) = C5 at q5 ⊢
  generalize (decide (f.last = 0) || has f.kind 6) = C6 at q6 ⊢
  generalize (decide (f.timeout = 0) != has f.kind 7) = C7 at q7 ⊢
  generalize (decide (f.frm = 0) || has f.kind 8) = C8 at q8 ⊢
  generalize (decide (f.mems.length = 0) || has f.kind 9) = C9 at q9 ⊢
  generalize (decide (f.np = 0) != has f.kind 10) = C10 at q10 ⊢
  rw [hw2, hw1] at q0 q1 q2 q3 q4 q5 q6 q7 q8 q9 q10
  rw [hw1] at ho
  have HE : Hid (Below w.heap.size w ((w.alloc (.cells #[.int .u8 f.kind, .int .i64 f.xid, .int .i64 f.session, .int .i64 f.turn, .string (mkS f.path), .slice A1 f.data.length c1, .int .i64 f.flags, .int .i64 f.version, .bool f.watch, .int .u8 f.sort, .int .i64 f.last, .int .i64 f.timeout, .int .i64 f.frm, .slice A2 f.mems.length c2, .slice A3 f.np c3] 29)).alloc (.cells #[.int .u16 (kQ f.kind.toNat)] 74))) := by rw [← hw1, ← hw2]; exact hB2
  clear hc2 hB1 hB2 hs1 hw1 hw2 HB2
  go_enter Tryd.func75, Tryd.ntmps75
  go_wp2_with fail
  refine ho.mono ?_
  rintro e w' ⟨rfl, rfl⟩
  clear ho
  go_wp2_with fail
  refine q0.mono ?_
  rintro e w' ⟨rfl, rfl⟩
  clear q0
  as_aux_lemma =>
  cases C0
  · clear q1 q2 q3 q4 q5 q6 q7 q8 q9 q10
    go_wp2_with fail
    go_ret
    exact ⟨rfl, HE.out⟩
  go_wp2_with fail
  refine q1.mono ?_
  rintro e w' ⟨rfl, rfl⟩
  clear q1
  as_aux_lemma =>
  cases C1
  · clear q2 q3 q4 q5 q6 q7 q8 q9 q10
    go_wp2_with fail
    go_ret
    exact ⟨rfl, HE.out⟩
  go_wp2_with fail
  refine q2.mono ?_
  rintro e w' ⟨rfl, rfl⟩
  clear q2
  as_aux_lemma =>
  cases C2
  · clear q3 q4 q5 q6 q7 q8 q9 q10
    go_wp2_with fail
    go_ret
    exact ⟨rfl, HE.out⟩
  go_wp2_with fail
  refine q3.mono ?_
  rintro e w' ⟨rfl, rfl⟩
  clear q3
  as_aux_lemma =>
  cases C3
  · clear q4 q5 q6 q7 q8 q9 q10
    go_wp2_with fail
    go_ret
    exact ⟨rfl, HE.out⟩
  go_wp2_with fail
  refine q4.mono ?_
  rintro e w' ⟨rfl, rfl⟩
  clear q4
  as_aux_lemma =>
  cases C4
  · clear q5 q6 q7 q8 q9 q10
    go_wp2_with fail
    go_ret
    exact ⟨rfl, HE.out⟩
  go_wp2_with fail
  refine q5.mono ?_
  rintro e w' ⟨rfl, rfl⟩
  clear q5
  as_aux_lemma =>
  cases C5
  · clear q6 q7 q8 q9 q10
    go_wp2_with fail
    go_ret
    exact ⟨rfl, HE.out⟩
  go_wp2_with fail
  refine q6.mono ?_
  rintro e w' ⟨rfl, rfl⟩
  clear q6
  as_aux_lemma =>
  cases C6
  · clear q7 q8 q9 q10
    go_wp2_with fail
    go_ret
    exact ⟨rfl, HE.out⟩
  go_wp2_with fail
  refine q7.mono ?_
  rintro e w' ⟨rfl, rfl⟩
  clear q7
  as_aux_lemma =>
  cases C7
  · clear q8 q9 q10
    go_wp2_with fail
    go_ret
    exact ⟨rfl, HE.out⟩
  go_wp2_with fail
  refine q8.mono ?_
  rintro e w' ⟨rfl, rfl⟩
  clear q8
  as_aux_lemma =>
  cases C8
  · clear q9 q10
    go_wp2_with fail
    go_ret
    exact ⟨rfl, HE.out⟩
  go_wp2_with fail
  refine q9.mono ?_
  rintro e w' ⟨rfl, rfl⟩
  clear q9
  as_aux_lemma =>
  cases C9
  · clear q10
    go_wp2_with fail
    go_ret
    exact ⟨rfl, HE.out⟩
  go_wp2_with fail
  refine q10.mono ?_
  rintro e w' ⟨rfl, rfl⟩
  clear q10
  go_wp2_with fail
  go_ret
  exact ⟨rfl, HE.out⟩
end Go.Proofs.YtmojplgoohnmdaaDoor.AK
