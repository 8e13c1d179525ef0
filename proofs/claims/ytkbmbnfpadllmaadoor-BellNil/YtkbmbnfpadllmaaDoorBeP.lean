/- A tower that is not there does and tells nothing. -/
import Derived.Test.YtkbmbnfpadllmaaDoorBeO
import Derived.Test.YtkbmbnfpadllmaaDoorBeX
namespace Go.Proofs.YtkbmbnfpadllmaaDoor.We
set_option linter.unusedSimpArgs false
set_option linter.unusedVariables false
open Go.RowKit Go.MapKept
set_option linter.unusedVariables false
set_option linter.unusedSimpArgs false

set_option maxRecDepth 100000 in
theorem again_none {w : World} {v : Value} (h : NoT w v) (c so p la th y0 y1 y2 y3 y4 y5 y6 y7 y8 y9 y10 y11 : Value) : Calls Tryd.prog 16 #[v, c, so, p, la, .agg #[y0, y1, y2, y3, y4, y5, y6, y7, y8, y9, y10, y11], th] w fun e w' => e = .returned (.tuple #[.agg #[.int .u8 0, .int .u8 0, .string ⟨#[]⟩, .int .i64 0], .bool false]) ∧ Below w.heap.size w w' := by
  have hth := fun o o' => there_no ((h.alloc o).alloc o')
  clear h
  obtain ⟨W, hW⟩ : ∃ W, W = (w.alloc (.cells #[y0, y1, y2, y3, y4, y5, y6, y7, y8, y9, y10, y11] 36)).alloc (.cells #[.int .u8 0, .int .u8 0, .string ⟨#[]⟩, .int .i64 0] 54) := ⟨_, rfl⟩
  have HB : Hid (Below w.heap.size w W) := by rw [hW]; exact ((Below.refl _ _).alloc (Nat.le_refl _) _).alloc (by simp) _
  have hb : W.heap[w.heap.size + 1]? = some (.cells #[.int .u8 0, .int .u8 0, .string ⟨#[]⟩, .int .i64 0] 54 (0, 0)) := by
    rw [hW]
    have := heap_alloc_new (w.alloc (.cells #[y0, y1, y2, y3, y4, y5, y6, y7, y8, y9, y10, y11] 36)) (.cells #[.int .u8 0, .int .u8 0, .string ⟨#[]⟩, .int .i64 0] 54)
    simpa using this
  have d0 := cellAt hb 0
  have d1 := cellAt hb 1
  have d2 := cellAt hb 2
  have d3 := cellAt hb 3
  have f0 := frozenAt hb 0
  have f1 := frozenAt hb 1
  have f2 := frozenAt hb 2
  have f3 := frozenAt hb 3
  simp at d0 d1 d2 d3
  have hth2 := hth (.cells #[y0, y1, y2, y3, y4, y5, y6, y7, y8, y9, y10, y11] 36) (.cells #[.int .u8 0, .int .u8 0, .string ⟨#[]⟩, .int .i64 0] 54)
  rw [← hW] at hth2
  clear hb hth
  go_enter Tryd.func16, Tryd.ntmps16
  go_upto_region 1 with fail
  rw [← hW]
  clear hW
  go_wp2_with fail
  refine hth2.mono ?_
  rintro e w1 ⟨rfl, rfl⟩
  clear hth2
  go_wp2_with fail
  refine bodyPost_ret (v := .tuple #[.agg #[.int .u8 0, .int .u8 0, .string ⟨#[]⟩, .int .i64 0], .bool false]) (by simp [results, Tryd.results16, go_sem, d0, d1, d2, d3, f0, f1, f2, f3]) rfl ⟨rfl, ?_⟩
  exact (((HB.out.setCell (p := ⟨w.heap.size + 1, 0, none⟩) (Nat.le_succ _) _).setCell (p := ⟨w.heap.size + 1, 1, none⟩) (Nat.le_succ _) _).setCell (p := ⟨w.heap.size + 1, 2, none⟩) (Nat.le_succ _) _).setCell (p := ⟨w.heap.size + 1, 3, none⟩) (Nat.le_succ _) _
set_option maxRecDepth 100000 in
theorem rings_none {w : World} {v : Value} (h : NoT w v) (d0 d1 d2 d3 d4 d5 d6 d7 d8 d9 d10 d11 d12 d13 d14 d15 : Value) : Calls Tryd.prog 10 #[v, .agg #[d0, d1, d2, d3, d4, d5, d6, d7, d8, d9, d10, d11, d12, d13, d14, d15]] w fun e w' => e = .returned (.slice none 0 0) ∧ Below w.heap.size w w' := by
  have hth := fun o => there_no (h.alloc o)
  clear h
  have HB : Hid (∀ o, Below w.heap.size w (w.alloc o)) := fun o => (Below.refl _ _).alloc (Nat.le_refl _) o
  go_enter Tryd.func10, Tryd.ntmps10
  go_wp2_with fail
  refine (hth _).mono ?_
  rintro e w1 ⟨rfl, rfl⟩
  clear hth
  go_wp2_with fail
  go_ret
  exact ⟨rfl, HB.out _⟩
set_option maxRecDepth 100000 in
set_option maxHeartbeats 2000000 in
theorem none_any {w : World} {v : Value} (h : NoT w v) (v0 v1 v2 v3 v4 v5 v6 v7 v8 v9 v10 v11 v12 v13 v14 v15 v16 v17 v18 v19 v20 v21 v22 v23 v24 v25 v26 v27 v28 v29 v30 v31 v32 v33 : Value) :
    Calls Tryd.prog 6 #[v, .agg #[v0, v1, v2, v3, v4, v5, v6, v7, v8, v9, v10, v11, v12, v13, v14, v15, v16, v17, v18, v19, v20, v21, v22, v23, v24, v25, v26, v27, v28, v29, v30, v31, v32, v33]] w fun e w' => e = .returned (.bool true) ∧ Below w.heap.size w w' := by
  obtain ⟨W, hW⟩ : ∃ W, W = w.alloc (.cells #[v0, v1, v2, v3, v4, v5, v6, v7, v8, v9, v10, v11, v12, v13, v14, v15, v16, v17, v18, v19, v20, v21, v22, v23, v24, v25, v26, v27, v28, v29, v30, v31, v32, v33] 38) := ⟨_, rfl⟩
  have hBW : Below w.heap.size w W := by rw [hW]; exact (Below.refl _ _).alloc (Nat.le_refl _) _
  have hb : W.heap[w.heap.size]? = some (.cells #[v0, v1, v2, v3, v4, v5, v6, v7, v8, v9, v10, v11, v12, v13, v14, v15, v16, v17, v18, v19, v20, v21, v22, v23, v24, v25, v26, v27, v28, v29, v30, v31, v32, v33] 38 (0, 0)) := by rw [hW]; exact heap_alloc_new _ _
  have hN : NoT W v := h.below hBW
  have x1 : (W).cell? ⟨w.heap.size, 1, none⟩ = some v1 := cellAt hb 1
  have x2 : (W).cell? ⟨w.heap.size, 2, none⟩ = some v2 := cellAt hb 2
  have x3 : (W).cell? ⟨w.heap.size, 3, none⟩ = some v3 := cellAt hb 3
  have x4 : (W).cell? ⟨w.heap.size, 4, none⟩ = some v4 := cellAt hb 4
  have x5 : (W).cell? ⟨w.heap.size, 5, none⟩ = some v5 := cellAt hb 5
  have x6 : (W).cell? ⟨w.heap.size, 6, none⟩ = some v6 := cellAt hb 6
  have x7 : (W).cell? ⟨w.heap.size, 7, none⟩ = some v7 := cellAt hb 7
  have x8 : (W).cell? ⟨w.heap.size, 8, none⟩ = some v8 := cellAt hb 8
  have x9 : (W).cell? ⟨w.heap.size, 9, none⟩ = some v9 := cellAt hb 9
  have x10 : (W).cell? ⟨w.heap.size, 10, none⟩ = some v10 := cellAt hb 10
  have x11 : (W).cell? ⟨w.heap.size, 11, none⟩ = some v11 := cellAt hb 11
  have x12 : (W).cell? ⟨w.heap.size, 12, none⟩ = some v12 := cellAt hb 12
  have x13 : (W).cell? ⟨w.heap.size, 13, none⟩ = some v13 := cellAt hb 13
  have x14 : (W).cell? ⟨w.heap.size, 14, none⟩ = some v14 := cellAt hb 14
  have x15 : (W).cell? ⟨w.heap.size, 15, none⟩ = some v15 := cellAt hb 15
  have x16 : (W).cell? ⟨w.heap.size, 16, none⟩ = some v16 := cellAt hb 16
  have x17 : (W).cell? ⟨w.heap.size, 17, none⟩ = some v17 := cellAt hb 17
  have x18 : (W).cell? ⟨w.heap.size, 18, none⟩ = some v18 := cellAt hb 18
  have x19 : (W).cell? ⟨w.heap.size, 19, none⟩ = some v19 := cellAt hb 19
  have x21 : (W).cell? ⟨w.heap.size, 21, none⟩ = some v21 := cellAt hb 21
  have x22 : (W).cell? ⟨w.heap.size, 22, none⟩ = some v22 := cellAt hb 22
  have x23 : (W).cell? ⟨w.heap.size, 23, none⟩ = some v23 := cellAt hb 23
  have x24 : (W).cell? ⟨w.heap.size, 24, none⟩ = some v24 := cellAt hb 24
  have x25 : (W).cell? ⟨w.heap.size, 25, none⟩ = some v25 := cellAt hb 25
  have x26 : (W).cell? ⟨w.heap.size, 26, none⟩ = some v26 := cellAt hb 26
  have x27 : (W).cell? ⟨w.heap.size, 27, none⟩ = some v27 := cellAt hb 27
  have x28 : (W).cell? ⟨w.heap.size, 28, none⟩ = some v28 := cellAt hb 28
  have x29 : (W).cell? ⟨w.heap.size, 29, none⟩ = some v29 := cellAt hb 29
  have x30 : (W).cell? ⟨w.heap.size, 30, none⟩ = some v30 := cellAt hb 30
  have x31 : (W).cell? ⟨w.heap.size, 31, none⟩ = some v31 := cellAt hb 31
  have x32 : (W).cell? ⟨w.heap.size, 32, none⟩ = some v32 := cellAt hb 32
  have x33 : (W).cell? ⟨w.heap.size, 33, none⟩ = some v33 := cellAt hb 33
  have a1 := fun c s p => add_no hN c s p
  have a2 := again_none hN (.int .i64 1) (.int .u8 1) (.string ⟨#[47]⟩) (.int .i64 0) v33 v21 v22 v23 v24 v25 v26 v27 v28 v29 v30 v31 v32
  have HF : Hid (NoT W v ∧ Below w.heap.size w W ∧ W.heap[w.heap.size]? = some (.cells #[v0, v1, v2, v3, v4, v5, v6, v7, v8, v9, v10, v11, v12, v13, v14, v15, v16, v17, v18, v19, v20, v21, v22, v23, v24, v25, v26, v27, v28, v29, v30, v31, v32, v33] 38 (0, 0))) := ⟨hN, hBW, hb⟩
  clear h hBW hb hN
  go_enter Tryd.func6, Tryd.ntmps6
  go_upto_region 1 with fail
  rw [← hW]
  clear hW
  go_wp2_with fail
  refine (a1 _ _ _).mono ?_
  rintro e w1 ⟨rfl, rfl⟩
  go_wp2_with fail
  refine (a1 _ _ _).mono ?_
  rintro e w2 ⟨rfl, rfl⟩
  clear a1
  go_wp2_with fail
  refine a2.mono ?_
  rintro e w3 ⟨rfl, hB3⟩
  obtain ⟨W4, hW4⟩ : ∃ W4, W4 = w3.alloc (.cells #[.int .u8 0, .int .u8 0, .string ⟨#[]⟩, .int .i64 0] 54) := ⟨_, rfl⟩
  have hB4 : Below w2.heap.size w2 W4 := by rw [hW4]; exact hB3.alloc hB3.size _
  have hbe : W4.heap[w3.heap.size]? = some (.cells #[.int .u8 0, .int .u8 0, .string ⟨#[]⟩, .int .i64 0] 54 (0, 0)) := by rw [hW4]; exact heap_alloc_new _ _
  have hbx := (hB4.block _ (heapLt HF.out.2.2)).trans HF.out.2.2
  have hN4 := HF.out.1.below hB4
  have HG : Hid (NoT W4 v ∧ Below w.heap.size w W4) := ⟨hN4, HF.out.2.1.trans (hB4.mono HF.out.2.1.size)⟩
  have y1 : (W4).cell? ⟨w.heap.size, 1, none⟩ = some v1 := cellAt hbx 1
  have y4 : (W4).cell? ⟨w.heap.size, 4, none⟩ = some v4 := cellAt hbx 4
  have y5 : (W4).cell? ⟨w.heap.size, 5, none⟩ = some v5 := cellAt hbx 5
  have y6 : (W4).cell? ⟨w.heap.size, 6, none⟩ = some v6 := cellAt hbx 6
  have y7 : (W4).cell? ⟨w.heap.size, 7, none⟩ = some v7 := cellAt hbx 7
  have y8 : (W4).cell? ⟨w.heap.size, 8, none⟩ = some v8 := cellAt hbx 8
  have y9 : (W4).cell? ⟨w.heap.size, 9, none⟩ = some v9 := cellAt hbx 9
  have y10 : (W4).cell? ⟨w.heap.size, 10, none⟩ = some v10 := cellAt hbx 10
  have y11 : (W4).cell? ⟨w.heap.size, 11, none⟩ = some v11 := cellAt hbx 11
  have y12 : (W4).cell? ⟨w.heap.size, 12, none⟩ = some v12 := cellAt hbx 12
  have y13 : (W4).cell? ⟨w.heap.size, 13, none⟩ = some v13 := cellAt hbx 13
  have y14 : (W4).cell? ⟨w.heap.size, 14, none⟩ = some v14 := cellAt hbx 14
  have y15 : (W4).cell? ⟨w.heap.size, 15, none⟩ = some v15 := cellAt hbx 15
  have y16 : (W4).cell? ⟨w.heap.size, 16, none⟩ = some v16 := cellAt hbx 16
  have y17 : (W4).cell? ⟨w.heap.size, 17, none⟩ = some v17 := cellAt hbx 17
  have y18 : (W4).cell? ⟨w.heap.size, 18, none⟩ = some v18 := cellAt hbx 18
  have y19 : (W4).cell? ⟨w.heap.size, 19, none⟩ = some v19 := cellAt hbx 19
  have e0 := cellAt hbe 0
  have e1 := cellAt hbe 1
  have e2 := cellAt hbe 2
  have e3 := cellAt hbe 3
  simp at e0 e1 e2 e3
  have a3 := fun c => drop_no hN4 c
  have a4 := rings_none hN4 v4 v5 v6 v7 v8 v9 v10 v11 v12 v13 v14 v15 v16 v17 v18 v19
  have hev : ∀ W : World, (binOp .eql 54 (.agg #[.int .u8 0, .int .u8 0, .string ⟨#[]⟩, .int .i64 0]) (.agg #[.int .u8 0, .int .u8 0, .string ⟨#[]⟩, .int .i64 0])).run Tryd.prog W = .ok (.bool true) W := fun W => evEq W 0 0 [] 0 0 0 [] 0
  clear a2 hB3 hB4 hbe hbx hN4 x1 x2 x3 x4 x5 x6 x7 x8 x9 x10 x11 x12 x13 x14 x15 x16 x17 x18 x19 x21 x22 x23 x24 x25 x26 x27 x28 x29 x30 x31 x32 x33
  go_upto_region 4 with fail
  rw [← hW4]
  clear hW4
  go_wp2_with fail
  refine (a3 _).mono ?_
  rintro e w5 ⟨rfl, rfl⟩
  clear a3
  go_wp2_with fail
  refine a4.mono ?_
  rintro e w6 ⟨rfl, hB6⟩
  have HB6 : Hid _ := hB6
  have a5 := count_no (HG.out.1.below hB6)
  clear a4 hB6
  go_wp2_with fail
  refine a5.mono ?_
  rintro e w7 ⟨rfl, rfl⟩
  clear a5
  go_wp2_with fail
  go_ret
  exact ⟨rfl, HG.out.2.trans (HB6.out.mono HG.out.2.size)⟩
theorem wpList_loadG {P : Program} {ops : Array Oper} {rest : List Oper} {op : Oper} {a : Act} {w : World} {Q : Exit → Act → World → Prop} (hw : Region.wanted op (yielded ops a.tmps) = true) (ty : TypeId) (x : Operand) (ho : op.op = .load ty x)
    (b o : Nat) (hx : a.eval x = .pointer (some ⟨b, o, none⟩)) (cs : List Value) (d : TypeDesc) (hc : w.rangeAt b o cs)
    (hu : P.underlying ty = some d) (hd : d.isRow = true) (hi : (P.info? ty).map (·.size) = some cs.length)
    (h : wpList P ops Q rest (a.put op.dst (.agg cs.toArray)) w) : wpList P ops Q (op :: rest) a w := by
  refine wpList_step fun K hK => ?_
  rw [if_pos hw]
  exact wp_load_mid ty x ho b o hx cs d hc hu hd hi (hK _ _ h)
set_option maxRecDepth 100000 in
theorem nil_any (v0 v1 v2 v3 v4 v5 v6 v7 v8 v9 v10 v11 v12 v13 v14 v15 v16 v17 v18 v19 v20 v21 v22 v23 v24 v25 v26 v27 v28 v29 v30 v31 v32 v33 : Value) (w : World) (hL : PA.Laid w) :
    Calls Tryd.prog 3 #[.agg #[v0, v1, v2, v3, v4, v5, v6, v7, v8, v9, v10, v11, v12, v13, v14, v15, v16, v17, v18, v19, v20, v21, v22, v23, v24, v25, v26, v27, v28, v29, v30, v31, v32, v33]] w fun e w' => e = .returned (.bool true) ∧ Below w.heap.size w w' := by
  obtain ⟨W, hW⟩ : ∃ W, W = w.alloc (.cells #[v0, v1, v2, v3, v4, v5, v6, v7, v8, v9, v10, v11, v12, v13, v14, v15, v16, v17, v18, v19, v20, v21, v22, v23, v24, v25, v26, v27, v28, v29, v30, v31, v32, v33] 38) := ⟨_, rfl⟩
  have hBW : Below w.heap.size w W := by rw [hW]; exact (Below.refl _ _).alloc (Nat.le_refl _) _
  have hb : W.heap[w.heap.size]? = some (.cells #[v0, v1, v2, v3, v4, v5, v6, v7, v8, v9, v10, v11, v12, v13, v14, v15, v16, v17, v18, v19, v20, v21, v22, v23, v24, v25, v26, v27, v28, v29, v30, v31, v32, v33] 38 (0, 0)) := by rw [hW]; exact heap_alloc_new _ _
  have haw := awake_any W (hL.below hBW)
  have HF : Hid (Below w.heap.size w W ∧ W.heap[w.heap.size]? = some (.cells #[v0, v1, v2, v3, v4, v5, v6, v7, v8, v9, v10, v11, v12, v13, v14, v15, v16, v17, v18, v19, v20, v21, v22, v23, v24, v25, v26, v27, v28, v29, v30, v31, v32, v33] 38 (0, 0))) := ⟨hBW, hb⟩
  have n1' := fun (w : World) => none_any (w := w) (.inl rfl) v0 v1 v2 v3 v4 v5 v6 v7 v8 v9 v10 v11 v12 v13 v14 v15 v16 v17 v18 v19 v20 v21 v22 v23 v24 v25 v26 v27 v28 v29 v30 v31 v32 v33
  have n2' := fun (w : World) (d : Nat) h => none_any (w := w) (v := .pointer (some ⟨d, 0, none⟩)) (.inr ⟨d, rfl, h⟩) v0 v1 v2 v3 v4 v5 v6 v7 v8 v9 v10 v11 v12 v13 v14 v15 v16 v17 v18 v19 v20 v21 v22 v23 v24 v25 v26 v27 v28 v29 v30 v31 v32 v33
  clear hL hBW hb
  go_enter Tryd.func3, Tryd.ntmps3
  go_upto_region 1 with fail
  rw [← hW]
  clear hW
  go_wp2_with fail
  refine haw.mono ?_
  rintro e w1 ⟨rfl, hB1⟩
  have hbx := (hB1.block _ (heapLt HF.out.2)).trans HF.out.2
  have HG : Hid (Below w.heap.size w w1 ∧ w1.heap[w.heap.size]? = some (.cells #[v0, v1, v2, v3, v4, v5, v6, v7, v8, v9, v10, v11, v12, v13, v14, v15, v16, v17, v18, v19, v20, v21, v22, v23, v24, v25, v26, v27, v28, v29, v30, v31, v32, v33] 38 (0, 0))) := ⟨HF.out.1.trans (hB1.mono HF.out.1.size), hbx⟩
  have hl1 : w1.rangeAt w.heap.size 0 [v0, v1, v2, v3, v4, v5, v6, v7, v8, v9, v10, v11, v12, v13, v14, v15, v16, v17, v18, v19, v20, v21, v22, v23, v24, v25, v26, v27, v28, v29, v30, v31, v32, v33] := by have := World.rangeAt_of_block hbx 0 34; simpa using this
  clear haw hB1 hbx
  go_wp2_with (first | (refine wpList_load_mid rfl 38 _ rfl w.heap.size 0 rfl [v0, v1, v2, v3, v4, v5, v6, v7, v8, v9, v10, v11, v12, v13, v14, v15, v16, v17, v18, v19, v20, v21, v22, v23, v24, v25, v26, v27, v28, v29, v30, v31, v32, v33] _ hl1 Tryd.underlying38 rfl (by kernel_rfl) ?_) | (refine wpList_loadG rfl 38 _ rfl w.heap.size 0 rfl [v0, v1, v2, v3, v4, v5, v6, v7, v8, v9, v10, v11, v12, v13, v14, v15, v16, v17, v18, v19, v20, v21, v22, v23, v24, v25, v26, v27, v28, v29, v30, v31, v32, v33] _ hl1 Tryd.underlying38 rfl (by kernel_rfl) ?_) | fail)
  refine (n1' _).mono ?_
  rintro e w2 ⟨rfl, hB2⟩
  have hbx := (hB2.block _ (heapLt HG.out.2)).trans HG.out.2
  have hb3 : (w2.alloc (.cells #[.map none] 44)).heap[w.heap.size]? = some (.cells #[v0, v1, v2, v3, v4, v5, v6, v7, v8, v9, v10, v11, v12, v13, v14, v15, v16, v17, v18, v19, v20, v21, v22, v23, v24, v25, v26, v27, v28, v29, v30, v31, v32, v33] 38 (0, 0)) := by rw [Below.heap_alloc _ _ _ (heapLt hbx)]; exact hbx
  have HB3 : Hid (Below w1.heap.size w1 (w2.alloc (.cells #[.map none] 44))) := hB2.alloc hB2.size _
  have n3 := n2' (w2.alloc (.cells #[.map none] 44)) w2.heap.size (by simp)
  have hl2 : (w2.alloc (.cells #[.map none] 44)).rangeAt w.heap.size 0 [v0, v1, v2, v3, v4, v5, v6, v7, v8, v9, v10, v11, v12, v13, v14, v15, v16, v17, v18, v19, v20, v21, v22, v23, v24, v25, v26, v27, v28, v29, v30, v31, v32, v33] := by have := World.rangeAt_of_block hb3 0 34; simpa using this
  clear n1' n2' hB2 hbx hb3 hl1
  go_wp2_with (first | (refine wpList_load_mid rfl 38 _ rfl w.heap.size 0 rfl [v0, v1, v2, v3, v4, v5, v6, v7, v8, v9, v10, v11, v12, v13, v14, v15, v16, v17, v18, v19, v20, v21, v22, v23, v24, v25, v26, v27, v28, v29, v30, v31, v32, v33] _ hl2 Tryd.underlying38 rfl (by kernel_rfl) ?_) | (refine wpList_loadG rfl 38 _ rfl w.heap.size 0 rfl [v0, v1, v2, v3, v4, v5, v6, v7, v8, v9, v10, v11, v12, v13, v14, v15, v16, v17, v18, v19, v20, v21, v22, v23, v24, v25, v26, v27, v28, v29, v30, v31, v32, v33] _ hl2 Tryd.underlying38 rfl (by kernel_rfl) ?_) | fail)
  refine n3.mono ?_
  rintro e w4 ⟨rfl, hB4⟩
  have HB4 : Hid (Below w.heap.size w w4) := (HG.out.1.trans (HB3.out.mono HG.out.1.size)).trans (hB4.mono (HG.out.1.trans (HB3.out.mono HG.out.1.size)).size)
  clear n3 hB4 hl2
  go_wp2_with fail
  go_ret
  exact ⟨rfl, HB4.out⟩
theorem nil_dst (d : DD.Dst) (w : World) (hL : PA.Laid w) : Calls Tryd.prog 3 #[.agg d.cells] w fun e w' => e = .returned (.bool true) ∧ Below w.heap.size w w' :=
  nil_any _ _ _ _ _ _ _ _ _ _ _ _ _ _ _ _ _ _ _ _ _ _ _ _ _ _ _ _ _ _ _ _ _ _ w hL
end Go.Proofs.YtkbmbnfpadllmaaDoor.We
