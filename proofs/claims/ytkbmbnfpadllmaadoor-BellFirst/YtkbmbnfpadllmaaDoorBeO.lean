/- What wakes every law of towers. -/
import Derived.Test.YtkbmbnfpadllmaaDoorBeN
namespace Go.Proofs.YtkbmbnfpadllmaaDoor.We
set_option linter.unusedSimpArgs false
set_option linter.unusedVariables false
open Go.RowKit Go.MapKept
set_option linter.unusedVariables false
set_option linter.unusedSimpArgs false

theorem RowIs.keep {w w' : World} {v : Value} {R : List Rg} {m : Nat} (h : RowIs w v R) (hm : ∃ es cl, w.heap[m]? = some (.map es cl)) (hc : Chg (fun k => k = m) w w') : RowIs w' v R := by
  obtain ⟨A, C, rfl, h⟩ := h
  obtain ⟨es, cl, hm⟩ := hm
  refine ⟨A, C, rfl, fun k hk => ?_⟩
  obtain ⟨b, o, e, h0, h1, h2, h3, h4⟩ := h k hk
  have hne : ¬ b = m := by
    rintro rfl
    simp [World.cell?, hm] at h0
  have kk : ∀ {i : Nat} {x : Value}, w.cell? ⟨b, i, none⟩ = some x → w'.cell? ⟨b, i, none⟩ = some x := fun hx => (hc.cell (a := ⟨b, _, none⟩) (cell_lt hx) hne).trans hx
  exact ⟨b, o, e, kk h0, kk h1, kk h2, kk h3, kk h4⟩
theorem Tx.mp {w : World} {t m : Nat} {L : List Wa} (h : Tx w t m L) : ∃ es cl, w.heap[m]? = some (.map es cl) := by
  obtain ⟨es, cl, hb, _⟩ := h.map
  exact ⟨es, cl, hb⟩
theorem RowIs.new (w : World) (R : List Rg) (C : Nat) : RowIs (w.alloc (.cells (R.flatMap rgC).toArray 56)) (.slice (some ⟨w.heap.size, 0, none⟩) R.length C) R :=
  RowIs.cells fun j u hu => by
    rw [cellAt (heap_alloc_new w _)]
    simpa using hu
set_option maxRecDepth 100000 in
set_option maxHeartbeats 2000000 in
theorem awake_any (w : World) (hL : PA.Laid w) : Calls Tryd.prog 5 #[] w fun e w' => e = .returned (.bool true) ∧ Below w.heap.size w w' := by
  have hnew := Tw.new w hL
  clear hL
  go_enter Tryd.func5, Tryd.ntmps5
  go_wp2_with fail
  refine hnew.mono ?_
  rintro e w1 ⟨t, m, rfl, h1⟩
  have HT1 : Hid (Tw w w1 t m []) := h1
  have c1 := h1.add 1 2 [47, 97]
  rw [l1_is] at c1
  clear hnew h1
  go_wp2_with fail
  refine c1.mono ?_
  rintro e w2 ⟨rfl, h2⟩
  have c2 := h2.add 2 3 [47]
  rw [l2_is] at c2
  clear c1 h2
  go_wp2_with fail
  refine c2.mono ?_
  rintro e w3 ⟨rfl, h3⟩
  have c3 := h3.add 1 3 [47]
  rw [l3_is] at c3
  clear c2 h3
  go_wp2_with fail
  refine c3.mono ?_
  rintro e w4 ⟨rfl, h4⟩
  have c4 := h4.add 1 3 [47]
  rw [l4_is] at c4
  clear c3 h4
  go_wp2_with fail
  refine c4.mono ?_
  rintro e w5 ⟨rfl, h5⟩
  have c5 := h5.count 3 rfl
  clear c4 h5
  go_wp2_with fail
  refine c5.mono ?_
  rintro e w6 ⟨rfl, h6, _⟩
  have HT6 : Hid (Tw w w6 t m [wA, wB, wC]) := h6
  have c6 := mkD_any 5 [47, 97] w6
  clear c5 h6
  go_wp2_with fail
  refine c6.mono ?_
  rintro e w7 ⟨rfl, hB7⟩
  have c7 := (HT6.out.below hB7).ring (fC 5 [47, 97]) [] (fC_val 5 [47, 97] w7) (fC_fit 5 (by simp [I64]) [47, 97]) (by simp) (by simp)
  rw [tell_is, rest_is] at c7
  simp only [dV, fC, List.length_nil] at c7
  clear c6 hB7
  go_wp2_with fail
  refine c7.mono ?_
  rintro e w8 ⟨v8, rfl, ho8, h8⟩
  obtain ⟨W9, hW9⟩ : ∃ W9, W9 = w8 := ⟨_, rfl⟩
  have hrow := RowIs.of ho8
  have HT8 : Hid (Tw w w8 t m [] ∧ RowIs w8 v8 rA) := ⟨h8, hrow⟩
  have c8 := h8.again 1 1 [47, 97] 7 (.string ⟨#[]⟩) (.slice none 0 0) 0 9 0 0 0 0 0 0 0 0 true
  rw [again_is.1, again_is.2.1, again_is.2.2] at c8
  clear c7 ho8 h8 hrow hW9
  go_wp2_with fail
  refine c8.mono ?_
  rintro e w9 ⟨rfl, h9, hc9⟩
  have hrow9 := HT8.out.2.keep HT8.out.1.1.mp hc9
  obtain ⟨W, hW⟩ : ∃ W, W = w9.alloc (.cells #[.int .u8 3, .int .u8 1, .string (mkS [47, 97]), .int .i64 9] 54) := ⟨_, rfl⟩
  have hB9 : Below w9.heap.size w9 W := by rw [hW]; exact (Below.refl _ _).alloc (Nat.le_refl _) _
  have hbe : W.heap[w9.heap.size]? = some (.cells #[.int .u8 3, .int .u8 1, .string (mkS [47, 97]), .int .i64 9] 54 (0, 0)) := by rw [hW]; exact heap_alloc_new _ _
  have HT9 : Hid (Tw w W t m [] ∧ RowIs W v8 rA ∧ W.heap[w9.heap.size]? = some (.cells #[.int .u8 3, .int .u8 1, .string (mkS [47, 97]), .int .i64 9] 54 (0, 0))) := ⟨h9.below hB9, hrow9.below hB9, hbe⟩
  have r1 := mkR_any 1 1 2 5 [47, 97]
  have r2 := mkR_any 1 4 3 5 [47]
  have r3 := mkR_any 2 4 3 5 [47]
  have hev : ∀ W : World, (binOp .eql 54 (.agg #[.int .u8 3, .int .u8 1, .string (mkS [47, 97]), .int .i64 9]) (.agg #[.int .u8 3, .int .u8 1, .string ⟨#[47, 97]⟩, .int .i64 9])).run Tryd.prog W = .ok (.bool true) W := fun W => evEq W 3 1 [47, 97] 9 3 1 [47, 97] 9
  clear c8 h9 hc9 hrow9 hB9 hbe
  go_upto_region 9 with fail
  rw [← hW]
  clear hW
  go_wp2_with fail
  refine (r1 _).mono ?_
  rintro e x1 ⟨rfl, b1⟩
  have HX1 : Hid (Below W.heap.size W x1) := b1
  clear r1 b1
  go_wp2_with fail
  refine (r2 _).mono ?_
  rintro e x2 ⟨rfl, b2⟩
  have HX2 : Hid (Below W.heap.size W x2) := HX1.out.trans (b2.mono HX1.out.size)
  clear r2 b2
  go_wp2_with fail
  refine (r3 _).mono ?_
  rintro e x3 ⟨rfl, b3⟩
  have HX3 : Hid (Below W.heap.size W x3) := HX2.out.trans (b3.mono HX2.out.size)
  have his := is_any (w := x3.alloc (.cells (rA.flatMap rgC).toArray 56)) ((HT9.out.2.1.below HX3.out).below ((Below.refl _ _).alloc (Nat.le_refl _) _)) (RowIs.new x3 rA 3) (by decide) (by decide)
  simp only [rA, List.flatMap_cons, List.flatMap_nil, rgC, List.cons_append, List.nil_append, List.append_nil, List.length_cons, List.length_nil, decide_true] at his
  clear r3 b3
  go_wp2_with fail
  refine his.mono ?_
  rintro e x4 ⟨rfl, q, hx4⟩
  have b4 : Below W.heap.size W x4 := by rw [hx4]; exact PA.below_drewN (HX3.out.alloc HX3.out.size _) q
  have HX4 : Hid (Below W.heap.size W x4) := b4
  have hco := (HT9.out.1.below b4).count 0 rfl
  have hb4 : x4.heap[w9.heap.size]? = some (.cells #[.int .u8 3, .int .u8 1, .string (mkS [47, 97]), .int .i64 9] 54 (0, 0)) := by rw [b4.block _ (heapLt HT9.out.2.2)]; exact HT9.out.2.2
  have e0 := cellAt hb4 0
  have e1 := cellAt hb4 1
  have e2 := cellAt hb4 2
  have e3 := cellAt hb4 3
  simp at e0 e1 e2 e3
  clear his hx4 b4 hb4
  go_wp2_with fail
  refine hco.mono ?_
  rintro e x5 ⟨rfl, h5, b5⟩
  have HX5 : Hid (Tw w x5 t m []) := h5
  have e0' := (b5.cell (p := ⟨w9.heap.size, 0, none⟩) (cell_lt e0)).trans e0
  have e1' := (b5.cell (p := ⟨w9.heap.size, 1, none⟩) (cell_lt e1)).trans e1
  have e2' := (b5.cell (p := ⟨w9.heap.size, 2, none⟩) (cell_lt e2)).trans e2
  have e3' := (b5.cell (p := ⟨w9.heap.size, 3, none⟩) (cell_lt e3)).trans e3
  clear hco h5 b5 e0 e1 e2 e3
  go_wp2_with fail
  go_ret
  exact ⟨rfl, HX5.out.2.2.1⟩
end Go.Proofs.YtkbmbnfpadllmaaDoor.We
