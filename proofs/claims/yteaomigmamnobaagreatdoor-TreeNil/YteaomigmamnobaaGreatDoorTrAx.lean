/- awake of the trees: the walk. -/
import Derived.Test.YteaomigmamnobaaGreatDoorTrAw
namespace Go.Proofs.YteaomigmamnobaaGreatDoor
set_option linter.unusedSimpArgs false
set_option linter.unusedVariables false
open Go.RowKit Go.MapKept
set_option linter.unusedVariables false
set_option linter.unusedSimpArgs false
theorem get_a {w0 w : World} {t m n : Nat} {S : List Si.Fi} (h : Aw w0 w t m n [nR, nA] S) :
    Calls Tryz.prog 14 #[.pointer (some ⟨t, 0, none⟩), .string (mkS [47, 97])] w fun e w' => ∃ A C, e = .returned (.tuple #[.agg #[.string (mkS [47, 97]), .slice A 1 C, .int .i64 5, .int .i64 5, .int .i64 5, .int .i64 7, .int .i64 7, .int .i64 0, .int .i64 0, .int .i64 0, .int .i64 1, .int .i64 0], .bool true]) ∧ w'.ownsRow w.heap.size 5 1 (.slice A 1 C) 1 (bv [120]) ∧ Aw w0 w' t m n [nR, nA] S ∧ Below w.heap.size w w' := by
  have c4 := h.get (by simp) [47, 97] (by simp) lookA
  rw [kidsA] at c4
  refine c4.mono ?_
  rintro e w' ⟨A, C, rfl, ho, h1, h2⟩
  exact ⟨A, C, rfl, ho, h1, h2⟩
theorem one_get_a (A : Option Addr) (C : Nat) : (#[.string (mkS [47, 97]), .slice A 1 C, .int .i64 5, .int .i64 5, .int .i64 5, .int .i64 7, .int .i64 7, .int .i64 0, .int .i64 0, .int .i64 0, .int .i64 1, .int .i64 0] : Array Value).all (·.oneCell') = true := by simp [Value.oneCell']
theorem get_r {w0 w : World} {t m n : Nat} {S : List Si.Fi} (h : Aw w0 w t m n [nR, nA] S) :
    Calls Tryz.prog 14 #[.pointer (some ⟨t, 0, none⟩), .string (mkS [47])] w fun e w' => ∃ A C, e = .returned (.tuple #[.agg #[.string (mkS [47]), .slice A 0 C, .int .i64 0, .int .i64 0, .int .i64 5, .int .i64 0, .int .i64 0, .int .i64 0, .int .i64 1, .int .i64 0, .int .i64 0, .int .i64 1], .bool true]) ∧ w'.ownsRow w.heap.size 5 1 (.slice A 0 C) 0 (bv []) ∧ Aw w0 w' t m n [nR, nA] S ∧ Below w.heap.size w w' := by
  have c4 := h.get (by simp) [47] (by simp) lookR
  rw [kidsR] at c4
  refine c4.mono ?_
  rintro e w' ⟨A, C, rfl, ho, h1, h2⟩
  exact ⟨A, C, rfl, ho, h1, h2⟩
theorem one_get_r (A : Option Addr) (C : Nat) : (#[.string (mkS [47]), .slice A 0 C, .int .i64 0, .int .i64 0, .int .i64 5, .int .i64 0, .int .i64 0, .int .i64 0, .int .i64 1, .int .i64 0, .int .i64 0, .int .i64 1] : Array Value).all (·.oneCell') = true := by simp [Value.oneCell']
set_option maxRecDepth 100000 in
set_option maxHeartbeats 1000000 in
theorem awake_any (w : World) (hL : PA.Laid w) : Calls Tryz.prog 8 #[] w fun e w' => e = .returned (.bool true) ∧ Below w.heap.size w w' := by
  have c1 := new_tr w
  have HL : Hid (PA.Laid w) := hL
  clear hL
  go_enter Tryz.func8, Tryz.ntmps8
  go_wp2_with fail
  refine c1.mono ?_
  rintro e w1 ⟨t, m, n, rfl, hT1, hW1, hb1⟩
  have H1 : Hid (Aw w w1 t m n [⟨[47], [], zeroSt⟩] []) := ⟨hT1, HL.out.below hb1, hb1, hW1⟩
  have c2 := mk_any w1
  clear c1 hT1 hW1 hb1
  go_wp2_with fail
  refine c2.mono ?_
  rintro e w2 ⟨rfl, hbs, hb2⟩
  have c3 := (H1.out.below hb2).apply fC (by simp [fC]) rfl rfl fC_right fC_fit (by simp [fC]) hbs (by simp [fC])
  rw [N1_is, S1_is] at c3
  clear c2 hbs hb2
  simp only [dA, fC, List.length_cons, List.length_nil] at c3 ⊢
  go_wp2_with fail
  refine c3.mono ?_
  rintro e w3 ⟨rfl, h3, k3⟩
  have H3 : Hid (Aw w w3 t m n [nR, nA] []) := h3
  have c4 := get_a h3
  clear c3 h3 k3
  go_wp2_with fail
  refine c4.mono ?_
  rintro e w4 ⟨A4, C4, rfl, ho4, h4, hb4⟩
  have H4 : Hid (Aw w w4 t m n [nR, nA] [] ∧ w4.ownsRow w3.heap.size 5 1 (.slice A4 1 C4) 1 (bv [120]) ∧ Below w3.heap.size w3 w4) := ⟨h4, ho4, hb4⟩
  have HMN : Hid ((m < w4.heap.size ∧ n < w4.heap.size) ∧ ∀ k, bk (.slice A4 1 C4) = some k → k ≠ m ∧ k ≠ n) := by
    have h3l := H3.out.1.lt
    have hs := H4.out.2.2.size
    refine ⟨⟨by omega, by omega⟩, fun k hk => ?_⟩
    cases A4 with
    | none => simp [bk] at hk
    | some ad =>
      have hk' : ad.block = k := by simpa [bk] using hk
      have := (H4.out.2.1.lt ad.block rfl).1
      omega
  have HA4 : Hid (Bs w4 (.slice A4 1 C4) [120]) := Bs.of_owns ho4
  have c5 := get_r (h4.below (lay1 w4 (.cells #[.string (mkS [47, 97]), .slice A4 1 C4, .int .i64 5, .int .i64 5, .int .i64 5, .int .i64 7, .int .i64 7, .int .i64 0, .int .i64 0, .int .i64 0, .int .i64 1, .int .i64 0] 47)))
  clear c4 ho4 h4 hb4
  go_wp2_with fail
  refine c5.mono ?_
  rintro e w6 ⟨A6, C6, rfl, ho6, h6, hb6⟩
  have hbA : Below w4.heap.size w4 w6 := (lay1 w4 _).trans (hb6.mono (by simp))
  have hgA : w6.heap[w4.heap.size]? = some (.cells #[.string (mkS [47, 97]), .slice A4 1 C4, .int .i64 5, .int .i64 5, .int .i64 5, .int .i64 7, .int .i64 7, .int .i64 0, .int .i64 0, .int .i64 0, .int .i64 1, .int .i64 0] 47 (0, 0)) := by rw [hb6.block _ (by simp)]; exact heap_alloc_new w4 _
  have HG6 : Hid (w6.heap[w4.heap.size]? = some (.cells #[.string (mkS [47, 97]), .slice A4 1 C4, .int .i64 5, .int .i64 5, .int .i64 5, .int .i64 7, .int .i64 7, .int .i64 0, .int .i64 0, .int .i64 0, .int .i64 1, .int .i64 0] 47 (0, 0)) ∧ Bs w6 (.slice A4 1 C4) [120] ∧ w4.heap.size < w6.heap.size) := ⟨hgA, Bs.below HA4.out hbA (fun k hk => HA4.out.lt hk), theap_lt hgA⟩
  have c7 := Aw.list (h6.below (lay1 w6 (.cells #[.string (mkS [47]), .slice A6 0 C6, .int .i64 0, .int .i64 0, .int .i64 5, .int .i64 0, .int .i64 0, .int .i64 0, .int .i64 1, .int .i64 0, .int .i64 0, .int .i64 1] 47))) (by simp) [47] [97] lookR listR
  have H6 : Hid (Aw w w6 t m n [nR, nA] []) := h6
  clear c5 ho6 h6 hb6 hbA hgA
  go_wp2_with fail
  refine c7.mono ?_
  rintro e w7 ⟨gl, C7, rfl, hl7, h7, hb7⟩
  have hb67 : Below w6.heap.size w6 w7 := (lay1 w6 _).trans (hb7.mono (by simp))
  have HG7 : Hid (w7.heap[w6.heap.size]? = some (.cells #[.string (mkS [47]), .slice A6 0 C6, .int .i64 0, .int .i64 0, .int .i64 5, .int .i64 0, .int .i64 0, .int .i64 0, .int .i64 1, .int .i64 0, .int .i64 0, .int .i64 1] 47 (0, 0)) ∧ w7.heap[w4.heap.size]? = some (.cells #[.string (mkS [47, 97]), .slice A4 1 C4, .int .i64 5, .int .i64 5, .int .i64 5, .int .i64 7, .int .i64 7, .int .i64 0, .int .i64 0, .int .i64 0, .int .i64 1, .int .i64 0] 47 (0, 0)) ∧ Bs w7 (.slice A4 1 C4) [120] ∧ w7.cell? ⟨gl, 0, none⟩ = some (.string (mkS [97])) ∧ (w4.heap.size < w6.heap.size ∧ w6.heap.size < w7.heap.size ∧ w6.heap.size ≤ gl ∧ gl < w7.heap.size)) := by
    have e1 : w7.heap[w6.heap.size]? = some (.cells #[.string (mkS [47]), .slice A6 0 C6, .int .i64 0, .int .i64 0, .int .i64 5, .int .i64 0, .int .i64 0, .int .i64 0, .int .i64 1, .int .i64 0, .int .i64 0, .int .i64 1] 47 (0, 0)) := by rw [hb7.block _ (by simp)]; exact heap_alloc_new w6 _
    refine ⟨e1, ?_, Bs.below HG6.out.2.1 hb67 (fun k hk => HG6.out.2.1.lt hk), hl7.2.2, HG6.out.2.2, theap_lt e1, ?_, hl7.1⟩
    · rw [hb67.block _ HG6.out.2.2]; exact HG6.out.1
    · have := hl7.2.1; simp at this; omega
  have H7 : Hid (Aw w w7 t m n [nR, nA] []) := h7
  have c8 := h7.apply fO (by simp [fO]) rfl rfl fO_right fO_fit (by simp [fO]) (A1 := none) (c1 := 0) (.inl ⟨rfl, rfl⟩) (by simp [fO])
  rw [N2_is, S2_is] at c8
  simp only [dA, fO, List.length_cons, List.length_nil, mkS] at c8
  clear c7 hl7 h7 hb7 hb67
  go_wp2_with fail
  refine c8.mono ?_
  rintro e w8 ⟨rfl, h8, k8⟩
  have c9 := h8.apply fS (by simp [fS]) rfl rfl fS_right fS_fit (by simp [fS]) (A1 := none) (c1 := 0) (.inl ⟨rfl, rfl⟩) (by simp [fS])
  rw [N3_is, S3_is] at c9
  simp only [dA, fS, List.length_cons, List.length_nil, mkS] at c9
  have HK8 : Hid (Chg (Mn m n) w7 w8) := k8
  clear c8 h8 k8
  go_wp2_with fail
  refine c9.mono ?_
  rintro e w9 ⟨rfl, h9, k9⟩
  have HK9 : Chg (Mn m n) w7 w9 := HK8.out.trans k9
  have e1 : w9.heap[w6.heap.size]? = some (.cells #[.string (mkS [47]), .slice A6 0 C6, .int .i64 0, .int .i64 0, .int .i64 5, .int .i64 0, .int .i64 0, .int .i64 0, .int .i64 1, .int .i64 0, .int .i64 0, .int .i64 1] 47 (0, 0)) := by
    have h1 := HMN.out.1; have h2 := HG7.out.2.2.2.2
    rw [HK9.block _ h2.2.1 (by rintro (e | e) <;> omega)]; exact HG7.out.1
  have e2 : w9.heap[w4.heap.size]? = some (.cells #[.string (mkS [47, 97]), .slice A4 1 C4, .int .i64 5, .int .i64 5, .int .i64 5, .int .i64 7, .int .i64 7, .int .i64 0, .int .i64 0, .int .i64 0, .int .i64 1, .int .i64 0] 47 (0, 0)) := by
    have h1 := HMN.out.1; have h2 := HG7.out.2.2.2.2
    rw [HK9.block _ (by omega) (by rintro (e | e) <;> omega)]; exact HG7.out.2.1
  have e3 : Bs w9 (.slice A4 1 C4) [120] := HG7.out.2.2.1.keep HK9 (fun k hk => by
    have := HMN.out.2 k hk
    rintro (e | e) <;> omega)
  have e4 : w9.cell? ⟨gl, 0, none⟩ = some (.string (mkS [97])) := by
    have h1 := HMN.out.1; have h2 := HG7.out.2.2.2.2
    rw [HK9.cell (a := ⟨gl, 0, none⟩) h2.2.2.2 (by rintro (e | e) <;> (have e' : gl = _ := e; omega))]; exact HG7.out.2.2.2.1
  have a1 := cell_at e2 1
  have a2 := cell_at e2 2
  have a3 := cell_at e2 3
  have a4 := cell_at e2 4
  have a5 := cell_at e2 5
  have a6 := cell_at e2 6
  have a7 := cell_at e2 7
  have a8 := cell_at e2 8
  have a9 := cell_at e2 9
  have a10 := cell_at e2 10
  have a11 := cell_at e2 11
  have r2 := cell_at e1 2
  have r3 := cell_at e1 3
  have r4 := cell_at e1 4
  have r5 := cell_at e1 5
  have r6 := cell_at e1 6
  have r7 := cell_at e1 7
  have r8 := cell_at e1 8
  have r9 := cell_at e1 9
  have r10 := cell_at e1 10
  have r11 := cell_at e1 11
  simp at a1 a2 a3 a4 a5 a6 a7 a8 a9 a10 a11 r2 r3 r4 r5 r6 r7 r8 r9 r10 r11
  have hcv := convert_bytes e3
  have hgl : gl < w9.heap.size := Nat.lt_of_lt_of_le HG7.out.2.2.2.2.2.2.2 HK9.size
  have c10 := texts_one (w := w9.alloc (.cells #[.string (mkS [97])] 9)) (ga := gl) (gb := w9.heap.size) (ca := C7) (cb := 1) (s := [97]) (by
      rw [(lay1 w9 _).cell (p := ⟨gl, 0, none⟩) hgl]; exact e4) (cell_at (heap_alloc_new w9 _) 0)
  have H9 : Hid (Aw w w9 t m n [nR, nA] [⟨8, 10, 4⟩]) := h9
  clear c9 h9 k9 HK9 e1 e2 e3 e4 hgl
  simp only [mkS] at c10 hcv
  go_wp2_with fail
  refine c10.mono ?_
  rintro e w10 ⟨rfl, q, rfl⟩
  have h10 : Aw w ((w9.alloc (.cells #[.string (mkS [97])] 9)).drewN q) t m n [nR, nA] [⟨8, 10, 4⟩] := (H9.out.below (lay1 w9 _)).below (below_drewN (Below.refl _ _) q)
  have c11 := h10.sits
  have H10 : Hid (Below w.heap.size w ((w9.alloc (.cells #[.string (mkS [97])] 9)).drewN q)) := h10.2.2.1
  simp only [mkS] at c11
  clear c10 h10 a1 a2 a3 a4 a5 a6 a7 a8 a9 a10 a11 r2 r3 r4 r5 r6 r7 r8 r9 r10 r11 hcv
  go_wp2_with fail
  refine c11.mono ?_
  rintro e w11 ⟨g, C11, rfl, ⟨hg, s0, s1, s2⟩, hb11⟩
  have H11 : Hid (Below w.heap.size w w11) := H10.out.trans (hb11.mono H10.out.size)
  have c12 := sits_one (w := w11.alloc (.cells #[.int .i64 8, .int .i64 10, .int .i64 4] 57)) (ga := g) (gb := w11.heap.size) (ca := C11) (cb := 1) (x := 8) (y := 10) (z := 4)
    (by rw [(lay1 w11 _).cell (p := ⟨g, 0, none⟩) hg]; exact s0) (by rw [(lay1 w11 _).cell (p := ⟨g, 1, none⟩) hg]; exact s1) (by rw [(lay1 w11 _).cell (p := ⟨g, 2, none⟩) hg]; exact s2)
    (cell_at (heap_alloc_new w11 _) 0) (cell_at (heap_alloc_new w11 _) 1) (cell_at (heap_alloc_new w11 _) 2)
  clear c11 s0 s1 s2 hb11 hg
  go_wp2_with fail
  refine c12.mono ?_
  rintro e w12 ⟨rfl, q12, rfl⟩
  have H12 : Hid (Below w.heap.size w ((w11.alloc (.cells #[.int .i64 8, .int .i64 10, .int .i64 4] 57)).drewN q12)) := below_drewN (H11.out.trans ((lay1 w11 _).mono H11.out.size)) q12
  clear c12
  go_wp2_with fail
  go_ret
  exact ⟨rfl, H12.out⟩
end Go.Proofs.YteaomigmamnobaaGreatDoor
