/- TreeNumbers: the walk. -/
import Derived.Test.YtcdnfgibcochhaaGreatDoorTrNi
import Derived.Deep.CutRange
import Derived.Deep.CutBlock
import Derived.Lib.QuietBelow
import Derived.BigQuiet
import Derived.Deep.RegionWith
namespace Go.Proofs.YtcdnfgibcochhaaGreatDoor.Nb
set_option linter.unusedSimpArgs false
set_option linter.unusedVariables false
set_option linter.unusedSimpArgs false
set_option linter.unusedVariables false
open Go.RowKit Go.MapKept
def Aw0 (w0 w : World) (t m n : Nat) (k : Nat) (N : List Fi) (S : List Si.Fi) : Prop := Aw w0 w t m n N S
set_option maxRecDepth 100000 in
set_option maxHeartbeats 40000000 in
theorem numbers_any (w : World) (hL : PA.Laid w) : Calls Tryz.prog 4 #[] w fun e w' => e = .returned (.bool true) ∧ Below w.heap.size w w' := by
  have c1 := new_tr w
  have HL : Hid (PA.Laid w) := hL
  clear hL
  go_enter Tryz.func4, Tryz.ntmps4
  go_wp2_with fail
  refine c1.mono ?_
  rintro e w1 ⟨t, m, n, rfl, hT1, hW1, hb1⟩
  have H0 : Hid (Aw w w1 t m n N0 S0) := ⟨hT1, HL.out.below hb1, hb1, hW1⟩
  clear c1 hT1 hW1 hb1
  go_upto_region 2 with fail
  go_cut [1] from 17 to 19 (fun v1 wx => v1 = .pointer (some ⟨t, 0, none⟩) ∧ Aw w wx t m n N1 S1)
  case first =>
    have c2 := mk_gen w1 5 0 1 [47, 97]
    go_wp2_with fail
    refine c2.mono ?_
    rintro e w2 ⟨rfl, hbs, hb2⟩
    have c3 := (H0.out.below hb2).any d1 [] ⟨hbs, .inl ⟨rfl, rfl⟩, .inl ⟨rfl, rfl⟩⟩ d1_fit d1_right
    clear c2 hbs hb2
    simp only [dA, d1, fK, List.length_cons, List.length_nil] at c3 ⊢
    go_wp2_with fail
    refine c3.mono ?_
    rintro e w3 ⟨rfl, h3, k3⟩
    have H3 : Hid (Aw w w3 t m n N1 S1) := h3
    clear c3 h3 k3
    go_wp2_with fail
    go_meet
    exact ⟨rfl, H3.out⟩
  case rest =>
  obtain ⟨rfl, hcut⟩ := hcut
  have H1 : Hid (Aw w wc t m n N1 S1) := hcut
  clear hcut H0
  go_upto_region 3 with fail
  go_cut [1] from 20 to 22 (fun v1 wx => v1 = .pointer (some ⟨t, 0, none⟩) ∧ Aw w wx t m n N2 S2)
  case first =>
    have c2 := mk_gen wc 6 9 1 [47, 97, 47, 98]
    go_wp2_with fail
    refine c2.mono ?_
    rintro e w2 ⟨rfl, hbs, hb2⟩
    have c3 := (H1.out.below hb2).any d2 [] ⟨hbs, .inl ⟨rfl, rfl⟩, .inl ⟨rfl, rfl⟩⟩ d2_fit d2_right
    clear c2 hbs hb2
    simp only [dA, d2, fK, List.length_cons, List.length_nil] at c3 ⊢
    go_wp2_with fail
    refine c3.mono ?_
    rintro e w3 ⟨rfl, h3, k3⟩
    have H3 : Hid (Aw w w3 t m n N2 S2) := h3
    clear c3 h3 k3
    go_wp2_with fail
    go_meet
    exact ⟨rfl, H3.out⟩
  case rest =>
  obtain ⟨rfl, hcut⟩ := hcut
  have H2 : Hid (Aw w wc t m n N2 S2) := hcut
  clear hcut H1
  go_upto_region 4 with fail
  go_cut [1] from 23 to 25 (fun v1 wx => v1 = .pointer (some ⟨t, 0, none⟩) ∧ Aw w wx t m n N3 S3)
  case first =>
    have c2 := mk_gen wc 7 8 2 [47, 97]
    go_wp2_with fail
    refine c2.mono ?_
    rintro e w2 ⟨rfl, hbs, hb2⟩
    have c3 := (H2.out.below hb2).any d3 [] ⟨hbs, .inl ⟨rfl, rfl⟩, .inl ⟨rfl, rfl⟩⟩ d3_fit d3_right
    clear c2 hbs hb2
    simp only [dA, d3, fK, List.length_cons, List.length_nil] at c3 ⊢
    go_wp2_with fail
    refine c3.mono ?_
    rintro e w3 ⟨rfl, h3, k3⟩
    have H3 : Hid (Aw w w3 t m n N3 S3) := h3
    clear c3 h3 k3
    go_wp2_with fail
    go_meet
    exact ⟨rfl, H3.out⟩
  case rest =>
  obtain ⟨rfl, hcut⟩ := hcut
  have H3 : Hid (Aw w wc t m n N3 S3) := hcut
  clear hcut H2
  go_upto_region 5 with fail
  go_cut [1] from 26 to 28 (fun v1 wx => v1 = .pointer (some ⟨t, 0, none⟩) ∧ Aw w wx t m n N4 S4)
  case first =>
    have c3 := H3.out.any d4 [] (A1 := none) (c1 := 0) (A2 := none) (c2 := 0) (A3 := none) (c3 := 0) ⟨.inl ⟨rfl, rfl⟩, .inl ⟨rfl, rfl⟩, .inl ⟨rfl, rfl⟩⟩ d4_fit d4_right
    simp only [dA, d4, List.length_cons, List.length_nil, mkS] at c3
    go_wp2_with fail
    refine c3.mono ?_
    rintro e w3 ⟨rfl, h3, k3⟩
    have H3 : Hid (Aw w w3 t m n N4 S4) := h3
    clear c3 h3 k3
    go_wp2_with fail
    go_meet
    exact ⟨rfl, H3.out⟩
  case rest =>
  obtain ⟨rfl, hcut⟩ := hcut
  have H4 : Hid (Aw w wc t m n N4 S4) := hcut
  clear hcut H3
  go_upto_region 6 with fail
  go_cut [1] from 29 to 31 (fun v1 wx => v1 = .pointer (some ⟨t, 0, none⟩) ∧ Aw w wx t m n N5 S5)
  case first =>
    have c3 := H4.out.any d5 [] (A1 := none) (c1 := 0) (A2 := none) (c2 := 0) (A3 := none) (c3 := 0) ⟨.inl ⟨rfl, rfl⟩, .inl ⟨rfl, rfl⟩, .inl ⟨rfl, rfl⟩⟩ d5_fit d5_right
    simp only [dA, d5, List.length_cons, List.length_nil, mkS] at c3
    go_wp2_with fail
    refine c3.mono ?_
    rintro e w3 ⟨rfl, h3, k3⟩
    have H3 : Hid (Aw w w3 t m n N5 S5) := h3
    clear c3 h3 k3
    go_wp2_with fail
    go_meet
    exact ⟨rfl, H3.out⟩
  case rest =>
  obtain ⟨rfl, hcut⟩ := hcut
  have H5 : Hid (Aw w wc t m n N5 S5) := hcut
  clear hcut H4
  go_upto_region 7 with fail
  go_cut [1] from 32 to 34 (fun v1 wx => v1 = .pointer (some ⟨t, 0, none⟩) ∧ Aw w wx t m n N6 S6)
  case first =>
    have c3 := H5.out.any d6 [] (A1 := none) (c1 := 0) (A2 := none) (c2 := 0) (A3 := none) (c3 := 0) ⟨.inl ⟨rfl, rfl⟩, .inl ⟨rfl, rfl⟩, .inl ⟨rfl, rfl⟩⟩ d6_fit d6_right
    simp only [dA, d6, List.length_cons, List.length_nil, mkS] at c3
    go_wp2_with fail
    refine c3.mono ?_
    rintro e w3 ⟨rfl, h3, k3⟩
    have H3 : Hid (Aw w w3 t m n N6 S6) := h3
    clear c3 h3 k3
    go_wp2_with fail
    go_meet
    exact ⟨rfl, H3.out⟩
  case rest =>
  obtain ⟨rfl, hcut⟩ := hcut
  have H6 : Hid (Aw w wc t m n N6 S6) := hcut
  clear hcut H5
  go_upto_region 8 with fail
  go_cut [2, 3] from 35 to 39 (fun v2 v3 wx => ∃ (ga : Nat) (A : Option Addr) (C : Nat), v2 = .pointer (some ⟨ga, 0, none⟩) ∧ wx.heap[ga]? = some (.cells #[.string (mkS [47, 97]), .slice A 1 C, .int .i64 7, .int .i64 7, .int .i64 7, .int .i64 7, .int .i64 7, .int .i64 0, .int .i64 0, .int .i64 8, .int .i64 1, .int .i64 1] 47 (0, 0)) ∧ w.heap.size ≤ ga ∧ ¬ Wt t m n ga ∧ Aw w wx t m n N6 S6)
  case first =>
    have c4 := get6a H6.out
    go_wp2_with fail
    refine c4.mono ?_
    rintro e w4 ⟨A, C, rfl, h4, hb4⟩
    have HF : Hid (Aw w w4 t m n N6 S6) := h4
    clear c4 h4 hb4
    go_wp2_with fail
    go_meet
    refine ⟨w4.heap.size, A, C, rfl, heap_alloc_new w4 _, HF.out.2.2.1.size, fun e => ?_, HF.out.below (lay1 w4 _)⟩
    have h1 := HF.out.1.lt
    rcases e with e | e | e <;> omega
  case rest =>
  obtain ⟨ga, A, C, rfl, hga, hga1, hga2, hcut⟩ := hcut
  have HA : Hid (wc.heap[ga]? = some (.cells #[.string (mkS [47, 97]), .slice A 1 C, .int .i64 7, .int .i64 7, .int .i64 7, .int .i64 7, .int .i64 7, .int .i64 0, .int .i64 0, .int .i64 8, .int .i64 1, .int .i64 1] 47 (0, 0)) ∧ w.heap.size ≤ ga ∧ ¬ Wt t m n ga ∧ ga < wc.heap.size) := ⟨hga, hga1, hga2, theap_lt hga⟩
  have H8 : Hid (Aw w wc t m n N6 S6) := hcut
  clear hcut hga hga1 hga2 H6
  obtain ⟨w8, hw8⟩ : ∃ x, x = wc := ⟨_, rfl⟩
  subst hw8
  go_upto_region 9 with fail
  go_cut [4, 5] from 40 to 44 (fun v4 v5 wx => ∃ (gr : Nat) (A2 : Option Addr) (C2 : Nat), v4 = .pointer (some ⟨gr, 0, none⟩) ∧ wx.heap[gr]? = some (.cells #[.string (mkS [47]), .slice A2 0 C2, .int .i64 0, .int .i64 0, .int .i64 10, .int .i64 0, .int .i64 0, .int .i64 0, .int .i64 5, .int .i64 0, .int .i64 0, .int .i64 1] 47 (0, 0)) ∧ Below w8.heap.size w8 wx)
  case first =>
    have c4 := get6r H8.out
    go_wp2_with fail
    refine c4.mono ?_
    rintro e w4 ⟨A2, C2, rfl, h4, hb4⟩
    have HF : Hid (Below w8.heap.size w8 w4) := hb4
    clear c4 h4 hb4
    go_wp2_with fail
    go_meet
    exact ⟨w4.heap.size, A2, C2, rfl, heap_alloc_new w4 _, HF.out.alloc HF.out.size _⟩
  case rest =>
  obtain ⟨gr, A2, C2, rfl, hgr, hb9⟩ := hcut
  obtain ⟨w9, hw9⟩ : ∃ x, x = wc := ⟨_, rfl⟩
  subst hw9
  have HB9 : Hid (Below w8.heap.size w8 w9) := hb9
  have H9 : Hid (Aw w w9 t m n N6 S6) := H8.out.below hb9
  have HGA : Hid (w9.heap[ga]? = some (.cells #[.string (mkS [47, 97]), .slice A 1 C, .int .i64 7, .int .i64 7, .int .i64 7, .int .i64 7, .int .i64 7, .int .i64 0, .int .i64 0, .int .i64 8, .int .i64 1, .int .i64 1] 47 (0, 0)) ∧ ga < w9.heap.size) := ⟨(hb9.block _ HA.out.2.2.2).trans HA.out.1, Nat.lt_of_lt_of_le HA.out.2.2.2 hb9.size⟩
  have HGR : Hid (w9.heap[gr]? = some (.cells #[.string (mkS [47]), .slice A2 0 C2, .int .i64 0, .int .i64 0, .int .i64 10, .int .i64 0, .int .i64 0, .int .i64 0, .int .i64 5, .int .i64 0, .int .i64 0, .int .i64 1] 47 (0, 0)) ∧ gr < w9.heap.size) := ⟨hgr, theap_lt hgr⟩
  clear hgr hb9
  go_upto_region 10 with fail
  go_cut [67] from 45 to 67 (fun v67 wx => v67 = .bool false ∧ Below w9.heap.size w9 wx)
  case first =>
    have a2 := cell_at HGA.out.1 2
    have a3 := cell_at HGA.out.1 3
    have a4 := cell_at HGA.out.1 4
    have a5 := cell_at HGA.out.1 5
    have a6 := cell_at HGA.out.1 6
    have a7 := cell_at HGA.out.1 7
    have a8 := cell_at HGA.out.1 8
    have a9 := cell_at HGA.out.1 9
    have a10 := cell_at HGA.out.1 10
    have a11 := cell_at HGA.out.1 11
    have r2 := cell_at HGR.out.1 2
    have r3 := cell_at HGR.out.1 3
    have r4 := cell_at HGR.out.1 4
    have r5 := cell_at HGR.out.1 5
    have r6 := cell_at HGR.out.1 6
    have r7 := cell_at HGR.out.1 7
    have r8 := cell_at HGR.out.1 8
    have r9 := cell_at HGR.out.1 9
    have r10 := cell_at HGR.out.1 10
    have r11 := cell_at HGR.out.1 11
    simp at a2 a3 a4 a5 a6 a7 a8 a9 a10 a11 r2 r3 r4 r5 r6 r7 r8 r9 r10 r11
    have c5 := own_nine H9.out
    go_wp2_with fail
    refine c5.mono ?_
    rintro e w11 ⟨g, C5, rfl, hg, hgc, hb11⟩
    have HB11 : Hid (Below w9.heap.size w9 w11) := hb11
    have c6 := texts_one (w := w11.alloc (.cells #[.string (mkS [47, 97, 47, 98])] 9)) (ga := g) (gb := w11.heap.size) (ca := C5) (cb := 1) (s := [47, 97, 47, 98]) (by
      rw [(lay1 w11 _).cell (p := ⟨g, 0, none⟩) hg]; exact hgc) (cell_at (heap_alloc_new w11 _) 0)
    simp only [mkS] at c6
    clear c5 hg hgc hb11 a2 a3 a4 a5 a6 a7 a8 a9 a10 a11 r2 r3 r4 r5 r6 r7 r8 r9 r10 r11
    go_wp2_with fail
    refine c6.mono ?_
    rintro e w12 ⟨rfl, q, hw12⟩
    have HB12 : Hid (Below w9.heap.size w9 w12) := by rw [hw12]; exact below_drewN (HB11.out.trans ((lay1 w11 _).mono HB11.out.size)) q
    have c7 := (H9.out.1.below HB12.out).owned0
    clear c6 hw12
    go_wp2_with fail
    refine c7.mono ?_
    rintro e w13 ⟨rfl, rfl⟩
    clear c7
    go_wp2_with fail
    go_meet
    exact ⟨rfl, HB12.out⟩
  case rest =>
  obtain ⟨rfl, hb10⟩ := hcut
  obtain ⟨w10, hw10⟩ : ∃ x, x = wc := ⟨_, rfl⟩
  subst hw10
  have H6 : Hid (Aw w w10 t m n N6 S6) := H9.out.below hb10
  have HX6 : Hid (w10.heap[ga]? = some (.cells #[.string (mkS [47, 97]), .slice A 1 C, .int .i64 7, .int .i64 7, .int .i64 7, .int .i64 7, .int .i64 7, .int .i64 0, .int .i64 0, .int .i64 8, .int .i64 1, .int .i64 1] 47 (0, 0))) := (hb10.block _ HGA.out.2).trans HGA.out.1
  have HG : Hid (w.heap.size ≤ ga ∧ ¬ Wt t m n ga) := ⟨HA.out.2.1, HA.out.2.2.1⟩
  clear hb10 HGA HGR HA H8 H9 HB9
  go_upto_region 12 with fail
  go_cut [1] from 68 to 70 (fun v1 wx => v1 = .pointer (some ⟨t, 0, none⟩) ∧ Aw w wx t m n N7 S7 ∧ wx.heap[ga]? = some (.cells #[.string (mkS [47, 97]), .slice A 1 C, .int .i64 7, .int .i64 7, .int .i64 7, .int .i64 7, .int .i64 7, .int .i64 0, .int .i64 0, .int .i64 8, .int .i64 1, .int .i64 1] 47 (0, 0)))
  case first =>
    have c3 := H6.out.any d7 [] (A1 := none) (c1 := 0) (A2 := none) (c2 := 0) (A3 := none) (c3 := 0) ⟨.inl ⟨rfl, rfl⟩, .inl ⟨rfl, rfl⟩, .inl ⟨rfl, rfl⟩⟩ d7_fit d7_right
    simp only [dA, d7, List.length_cons, List.length_nil, mkS] at c3
    go_wp2_with fail
    refine c3.mono ?_
    rintro e w3 ⟨rfl, h3, k3⟩
    have H3 : Hid (Aw w w3 t m n N7 S7) := h3
    have HX3 : Hid (w3.heap[ga]? = some (.cells #[.string (mkS [47, 97]), .slice A 1 C, .int .i64 7, .int .i64 7, .int .i64 7, .int .i64 7, .int .i64 7, .int .i64 0, .int .i64 0, .int .i64 8, .int .i64 1, .int .i64 1] 47 (0, 0))) := (k3.block ga (theap_lt HX6.out) (fun e => HG.out.2 (by rcases e with e | e; exact .inr (.inl e); exact .inr (.inr e)))).trans HX6.out
    clear c3 h3 k3
    go_wp2_with fail
    go_meet
    exact ⟨rfl, H3.out, HX3.out⟩
  case rest =>
  obtain ⟨rfl, hcut, hx⟩ := hcut
  obtain ⟨w17, hw17⟩ : ∃ x, x = wc := ⟨_, rfl⟩
  subst hw17
  have H7 : Hid (Aw w w17 t m n N7 S7) := hcut
  have HX7 : Hid (w17.heap[ga]? = some (.cells #[.string (mkS [47, 97]), .slice A 1 C, .int .i64 7, .int .i64 7, .int .i64 7, .int .i64 7, .int .i64 7, .int .i64 0, .int .i64 0, .int .i64 8, .int .i64 1, .int .i64 1] 47 (0, 0))) := hx
  clear hcut hx H6 HX6
  go_upto_region 13 with fail
  go_cut [1] from 71 to 73 (fun v1 wx => v1 = .pointer (some ⟨t, 0, none⟩) ∧ Aw w wx t m n N8 S8 ∧ wx.heap[ga]? = some (.cells #[.string (mkS [47, 97]), .slice A 1 C, .int .i64 7, .int .i64 7, .int .i64 7, .int .i64 7, .int .i64 7, .int .i64 0, .int .i64 0, .int .i64 8, .int .i64 1, .int .i64 1] 47 (0, 0)))
  case first =>
    have c3 := H7.out.any d8 [] (A1 := none) (c1 := 0) (A2 := none) (c2 := 0) (A3 := none) (c3 := 0) ⟨.inl ⟨rfl, rfl⟩, .inl ⟨rfl, rfl⟩, .inl ⟨rfl, rfl⟩⟩ d8_fit d8_right
    simp only [dA, d8, List.length_cons, List.length_nil, mkS] at c3
    go_wp2_with fail
    refine c3.mono ?_
    rintro e w3 ⟨rfl, h3, k3⟩
    have H3 : Hid (Aw w w3 t m n N8 S8) := h3
    have HX3 : Hid (w3.heap[ga]? = some (.cells #[.string (mkS [47, 97]), .slice A 1 C, .int .i64 7, .int .i64 7, .int .i64 7, .int .i64 7, .int .i64 7, .int .i64 0, .int .i64 0, .int .i64 8, .int .i64 1, .int .i64 1] 47 (0, 0))) := (k3.block ga (theap_lt HX7.out) (fun e => HG.out.2 (by rcases e with e | e; exact .inr (.inl e); exact .inr (.inr e)))).trans HX7.out
    clear c3 h3 k3
    go_wp2_with fail
    go_meet
    exact ⟨rfl, H3.out, HX3.out⟩
  case rest =>
  obtain ⟨rfl, hcut, hx⟩ := hcut
  obtain ⟨w18, hw18⟩ : ∃ x, x = wc := ⟨_, rfl⟩
  subst hw18
  have H8 : Hid (Aw w w18 t m n N8 S8) := hcut
  have HX8 : Hid (w18.heap[ga]? = some (.cells #[.string (mkS [47, 97]), .slice A 1 C, .int .i64 7, .int .i64 7, .int .i64 7, .int .i64 7, .int .i64 7, .int .i64 0, .int .i64 0, .int .i64 8, .int .i64 1, .int .i64 1] 47 (0, 0))) := hx
  clear hcut hx H7 HX7
  go_upto_region 14 with fail
  go_cut [1] from 74 to 76 (fun v1 wx => v1 = .pointer (some ⟨t, 0, none⟩) ∧ Aw w wx t m n N9 S9 ∧ wx.heap[ga]? = some (.cells #[.string (mkS [47, 97]), .slice A 1 C, .int .i64 7, .int .i64 7, .int .i64 7, .int .i64 7, .int .i64 7, .int .i64 0, .int .i64 0, .int .i64 8, .int .i64 1, .int .i64 1] 47 (0, 0)))
  case first =>
    have c3 := H8.out.any d9 [] (A1 := none) (c1 := 0) (A2 := none) (c2 := 0) (A3 := none) (c3 := 0) ⟨.inl ⟨rfl, rfl⟩, .inl ⟨rfl, rfl⟩, .inl ⟨rfl, rfl⟩⟩ d9_fit d9_right
    simp only [dA, d9, List.length_cons, List.length_nil, mkS] at c3
    go_wp2_with fail
    refine c3.mono ?_
    rintro e w3 ⟨rfl, h3, k3⟩
    have H3 : Hid (Aw w w3 t m n N9 S9) := h3
    have HX3 : Hid (w3.heap[ga]? = some (.cells #[.string (mkS [47, 97]), .slice A 1 C, .int .i64 7, .int .i64 7, .int .i64 7, .int .i64 7, .int .i64 7, .int .i64 0, .int .i64 0, .int .i64 8, .int .i64 1, .int .i64 1] 47 (0, 0))) := (k3.block ga (theap_lt HX8.out) (fun e => HG.out.2 (by rcases e with e | e; exact .inr (.inl e); exact .inr (.inr e)))).trans HX8.out
    clear c3 h3 k3
    go_wp2_with fail
    go_meet
    exact ⟨rfl, H3.out, HX3.out⟩
  case rest =>
  obtain ⟨rfl, hcut, hx⟩ := hcut
  obtain ⟨w19, hw19⟩ : ∃ x, x = wc := ⟨_, rfl⟩
  subst hw19
  have H9 : Hid (Aw w w19 t m n N9 S9) := hcut
  have HX9 : Hid (w19.heap[ga]? = some (.cells #[.string (mkS [47, 97]), .slice A 1 C, .int .i64 7, .int .i64 7, .int .i64 7, .int .i64 7, .int .i64 7, .int .i64 0, .int .i64 0, .int .i64 8, .int .i64 1, .int .i64 1] 47 (0, 0))) := hx
  clear hcut hx H8 HX8
  go_upto_region 15 with fail
  go_cut [82] from 77 to 82 (fun v82 wx => v82 = .bool false ∧ Below w19.heap.size w19 wx)
  case first =>
    have h9 : Aw w w19 t m n N9 [⟨11, 7, 2⟩] := by have := H9.out; rw [S9_is] at this; exact this
    have c11 := h9.sits
    simp only [mkS] at c11
    clear h9
    go_wp2_with fail
    refine c11.mono ?_
    rintro e w11 ⟨g, C11, rfl, ⟨hg, s0, s1, s2⟩, hb11⟩
    have H11 : Hid (Below w19.heap.size w19 w11) := hb11
    have c12 := sits_one (w := w11.alloc (.cells #[.int .i64 11, .int .i64 7, .int .i64 2] 57)) (ga := g) (gb := w11.heap.size) (ca := C11) (cb := 1) (x := 11) (y := 7) (z := 2)
      (by rw [(lay1 w11 _).cell (p := ⟨g, 0, none⟩) hg]; exact s0) (by rw [(lay1 w11 _).cell (p := ⟨g, 1, none⟩) hg]; exact s1) (by rw [(lay1 w11 _).cell (p := ⟨g, 2, none⟩) hg]; exact s2)
      (cell_at (heap_alloc_new w11 _) 0) (cell_at (heap_alloc_new w11 _) 1) (cell_at (heap_alloc_new w11 _) 2)
    clear c11 s0 s1 s2 hb11 hg
    go_wp2_with fail
    refine c12.mono ?_
    rintro e w12 ⟨rfl, q12, hw12⟩
    have H12 : Hid (Below w19.heap.size w19 w12) := by rw [hw12]; exact below_drewN (H11.out.trans ((lay1 w11 _).mono H11.out.size)) q12
    clear c12 hw12
    go_wp2_with fail
    go_meet
    exact ⟨rfl, H12.out⟩
  case rest =>
  obtain ⟨rfl, hb15⟩ := hcut
  obtain ⟨w15, hw15⟩ : ∃ x, x = wc := ⟨_, rfl⟩
  subst hw15
  have H9b : Hid (Aw w w15 t m n N9 S9) := H9.out.below hb15
  have HX9b : Hid (w15.heap[ga]? = some (.cells #[.string (mkS [47, 97]), .slice A 1 C, .int .i64 7, .int .i64 7, .int .i64 7, .int .i64 7, .int .i64 7, .int .i64 0, .int .i64 0, .int .i64 8, .int .i64 1, .int .i64 1] 47 (0, 0))) := (hb15.block _ (theap_lt HX9.out)).trans HX9.out
  clear hb15 H9 HX9
  go_upto_region 17 with fail
  go_cut [1] from 83 to 87 (fun v1 wx => v1 = .pointer (some ⟨t, 0, none⟩) ∧ Aw w wx t m n N10 S10 ∧ wx.heap[ga]? = some (.cells #[.string (mkS [47, 97]), .slice A 1 C, .int .i64 7, .int .i64 7, .int .i64 7, .int .i64 7, .int .i64 7, .int .i64 0, .int .i64 0, .int .i64 8, .int .i64 1, .int .i64 1] 47 (0, 0)))
  case first =>
    obtain ⟨wP, hwP⟩ : ∃ wP, wP = w15.alloc (.cells #[.int .i64 0, .int .u8 2, .int .i64 0, .int .i64 0, .int .i64 0, .int .i64 0, .string (mkS [47, 97, 47, 98]), .slice none 0 0, .int .i64 0, .int .i64 0, .int .i64 2, .int .i64 0, .int .i64 0, .int .i64 0, .slice none 0 0, .slice none 0 0] 31) := ⟨_, rfl⟩
    have hP : wP.heap[w15.heap.size]? = some (.cells #[.int .i64 0, .int .u8 2, .int .i64 0, .int .i64 0, .int .i64 0, .int .i64 0, .string (mkS [47, 97, 47, 98]), .slice none 0 0, .int .i64 0, .int .i64 0, .int .i64 2, .int .i64 0, .int .i64 0, .int .i64 0, .slice none 0 0, .slice none 0 0] 31 (0, 0)) := by rw [hwP]; exact heap_alloc_new w15 _
    have hPB : Below w15.heap.size w15 wP := by rw [hwP]; exact lay1 w15 _
    have hpr : DD.Prts wP wP.heap.size (.slice (some ⟨w15.heap.size, 0, none⟩) 1 1) [p10] := .inr (.inr ⟨by simp, w15.heap.size, 0, 1, rfl, Nat.le_refl _, theap_lt hP, Nat.le_refl _, fun j hj => by
      obtain rfl : j = 0 := by simpa using hj
      exact ⟨none, 0, none, 0, none, 0, ⟨cell_at hP 0, cell_at hP 1, cell_at hP 2, cell_at hP 3, cell_at hP 4, cell_at hP 5, cell_at hP 6, cell_at hP 7, cell_at hP 8, cell_at hP 9, cell_at hP 10, cell_at hP 11, cell_at hP 12, cell_at hP 13, cell_at hP 14, cell_at hP 15⟩, ⟨.inl ⟨rfl, rfl⟩, fun k e => by simp [bk] at e, .inl ⟨rfl, rfl⟩, fun k e => by simp [bk] at e⟩⟩⟩)
    have HXP : Hid (wP.heap[ga]? = some (.cells #[.string (mkS [47, 97]), .slice A 1 C, .int .i64 7, .int .i64 7, .int .i64 7, .int .i64 7, .int .i64 7, .int .i64 0, .int .i64 0, .int .i64 8, .int .i64 1, .int .i64 1] 47 (0, 0)) ∧ ga < wP.heap.size) := ⟨(hPB.block _ (theap_lt HX9b.out)).trans HX9b.out, Nat.lt_of_lt_of_le (theap_lt HX9b.out) hPB.size⟩
    have c3 := (H9b.out.below hPB).any d10 [p10] (A1 := none) (c1 := 0) (A2 := none) (c2 := 0) (A3 := some ⟨w15.heap.size, 0, none⟩) (c3 := 1) ⟨.inl ⟨rfl, rfl⟩, .inl ⟨rfl, rfl⟩, hpr⟩ d10_fit d10_right
    simp only [dA, d10, List.length_cons, List.length_nil, mkS] at c3
    clear hP hPB hpr
    subst hwP
    simp only [mkS] at c3
    go_wp2_with fail
    refine c3.mono ?_
    rintro e w3 ⟨rfl, h3, k3⟩
    have H3 : Hid (Aw w w3 t m n N10 S10) := h3
    have HX3 : Hid (w3.heap[ga]? = some (.cells #[.string (mkS [47, 97]), .slice A 1 C, .int .i64 7, .int .i64 7, .int .i64 7, .int .i64 7, .int .i64 7, .int .i64 0, .int .i64 0, .int .i64 8, .int .i64 1, .int .i64 1] 47 (0, 0))) := (k3.block ga HXP.out.2 (fun e => HG.out.2 (by rcases e with e | e; exact .inr (.inl e); exact .inr (.inr e)))).trans HXP.out.1
    clear c3 h3 k3
    go_wp2_with fail
    go_meet
    exact ⟨rfl, H3.out, HX3.out⟩
  case rest =>
  obtain ⟨rfl, hcut, hx⟩ := hcut
  obtain ⟨w110, hw110⟩ : ∃ x, x = wc := ⟨_, rfl⟩
  subst hw110
  have H10 : Hid (Aw w w110 t m n N10 S10) := hcut
  have HX10 : Hid (w110.heap[ga]? = some (.cells #[.string (mkS [47, 97]), .slice A 1 C, .int .i64 7, .int .i64 7, .int .i64 7, .int .i64 7, .int .i64 7, .int .i64 0, .int .i64 0, .int .i64 8, .int .i64 1, .int .i64 1] 47 (0, 0))) := hx
  clear hcut hx H9b HX9b
  go_upto_region 18 with fail
  go_cut [3] from 88 to 92 (fun v3 wx => wx.cell? ⟨ga, 8, none⟩ = some (.int .i64 2) ∧ wx.cell? ⟨ga, 4, none⟩ = some (.int .i64 13) ∧ wx.cell? ⟨ga, 11, none⟩ = some (.int .i64 0) ∧ Aw w wx t m n N10 S10)
  case first =>
    have c4 := get10a H10.out
    go_wp2_with fail
    refine c4.mono ?_
    rintro e w4 ⟨A4, C4, rfl, h4, hb4⟩
    have HF : Hid (Aw w w4 t m n N10 S10) := h4
    have hx := (hb4.block _ (theap_lt HX10.out)).trans HX10.out
    have hth : w4.there ga 0 12 := there_of hx
    have hinf := infoN12s
    have HTH : Hid (w4.there ga 0 12) := hth
    have HX4 : Hid (w4.heap[ga]? = some (.cells #[.string (mkS [47, 97]), .slice A 1 C, .int .i64 7, .int .i64 7, .int .i64 7, .int .i64 7, .int .i64 7, .int .i64 0, .int .i64 0, .int .i64 8, .int .i64 1, .int .i64 1] 47 (0, 0))) := hx
    have hone : (#[.string (mkS [47, 97]), .slice A4 1 C4, .int .i64 7, .int .i64 7, .int .i64 13, .int .i64 7, .int .i64 7, .int .i64 0, .int .i64 2, .int .i64 8, .int .i64 1, .int .i64 0] : Array Value).all (·.oneCell') = true := by simp [Value.oneCell']
    simp only [mkS] at hone
    clear c4 h4 hb4 hx
    go_wp2_with (refine store_let rfl 47 _ _ rfl ga 0 #[.string (mkS [47, 97]), .slice A4 1 C4, .int .i64 7, .int .i64 7, .int .i64 13, .int .i64 7, .int .i64 7, .int .i64 0, .int .i64 2, .int .i64 8, .int .i64 1, .int .i64 0] rfl rfl hth hinf hone ?_; intro w5 hw5)
    have h12 : ([.string (mkS [47, 97]), .slice A4 1 C4, .int .i64 7, .int .i64 7, .int .i64 13, .int .i64 7, .int .i64 7, .int .i64 0, .int .i64 2, .int .i64 8, .int .i64 1, .int .i64 0] : List Value).length = 12 := rfl
    have hr := World.rangeAt_setCells_same w4 ga 0 [.string (mkS [47, 97]), .slice A4 1 C4, .int .i64 7, .int .i64 7, .int .i64 13, .int .i64 7, .int .i64 7, .int .i64 0, .int .i64 2, .int .i64 8, .int .i64 1, .int .i64 0] (by rw [h12]; exact HTH.out)
    go_meet
    exact ⟨hr 8 _ rfl, hr 4 _ rfl, hr 11 _ rfl, setX HL.out HF.out HX4.out HG.out.1 HG.out.2 _⟩
  case rest =>
  obtain ⟨z8, z4, z11, hcut⟩ := hcut
  obtain ⟨w18, hw18⟩ : ∃ x, x = wc := ⟨_, rfl⟩
  subst hw18
  have H18 : Hid (Aw w w18 t m n N10 S10) := hcut
  clear hcut H10 HX10 HG
  go_upto_region 19 with fail
  go_cut [116] from 93 to 116 (fun v116 wx => v116 = .bool false ∧ Below w18.heap.size w18 wx)
  case first =>
    have h10 : Aw w w18 t m n N10 [⟨11, 7, 9⟩] := by have := H18.out; rw [S10_is] at this; exact this
    have c11 := h10.sits
    clear h10
    go_wp2_with fail
    refine c11.mono ?_
    rintro e w11 ⟨g, C11, rfl, ⟨hg, s0, s1, s2⟩, hb11⟩
    have H11 : Hid (Below w18.heap.size w18 w11) := hb11
    clear c11 hb11 hg z8 z4 z11
    go_wp2_with fail
    go_meet
    exact ⟨rfl, H11.out⟩
  case rest =>
  obtain ⟨rfl, hb19⟩ := hcut
  obtain ⟨w19, hw19⟩ : ∃ x, x = wc := ⟨_, rfl⟩
  subst hw19
  have H10 : Hid (Aw w w19 t m n N10 S10) := H18.out.below hb19
  clear hb19 H18 z8 z4 z11
  go_upto_region 21 with fail
  go_cut [1] from 117 to 119 (fun v1 wx => v1 = .pointer (some ⟨t, 0, none⟩) ∧ Aw w wx t m n N11 S11)
  case first =>
    have c3 := H10.out.any d11 [] (A1 := none) (c1 := 0) (A2 := none) (c2 := 0) (A3 := none) (c3 := 0) ⟨.inl ⟨rfl, rfl⟩, .inl ⟨rfl, rfl⟩, .inl ⟨rfl, rfl⟩⟩ d11_fit d11_right
    simp only [dA, d11, List.length_cons, List.length_nil, mkS] at c3
    go_wp2_with fail
    refine c3.mono ?_
    rintro e w3 ⟨rfl, h3, k3⟩
    have H3 : Hid (Aw w w3 t m n N11 S11) := h3
    clear c3 h3 k3
    go_wp2_with fail
    go_meet
    exact ⟨rfl, H3.out⟩
  case rest =>
  obtain ⟨rfl, hcut⟩ := hcut
  obtain ⟨w111, hw111⟩ : ∃ x, x = wc := ⟨_, rfl⟩
  subst hw111
  have H11 : Hid (Aw w w111 t m n N11 S11) := hcut
  clear hcut H10
  go_upto_region 22 with fail
  go_cut [1] from 120 to 127 (fun v1 wx => v1 = .pointer (some ⟨t, 0, none⟩) ∧ Aw w wx t m n N12 S12)
  case first =>
    have hcv : (convert 24 24 (.slice (some ⟨w111.heap.size, 0, none⟩) 2 2)).run Tryz.prog (w111.alloc (.cells #[.int .u8 121, .int .u8 122] 5)) = .ok (.slice (some ⟨w111.heap.size, 0, none⟩) 2 2) (w111.alloc (.cells #[.int .u8 121, .int .u8 122] 5 (2, 3))) := by
      have := Go.Lib.run_convert_bytes_const (P := Tryz.prog) w111 24 5 #[.int .u8 121, .int .u8 122] 2 2 Tryz.underlying24 Tryz.underlying5
      simpa using this
    have hQ := heap_alloc_new w111 (.cells #[.int .u8 121, .int .u8 122] 5 (2, 3))
    obtain ⟨wP, hwP⟩ : ∃ wP, wP = (w111.alloc (.cells #[.int .u8 121, .int .u8 122] 5 (2, 3))).alloc (.cells #[.int .i64 0, .int .u8 1, .int .i64 0, .int .i64 0, .int .i64 0, .int .i64 0, .string (mkS [47, 109]), .slice none 0 0, .int .i64 0, .int .i64 0, .int .i64 6, .int .i64 0, .int .i64 0, .int .i64 0, .slice none 0 0, .slice none 0 0, .int .i64 0, .int .u8 3, .int .i64 0, .int .i64 0, .int .i64 0, .int .i64 0, .string (mkS [47, 109]), .slice (some ⟨w111.heap.size, 0, none⟩) 2 2, .int .i64 0, .int .i64 1, .int .i64 0, .int .i64 0, .int .i64 0, .int .i64 0, .slice none 0 0, .slice none 0 0] 31) := ⟨_, rfl⟩
    have hP : wP.heap[w111.heap.size + 1]? = some (.cells #[.int .i64 0, .int .u8 1, .int .i64 0, .int .i64 0, .int .i64 0, .int .i64 0, .string (mkS [47, 109]), .slice none 0 0, .int .i64 0, .int .i64 0, .int .i64 6, .int .i64 0, .int .i64 0, .int .i64 0, .slice none 0 0, .slice none 0 0, .int .i64 0, .int .u8 3, .int .i64 0, .int .i64 0, .int .i64 0, .int .i64 0, .string (mkS [47, 109]), .slice (some ⟨w111.heap.size, 0, none⟩) 2 2, .int .i64 0, .int .i64 1, .int .i64 0, .int .i64 0, .int .i64 0, .int .i64 0, .slice none 0 0, .slice none 0 0] 31 (0, 0)) := by
      rw [hwP]
      have := heap_alloc_new (w111.alloc (.cells #[.int .u8 121, .int .u8 122] 5 (2, 3))) (.cells #[.int .i64 0, .int .u8 1, .int .i64 0, .int .i64 0, .int .i64 0, .int .i64 0, .string (mkS [47, 109]), .slice none 0 0, .int .i64 0, .int .i64 0, .int .i64 6, .int .i64 0, .int .i64 0, .int .i64 0, .slice none 0 0, .slice none 0 0, .int .i64 0, .int .u8 3, .int .i64 0, .int .i64 0, .int .i64 0, .int .i64 0, .string (mkS [47, 109]), .slice (some ⟨w111.heap.size, 0, none⟩) 2 2, .int .i64 0, .int .i64 1, .int .i64 0, .int .i64 0, .int .i64 0, .int .i64 0, .slice none 0 0, .slice none 0 0] 31)
      simpa using this
    have hQ2 : wP.heap[w111.heap.size]? = some (.cells #[.int .u8 121, .int .u8 122] 5 (2, 3)) := by
      rw [hwP, (lay1 _ _).block _ (by simp)]; exact hQ
    have hPB : Below w111.heap.size w111 wP := by rw [hwP]; exact (lay1 w111 _).trans ((lay1 _ _).mono (by simp))
    have hbs : Bs wP (.slice (some ⟨w111.heap.size, 0, none⟩) 2 2) [121, 122] := .inr (.inr ⟨by simp, w111.heap.size, 0, 2, rfl, by simp, theap_lt hQ2, fun j hj => by
      have hj2 : j = 0 ∨ j = 1 := by simp at hj; omega
      rcases hj2 with rfl | rfl
      · exact cell_at hQ2 0
      · exact cell_at hQ2 1⟩)
    have hpr : DD.Prts wP wP.heap.size (.slice (some ⟨w111.heap.size + 1, 0, none⟩) 2 2) [p12a, p12b] := .inr (.inr ⟨by simp, w111.heap.size + 1, 0, 2, rfl, Nat.le_refl _, theap_lt hP, Nat.le_refl _, fun j hj => by
      have hj2 : j = 0 ∨ j = 1 := by simp at hj; omega
      rcases hj2 with rfl | rfl
      · exact ⟨none, 0, none, 0, none, 0, ⟨cell_at hP 0, cell_at hP 1, cell_at hP 2, cell_at hP 3, cell_at hP 4, cell_at hP 5, cell_at hP 6, cell_at hP 7, cell_at hP 8, cell_at hP 9, cell_at hP 10, cell_at hP 11, cell_at hP 12, cell_at hP 13, cell_at hP 14, cell_at hP 15⟩, ⟨.inl ⟨rfl, rfl⟩, fun k e => by simp [bk] at e, .inl ⟨rfl, rfl⟩, fun k e => by simp [bk] at e⟩⟩
      · exact ⟨some ⟨w111.heap.size, 0, none⟩, 2, none, 0, none, 0, ⟨cell_at hP 16, cell_at hP 17, cell_at hP 18, cell_at hP 19, cell_at hP 20, cell_at hP 21, cell_at hP 22, cell_at hP 23, cell_at hP 24, cell_at hP 25, cell_at hP 26, cell_at hP 27, cell_at hP 28, cell_at hP 29, cell_at hP 30, cell_at hP 31⟩, ⟨hbs, fun k e => by
          have e' : w111.heap.size = k := by simp [bk] at e; exact e.2
          rw [← e']; exact theap_lt hQ2, .inl ⟨rfl, rfl⟩, fun k e => by simp [bk] at e⟩⟩⟩)
    have c3 := (H11.out.below hPB).any d12 [p12a, p12b] (A1 := none) (c1 := 0) (A2 := none) (c2 := 0) (A3 := some ⟨w111.heap.size + 1, 0, none⟩) (c3 := 2) ⟨.inl ⟨rfl, rfl⟩, .inl ⟨rfl, rfl⟩, hpr⟩ d12_fit d12_right
    simp only [dA, d12, List.length_cons, List.length_nil, mkS] at c3
    clear hP hPB hpr hQ hQ2 hbs
    subst hwP
    simp only [mkS] at c3
    go_wp2_with fail
    refine c3.mono ?_
    rintro e w3 ⟨rfl, h3, k3⟩
    have H3 : Hid (Aw w w3 t m n N12 S12) := h3
    clear c3 h3 k3
    go_wp2_with fail
    go_meet
    exact ⟨rfl, H3.out⟩
  case rest =>
  obtain ⟨rfl, hcut⟩ := hcut
  obtain ⟨w112, hw112⟩ : ∃ x, x = wc := ⟨_, rfl⟩
  subst hw112
  have H12 : Hid (Aw w w112 t m n N12 S12) := hcut
  clear hcut H11
  go_upto_region 23 with fail
  go_cut [6, 7] from 128 to 132 (fun v6 v7 wx => ∃ (gm : Nat) (A : Option Addr) (C : Nat), v6 = .pointer (some ⟨gm, 0, none⟩) ∧ v7 = .bool true ∧ wx.heap[gm]? = some (.cells #[.string (mkS [47, 109]), .slice A 2 C, .int .i64 15, .int .i64 15, .int .i64 15, .int .i64 4, .int .i64 4, .int .i64 1, .int .i64 0, .int .i64 0, .int .i64 2, .int .i64 0] 47 (0, 0)) ∧ Below w112.heap.size w112 wx)
  case first =>
    have c4 := get12m H12.out
    go_wp2_with fail
    refine c4.mono ?_
    rintro e w4 ⟨A, C, rfl, h4, hb4⟩
    have HF : Hid (Below w112.heap.size w112 w4) := hb4
    clear c4 h4 hb4
    go_wp2_with fail
    go_meet
    exact ⟨w4.heap.size, A, C, rfl, rfl, heap_alloc_new w4 _, HF.out.alloc HF.out.size _⟩
  case rest =>
  obtain ⟨gm, A, C, rfl, rfl, hgm, hb23⟩ := hcut
  obtain ⟨w23, hw23⟩ : ∃ x, x = wc := ⟨_, rfl⟩
  subst hw23
  have H23 : Hid (Aw w w23 t m n N12 S12) := H12.out.below hb23
  have HGM : Hid (w23.heap[gm]? = some (.cells #[.string (mkS [47, 109]), .slice A 2 C, .int .i64 15, .int .i64 15, .int .i64 15, .int .i64 4, .int .i64 4, .int .i64 1, .int .i64 0, .int .i64 0, .int .i64 2, .int .i64 0] 47 (0, 0)) ∧ gm < w23.heap.size) := ⟨hgm, theap_lt hgm⟩
  clear hgm hb23 H12
  go_upto_region 24 with fail
  go_cut [146] from 133 to 146 (fun v146 wx => v146 = .bool false ∧ Below w23.heap.size w23 wx)
  case first =>
    have c5 := H23.out.1.sits (by rw [S12_is]; simp)
    rw [S12_is] at c5
    go_wp2_with fail
    refine c5.mono ?_
    rintro e w5 ⟨A5, C5, rfl, ho5, hb5⟩
    have HB5 : Hid (Below w23.heap.size w23 w5) := hb5
    have h5 := (hb5.block _ HGM.out.2).trans HGM.out.1
    have hl0 : (Si.sitsF ([] : List Si.Fi)).length = 0 := by simp [Si.sitsF, Si.sortS]
    rw [hl0]
    have a2 := cell_at h5 2
    have a3 := cell_at h5 3
    have a4 := cell_at h5 4
    have a5 := cell_at h5 5
    have a6 := cell_at h5 6
    have a7 := cell_at h5 7
    have a8 := cell_at h5 8
    have a9 := cell_at h5 9
    have a10 := cell_at h5 10
    have a11 := cell_at h5 11
    simp at a2 a3 a4 a5 a6 a7 a8 a9 a10 a11
    clear c5 ho5 hb5 h5 hl0
    go_wp2_with fail
    go_meet
    exact ⟨rfl, HB5.out⟩
  case rest =>
  obtain ⟨rfl, hb24⟩ := hcut
  obtain ⟨w24, hw24⟩ : ∃ x, x = wc := ⟨_, rfl⟩
  subst hw24
  have H12 : Hid (Aw w w24 t m n N12 S12) := H23.out.below hb24
  clear hb24 H23 HGM
  go_upto_region 26 with fail
  go_cut [8] from 147 to 168 (fun v8 wx => ∃ gb, v8 = .slice (some ⟨gb, 0, none⟩) 8 8 ∧ (∀ i, i < 8 → BadAt wx gb i) ∧ Below w24.heap.size w24 wx)
  case first =>
    have hmk : ∀ w : World, (Instr.makeSlice 24 (.int .i64 1001) (.int .i64 1001)).run Tryz.prog w = .ok (.slice (some ⟨w.heap.size, 0, none⟩) 1001 1001) (w.alloc (.cells (madeCells #[.int .u8 0] 1001) 5)) :=
      run_make_row' (P := Tryz.prog) 24 5 (.int .u8 0) 1 Tryz.underlying24 info5 rfl .i64 .i64 1001 (by decide) (by decide)
    obtain ⟨MK, hMK⟩ : ∃ MK, MK = madeCells #[.int .u8 0] 1001 := ⟨_, rfl⟩
    rw [← hMK] at hmk
    have HMK : Hid (MK = madeCells #[.int .u8 0] 1001) := hMK
    clear hMK
    go_wp2_with fail
    obtain ⟨f0, f1, f2, f3, f4, f5, f6, f7, f8, fb⟩ := nineBlocks w24 (.cells #[.string ⟨#[47, 97]⟩, .slice none 0 0, .int .i64 0, .int .i64 0, .int .i64 0, .int .i64 0, .int .i64 0, .int .i64 0, .int .i64 0, .int .i64 0, .int .i64 0, .int .i64 0] 47 (0, 0)) (.cells #[.string ⟨#[47]⟩, .slice none 0 0, .int .i64 0, .int .i64 0, .int .i64 0, .int .i64 0, .int .i64 0, .int .i64 0, .int .i64 0, .int .i64 0, .int .i64 0, .int .i64 0, .string ⟨#[47, 98]⟩, .slice none 0 0, .int .i64 0, .int .i64 0, .int .i64 0, .int .i64 0, .int .i64 0, .int .i64 0, .int .i64 0, .int .i64 0, .int .i64 0, .int .i64 0, .string ⟨#[47, 97]⟩, .slice none 0 0, .int .i64 0, .int .i64 0, .int .i64 0, .int .i64 0, .int .i64 0, .int .i64 0, .int .i64 0, .int .i64 0, .int .i64 0, .int .i64 0] 47 (0, 0)) (.cells #[.string ⟨#[47]⟩, .slice none 0 0, .int .i64 0, .int .i64 0, .int .i64 0, .int .i64 0, .int .i64 0, .int .i64 0, .int .i64 0, .int .i64 0, .int .i64 0, .int .i64 0, .string ⟨#[47]⟩, .slice none 0 0, .int .i64 0, .int .i64 0, .int .i64 0, .int .i64 0, .int .i64 0, .int .i64 0, .int .i64 0, .int .i64 0, .int .i64 0, .int .i64 0] 47 (0, 0)) (.cells #[.string ⟨#[47]⟩, .slice none 0 0, .int .i64 0, .int .i64 0, .int .i64 0, .int .i64 0, .int .i64 0, .int .i64 0, .int .i64 0, .int .i64 0, .int .i64 0, .int .i64 0, .string ⟨#[97]⟩, .slice none 0 0, .int .i64 0, .int .i64 0, .int .i64 0, .int .i64 0, .int .i64 0, .int .i64 0, .int .i64 0, .int .i64 0, .int .i64 0, .int .i64 0] 47 (0, 0)) (.cells MK 5 (0, 0)) (.cells #[.string ⟨#[47]⟩, .slice (some ⟨w24.heap.size + 4, 0, none⟩) 1001 1001, .int .i64 0, .int .i64 0, .int .i64 0, .int .i64 0, .int .i64 0, .int .i64 0, .int .i64 0, .int .i64 0, .int .i64 0, .int .i64 0] 47 (0, 0)) (.cells #[.string ⟨#[47]⟩, .slice none 0 0, .int .i64 0, .int .i64 0, .int .i64 0, .int .i64 0, .int .i64 0, .int .i64 (-1), .int .i64 0, .int .i64 0, .int .i64 0, .int .i64 0] 47 (0, 0)) (.cells #[.string ⟨#[47]⟩, .slice none 0 0, .int .i64 0, .int .i64 0, .int .i64 0, .int .i64 0, .int .i64 0, .int .i64 0, .int .i64 0, .int .i64 0, .int .i64 0, .int .i64 (-1)] 47 (0, 0)) (.cells #[.slice none 0 0, .slice (some ⟨w24.heap.size, 0, none⟩) 1 1, .slice (some ⟨w24.heap.size + 1, 0, none⟩) 3 3, .slice (some ⟨w24.heap.size + 2, 0, none⟩) 2 2, .slice (some ⟨w24.heap.size + 3, 0, none⟩) 2 2, .slice (some ⟨w24.heap.size + 5, 0, none⟩) 1 1, .slice (some ⟨w24.heap.size + 6, 0, none⟩) 1 1, .slice (some ⟨w24.heap.size + 7, 0, none⟩) 1 1] 58 (0, 0))
    have hz := zerosBs' f4 HMK.out (by decide)
    go_meet
    refine ⟨w24.heap.size + 8, rfl, fun i hi => ?_, fb⟩
    match i, hi with
    | 0, _ => exact badNil (cell_at f8 0)
    | 1, _ => exact badLit Q1 (cell_at f8 1) f0 rfl rfl (by decide) b1 (noB (by simp [Q1, nd]))
    | 2, _ => exact badLit Q2 (cell_at f8 2) f1 rfl rfl (by decide) b2 (noB (by simp [Q2, nd]))
    | 3, _ => exact badLit Q3 (cell_at f8 3) f2 rfl rfl (by decide) b3 (noB (by simp [Q3, nd]))
    | 4, _ => exact badLit Q4 (cell_at f8 4) f3 rfl rfl (by decide) b4 (noB (by simp [Q4, nd]))
    | 5, _ => exact badLit (Q5 (w24.heap.size + 4)) (cell_at f8 5) f5 (by simp [Q5, nd, alV, mkS]) rfl (by simp [Q5]) (b5 _) (fun x hx => by
        rw [List.mem_singleton.1 hx]
        refine ⟨?_, by simp [nd]⟩
        have e : (List.replicate 1001 (0 : UInt8)).length = 1001 := by simp
        show Bs _ (.slice _ (List.replicate 1001 0).length _) _
        rw [e]; exact hz)
    | 6, _ => exact badLit Q6 (cell_at f8 6) f6 rfl rfl (by decide) b6 (noB (by simp [Q6, nd]))
    | 7, _ => exact badLit Q7 (cell_at f8 7) f7 rfl rfl (by decide) b7 (noB (by simp [Q7, nd]))
  case rest =>
  obtain ⟨gb, rfl, hbad, hb26⟩ := hcut
  obtain ⟨w26, hw26⟩ : ∃ x, x = wc := ⟨_, rfl⟩
  subst hw26
  have H26 : Hid (Aw w w26 t m n N12 S12) := H12.out.below hb26
  have HBAD : Hid (∀ i, i < 8 → BadAt w26 gb i) := hbad
  clear hb26 hbad H12
  go_upto_block 0 with fail
  go_cut [9, 10] from 169 to 189 (fun v9 v10 wx => Below w26.heap.size w26 wx)
  case first =>
    go_wp2_with fail
    go_loopg [9] 8 (fun g v9 wr => ∃ i : Nat, i ≤ 8 ∧ g = 8 - i ∧ v9 = .int .i64 (i : Int) ∧ Below w26.heap.size w26 wr)
    case atStart => exact ⟨0, by omega, rfl, rfl, Below.refl _ _⟩
    case round =>
      obtain ⟨i, hi, hg, rfl, hB⟩ := hrel
      have HGK : Hid (gk = 8 - i) := hg
      have HB : Hid (Below w26.heap.size w26 wr) := hB
      clear hg hB
      by_cases hlt : i < 8
      case neg =>
        have hie : i = 8 := by omega
        have l1 : ¬ (i : Int) < 8 := by omega
        clear hie
        go_wp2_with fail
        go_meet
        exact HB.out
      case pos =>
      have c1 := (H26.out.1.below HB.out).copy
      have i0 : ¬ (i : Int) < 0 := by omega
      have i1 : (i : Int) < 8 := by omega
      have i2 : (0 : Int) ≤ (i : Int) := by omega
      have i3 : (i : Int).toNat = i := by omega
      go_wp2_with fail
      refine c1.mono ?_
      rintro e w31 ⟨tu, mu, nu, rfl, hTu, hWu, hb31⟩
      have HB31 : Hid (Below w26.heap.size w26 w31) := HB.out.trans (hb31.mono HB.out.size)
      have HTU : Hid (Tr w31 tu mu nu N12 S12) := hTu
      obtain ⟨A, Q, C, z0, hrow, hbs, hno, hql⟩ := (HBAD.out i hlt).below HB31.out
      have c2 := load_any hTu ((H26.out.2.1).below HB31.out) hrow (fun x hx => (hbs x hx).1) (by omega) (fun x hx => by have := (hbs x hx).2; omega)
      rw [hno] at c2
      simp only [Bool.false_eq_true, false_implies, true_and, forall_const] at c2
      clear c1 hTu hWu hb31 hrow hbs hno hql
      go_wp2_with fail
      refine c2.mono ?_
      rintro e w32 ⟨rfl, hb32⟩
      have HB32 : Hid (Below w26.heap.size w26 w32) := HB31.out.trans (hb32.mono HB31.out.size)
      have c3 := (HTU.out.below hb32).same (H26.out.1.below HB32.out) (fun _ => rfl) (fun _ => rfl)
      clear c2 hb32 z0
      go_wp2_with fail
      refine c3.mono ?_
      rintro e w33 ⟨rfl, hb33⟩
      have HB33 : Hid (Below w26.heap.size w26 w33) := HB32.out.trans (hb33.mono HB32.out.size)
      clear c3 hb33
      go_wp2_with fail
      go_roundg (8 - (i + 1))
      case measure => have := HGK.out; omega
      case rel => exact ⟨i + 1, by omega, rfl, by go_num, HB33.out⟩
  case rest =>
  obtain ⟨w28, hw28⟩ : ∃ x, x = wc := ⟨_, rfl⟩
  subst hw28
  have H28 : Hid (Below w.heap.size w w28 ∧ PA.Laid w28) := ⟨H26.out.2.2.1.trans (hcut.mono H26.out.2.2.1.size), H26.out.2.1.below hcut⟩
  clear hcut H26 HBAD
  have c1 := new_tr w28
  go_wp2_with fail
  refine c1.mono ?_
  rintro e w33 ⟨tu, mu, nu, rfl, hTu, hWu, hb33⟩
  have H33 : Hid (Aw w28 w33 tu mu nu N0 S0) := ⟨hTu, H28.out.2.below hb33, hb33, hWu⟩
  clear c1 hTu hWu hb33
  go_upto_region 34 with fail
  go_cut [12] from 191 to 199 (fun v12 wx => v12 = .int .i64 0 ∧ ∃ mu', Aw w28 wx tu mu' nu NU S0)
  case first =>
    have hcv : (convert 24 24 (.slice (some ⟨w33.heap.size, 0, none⟩) 1 1)).run Tryz.prog (w33.alloc (.cells #[.int .u8 113] 5)) = .ok (.slice (some ⟨w33.heap.size, 0, none⟩) 1 1) (w33.alloc (.cells #[.int .u8 113] 5 (1, 2))) := by
      have := Go.Lib.run_convert_bytes_const (P := Tryz.prog) w33 24 5 #[.int .u8 113] 1 1 Tryz.underlying24 Tryz.underlying5
      simpa using this
    obtain ⟨wP, hwP⟩ : ∃ wP, wP = (w33.alloc (.cells #[.int .u8 113] 5 (1, 2))).alloc (.cells #[.string ⟨#[47]⟩, .slice none 0 0, .int .i64 0, .int .i64 0, .int .i64 0, .int .i64 0, .int .i64 0, .int .i64 0, .int .i64 0, .int .i64 0, .int .i64 5, .int .i64 9, .string ⟨#[47, 97, 47, 98]⟩, .slice (some ⟨w33.heap.size, 0, none⟩) 1 1, .int .i64 0, .int .i64 0, .int .i64 0, .int .i64 0, .int .i64 0, .int .i64 0, .int .i64 0, .int .i64 0, .int .i64 0, .int .i64 0, .string ⟨#[47, 99]⟩, .slice none 0 0, .int .i64 0, .int .i64 0, .int .i64 0, .int .i64 0, .int .i64 0, .int .i64 0, .int .i64 0, .int .i64 0, .int .i64 0, .int .i64 0] 47) := ⟨_, rfl⟩
    have hP : wP.heap[w33.heap.size + 1]? = some (.cells #[.string ⟨#[47]⟩, .slice none 0 0, .int .i64 0, .int .i64 0, .int .i64 0, .int .i64 0, .int .i64 0, .int .i64 0, .int .i64 0, .int .i64 0, .int .i64 5, .int .i64 9, .string ⟨#[47, 97, 47, 98]⟩, .slice (some ⟨w33.heap.size, 0, none⟩) 1 1, .int .i64 0, .int .i64 0, .int .i64 0, .int .i64 0, .int .i64 0, .int .i64 0, .int .i64 0, .int .i64 0, .int .i64 0, .int .i64 0, .string ⟨#[47, 99]⟩, .slice none 0 0, .int .i64 0, .int .i64 0, .int .i64 0, .int .i64 0, .int .i64 0, .int .i64 0, .int .i64 0, .int .i64 0, .int .i64 0, .int .i64 0] 47 (0, 0)) := by
      rw [hwP]
      have := heap_alloc_new (w33.alloc (.cells #[.int .u8 113] 5 (1, 2))) (.cells #[.string ⟨#[47]⟩, .slice none 0 0, .int .i64 0, .int .i64 0, .int .i64 0, .int .i64 0, .int .i64 0, .int .i64 0, .int .i64 0, .int .i64 0, .int .i64 5, .int .i64 9, .string ⟨#[47, 97, 47, 98]⟩, .slice (some ⟨w33.heap.size, 0, none⟩) 1 1, .int .i64 0, .int .i64 0, .int .i64 0, .int .i64 0, .int .i64 0, .int .i64 0, .int .i64 0, .int .i64 0, .int .i64 0, .int .i64 0, .string ⟨#[47, 99]⟩, .slice none 0 0, .int .i64 0, .int .i64 0, .int .i64 0, .int .i64 0, .int .i64 0, .int .i64 0, .int .i64 0, .int .i64 0, .int .i64 0, .int .i64 0] 47)
      simpa using this
    have hQ2 : wP.heap[w33.heap.size]? = some (.cells #[.int .u8 113] 5 (1, 2)) := by
      rw [hwP, (lay1 _ _).block _ (by simp)]; exact heap_alloc_new w33 (.cells #[.int .u8 113] 5 (1, 2))
    have hPB : Below w33.heap.size w33 wP := by rw [hwP]; exact (lay1 w33 _).trans ((lay1 _ _).mono (by simp))
    have hbs : Bs wP (.slice (some ⟨w33.heap.size, 0, none⟩) 1 1) [113] := .inr (.inr ⟨by simp, w33.heap.size, 0, 1, rfl, by simp, theap_lt hQ2, fun j hj => by
      obtain rfl : j = 0 := by simpa using hj
      exact cell_at hQ2 0⟩)
    have hrow := rowLit (UQ w33.heap.size) hP rfl (by simp [UQ])
    have h33 := H33.out.below hPB
    have c2 := load_any h33.1 h33.2.1 hrow (fun x hx => by
      simp only [UQ, List.mem_cons, List.mem_nil_iff, or_false] at hx
      rcases hx with rfl | rfl | rfl
      · exact .inl ⟨rfl, rfl⟩
      · exact hbs
      · exact .inl ⟨rfl, rfl⟩) (by simp [UQ]) (fun x hx => by
      simp only [UQ, List.mem_cons, List.mem_nil_iff, or_false] at hx
      rcases hx with rfl | rfl | rfl <;> simp [nd])
    rw [uq_map, uf_are] at c2
    simp only [Bool.true_eq_false, false_implies, and_true, forall_const] at c2
    have hlq : (UQ w33.heap.size).length = 3 := rfl
    rw [hlq] at c2
    have HPB : Hid (Aw w28 wP tu mu nu N0 S0) := h33
    clear hP hQ2 hPB hbs hrow h33 hlq
    subst hwP
    simp only [mkS] at c2
    go_wp2_with fail
    refine c2.mono ?_
    rintro e w34 ⟨rfl, mu', hmu', hTu, hcu⟩
    have HF : Hid (Aw w28 w34 tu mu' nu NU S0) := by
      have hb := HPB.out.2.2.1.trans (hcu.below (fun k e => by rw [e]; exact HPB.out.2.2.2 tu (.inl rfl)) HPB.out.2.2.1.size)
      refine ⟨hTu, H28.out.2.below hb, hb, ?_⟩
      rintro k (rfl | rfl | rfl)
      · exact HPB.out.2.2.2 _ (.inl rfl)
      · exact Nat.le_trans HPB.out.2.2.1.size hmu'
      · exact HPB.out.2.2.2 _ (.inr (.inr rfl))
    clear c2 hmu' hTu hcu
    go_wp2_with fail
    go_meet
    exact ⟨rfl, mu', HF.out⟩
  case rest =>
  obtain ⟨rfl, mu', hcut⟩ := hcut
  obtain ⟨w34, hw34⟩ : ∃ x, x = wc := ⟨_, rfl⟩
  subst hw34
  have H34 : Hid (Aw w28 w34 tu mu' nu NU S0) := hcut
  clear hcut H33
  go_upto_region 35 with fail
  go_cut [12] from 200 to 206 (fun v12 wx => v12 = .int .i64 0 ∧ ∃ nu', Aw w28 wx tu mu' nu' NU SU)
  case first =>
    obtain ⟨wP, hwP⟩ : ∃ wP, wP = w34.alloc (.cells #[.int .i64 5, .int .i64 0, .int .i64 1, .int .i64 0, .int .i64 0, .int .i64 3, .int .i64 2, .int .i64 0, .int .i64 0, .int .i64 5, .int .i64 0, .int .i64 2] 57) := ⟨_, rfl⟩
    have hP : wP.heap[w34.heap.size]? = some (.cells #[.int .i64 5, .int .i64 0, .int .i64 1, .int .i64 0, .int .i64 0, .int .i64 3, .int .i64 2, .int .i64 0, .int .i64 0, .int .i64 5, .int .i64 0, .int .i64 2] 57 (0, 0)) := by rw [hwP]; exact heap_alloc_new w34 _
    have hPB : Below w34.heap.size w34 wP := by rw [hwP]; exact lay1 w34 _
    have hrow := rowSLit SL hP rfl (by decide)
    have h34 := H34.out.below hPB
    have c2 := seat_any h34.1 hrow (by decide)
    have hlq : SL.length = 4 := rfl
    rw [hlq] at c2
    have HPB : Hid (Aw w28 wP tu mu' nu NU S0) := h34
    clear hP hPB hrow h34 hlq
    subst hwP
    go_wp2_with fail
    refine c2.mono ?_
    rintro e w35 ⟨rfl, nu', hnu', hTu, hcu⟩
    have HF : Hid (Aw w28 w35 tu mu' nu' NU SU) := by
      have hb := HPB.out.2.2.1.trans (hcu.below (fun k e => by rw [e]; exact HPB.out.2.2.2 tu (.inl rfl)) HPB.out.2.2.1.size)
      refine ⟨hTu, H28.out.2.below hb, hb, ?_⟩
      rintro k (rfl | rfl | rfl)
      · exact HPB.out.2.2.2 _ (.inl rfl)
      · exact HPB.out.2.2.2 _ (.inr (.inl rfl))
      · exact Nat.le_trans HPB.out.2.2.1.size hnu'
    clear c2 hnu' hTu hcu
    go_wp2_with fail
    go_meet
    exact ⟨rfl, nu', HF.out⟩
  case rest =>
  obtain ⟨rfl, nu', hcut⟩ := hcut
  obtain ⟨w35, hw35⟩ : ∃ x, x = wc := ⟨_, rfl⟩
  subst hw35
  have H35 : Hid (Aw w28 w35 tu mu' nu' NU SU) := hcut
  clear hcut H34
  have c4 := H35.out.list (by rw [NU_is]; decide) [47] [99] lookU listU
  go_wp2_with fail
  refine c4.mono ?_
  rintro e w36 ⟨gl, C7, rfl, hl7, h7, hb7⟩
  have HU36 : Hid (Aw w28 w36 tu mu' nu' NU SU) := h7
  have HGL : Hid (gl < w36.heap.size ∧ w36.cell? ⟨gl, 0, none⟩ = some (.string (mkS [99]))) := ⟨hl7.1, hl7.2.2⟩
  have c5 := h7.1.copy
  clear c4 hl7 h7 hb7
  go_wp2_with fail
  refine c5.mono ?_
  rintro e w37 ⟨tv, mv, nv, rfl, hTv, hWv, hb37⟩
  have HV37 : Hid (Aw w36 w37 tv mv nv NU SU) := ⟨hTv, HU36.out.2.1.below hb37, hb37, hWv⟩
  have c6 := HV37.out.any d13 [] (A1 := none) (c1 := 0) (A2 := none) (c2 := 0) (A3 := none) (c3 := 0) ⟨.inl ⟨rfl, rfl⟩, .inl ⟨rfl, rfl⟩, .inl ⟨rfl, rfl⟩⟩ d13_fit d13_right
  simp only [dA, d13, List.length_cons, List.length_nil, mkS] at c6
  clear c5 hTv hWv hb37
  go_wp2_with fail
  refine c6.mono ?_
  rintro e w38 ⟨rfl, h38, k38⟩
  have HV38 : Hid (Aw w36 w38 tv mv nv NV SV) := h38
  have HU38 : Hid (Aw w28 w38 tu mu' nu' NU SU) := HU36.out.below HV38.out.2.2.1
  have hgl : w38.cell? ⟨gl, 0, none⟩ = some (.string (mkS [99])) := by rw [HV38.out.2.2.1.cell (p := ⟨gl, 0, none⟩) HGL.out.1]; exact HGL.out.2
  have hgll : gl < w38.heap.size := World.block_lt_of_cell? w38 _ hgl
  have c7 := texts_one (w := w38.alloc (.cells #[.string (mkS [99])] 9)) (ga := gl) (gb := w38.heap.size) (ca := C7) (cb := 1) (s := [99]) (by
    rw [(lay1 w38 _).cell (p := ⟨gl, 0, none⟩) hgll]; exact hgl) (cell_at (heap_alloc_new w38 _) 0)
  simp only [mkS] at c7
  clear c6 h38 k38 hgl hgll HV37 HU36 HGL
  go_wp2_with fail
  refine c7.mono ?_
  rintro e w40 ⟨rfl, q, hw40⟩
  have HB40 : Hid (Below w38.heap.size w38 w40) := by rw [hw40]; exact below_drewN ((lay1 w38 _).mono (Nat.le_refl _)) q
  have c8 := all_u (HU38.out.1.below HB40.out) (HU38.out.2.1.below HB40.out)
  clear c7 hw40
  go_wp2_with fail
  refine c8.mono ?_
  rintro e w41 ⟨A41, C41, rfl, hb41⟩
  have HB41 : Hid (Below w38.heap.size w38 w41) := HB40.out.trans (hb41.mono HB40.out.size)
  have c9 := sits_u (HU38.out.1.below HB41.out)
  clear c8 hb41
  go_wp2_with fail
  refine c9.mono ?_
  rintro e w42 ⟨g, C42, rfl, hg, ⟨s0, s1, s2, s3, s4, s5⟩, hb42⟩
  have HB42 : Hid (Below w38.heap.size w38 w42) := HB41.out.trans (hb42.mono HB41.out.size)
  have kp : ∀ {o : Nat} {v : Value}, w42.cell? ⟨g, o, none⟩ = some v → (w42.alloc (.cells #[.int .i64 2, .int .i64 0, .int .i64 0, .int .i64 5, .int .i64 0, .int .i64 2] 57)).cell? ⟨g, o, none⟩ = some v := fun {o v} h => by rw [(lay1 w42 _).cell (p := ⟨g, o, none⟩) hg]; exact h
  have hn := heap_alloc_new w42 (.cells #[.int .i64 2, .int .i64 0, .int .i64 0, .int .i64 5, .int .i64 0, .int .i64 2] 57)
  have c10 := sits_two (ca := C42) (cb := 2) (kp s0) (kp s1) (kp s2) (kp s3) (kp s4) (kp s5) (cell_at hn 0) (cell_at hn 1) (cell_at hn 2) (cell_at hn 3) (cell_at hn 4) (cell_at hn 5)
  clear c9 hb42 s0 s1 s2 s3 s4 s5 hg kp hn
  go_wp2_with fail
  refine c10.mono ?_
  rintro e w43 ⟨rfl, q43, hw43⟩
  have HB43 : Hid (Below w38.heap.size w38 w43) := by rw [hw43]; exact below_drewN (HB42.out.trans ((lay1 w42 _).mono HB42.out.size)) q43
  have c11 := (HU38.out.1.below HB43.out).differ (HV38.out.1.below HB43.out) (fun k => by rw [differ_uv.1]) differ_uv.2.1 differ_uv.2.2.1 differ_uv.2.2.2
  clear c10 hw43
  go_wp2_with fail
  refine c11.mono ?_
  rintro e w44 ⟨rfl, hb44⟩
  have HB44 : Hid (Below w38.heap.size w38 w44) := HB43.out.trans (hb44.mono HB43.out.size)
  have c12 := (HU38.out.1.below HB44.out).copy
  clear c11 hb44
  go_wp2_with fail
  refine c12.mono ?_
  rintro e w45 ⟨tx, mx, nx, rfl, hTx, _, hb45⟩
  have HB45 : Hid (Below w38.heap.size w38 w45) := HB44.out.trans (hb45.mono HB44.out.size)
  have c13 := (HU38.out.1.below HB45.out).same hTx (fun _ => rfl) (fun _ => rfl)
  clear c12 hTx hb45
  go_wp2_with fail
  refine c13.mono ?_
  rintro e w46 ⟨rfl, hb46⟩
  have HB46 : Hid (Below w38.heap.size w38 w46) := HB45.out.trans (hb46.mono HB45.out.size)
  have c14 := awake_any w46 (HU38.out.2.1.below HB46.out)
  clear c13 hb46
  go_wp2_with fail
  refine c14.mono ?_
  rintro e w47 ⟨rfl, hb47⟩
  have HB47 : Hid (Below w38.heap.size w38 w47) := HB46.out.trans (hb47.mono HB46.out.size)
  clear c14 hb47
  go_wp2_with fail
  go_ret
  have h1 : Below w28.heap.size w28 w47 := HU38.out.2.2.1.trans (HB47.out.mono HU38.out.2.2.1.size)
  exact ⟨rfl, H28.out.1.trans (h1.mono H28.out.1.size)⟩
end Go.Proofs.YtcdnfgibcochhaaGreatDoor.Nb
