/- Trees: a tree that meets some deeds. Trees: the deeds that are right when they are numbered. -/
import Derived.Test.YtcdnfgibcochhaaGreatDoorTrGa
import Derived.Deep.LoopGhost
import Derived.Test.YtcdnfgibcochhaaGreatDoorTrAa
import Derived.Deep.CutRange
import Derived.Deep.CutBlock
namespace Go.Proofs.YtcdnfgibcochhaaGreatDoor
set_option linter.unusedSimpArgs false
set_option linter.unusedVariables false
set_option linter.unusedSimpArgs false
set_option linter.unusedVariables false
open Go.RowKit Go.MapKept

theorem run_step (E : List DD.El2) (k : Nat) (hk : k < E.length) (N : List Fi) (S : List Si.Fi) : runN ((E.take (k + 1)).map (·.p)) N = apN (E[k]'hk).p.1 (E[k]'hk).p.2 (runN ((E.take k).map (·.p)) N) ∧ runS ((E.take (k + 1)).map (·.p)) S = apS (E[k]'hk).p.1 (E[k]'hk).p.2 (runS ((E.take k).map (·.p)) S) := by
  rw [run_take _ _ hk, List.map_append, runN_app, runS_app]
  exact ⟨rfl, rfl⟩
set_option maxRecDepth 100000 in
set_option maxHeartbeats 4000000 in
theorem done_any {w : World} (hL : PA.Laid w) {A : Option Addr} {E : List DD.El2} {C : Nat} (hR : DD.Rowed w A E C) (hE : ∀ e ∈ E, DD.DV w e ∧ DedFit e.p.1 e.p.2) (hl : E.length ≤ 9223372036854775807) :
    Calls Tryz.prog 26 #[.slice A E.length C] w fun e w' => ∃ t m n, e = .returned (.pointer (some ⟨t, 0, none⟩)) ∧ Tr w' t m n (runN (E.map (·.p)) [rootF]) (runS (E.map (·.p)) []) ∧ (∀ k, Wt t m n k → w.heap.size ≤ k) ∧ Below w.heap.size w w' := by
  have HL : Hid (PA.Laid w) := hL
  have HR : Hid (DD.Rowed w A E C) := hR
  have HE : Hid (∀ e ∈ E, DD.DV w e ∧ DedFit e.p.1 e.p.2) := hE
  have c2 := new_tr w
  clear hL hR hE
  go_enter Tryz.func26, Tryz.ntmps26
  go_wp2_with fail
  refine c2.mono ?_
  rintro e w2 ⟨t, m, n, rfl, hT2, hW2, hb2⟩
  have HT2 : Hid (Tr w2 t m n [rootF] []) := hT2
  have HW2 : Hid (∀ k, Wt t m n k → w.heap.size ≤ k) := hW2
  have HB2 : Hid (Below w.heap.size w w2) := hb2
  clear c2 hT2 hW2 hb2
  go_wp2_with fail
  go_loopg [4] E.length (fun g v4 wr => ∃ k : Nat, k ≤ E.length ∧ g = E.length - k ∧ v4 = .int .i64 (k : Int) ∧ Tr wr t m n (runN ((E.take k).map (·.p)) [rootF]) (runS ((E.take k).map (·.p)) []) ∧ Below w.heap.size w wr)
  case atStart => exact ⟨0, Nat.zero_le _, rfl, rfl, HT2.out, HB2.out⟩
  case round =>
    obtain ⟨k, hk, hg, rfl, hTr, hB⟩ := hrel
    have HG : Hid (gk = E.length - k) := hg
    have HTR : Hid (Tr wr t m n (runN ((E.take k).map (·.p)) [rootF]) (runS ((E.take k).map (·.p)) [])) := hTr
    have HB : Hid (Below w.heap.size w wr) := hB
    clear hg hTr hB
    by_cases hlt : k < E.length
    case neg =>
      have hke : k = E.length := by omega
      have HKE : Hid (k = E.length) := hke
      clear hke
      go_wp2_with fail
      go_ret
      have := HTR.out
      rw [HKE.out, List.take_of_length_le (Nat.le_refl _)] at this
      exact ⟨t, rfl, m, n, this, HW2.out, HB.out⟩
    case pos =>
    obtain ⟨b, o, rfl, hb, hC, hd⟩ := HR.out.deed k hlt
    have he := HE.out _ (List.getElem_mem hlt)
    have hst := run_step E k hlt [rootF] []
    obtain ⟨el, hel⟩ : ∃ el, el = E[k]'hlt := ⟨_, rfl⟩
    rw [← hel] at hd he hst
    have HST : Hid (runN ((E.take (k + 1)).map (·.p)) [rootF] = apN el.p.1 el.p.2 (runN ((E.take k).map (·.p)) [rootF]) ∧ runS ((E.take (k + 1)).map (·.p)) [] = apS el.p.1 el.p.2 (runS ((E.take k).map (·.p)) [])) := hst
    clear hel hst
    obtain ⟨⟨f, ps⟩, A1, c1, A2, c2, A3, c3⟩ := el
    simp only [DD.DV] at hd he
    have hcell : DD.DCells wr b (o + k * 16) f A1 c1 A2 c2 A3 c3 := hd.keep fun o' => HB.out.cell (p := ⟨b, o', none⟩) hb
    have c6 := apply_any HTR.out (HL.out.below HB.out) f ps (he.1.grow HB.out) he.2
    have i0 : ¬ (k : Int) < 0 := by omega
    have i1 : (k : Int) < (E.length : Int) := by omega
    have i2 : (0 : Int) ≤ (k : Int) := by omega
    have i3 : (k : Int).toNat = k := by omega
    simp only [dA] at c6
    obtain ⟨z0, z1, z2, z3, z4, z5, z6, z7, z8, z9, z10, z11, z12, z13, z14, z15⟩ := hcell
    clear hd he hb
    go_wp2_with fail
    refine c6.mono ?_
    rintro e w6 ⟨rfl, hT6, k6⟩
    have HT6 : Hid (Tr w6 t m n (runN ((E.take (k + 1)).map (·.p)) [rootF]) (runS ((E.take (k + 1)).map (·.p)) [])) := by rw [HST.out.1, HST.out.2]; exact hT6
    have HB6 : Hid (Below w.heap.size w w6) := HB.out.trans (mn_below k6 HW2.out HB.out.size)
    clear c6 hT6 k6
    clear z0 z1 z2 z3 z4 z5 z6 z7 z8 z9 z10 z11 z12 z13 z14 z15
    go_wp2_with fail
    go_roundg (E.length - (k + 1))
    case measure => have := HG.out; omega
    case rel => exact ⟨k + 1, by omega, rfl, by go_num, HT6.out, HB6.out⟩
end Go.Proofs.YtcdnfgibcochhaaGreatDoor

namespace Go.Proofs.YtcdnfgibcochhaaGreatDoor
set_option linter.unusedSimpArgs false
set_option linter.unusedVariables false
set_option linter.unusedSimpArgs false
set_option linter.unusedVariables false
open Go.RowKit Go.MapKept

theorem infoD16f : (Tryz.prog.info? 31).map (fun i => (i.zero, i.size, i.bytes)) = some (some (.agg #[.int .i64 0, .int .u8 0, .int .i64 0, .int .i64 0, .int .i64 0, .int .i64 0, .string ⟨#[]⟩, .slice none 0 0, .int .i64 0, .int .i64 0, .int .i64 0, .int .i64 0, .int .i64 0, .int .i64 0, .slice none 0 0, .slice none 0 0]), 16, 184) := by kernel_rfl
theorem ev2_one' (e : DD.El2) : ∀ u ∈ DD.ev2 e, u.oneCell' = true := by
  intro u hu
  simp only [DD.ev2, List.mem_cons, List.not_mem_nil, or_false] at hu
  rcases hu with rfl | rfl | rfl | rfl | rfl | rfl | rfl | rfl | rfl | rfl | rfl | rfl | rfl | rfl | rfl | rfl <;> rfl
/- A deed that numbered tells: what is held of it. -/
structure NumEl (w : World) (e : DD.El2) : Prop where
  dv : DD.DV w e
  fit : DedFit e.p.1 e.p.2
  rt : rightD e.p.1 e.p.2 = true
  np : e.p.1.np ≤ 60
theorem flat_ev2 : ∀ (E : List DD.El2) (i : Nat) (h : i < E.length) (j : Nat), j < 16 → (E.flatMap DD.ev2)[i * 16 + j]? = (DD.ev2 (E[i]'h))[j]?
  | x :: E, 0, h, j, hj => by
    rw [List.flatMap_cons, List.getElem?_append_left (by rw [DD.ev2_len]; omega)]
    simp
  | x :: E, i + 1, h, j, hj => by
    rw [List.flatMap_cons, List.getElem?_append_right (by rw [DD.ev2_len]; omega), DD.ev2_len, show (i + 1) * 16 + j - 16 = i * 16 + j by omega]
    exact flat_ev2 E i (by simpa using h) j hj
theorem rowed_of {w : World} {base : Nat} {T : TypeId} {A : Option Addr} {E : List DD.El2} {C : Nat} (h : w.ownsRow base T 16 (.slice A E.length C) E.length (E.flatMap DD.ev2)) : DD.Rowed w A E C := by
  rcases h.2 with ⟨hv, h0⟩ | ⟨g, cap, cur, hv, hb, hg, h1, h2, h3, h4⟩
  · exact .inl (List.length_eq_zero_iff.1 h0)
  · cases hv
    refine .inr ⟨g, 0, rfl, theap_lt hg, h1, fun i hi j hj => ?_⟩
    rw [Nat.zero_add, cell_at hg, ← flat_ev2 E i hi j hj, ← h4, List.getElem?_take_of_lt, Array.getElem?_toList]
    have : (i + 1) * 16 ≤ E.length * 16 := Nat.mul_le_mul_right 16 hi
    omega
theorem rng_heap {w : World} {b : Nat} {cs : List Value} {T : TypeId} (h : w.heap[b]? = some (.cells cs.toArray T (0, 0))) : w.rangeAt b 0 cs := fun j v hj => by
  rw [cell_at h]
  simpa using hj
theorem rowed_rng {w : World} {A : Option Addr} {E : List DD.El2} {C : Nat} (h : DD.Rowed w A E C) (k : Nat) (hk : k < E.length) : ∃ b o, A = some ⟨b, o, none⟩ ∧ b < w.heap.size ∧ E.length ≤ C ∧ w.rangeAt b (o + k * 16) (DD.ev2 (E[k]'hk)) := by
  rcases h with h | ⟨b, o, h1, h2, h3, h4⟩
  · subst h; simp at hk
  · refine ⟨b, o, h1, h2, h3, fun j v hj => ?_⟩
    have hj16 : j < 16 := by
      have := (List.getElem?_eq_some_iff.1 hj).1
      rwa [DD.ev2_len] at this
    rw [h4 k hk j hj16, hj]
theorem load_midg {P : Program} {ops : Array Oper} {rest : List Oper} {op : Oper} {a : Act} {w : World} {Q : Exit → Act → World → Prop} (hw : Region.wanted op (yielded ops a.tmps) = true) (ty : TypeId) (x : Operand) (ho : op.op = .load ty x)
    (b o : Nat) (hx : a.eval x = .pointer (some ⟨b, o, none⟩)) (cs : List Value) (d : TypeDesc) (hc : w.rangeAt b o cs)
    (hu : P.underlying ty = some d) (hd : d.isRow = true) (hi : (P.info? ty).map (·.size) = some cs.length)
    (h : wpList P ops Q rest (a.put op.dst (.agg cs.toArray)) w) : wpList P ops Q (op :: rest) a w :=
  wpList_step fun K hK => by rw [if_pos hw]; exact wp_load_mid ty x ho b o hx cs d hc hu hd hi (hK _ _ h)
theorem num_next {k n : Nat} (h : n ≤ 9223372036854775807) (hk : k < n) : Value.int .i64 (wrap64 ((k : Int) + 1)) = Value.int .i64 ((k + 1 : Nat) : Int) := by
  rw [Go.IntWalk.wrap64_in _ (by omega)]; rfl
theorem dv_chg {w : World} {f : Fl} {ps : List Fl} {A1 A2 A3 : Option Addr} {c1 c2 c3 : Nat} (h : DD.DVal w f ps A1 c1 A2 c2 A3 c3) (z v : Int) : DD.DVal w { f with zxid := z, cver := v } ps A1 c1 A2 c2 A3 c3 := ⟨h.1, h.2, h.3⟩
set_option maxRecDepth 100000 in
set_option maxHeartbeats 8000000 in
theorem numbered_any {w : World} (hL : PA.Laid w) {A : Option Addr} {E : List DD.El2} {C : Nat} (hR : DD.Rowed w A E C) (hE : ∀ e ∈ E, DD.DV w e ∧ DedFit e.p.1 e.p.2 ∧ e.p.1.np ≤ 9223372036854775807) (hl : E.length ≤ 9223372036854775807) :
    Calls Tryz.prog 24 #[.slice A E.length C] w fun e w' => ∃ (E' : List DD.El2) (A' : Option Addr) (C' : Nat), e = .returned (.slice A' E'.length C') ∧ w'.ownsRow w.heap.size 31 16 (.slice A' E'.length C') E'.length (E'.flatMap DD.ev2) ∧ (∀ e ∈ E', NumEl w e) ∧ E'.length ≤ 60 ∧ Below w.heap.size w w' := by
  have HL : Hid (PA.Laid w) := hL
  have HR : Hid (DD.Rowed w A E C) := hR
  have HE : Hid (∀ e ∈ E, DD.DV w e ∧ DedFit e.p.1 e.p.2 ∧ e.p.1.np ≤ 9223372036854775807) := hE
  have HLN : Hid (E.length ≤ 9223372036854775807) := hl
  obtain ⟨i0, hi, hz0, hz1, hz2⟩ := info_parts infoD16f
  clear hL hR hE hl
  go_enter Tryz.func24, Tryz.ntmps24
  go_wp2_with fail
  go_loopg [3, 4] E.length (fun g v3 v4 wr => ∃ (k : Nat) (E' : List DD.El2) (A' : Option Addr) (C' : Nat), k ≤ E.length ∧ g = E.length - k ∧ v4 = .int .i64 (k : Int) ∧ v3 = .slice A' E'.length C' ∧ wr.ownsRow w.heap.size 31 16 (.slice A' E'.length C') E'.length (E'.flatMap DD.ev2) ∧ (∀ e ∈ E', NumEl w e) ∧ E'.length ≤ 60 ∧ Below w.heap.size w wr)
  case atStart => exact ⟨0, [], none, 0, Nat.zero_le _, rfl, rfl, rfl, World.ownsRow_nil _ _ _ _, fun e he => (nomatch he), by simp, Below.refl _ _⟩
  case round =>
    obtain ⟨k, E', A', C', hk, hg, rfl, rfl, hO, hN, h60, hB⟩ := hrel
    have HG : Hid (gk = E.length - k) := hg
    have HO : Hid (wr.ownsRow w.heap.size 31 16 (.slice A' E'.length C') E'.length (E'.flatMap DD.ev2)) := hO
    have HN : Hid (∀ e ∈ E', NumEl w e) := hN
    have HB : Hid (Below w.heap.size w wr) := hB
    clear hg hO hN hB
    by_cases hlt : k < E.length
    case neg =>
      go_wp2_with fail
      go_ret
      exact ⟨E', A', C', rfl, HO.out, HN.out, h60, HB.out⟩
    case pos =>
    have i1 : (k : Int) < (E.length : Int) := by omega
    by_cases hlt2 : E'.length < 60
    case neg =>
      have j1 : ¬ (E'.length : Int) < 60 := by omega
      go_wp2_with fail
      go_ret
      exact ⟨E', A', C', rfl, HO.out, HN.out, h60, HB.out⟩
    case pos =>
    have j1 : (E'.length : Int) < 60 := by omega
    obtain ⟨b, o, rfl, hb, hC, hd⟩ := rowed_rng HR.out k hlt
    have he := HE.out _ (List.getElem_mem hlt)
    generalize E[k]'hlt = el at hd he
    obtain ⟨⟨f0, ps⟩, A1, c1, A2, c2, A3, c3⟩ := el
    simp only [DD.DV, DD.ev2] at hd he
    have hrg : wr.rangeAt b (o + k * 16) [.int .i64 f0.zxid, .int .u8 f0.kind, .int .i64 f0.session, .int .i64 f0.turn, .int .i64 f0.xid, .int .i64 f0.time, .string (mkS f0.path), .slice A1 f0.data.length c1, .int .i64 f0.owner, .int .i64 f0.version, .int .i64 f0.cversion, .int .i64 f0.timeout, .int .i64 f0.err, .int .i64 f0.cver, .slice A2 f0.mems.length c2, .slice A3 f0.np c3] := fun j v hj => (HB.out.cell (p := ⟨b, o + k * 16 + j, none⟩) hb).trans (hd j v hj)
    have HRG : Hid _ := hrg
    have HFIT : Hid (DedFit f0 ps ∧ f0.np ≤ 9223372036854775807) := he.2
    have HDV : Hid (DD.DVal w f0 ps A1 c1 A2 c2 A3 c3) := he.1
    have i0' : ¬ (k : Int) < 0 := by omega
    have i2 : (0 : Int) ≤ (k : Int) := by omega
    have i3 : (k : Int).toNat = k := by omega
    obtain ⟨M, hM⟩ : ∃ M, IntKind.i64.wrap (3 * (k : Int)) = M := ⟨_, rfl⟩
    obtain ⟨Z, hZ⟩ : ∃ Z, IntKind.i64.wrap (10 + M) = Z := ⟨_, rfl⟩
    have HZI : Hid (I64 Z) := by rw [← hZ, IntKind.wrap_i64]; unfold Hid I64; omega
    clear hd he hb hrg
    obtain ⟨W, hW⟩ : ∃ W, W = wr.alloc (.cells (dA f0 A1 A2 A3 c1 c2 c3) 31) := ⟨_, rfl⟩
    have hW0 : W.heap[wr.heap.size]? = some (.cells (dA f0 A1 A2 A3 c1 c2 c3) 31 (0, 0)) := by rw [hW]; exact heap_alloc_new wr _
    have HW0 : Hid (W.heap[wr.heap.size]? = some (.cells (dA f0 A1 A2 A3 c1 c2 c3) 31 (0, 0))) := hW0
    have HWC : Hid (Chg (fun i => i = wr.heap.size) wr W) := by rw [hW]; exact Chg.alloc _ _ _
    obtain ⟨f, hf⟩ : ∃ f : Fl, f = { f0 with zxid := Z, cver := if f0.kind = 7 then Z else f0.cver } := ⟨_, rfl⟩
    have HF : Hid (f = { f0 with zxid := Z, cver := if f0.kind = 7 then Z else f0.cver }) := hf
    clear hf
    go_upto_region 6 with (first | (refine wpList_load_mid rfl 31 (.tmp 19) rfl b (o + k * 16) rfl [.int .i64 f0.zxid, .int .u8 f0.kind, .int .i64 f0.session, .int .i64 f0.turn, .int .i64 f0.xid, .int .i64 f0.time, .string (mkS f0.path), .slice A1 f0.data.length c1, .int .i64 f0.owner, .int .i64 f0.version, .int .i64 f0.cversion, .int .i64 f0.timeout, .int .i64 f0.err, .int .i64 f0.cver, .slice A2 f0.mems.length c2, .slice A3 f0.np c3] _ HRG.out Tryz.underlying31 rfl infoD16 ?_) | fail)
    simp only [dA] at hW hW0
    rw [← hW]
    have x0 : W.cell? ⟨wr.heap.size, 0, none⟩ = some (.int .i64 f0.zxid) := by rw [cell_at hW0]; rfl
    have x1 : W.cell? ⟨wr.heap.size, 1, none⟩ = some (.int .u8 f0.kind) := by rw [cell_at hW0]; rfl
    have y0 : W.frozen? ⟨wr.heap.size, 0, none⟩ = false := frozen_at hW0 _
    obtain ⟨w3, hw3⟩ : ∃ X, X = W.setCell ⟨wr.heap.size, 0, none⟩ (.int .i64 Z) := ⟨_, rfl⟩
    have h3 : w3.heap[wr.heap.size]? = some (.cells #[.int .i64 Z, .int .u8 f0.kind, .int .i64 f0.session, .int .i64 f0.turn, .int .i64 f0.xid, .int .i64 f0.time, .string (mkS f0.path), .slice A1 f0.data.length c1, .int .i64 f0.owner, .int .i64 f0.version, .int .i64 f0.cversion, .int .i64 f0.timeout, .int .i64 f0.err, .int .i64 f0.cver, .slice A2 f0.mems.length c2, .slice A3 f0.np c3] 31 (0, 0)) := by rw [hw3]; exact heap_set hW0 0 _
    have HW3 : Hid (w3 = W.setCell ⟨wr.heap.size, 0, none⟩ (.int .i64 Z)) := hw3
    have HC3 : Hid (Chg (fun i => i = wr.heap.size) wr w3) := by rw [hw3]; exact HWC.out.trans (Chg.setCell W ⟨wr.heap.size, 0, none⟩ _ rfl)
    have H3 : Hid _ := h3
    have x3 : w3.cell? ⟨wr.heap.size, 1, none⟩ = some (.int .u8 f0.kind) := by rw [cell_at h3]; rfl
    rw [hw3] at x3
    clear hW hW0 h3 hw3
    go_upto_if 27 with fail
    rw [← HW3.out] at x3 ⊢
    clear x0 x1 y0 hM hZ
    go_cut [] from 6 to 42 (fun wx => wx.heap[wr.heap.size]? = some (.cells #[.int .i64 f.zxid, .int .u8 f.kind, .int .i64 f.session, .int .i64 f.turn, .int .i64 f.xid, .int .i64 f.time, .string (mkS f.path), .slice A1 f.data.length c1, .int .i64 f.owner, .int .i64 f.version, .int .i64 f.cversion, .int .i64 f.timeout, .int .i64 f.err, .int .i64 f.cver, .slice A2 f.mems.length c2, .slice A3 f.np c3] 31 (0, 0)) ∧ Chg (fun i => i = wr.heap.size) wr wx)
    case first =>
      by_cases h7 : f0.kind = 7
      · have hb7 : (f0.kind == 7) = true := by rw [h7]; rfl
        have q0 : w3.cell? ⟨wr.heap.size, 0, none⟩ = some (.int .i64 Z) := by rw [cell_at H3.out]; rfl
        have q13 : w3.cell? ⟨wr.heap.size, 13, none⟩ = some (.int .i64 f0.cver) := by rw [cell_at H3.out]; rfl
        have p13 : w3.frozen? ⟨wr.heap.size, 13, none⟩ = false := frozen_at H3.out _
        have H7 : Hid (f0.kind = 7) := h7
        clear h7 x3
        go_wp2_with fail
        go_meet
        refine ⟨?_, HC3.out.trans (Chg.setCell w3 ⟨wr.heap.size, 13, none⟩ _ rfl)⟩
        rw [HF.out]
        simp only [if_pos H7.out]
        exact heap_set H3.out 13 _
      · have hb7 : (f0.kind == 7) = false := by simpa using h7
        have H7 : Hid (¬ f0.kind = 7) := h7
        clear h7 x3
        go_wp2_with fail
        go_meet
        refine ⟨?_, HC3.out⟩
        rw [HF.out]
        simp only [if_neg H7.out]
        exact H3.out
    case rest =>
    clear x3
    obtain ⟨hH, hCc⟩ := hcut
    have HH : Hid _ := hH
    have HBC : Hid (Below wr.heap.size wr wc) := hCc.below (fun i e => by omega) (Nat.le_refl _)
    have HDF : Hid (DD.DVal w f ps A1 c1 A2 c2 A3 c3) := by
      show DD.DVal _ _ _ _ _ _ _ _ _
      rw [HF.out]; exact ⟨HDV.out.1, HDV.out.2, HDV.out.3⟩
    have HFF : Hid (DedFit f ps) := by
      show DedFit _ _
      have hv : I64 (if f0.kind = 7 then Z else f0.cver) := by
        split
        · exact HZI.out
        · exact HFIT.out.1.top.cver
      rw [HF.out]
      have t := HFIT.out.1.top
      exact ⟨⟨HZI.out, t.kind, t.session, t.turn, t.xid, t.time, t.owner, t.version, t.cversion, t.timeout, t.err, hv⟩, HFIT.out.1.all, HFIT.out.1.len⟩
    have HNP : Hid (f.np ≤ 9223372036854775807) := by show _ ≤ _; rw [HF.out]; exact HFIT.out.2
    clear hH hCc HF HZI HFIT HDV H3 HC3 HW3 HRG HW0 HWC
    have HWB : Hid (Below w.heap.size w wc) := HB.out.trans (HBC.out.mono HB.out.size)
    have HRC : Hid (wc.rangeAt wr.heap.size 0 [.int .i64 f.zxid, .int .u8 f.kind, .int .i64 f.session, .int .i64 f.turn, .int .i64 f.xid, .int .i64 f.time, .string (mkS f.path), .slice A1 f.data.length c1, .int .i64 f.owner, .int .i64 f.version, .int .i64 f.cversion, .int .i64 f.timeout, .int .i64 f.err, .int .i64 f.cver, .slice A2 f.mems.length c2, .slice A3 f.np c3]) := rng_heap HH.out
    have hri := DD.right_any f ps A1 A2 A3 c1 c2 c3 wc (HL.out.below HWB.out) (HDF.out.grow HWB.out) HFF.out
    cases hr : rightD f ps with
    | false =>
      rw [hr] at hri
      clear hr
      go_wp2_with (first | (refine wpList_load_mid rfl 31 (.tmp 5) rfl wr.heap.size 0 rfl [.int .i64 f.zxid, .int .u8 f.kind, .int .i64 f.session, .int .i64 f.turn, .int .i64 f.xid, .int .i64 f.time, .string (mkS f.path), .slice A1 f.data.length c1, .int .i64 f.owner, .int .i64 f.version, .int .i64 f.cversion, .int .i64 f.timeout, .int .i64 f.err, .int .i64 f.cver, .slice A2 f.mems.length c2, .slice A3 f.np c3] _ HRC.out Tryz.underlying31 rfl infoD16 ?_) | fail)
      refine hri.mono ?_
      rintro e w6 ⟨rfl, hB6⟩
      have HB6 : Hid (Below w.heap.size w w6) := HWB.out.trans (hB6.mono HWB.out.size)
      have HO6 : Hid (w6.ownsRow w.heap.size 31 16 (.slice A' E'.length C') E'.length (E'.flatMap DD.ev2)) := towns_keep (towns_keep HO.out (Chg.of_below HBC.out) (fun _ _ => id)) (Chg.of_below hB6) (fun _ _ => id)
      clear hri hB6
      go_wp2_with fail
      go_roundg (E.length - (k + 1))
      case measure => have := HG.out; omega
      case rel => exact ⟨k + 1, E', A', C', by omega, rfl, num_next HLN.out hlt, rfl, HO6.out, HN.out, h60, HB6.out⟩
    | true =>
      rw [hr] at hri
      have HRT : Hid (rightD f ps = true) := hr
      clear hr
      have HBR : Hid (w.heap.size ≤ wr.heap.size) := HB.out.size
      go_wp2_with (first | (refine wpList_load_mid rfl 31 (.tmp 5) rfl wr.heap.size 0 rfl [.int .i64 f.zxid, .int .u8 f.kind, .int .i64 f.session, .int .i64 f.turn, .int .i64 f.xid, .int .i64 f.time, .string (mkS f.path), .slice A1 f.data.length c1, .int .i64 f.owner, .int .i64 f.version, .int .i64 f.cversion, .int .i64 f.timeout, .int .i64 f.err, .int .i64 f.cver, .slice A2 f.mems.length c2, .slice A3 f.np c3] _ HRC.out Tryz.underlying31 rfl infoD16 ?_) | fail)
      refine hri.mono ?_
      rintro e w6 ⟨rfl, hB6⟩
      have HB6 : Hid (Below w.heap.size w w6) := HWB.out.trans (hB6.mono HWB.out.size)
      have HO6 : Hid (w6.ownsRow w.heap.size 31 16 (.slice A' E'.length C') E'.length (E'.flatMap DD.ev2)) := towns_keep (towns_keep HO.out (Chg.of_below HBC.out) (fun _ _ => id)) (Chg.of_below hB6) (fun _ _ => id)
      have HH6 : Hid (w6.heap[wr.heap.size]? = some (.cells #[.int .i64 f.zxid, .int .u8 f.kind, .int .i64 f.session, .int .i64 f.turn, .int .i64 f.xid, .int .i64 f.time, .string (mkS f.path), .slice A1 f.data.length c1, .int .i64 f.owner, .int .i64 f.version, .int .i64 f.cversion, .int .i64 f.timeout, .int .i64 f.err, .int .i64 f.cver, .slice A2 f.mems.length c2, .slice A3 f.np c3] 31 (0, 0))) := by
        show _ = _
        rw [hB6.block _ (theap_lt HH.out)]; exact HH.out
      have HR6 : Hid (w6.rangeAt wr.heap.size 0 [.int .i64 f.zxid, .int .u8 f.kind, .int .i64 f.session, .int .i64 f.turn, .int .i64 f.xid, .int .i64 f.time, .string (mkS f.path), .slice A1 f.data.length c1, .int .i64 f.owner, .int .i64 f.version, .int .i64 f.cversion, .int .i64 f.timeout, .int .i64 f.err, .int .i64 f.cver, .slice A2 f.mems.length c2, .slice A3 f.np c3]) := rng_heap HH6.out
      have hgr := great_any w6 f A1 A2 A3 c1 c2 c3 HNP.out
      simp only [dA] at hgr
      clear hri hB6 HO
      by_cases hbig : 60 < f.np
      · rw [decide_eq_true hbig] at hgr
        clear hbig
        have z0 : w6.cell? ⟨wr.heap.size, 0, none⟩ = some (.int .i64 f.zxid) := by have := HR6.out 0 _ rfl; simpa using this
        have z1 : w6.cell? ⟨wr.heap.size, 1, none⟩ = some (.int .u8 f.kind) := by have := HR6.out 1 _ rfl; simpa using this
        have z2 : w6.cell? ⟨wr.heap.size, 2, none⟩ = some (.int .i64 f.session) := by have := HR6.out 2 _ rfl; simpa using this
        have z3 : w6.cell? ⟨wr.heap.size, 3, none⟩ = some (.int .i64 f.turn) := by have := HR6.out 3 _ rfl; simpa using this
        have z4 : w6.cell? ⟨wr.heap.size, 4, none⟩ = some (.int .i64 f.xid) := by have := HR6.out 4 _ rfl; simpa using this
        have z5 : w6.cell? ⟨wr.heap.size, 5, none⟩ = some (.int .i64 f.time) := by have := HR6.out 5 _ rfl; simpa using this
        have z6 : w6.cell? ⟨wr.heap.size, 6, none⟩ = some (.string (mkS f.path)) := by have := HR6.out 6 _ rfl; simpa using this
        have z7 : w6.cell? ⟨wr.heap.size, 7, none⟩ = some (.slice A1 f.data.length c1) := by have := HR6.out 7 _ rfl; simpa using this
        have z8 : w6.cell? ⟨wr.heap.size, 8, none⟩ = some (.int .i64 f.owner) := by have := HR6.out 8 _ rfl; simpa using this
        have z9 : w6.cell? ⟨wr.heap.size, 9, none⟩ = some (.int .i64 f.version) := by have := HR6.out 9 _ rfl; simpa using this
        have z10 : w6.cell? ⟨wr.heap.size, 10, none⟩ = some (.int .i64 f.cversion) := by have := HR6.out 10 _ rfl; simpa using this
        have z11 : w6.cell? ⟨wr.heap.size, 11, none⟩ = some (.int .i64 f.timeout) := by have := HR6.out 11 _ rfl; simpa using this
        have z12 : w6.cell? ⟨wr.heap.size, 12, none⟩ = some (.int .i64 f.err) := by have := HR6.out 12 _ rfl; simpa using this
        have z13 : w6.cell? ⟨wr.heap.size, 13, none⟩ = some (.int .i64 f.cver) := by have := HR6.out 13 _ rfl; simpa using this
        have z14 : w6.cell? ⟨wr.heap.size, 14, none⟩ = some (.slice A2 f.mems.length c2) := by have := HR6.out 14 _ rfl; simpa using this
        have z15 : w6.cell? ⟨wr.heap.size, 15, none⟩ = some (.slice A3 f.np c3) := by have := HR6.out 15 _ rfl; simpa using this
        go_wp2_with fail
        refine hgr.mono ?_
        rintro e w7 ⟨rfl, hB7⟩
        have HB7 : Hid (Below w.heap.size w w7) := HB6.out.trans (hB7.mono HB6.out.size)
        have HO7 : Hid (w7.ownsRow w.heap.size 31 16 (.slice A' E'.length C') E'.length (E'.flatMap DD.ev2)) := towns_keep HO6.out (Chg.of_below hB7) (fun _ _ => id)
        clear hgr hB7 z0 z1 z2 z3 z4 z5 z6 z7 z8 z9 z10 z11 z12 z13 z14 z15
        go_wp2_with fail
        go_roundg (E.length - (k + 1))
        case measure => have := HG.out; omega
        case rel => exact ⟨k + 1, E', A', C', by omega, rfl, num_next HLN.out hlt, rfl, HO7.out, HN.out, h60, HB7.out⟩
      · rw [decide_eq_false hbig] at hgr
        have HBG : Hid (f.np ≤ 60) := Nat.not_lt.1 hbig
        clear hbig
        have z0 : w6.cell? ⟨wr.heap.size, 0, none⟩ = some (.int .i64 f.zxid) := by have := HR6.out 0 _ rfl; simpa using this
        have z1 : w6.cell? ⟨wr.heap.size, 1, none⟩ = some (.int .u8 f.kind) := by have := HR6.out 1 _ rfl; simpa using this
        have z2 : w6.cell? ⟨wr.heap.size, 2, none⟩ = some (.int .i64 f.session) := by have := HR6.out 2 _ rfl; simpa using this
        have z3 : w6.cell? ⟨wr.heap.size, 3, none⟩ = some (.int .i64 f.turn) := by have := HR6.out 3 _ rfl; simpa using this
        have z4 : w6.cell? ⟨wr.heap.size, 4, none⟩ = some (.int .i64 f.xid) := by have := HR6.out 4 _ rfl; simpa using this
        have z5 : w6.cell? ⟨wr.heap.size, 5, none⟩ = some (.int .i64 f.time) := by have := HR6.out 5 _ rfl; simpa using this
        have z6 : w6.cell? ⟨wr.heap.size, 6, none⟩ = some (.string (mkS f.path)) := by have := HR6.out 6 _ rfl; simpa using this
        have z7 : w6.cell? ⟨wr.heap.size, 7, none⟩ = some (.slice A1 f.data.length c1) := by have := HR6.out 7 _ rfl; simpa using this
        have z8 : w6.cell? ⟨wr.heap.size, 8, none⟩ = some (.int .i64 f.owner) := by have := HR6.out 8 _ rfl; simpa using this
        have z9 : w6.cell? ⟨wr.heap.size, 9, none⟩ = some (.int .i64 f.version) := by have := HR6.out 9 _ rfl; simpa using this
        have z10 : w6.cell? ⟨wr.heap.size, 10, none⟩ = some (.int .i64 f.cversion) := by have := HR6.out 10 _ rfl; simpa using this
        have z11 : w6.cell? ⟨wr.heap.size, 11, none⟩ = some (.int .i64 f.timeout) := by have := HR6.out 11 _ rfl; simpa using this
        have z12 : w6.cell? ⟨wr.heap.size, 12, none⟩ = some (.int .i64 f.err) := by have := HR6.out 12 _ rfl; simpa using this
        have z13 : w6.cell? ⟨wr.heap.size, 13, none⟩ = some (.int .i64 f.cver) := by have := HR6.out 13 _ rfl; simpa using this
        have z14 : w6.cell? ⟨wr.heap.size, 14, none⟩ = some (.slice A2 f.mems.length c2) := by have := HR6.out 14 _ rfl; simpa using this
        have z15 : w6.cell? ⟨wr.heap.size, 15, none⟩ = some (.slice A3 f.np c3) := by have := HR6.out 15 _ rfl; simpa using this
        go_wp2_with fail
        refine hgr.mono ?_
        rintro e w7 ⟨rfl, hB7⟩
        have HB7 : Hid (Below w.heap.size w w7) := HB6.out.trans (hB7.mono HB6.out.size)
        have HO7 : Hid (w7.ownsRow w.heap.size 31 16 (.slice A' E'.length C') E'.length (E'.flatMap DD.ev2)) := towns_keep HO6.out (Chg.of_below hB7) (fun _ _ => id)
        have HR7 : Hid (w7.rangeAt wr.heap.size 0 [.int .i64 f.zxid, .int .u8 f.kind, .int .i64 f.session, .int .i64 f.turn, .int .i64 f.xid, .int .i64 f.time, .string (mkS f.path), .slice A1 f.data.length c1, .int .i64 f.owner, .int .i64 f.version, .int .i64 f.cversion, .int .i64 f.timeout, .int .i64 f.err, .int .i64 f.cver, .slice A2 f.mems.length c2, .slice A3 f.np c3]) := by
          refine rng_heap (T := 31) ?_
          rw [hB7.block _ (theap_lt HH6.out)]; exact HH6.out
        have hs7 : w.heap.size ≤ w7.heap.size := HB7.out.size
        clear hgr hB7 HO6 z0 z1 z2 z3 z4 z5 z6 z7 z8 z9 z10 z11 z12 z13 z14 z15
        go_wp2_with (first
          | (refine wpList_load_mid rfl 31 (.tmp 5) rfl wr.heap.size 0 rfl [.int .i64 f.zxid, .int .u8 f.kind, .int .i64 f.session, .int .i64 f.turn, .int .i64 f.xid, .int .i64 f.time, .string (mkS f.path), .slice A1 f.data.length c1, .int .i64 f.owner, .int .i64 f.version, .int .i64 f.cversion, .int .i64 f.timeout, .int .i64 f.err, .int .i64 f.cver, .slice A2 f.mems.length c2, .slice A3 f.np c3] _ HR7.out Tryz.underlying31 rfl infoD16 ?_)
          | (at_builtin; refine wpList_append_own_at _ rfl (.tmp 39) (.tmp 41) 29 rfl w.heap.size 31 i0 (.agg #[.int .i64 0, .int .u8 0, .int .i64 0, .int .i64 0, .int .i64 0, .int .i64 0, .string ⟨#[]⟩, .slice none 0 0, .int .i64 0, .int .i64 0, .int .i64 0, .int .i64 0, .int .i64 0, .int .i64 0, .slice none 0 0, .slice none 0 0]) 16 184 Tryz.underlying29 hi hz0 hz1 hz2 rfl (by decide) _ E'.length (E'.flatMap DD.ev2) rfl (HO7.out.alloc _) ⟨w7.heap.size, 0, none⟩ 1 1 [.int .i64 f.zxid, .int .u8 f.kind, .int .i64 f.session, .int .i64 f.turn, .int .i64 f.xid, .int .i64 f.time, .string (mkS f.path), .slice A1 f.data.length c1, .int .i64 f.owner, .int .i64 f.version, .int .i64 f.cversion, .int .i64 f.timeout, .int .i64 f.err, .int .i64 f.cver, .slice A2 f.mems.length c2, .slice A3 f.np c3] rfl rfl (cells_new w7 [.int .i64 f.zxid, .int .u8 f.kind, .int .i64 f.session, .int .i64 f.turn, .int .i64 f.xid, .int .i64 f.time, .string (mkS f.path), .slice A1 f.data.length c1, .int .i64 f.owner, .int .i64 f.version, .int .i64 f.cversion, .int .i64 f.timeout, .int .i64 f.err, .int .i64 f.cver, .slice A2 f.mems.length c2, .slice A3 f.np c3] 31) (ev2_one' ⟨(f, ps), A1, c1, A2, c2, A3, c3⟩) (by unfold maxLen; omega) (by omega) (by simp; omega) ?_; intro v8 w8 ho8 hg8 hn8 hl8)
          | fail)
        have hgc : Chg (fun k => (Value.slice A' E'.length C').ownBlock = some k) (w7.alloc (.cells (dA f A1 A2 A3 c1 c2 c3) 31)) w8 := Chg.of_grown hg8
        have hb8 : Below w.heap.size w w8 := by
          refine (HB7.out.alloc hs7 _).trans (hgc.below (fun k hk => ?_) (by simp; omega))
          obtain ⟨_, _, hle⟩ := nblock HO7.out hk
          exact hle
        have HB8 : Hid (Below w.heap.size w w8) := hb8
        have hE2 : ∃ E2 : List DD.El2, E2.length = E'.length + 1 ∧ E2.flatMap DD.ev2 = E'.flatMap DD.ev2 ++ [.int .i64 f.zxid, .int .u8 f.kind, .int .i64 f.session, .int .i64 f.turn, .int .i64 f.xid, .int .i64 f.time, .string (mkS f.path), .slice A1 f.data.length c1, .int .i64 f.owner, .int .i64 f.version, .int .i64 f.cversion, .int .i64 f.timeout, .int .i64 f.err, .int .i64 f.cver, .slice A2 f.mems.length c2, .slice A3 f.np c3] ∧ ∀ e ∈ E2, NumEl w e := by
          refine ⟨E' ++ [⟨(f, ps), A1, c1, A2, c2, A3, c3⟩], by rw [List.length_append]; rfl, ?_, ?_⟩
          · rw [List.flatMap_append, List.flatMap_cons, List.flatMap_nil, List.append_nil]; rfl
          · intro e he
            rcases List.mem_append.1 he with he | he
            · exact HN.out e he
            · rw [List.mem_singleton] at he
              subst he
              exact ⟨HDF.out, HFF.out, HRT.out, HBG.out⟩
        obtain ⟨E2, hl2, hf2, hn2⟩ := hE2
        rw [← hf2, ← hl2] at ho8
        obtain ⟨A8, C8, hv8⟩ := nform ho8
        rw [hv8] at ho8 ⊢
        have HO8 : Hid (w8.ownsRow w.heap.size 31 16 (.slice A8 E2.length C8) E2.length (E2.flatMap DD.ev2)) := ho8
        have HN2 : Hid (∀ e ∈ E2, NumEl w e) := hn2
        have h602 : E2.length ≤ 60 := by omega
        clear hgc hb8 ho8 hg8 hf2 hn2 hv8 hl2 hn8 hl8
        go_roundg (E.length - (k + 1))
        case measure => have := HG.out; omega
        case rel => exact ⟨k + 1, E2, A8, C8, by omega, rfl, num_next HLN.out hlt, rfl, HO8.out, HN2.out, h602, HB8.out⟩
end Go.Proofs.YtcdnfgibcochhaaGreatDoor
