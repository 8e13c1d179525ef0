/- What a deed rings: the walk. -/
import Derived.Test.YtkbmbnfpadllmaaDoorBeG
namespace Go.Proofs.YtkbmbnfpadllmaaDoor.We
set_option linter.unusedSimpArgs false
set_option linter.unusedVariables false
open Go.RowKit Go.MapKept
set_option linter.unusedVariables false
set_option linter.unusedSimpArgs false

theorem told_app (z : Int) : ∀ (a b : List (Int × List UInt8)) (L : List Wa), toldAll z (a ++ b) L = toldAll z a L ++ toldAll z b (leftAll a L)
  | [], b, L => rfl
  | c :: a, b, L => by rw [List.cons_append]; simp only [toldAll, leftAll]; rw [told_app z a b, List.append_assoc]
theorem left_app : ∀ (a b : List (Int × List UInt8)) (L : List Wa), leftAll (a ++ b) L = leftAll b (leftAll a L)
  | [], b, L => rfl
  | c :: a, b, L => by rw [List.cons_append]; simp only [leftAll]; exact left_app a b _
theorem told_step (z : Int) {cs : List (Int × List UInt8)} {j : Nat} (h : j < cs.length) (L : List Wa) : toldAll z (cs.take (j + 1)) L = toldAll z (cs.take j) L ++ told1 (cs[j]'h).1 (cs[j]'h).2 z (leftAll (cs.take j) L) ∧ leftAll (cs.take (j + 1)) L = left1 (cs[j]'h).1 (cs[j]'h).2 (leftAll (cs.take j) L) := by
  rw [List.take_succ_eq_append_getElem h, told_app, left_app]
  simp [toldAll, leftAll]
def tellF (f : Fl) (ps : List Fl) (L : List Wa) : List Rg := if rightD f ps then toldAll f.zxid (chgs f ps) L else []
def restF (f : Fl) (ps : List Fl) (L : List Wa) : List Wa := if rightD f ps then leftAll (chgs f ps) L else L

/- A row of changes in memory. -/
def Rws (w : World) (v : Value) (cs : List (Int × List UInt8)) : Prop := ∃ A C, v = .slice A cs.length C ∧ ∀ j (hj : j < cs.length), ∃ b o, A = some ⟨b, o, none⟩ ∧ b < w.heap.size ∧ ∃ q B1 d1 B2 d2 B3 d3, DD.DCells w b (o + j * 16) q B1 d1 B2 d2 B3 d3 ∧ q.kind = (cs[j]'hj).1 ∧ q.path = (cs[j]'hj).2
theorem Rws.keep {w w' : World} {v : Value} {cs : List (Int × List UInt8)} {m : Nat} (h : Rws w v cs) (hm : ∃ es cl, w.heap[m]? = some (.map es cl)) (hc : Chg (fun k => k = m) w w') : Rws w' v cs := by
  obtain ⟨A, C, rfl, h⟩ := h
  obtain ⟨es, cl, hm⟩ := hm
  refine ⟨A, C, rfl, fun j hj => ?_⟩
  obtain ⟨b, o, e, hb, q, B1, d1, B2, d2, B3, d3, hd, h1, h2⟩ := h j hj
  have hne : ¬ b = m := by
    rintro rfl
    have := hd.1
    simp [World.cell?, hm] at this
  exact ⟨b, o, e, hc.lt_of hb, q, B1, d1, B2, d2, B3, d3, hd.keep fun o' => hc.cell (a := ⟨b, o', none⟩) hb hne, h1, h2⟩
theorem rws_of {w w' : World} {f : Fl} {ps : List Fl} {A1 A2 A3 : Option Addr} {c1 c2 c3 : Nat} {e : Ending} (hv : DD.DVal w f ps A1 c1 A2 c2 A3 c3) (hf : DedFit f ps) (hB : Below w.heap.size w w')
    (h : (f.kind = 5 ∨ f.kind = 8) ∧ e = .returned (.slice A3 f.np c3) ∨ ¬ (f.kind = 5 ∨ f.kind = 8) ∧ ∃ g, e = .returned (.slice (some ⟨g, 0, none⟩) 1 1) ∧ g < w'.heap.size ∧ w'.heap[g]? = some (.cells (dV f A1 A2 A3 c1 c2 c3) 32 (0, 0))) : ∃ A C, e = .returned (.slice A (chgs f ps).length C) ∧ Rws w' (.slice A (chgs f ps).length C) (chgs f ps) := by
  rcases h with ⟨h58, rfl⟩ | ⟨h58, g, rfl, hg, hh⟩
  · have hcs : chgs f ps = ps.map fun p => (p.kind, p.path) := by unfold chgs; rw [if_pos h58]
    have hln : f.np = (chgs f ps).length := by rw [hcs, List.length_map]; exact hf.len
    refine ⟨A3, c3, by rw [hln], A3, c3, rfl, fun j hj => ?_⟩
    have hj' : j < ps.length := by rw [hcs, List.length_map] at hj; exact hj
    rcases hv.pr with ⟨_, e⟩ | ⟨_, _, _, e⟩ | ⟨_, b, o, c', e1, _, hb, _, hall⟩
    · rw [e] at hj'; simp at hj'
    · rw [e] at hj'; simp at hj'
    · injection e1 with e1 _ _
      obtain ⟨B1, d1, B2, d2, B3, d3, hd, hr⟩ := hall j hj'
      have hbl := hB.size
      exact ⟨b, o, e1, by omega, ps[j]'hj', B1, d1, B2, d2, B3, d3, hd.keep (fun o' => hB.cell (p := ⟨b, o', none⟩) hb), by simp [hcs], by simp [hcs]⟩
  · have hcs : chgs f ps = [(f.kind, f.path)] := by unfold chgs; rw [if_neg h58]
    rw [hcs]
    refine ⟨some ⟨g, 0, none⟩, 1, rfl, some ⟨g, 0, none⟩, 1, rfl, fun j hj => ?_⟩
    have : j = 0 := by simpa using hj
    subst this
    exact ⟨g, 0, rfl, hg, f, A1, c1, A2, c2, A3, c3, cells_of f A1 A2 A3 c1 c2 c3 hh, rfl, rfl⟩
set_option maxRecDepth 100000 in
theorem rings_no {w : World} {v : Value} (h : NoT w v) (f : Fl) (A1 A2 A3 : Option Addr) (c1 c2 c3 : Nat) : Calls Tryd.prog 10 #[v, .agg (dV f A1 A2 A3 c1 c2 c3)] w fun e w' => e = .returned (.slice none 0 0) ∧ Below w.heap.size w w' := by
  dsimp only [dV]
  have hth := fun o => there_no (h.alloc o)
  clear h
  have HB : Hid (∀ o, Below w.heap.size w (w.alloc o)) := fun o => (Below.refl _ _).alloc (Nat.le_refl _) o
  go_enter Tryd.func10, Tryd.ntmps10
  go_wp2_with fail
  refine (hth _).mono ?_
  rintro e w1 ⟨rfl, rfl⟩
  clear hth
  go_wp2_with fail
  go_ret
  exact ⟨rfl, HB.out _⟩
set_option maxRecDepth 100000 in
set_option maxHeartbeats 4000000 in
theorem rings_any {w : World} {t m : Nat} {L : List Wa} (h : Tx w t m L) (hL : PA.Laid w) (f : Fl) (ps : List Fl) {A1 A2 A3 : Option Addr} {c1 c2 c3 : Nat} (hv : DD.DVal w f ps A1 c1 A2 c2 A3 c3) (hf : DedFit f ps) (hlen : L.length ≤ 1000000) (hps : ps.length ≤ 1000000) :
    Calls Tryd.prog 10 #[.pointer (some ⟨t, 0, none⟩), .agg (dV f A1 A2 A3 c1 c2 c3)] w fun e w' => ∃ v, e = .returned v ∧ w'.ownsRow w.heap.size 56 5 v (tellF f ps L).length ((tellF f ps L).flatMap rgC) ∧ Tx w' t m (restF f ps L) ∧ Chg (fun k => k = m) w w' := by
  dsimp only [dV]
  obtain ⟨W, hW⟩ : ∃ W, W = w.alloc (.cells (dV f A1 A2 A3 c1 c2 c3) 32) := ⟨_, rfl⟩
  have hBW : Below w.heap.size w W := by rw [hW]; exact (Below.refl _ _).alloc (Nat.le_refl _) _
  have hb0 : W.heap[w.heap.size]? = some (.cells (dV f A1 A2 A3 c1 c2 c3) 32 (0, 0)) := by rw [hW]; exact heap_alloc_new _ _
  have hth := there_any (h.below hBW).mapc
  have hri := DD.right_any f ps A1 A2 A3 c1 c2 c3 W (hL.below hBW) (hv.grow hBW) hf
  have HF : Hid (Tx W t m L ∧ PA.Laid W ∧ DD.DVal W f ps A1 c1 A2 c2 A3 c3 ∧ DedFit f ps ∧ Below w.heap.size w W ∧ W.heap[w.heap.size]? = some (.cells (dV f A1 A2 A3 c1 c2 c3) 32 (0, 0)) ∧ m < w.heap.size) := ⟨h.below hBW, hL.below hBW, hv.grow hBW, hf, hBW, hb0, h.ltm⟩
  obtain ⟨d0, d1, d2, d3, d4, d5, d6, d7, d8, d9, d10, d11, d12, d13, d14, d15⟩ := cells_of f A1 A2 A3 c1 c2 c3 hb0
  simp only [Nat.zero_add] at d0 d1 d2 d3 d4 d5 d6 d7 d8 d9 d10 d11 d12 d13 d14 d15
  simp only [dV] at hW
  have HTT : Hid (t < w.heap.size) := h.ltt
  clear h hL hv hf hBW hb0
  go_enter Tryd.func10, Tryd.ntmps10
  go_upto_region 1 with fail
  rw [← hW]
  clear hW
  go_wp2_with fail
  refine hth.mono ?_
  rintro e w1 ⟨rfl, rfl⟩
  clear hth
  go_wp2_with fail
  refine hri.mono ?_
  rintro e w2 ⟨rfl, hB2⟩
  clear hri
  have hb2 : w2.heap[w.heap.size]? = some (.cells (dV f A1 A2 A3 c1 c2 c3) 32 (0, 0)) := by rw [hB2.block _ (heapLt HF.out.2.2.2.2.2.1)]; exact HF.out.2.2.2.2.2.1
  have HB2 : Hid (Below w1.heap.size w1 w2) := hB2
  have HBK2 : Hid (w2.heap[w.heap.size]? = some (.cells (dV f A1 A2 A3 c1 c2 c3) 32 (0, 0))) := hb2
  clear hB2 d0 d1 d2 d3 d4 d5 d6 d7 d8 d9 d10 d11 d12 d13 d14 d15
  cases hX : rightD f ps with
  | false =>
    as_aux_lemma =>
    have HR : Hid (tellF f ps L = [] ∧ restF f ps L = L) := ⟨by unfold tellF; rw [hX]; rfl, by unfold restF; rw [hX]; rfl⟩
    clear hX hb2
    go_wp2_with fail
    go_ret
    refine ⟨_, rfl, ?_, ?_, ?_⟩
    · rw [HR.out.1]; exact World.ownsRow_nil _ _ _ _
    · rw [HR.out.2]; exact HF.out.1.below HB2.out
    · exact (Chg.of_below (HF.out.2.2.2.2.1.trans (HB2.out.mono HF.out.2.2.2.2.1.size))).weak fun _ _ e => e.elim
  | true =>
    as_aux_lemma =>
    have HR : Hid (tellF f ps L = toldAll f.zxid (chgs f ps) L ∧ restF f ps L = leftAll (chgs f ps) L) := ⟨by unfold tellF; rw [hX]; rfl, by unfold restF; rw [hX]; rfl⟩
    have hch := changes_any f A1 A2 A3 c1 c2 c3 w2
    dsimp only [dV] at hch
    obtain ⟨d0, d1, d2, d3, d4, d5, d6, d7, d8, d9, d10, d11, d12, d13, d14, d15⟩ := cells_of f A1 A2 A3 c1 c2 c3 hb2
    simp only [Nat.zero_add] at d0 d1 d2 d3 d4 d5 d6 d7 d8 d9 d10 d11 d12 d13 d14 d15
    clear hX hb2
    go_wp2_with fail
    refine hch.mono ?_
    rintro e w3 ⟨hB3, hcs⟩
    obtain ⟨A, C, rfl, hrws⟩ := rws_of (HF.out.2.2.1.grow HB2.out) HF.out.2.2.2.1 hB3 hcs
    have hsz := HF.out.2.2.2.2.1.size
    have hB23 : Below w1.heap.size w1 w3 := HB2.out.trans (hB3.mono HB2.out.size)
    have hb3 : w3.heap[w.heap.size]? = some (.cells (dV f A1 A2 A3 c1 c2 c3) 32 (0, 0)) := by rw [hB3.block _ (heapLt HBK2.out)]; exact HBK2.out
    have HW3 : Hid (Tx w3 t m L ∧ PA.Laid w3 ∧ Rws w3 (.slice A (chgs f ps).length C) (chgs f ps) ∧ w3.heap[w.heap.size]? = some (.cells (dV f A1 A2 A3 c1 c2 c3) 32 (0, 0)) ∧ Chg Non w w3 ∧ w.heap.size < w3.heap.size) :=
      ⟨HF.out.1.below hB23, HF.out.2.1.below hB23, hrws, hb3, (Chg.of_below HF.out.2.2.2.2.1).trans ((Chg.of_below hB23).weak fun _ _ e => e), heapLt hb3⟩
    have HLN : Hid ((chgs f ps).length ≤ 1000000) := by
      show _ ≤ _
      unfold chgs
      split
      · rw [List.length_map]; exact hps
      · simp
    obtain ⟨cs, hcs'⟩ : ∃ cs, cs = chgs f ps := ⟨_, rfl⟩
    rw [← hcs'] at HW3 HR HLN ⊢
    clear hch hB3 hcs hrws hsz hB23 hb3 d0 d1 d2 d3 d4 d5 d6 d7 d8 d9 d10 d11 d12 d13 d14 d15
    have HMP : Hid (∃ es cl, w3.heap[m]? = some (.map es cl)) := by obtain ⟨es, cl, hh, _⟩ := HW3.out.1.map; exact ⟨es, cl, hh⟩
    have HTL : Hid (∀ j, (toldAll f.zxid (cs.take j) L).length ≤ 1000000 ∧ (leftAll (cs.take j) L).length ≤ 1000000) := fun j => by have := told_len f.zxid (cs.take j) L; omega
    have HSP : Hid (∀ j (hj : j < cs.length), (toldAll f.zxid (cs.take j) L).length + (told1 (cs[j]'hj).1 (cs[j]'hj).2 f.zxid (leftAll (cs.take j) L)).length ≤ 1000000) := fun j hj => by
      have h1 := told_len f.zxid (cs.take (j + 1)) L
      rw [(told_step f.zxid hj L).1, List.length_append] at h1
      omega
    have HCL : Hid (cs = chgs f ps) := hcs'
    have hcl : cs.length ≤ 1000000 := HLN.out
    clear hcs'
    go_wp2_with fail
    go_loopw [5, 19] (fun v i wr => ∃ j : Nat, j ≤ cs.length ∧ i = .int .i64 j ∧ wr.ownsRow w3.heap.size 56 5 v (toldAll f.zxid (cs.take j) L).length ((toldAll f.zxid (cs.take j) L).flatMap rgC) ∧ Tx wr t m (leftAll (cs.take j) L) ∧ Chg (fun k => k = m) w3 wr) (fun _ i _ => cs.length - (Go.Lib.intOf i).toNat)
    case atStart => exact ⟨0, Nat.zero_le _, rfl, World.ownsRow_nil _ _ _ _, HW3.out.1, Chg.refl _ _⟩
    case round =>
      obtain ⟨j, hj, rfl, ho, hx, hc⟩ := hrel
      by_cases hlt : j < cs.length
      · as_aux_lemma =>
        obtain ⟨A', C', e, hall⟩ := HW3.out.2.2.1.keep HMP.out hc
        injection e with e1 _ e3
        subst e1
        subst e3
        obtain ⟨b, o, rfl, hb, q, B1, g1, B2, g2, B3, g3, hd, hq1, hq2⟩ := hall j hlt
        obtain ⟨W5, hW5⟩ : ∃ W5, W5 = wr.alloc (.cells (dV q B1 B2 B3 g1 g2 g3) 32) := ⟨_, rfl⟩
        have hcW : Chg Non wr W5 := by rw [hW5]; exact Chg.alloc _ _ _
        have hx5 := hx.keep hcW id id
        have hL5 : PA.Laid W5 := (laid_chg HW3.out.2.1 HW3.out.1 hc).below (by rw [hW5]; exact (Below.refl _ _).alloc (Nat.le_refl _) _)
        have hri := ring_any hx5 hL5 q (A1 := B1) (A2 := B2) (A3 := B3) (c1 := g1) (c2 := g2) (c3 := g3) f.zxid (HTL.out j).2
        rw [hq1, hq2] at hri
        have hmw := HF.out.2.2.2.2.2.2
        have hww := HW3.out.2.2.2.2.2
        have hsr := hc.size
        have hzW : W5.cell? ⟨w.heap.size, 0, none⟩ = some (.int .i64 f.zxid) := by
          rw [hcW.cell (a := ⟨w.heap.size, 0, none⟩) (by show w.heap.size < _; omega) id, hc.cell (a := ⟨w.heap.size, 0, none⟩) (by show w.heap.size < _; omega) (by show ¬ w.heap.size = m; omega)]
          exact cellAt HW3.out.2.2.2.1 0
        have hb5 : W5.heap[wr.heap.size]? = some (.cells (dV q B1 B2 B3 g1 g2 g3) 32 (0, 0)) := by rw [hW5]; exact heap_alloc_new _ _
        obtain ⟨k0, k1, k2, k3, k4, k5, k6, k7, k8, k9, k10, k11, k12, k13, k14, k15⟩ := cells_of q B1 B2 B3 g1 g2 g3 hb5
        simp only [Nat.zero_add] at k0 k1 k2 k3 k4 k5 k6 k7 k8 k9 k10 k11 k12 k13 k14 k15
        obtain ⟨h0, h1, h2, h3, h4, h5, h6, h7, h8, h9, h10, h11, h12, h13, h14, h15⟩ := hd
        have i1 : (j : Int) < (cs.length : Int) := by omega
        have i2 : (0 : Int) ≤ (j : Int) := by omega
        have HQ : Hid (wr.ownsRow w3.heap.size 56 5 u5 (toldAll f.zxid (cs.take j) L).length ((toldAll f.zxid (cs.take j) L).flatMap rgC) ∧ Chg (fun k => k = m) w3 wr ∧ Chg Non wr W5 ∧ m < w.heap.size ∧ w.heap.size < w3.heap.size ∧ w3.heap.size ≤ wr.heap.size ∧ wr.heap.size ≤ W5.heap.size) := ⟨ho, hc, hcW, hmw, hww, hsr, hcW.size⟩
        have HSTEP : Hid (toldAll f.zxid (cs.take (j + 1)) L = toldAll f.zxid (cs.take j) L ++ told1 (cs[j]'hlt).1 (cs[j]'hlt).2 f.zxid (leftAll (cs.take j) L) ∧ leftAll (cs.take (j + 1)) L = left1 (cs[j]'hlt).1 (cs[j]'hlt).2 (leftAll (cs.take j) L)) := told_step f.zxid hlt L
        have HSPJ := HSP.out j hlt
        generalize told1 (cs[j]'hlt).1 (cs[j]'hlt).2 f.zxid (leftAll (cs.take j) L) = T1 at hri HSTEP HSPJ
        generalize left1 (cs[j]'hlt).1 (cs[j]'hlt).2 (leftAll (cs.take j) L) = LL at hri HSTEP
        have HSJ : Hid ((toldAll f.zxid (cs.take j) L).length + T1.length ≤ 1000000) := HSPJ
        dsimp only [dV] at hri hW5
        clear HSPJ ho hx hc hcW hx5 hL5 hmw hww hsr hb5 hall hq1 hq2 hb
        go_upto_region 7 with fail
        rw [← hW5]
        clear hW5 h0 h1 h2 h3 h4 h5 h6 h7 h8 h9 h10 h11 h12 h13 h14 h15
        go_wp2_with fail
        refine hri.mono ?_
        rintro e w5 ⟨v2, rfl, ho2, hx2, hc2⟩
        obtain ⟨hq1, hq2, hq3, hq4, hq5, hq6, hq7⟩ := HQ.out
        have hs5 := hc2.size
        have hvb : ∀ i, u5.ownBlock = some i → w3.heap.size ≤ i := fun i hi => (ownBlk hq1 hi).choose_spec.2
        obtain ⟨v6, w6, hrun, ho6, hc6, hb6⟩ := app_rings (ownKeep (ownKeep hq1 hq3 (fun _ _ => id)) hc2 (fun i hi e => by have := hvb i hi; omega)) ho2 (by omega) HSJ.out
        have hm6 : ∀ k, k = m → ¬ u5.ownBlock = some k := fun k e h => by have := hvb k h; omega
        have HRUN : Hid ((Builtin.append_ #[50, 50] 50 #[u5, v2]).run Tryd.prog w5 = .ok v6 w6) := hrun
        have HE : Hid (w6.ownsRow w3.heap.size 56 5 v6 (toldAll f.zxid (cs.take (j + 1)) L).length ((toldAll f.zxid (cs.take (j + 1)) L).flatMap rgC) ∧ Tx w6 t m (leftAll (cs.take (j + 1)) L) ∧ Chg (fun k => k = m) w3 w6) := by
          refine ⟨by rw [HSTEP.out.1]; exact ho6, ?_, ?_⟩
          · rw [HSTEP.out.2]
            exact hx2.keep hc6 (fun e => by have := hvb _ e; have h9 := HTT.out; omega) (fun e => hm6 m rfl e)
          · exact (hq2.trans ((hq3.weak fun _ _ e => e.elim).trans hc2)).trans' hc6 (fun k hk e => by have := hvb k e; omega)
        clear hri ho2 hx2 hc2 hq1 hq2 hq3 hq4 hq5 hq6 hq7 hs5 hvb hrun ho6 hc6 hb6 hm6 k0 k1 k2 k3 k4 k5 k6 k7 k8 k9 k10 k11 k12 k13 k14 k15 hzW
        go_wp2_with (first
          | (at_builtin; refine wpList_run_append rfl (.tmp 23) (.tmp 28) 50 rfl rfl rfl HRUN.out ?_)
          | fail)
        go_roundw
        case rel => exact ⟨j + 1, by omega, by go_num, HE.out⟩
        case measure => simp [Go.Lib.intOf]; omega
      · as_aux_lemma =>
        obtain rfl : j = cs.length := by omega
        rw [List.take_length] at ho hx
        have HFIN : Hid (wr.ownsRow w.heap.size 56 5 u5 (tellF f ps L).length ((tellF f ps L).flatMap rgC) ∧ Tx wr t m (restF f ps L) ∧ Chg (fun k => k = m) w wr) := by
          rw [HR.out.1, HR.out.2]
          exact ⟨ownBase ho (by have := HW3.out.2.2.2.2.2; omega), hx, (HW3.out.2.2.2.2.1.weak fun _ _ e => e.elim).trans hc⟩
        clear ho hx hc
        go_wp2_with fail
        go_ret
        exact ⟨u5, rfl, HFIN.out⟩
end Go.Proofs.YtkbmbnfpadllmaaDoor.We
