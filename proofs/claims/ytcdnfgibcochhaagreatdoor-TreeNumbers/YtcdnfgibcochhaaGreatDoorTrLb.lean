/- Trees: which rows of nodes may be all nodes of a tree. Trees: Load. -/
import Derived.Test.YtcdnfgibcochhaaGreatDoorTrMb
import Derived.Deep.CutRange
import Derived.Deep.CutBlock
import Derived.Deep.LoopGhost
import Derived.Lib.QuietBelow
import Derived.BigQuiet
import Derived.Deep.RegionWith
import Derived.Test.YtcdnfgibcochhaaGreatDoorTrD
import Derived.Test.YtcdnfgibcochhaaGreatDoorTrPa
namespace Go.Proofs.YtcdnfgibcochhaaGreatDoor
set_option linter.unusedSimpArgs false
set_option linter.unusedVariables false
set_option linter.unusedSimpArgs false
set_option linter.unusedVariables false
open Go.RowKit Go.MapKept Go.Sort

def nodeOk (q : Fi) : Bool := PA.right q.nm && (decide (q.b.length ≤ 1000) && decide (0 ≤ stMin q.st))
def noF : Fi := ⟨[], [], zeroSt⟩
def nth (l : List Fi) (i : Nat) : Fi := (l[i]?).getD noF
def okAt (l : List Fi) (i : Nat) : Bool := (decide (i = 0) || decide ((nth l (i - 1)).nm < (nth l i).nm)) && nodeOk (nth l i)
def areF (l : List Fi) : Bool := decide (l ≠ []) && (decide ((nth l 0).nm = [47]) && (List.range l.length).all (okAt l))
theorem areF_iff {l : List Fi} : areF l = true ↔ l ≠ [] ∧ (nth l 0).nm = [47] ∧ ∀ i, i < l.length → okAt l i = true := by
  simp [areF, List.all_eq_true]
theorem areF_of {l : List Fi} (h0 : (nth l 0).nm = [47]) (hne : l ≠ []) (hp : l.Pairwise fun x y => x.nm < y.nm) (ho : ∀ q ∈ l, nodeOk q = true) : areF l = true := by
  refine areF_iff.2 ⟨hne, h0, fun i hi => ?_⟩
  have h1 : nth l i = l[i] := by unfold nth; rw [List.getElem?_eq_getElem hi]; rfl
  unfold okAt
  rw [h1, ho _ (List.getElem_mem hi), Bool.and_true]
  by_cases hz : i = 0
  · simp [hz]
  · have hj : i - 1 < l.length := by omega
    have h2 : nth l (i - 1) = l[i - 1] := by unfold nth; rw [List.getElem?_eq_getElem hj]; rfl
    rw [h2, decide_eq_true (List.pairwise_iff_getElem.1 hp (i - 1) i hj hi (by omega))]
    simp
theorem RowN.at {w : World} {A : Option Addr} {Q : List Al} {C : Nat} (h : RowN w A Q C) (i : Nat) (hi : i < Q.length) : ∃ b o, A = some ⟨b, o, none⟩ ∧ b < w.heap.size ∧ Q.length ≤ C ∧ ∀ j, j < 12 → w.cell? ⟨b, o + i * 12 + j, none⟩ = (alV (Q[i]'hi))[j]? := by
  rcases h with h | ⟨b, o, h1, h2, h3, h4⟩
  · subst h; simp at hi
  · exact ⟨b, o, h1, h2, h3, h4 i hi⟩
/- The twelve cells of a node that lies in a row. -/
structure NCells (w : World) (b o : Nat) (x : Al) : Prop where
  c0 : w.cell? ⟨b, o, none⟩ = some (.string (mkS x.q.nm))
  c1 : w.cell? ⟨b, o + 1, none⟩ = some (.slice x.A x.q.b.length x.C)
  c2 : w.cell? ⟨b, o + 2, none⟩ = some (.int .i64 x.q.st.cz)
  c3 : w.cell? ⟨b, o + 3, none⟩ = some (.int .i64 x.q.st.mz)
  c4 : w.cell? ⟨b, o + 4, none⟩ = some (.int .i64 x.q.st.pz)
  c5 : w.cell? ⟨b, o + 5, none⟩ = some (.int .i64 x.q.st.ct)
  c6 : w.cell? ⟨b, o + 6, none⟩ = some (.int .i64 x.q.st.mt)
  c7 : w.cell? ⟨b, o + 7, none⟩ = some (.int .i64 x.q.st.ver)
  c8 : w.cell? ⟨b, o + 8, none⟩ = some (.int .i64 x.q.st.cv)
  c9 : w.cell? ⟨b, o + 9, none⟩ = some (.int .i64 x.q.st.own)
  c10 : w.cell? ⟨b, o + 10, none⟩ = some (.int .i64 x.q.st.len)
  c11 : w.cell? ⟨b, o + 11, none⟩ = some (.int .i64 x.q.st.chd)
theorem ncells {w : World} {b o : Nat} {x : Al} (h : ∀ j, j < 12 → w.cell? ⟨b, o + j, none⟩ = (alV x)[j]?) : NCells w b o x :=
  ⟨h 0 (by omega), h 1 (by omega), h 2 (by omega), h 3 (by omega), h 4 (by omega), h 5 (by omega), h 6 (by omega), h 7 (by omega), h 8 (by omega), h 9 (by omega), h 10 (by omega), h 11 (by omega)⟩
theorem NCells.below {w w' : World} {B b o : Nat} {x : Al} (h : NCells w b o x) (hb : Below B w w') (hk : b < B) : NCells w' b o x := by
  have k : ∀ o', w'.cell? ⟨b, o', none⟩ = w.cell? ⟨b, o', none⟩ := fun o' => hb.cell (p := ⟨b, o', none⟩) hk
  obtain ⟨c0, c1, c2, c3, c4, c5, c6, c7, c8, c9, c10, c11⟩ := h
  exact ⟨(k _).trans c0, (k _).trans c1, (k _).trans c2, (k _).trans c3, (k _).trans c4, (k _).trans c5, (k _).trans c6, (k _).trans c7, (k _).trans c8, (k _).trans c9, (k _).trans c10, (k _).trans c11⟩
theorem ncells_new {w : World} {b : Nat} {x : Al} {T : TypeId} (h : w.heap[b]? = some (.cells (alV x).toArray T (0, 0))) : NCells w b 0 x := by
  refine ncells fun j hj => ?_
  rw [cell_at h]
  simp [alV]
theorem infoN12s : (Tryz.prog.info? 47).map (·.size) = some 12 := by kernel_rfl
abbrev alA (x : Al) : Array Value := #[.string (mkS x.q.nm), .slice x.A x.q.b.length x.C, .int .i64 x.q.st.cz, .int .i64 x.q.st.mz, .int .i64 x.q.st.pz, .int .i64 x.q.st.ct, .int .i64 x.q.st.mt, .int .i64 x.q.st.ver, .int .i64 x.q.st.cv, .int .i64 x.q.st.own, .int .i64 x.q.st.len, .int .i64 x.q.st.chd]
set_option maxRecDepth 100000 in
set_option maxHeartbeats 8000000 in
theorem are_any {w : World} {A : Option Addr} {Q : List Al} {C : Nat} (h : RowN w A Q C) (hL : PA.Laid w) (hlen : Q.length ≤ 4611686018427387904) (hbl : ∀ x ∈ Q, x.q.b.length ≤ 4611686018427387904) :
    Calls Tryz.prog 47 #[.slice A Q.length C] w fun e w' => e = .returned (.bool (areF (Q.map (·.q)))) ∧ Below w.heap.size w w' := by
  have HH : Hid (RowN w A Q C) := h
  have HLD : Hid (PA.Laid w) := hL
  have HLEN : Hid (Q.length ≤ 4611686018427387904) := hlen
  have HBL : Hid (∀ x ∈ Q, x.q.b.length ≤ 4611686018427387904) := hbl
  obtain ⟨R, hR⟩ : ∃ R, R = areF (Q.map (·.q)) := ⟨_, rfl⟩
  rw [← hR]
  have HR : Hid (R = areF (Q.map (·.q))) := hR
  clear hR hL hbl
  by_cases h0 : Q.length = 0
  · have hq : Q = [] := List.length_eq_zero_iff.1 h0
    subst hq
    clear h HH
    have hRf : R = false := HR.out
    subst hRf
    go_enter Tryz.func47, Tryz.ntmps47
    go_wp2_with fail
    go_ret
    exact ⟨rfl, Below.refl _ _⟩
  obtain ⟨b, o, rfl, hb, hC, hc⟩ := h.at 0 (by omega)
  have hc0 := (ncells hc).c0
  simp only [Nat.zero_mul, Nat.add_zero] at hc0
  have hN0 : (nth (Q.map (·.q)) 0).nm = (Q[0]'(by omega)).q.nm := by
    unfold nth
    rw [List.getElem?_map, List.getElem?_eq_getElem (by omega)]; rfl
  generalize (Q[0]'(by omega)).q.nm = n0 at hc0 hN0
  have HN0 : Hid ((nth (Q.map (·.q)) 0).nm = n0) := hN0
  have HB : Hid (b < w.heap.size ∧ Q.length ≤ C) := ⟨hb, hC⟩
  have hlp : 0 < Q.length := by omega
  clear h hc hN0
  have hz0 : ((Q.length : Int) == 0) = false := by
    rw [beq_eq_false_iff_ne]; omega
  by_cases hn : n0 = [47]
  case neg =>
    have hRf : R = false := by
      rw [HR.out]
      cases e : areF (Q.map (·.q)) with
      | false => rfl
      | true => exact absurd (HN0.out.symm.trans (areF_iff.1 e).2.1) hn
    subst hRf
    have hq1 : ((mkS n0).toList == [47]) = false := by rw [PA.mkS_toList]; simpa using hn
    clear hn HR
    go_enter Tryz.func47, Tryz.ntmps47
    go_wp2_with fail
    go_ret
    exact ⟨rfl, Below.refl _ _⟩
  case pos =>
  have hq1 : ((mkS n0).toList == [47]) = true := by rw [PA.mkS_toList, hn]; rfl
  have HN : Hid ((nth (Q.map (·.q)) 0).nm = [47]) := HN0.out.trans hn
  clear hn
  go_enter Tryz.func47, Tryz.ntmps47
  go_wp2_with fail
  clear hc0 hq1 hz0
  go_loopg [17] Q.length (fun g v17 wr => ∃ k : Nat, k ≤ Q.length ∧ g = Q.length - k ∧ v17 = .int .i64 (k : Int) ∧ (∀ i, i < k → okAt (Q.map (·.q)) i = true) ∧ Below w.heap.size w wr)
  case atStart => exact ⟨0, Nat.zero_le _, rfl, rfl, fun i hi => absurd hi (Nat.not_lt_zero i), Below.refl _ _⟩
  case round =>
    obtain ⟨k, hk, hg, rfl, hok, hB⟩ := hrel
    have HOK : Hid (∀ i, i < k → okAt (Q.map (·.q)) i = true) := hok
    have HBR : Hid (Below w.heap.size w wr) := hB
    have HG : Hid (gk = Q.length - k) := hg
    clear hok hB hg
    by_cases hlt : k < Q.length
    case neg =>
      go_wp2_with fail
      go_ret
      refine ⟨?_, HBR.out⟩
      rw [HR.out]
      have : k = Q.length := by omega
      subst this
      have : areF (Q.map (·.q)) = true := areF_iff.2 ⟨by intro e; rw [List.map_eq_nil_iff] at e; rw [e] at hlp; simp at hlp, HN.out, fun i hi => HOK.out i (by simpa using hi)⟩
      rw [this]
      rfl
    case pos =>
    have hlt' : k < (Q.map (·.q)).length := by simpa using hlt
    obtain ⟨b', o', hbo, hb1, _, hc⟩ := HH.out.at k hlt
    cases hbo
    have hx := (ncells hc).below HBR.out HB.out.1
    have hxe : nth (Q.map (·.q)) k = (Q[k]'hlt).q := by
      unfold nth
      rw [List.getElem?_map, List.getElem?_eq_getElem hlt]; rfl
    have hbl := HBL.out _ (List.getElem_mem hlt)
    obtain ⟨x, hxx⟩ : ∃ x, x = Q[k]'hlt := ⟨_, rfl⟩
    rw [← hxx] at hx hxe hbl
    have HX : Hid (NCells wr b (o + k * 12) x) := hx
    have HXE : Hid (nth (Q.map (·.q)) k = x.q) := hxe
    have HBX : Hid (x.q.b.length ≤ 4611686018427387904) := hbl
    have i0 : ¬ (k : Int) < 0 := by omega
    have i1 : (k : Int) < (Q.length : Int) := by omega
    have i2 : (0 : Int) ≤ (k : Int) := by omega
    have i3 : (k : Int).toNat = k := by omega
    obtain ⟨z0, z1, z2, z3, z4, z5, z6, z7, z8, z9, z10, z11⟩ := hx
    clear hc hxx hxe hbl
    go_upto_region 6 with fail
    clear z0 z1 z2 z3 z4 z5 z6 z7 z8 z9 z10 z11
    obtain ⟨W, hW⟩ : ∃ W, W = wr.alloc (.cells (alA x) 47) := ⟨_, rfl⟩
    have HW : Hid (W = wr.alloc (.cells (alA x) 47)) := hW
    have HWB : Hid (Below w.heap.size w W) := by rw [hW]; exact HBR.out.alloc HBR.out.size _
    have HXW : Hid (NCells W wr.heap.size 0 x) := by
      rw [hW]
      exact ncells_new (heap_alloc_new wr _)
    have HWS : Hid (wr.heap.size < W.heap.size) := by rw [hW]; unfold Hid; simp
    simp only [alA] at hW
    rw [← hW]
    clear hW
    obtain ⟨bad, hbad⟩ : ∃ bad, bad = (!decide (k = 0) && !decide ((nth (Q.map (·.q)) (k - 1)).nm < x.q.nm)) := ⟨_, rfl⟩
    have HBAD : Hid (bad = (!decide (k = 0) && !decide ((nth (Q.map (·.q)) (k - 1)).nm < x.q.nm))) := hbad
    clear hbad
    go_cut [17, 33] from 17 to 50 (fun v17 v33 wx => v17 = .int .i64 (k : Int) ∧ v33 = .bool bad ∧ Below W.heap.size W wx)
    case first =>
      by_cases hk0 : k = 0
      · have hb0 : bad = false := by rw [HBAD.out, hk0]; rfl
        subst hb0
        subst hk0
        clear i0 i1 i2 i3
        go_quiet (fail)
        go_wp2_with fail
        go_meet
        exact ⟨rfl, rfl, PA.below_drewN (Below.refl _ W) _⟩
      · have hk1 : k - 1 < Q.length := by omega
        obtain ⟨b2, o2, hbo2, _, _, hc2⟩ := HH.out.at (k - 1) hk1
        cases hbo2
        have hy := (ncells hc2).below HWB.out HB.out.1
        have hye : (nth (Q.map (·.q)) (k - 1)).nm = (Q[k - 1]'hk1).q.nm := by
          unfold nth
          rw [List.getElem?_map, List.getElem?_eq_getElem hk1]; rfl
        generalize Q[k - 1]'hk1 = y at hy hye
        have hcmp : decide ((0 : Int) ≤ Lib.compareBytes y.q.nm x.q.nm) = bad := by
          rw [HBAD.out, hye, decide_eq_false hk0]
          have := cmp_lt y.q.nm x.q.nm
          by_cases hl : y.q.nm < x.q.nm
          · rw [decide_eq_true hl, decide_eq_false (by have := this.2 hl; omega)]; rfl
          · rw [decide_eq_false hl, decide_eq_true (by have : ¬ _ := fun e => hl (this.1 e); omega)]; rfl
        have hxw := HXW.out
        have y0 := fun d os => cell_regrown hy.c0 d os
        have y1 := fun d os => cell_regrown hy.c1 d os
        have y2 := fun d os => cell_regrown hy.c2 d os
        have y3 := fun d os => cell_regrown hy.c3 d os
        have y4 := fun d os => cell_regrown hy.c4 d os
        have y5 := fun d os => cell_regrown hy.c5 d os
        have y6 := fun d os => cell_regrown hy.c6 d os
        have y7 := fun d os => cell_regrown hy.c7 d os
        have y8 := fun d os => cell_regrown hy.c8 d os
        have y9 := fun d os => cell_regrown hy.c9 d os
        have y10 := fun d os => cell_regrown hy.c10 d os
        have y11 := fun d os => cell_regrown hy.c11 d os
        have z0 := fun d os => cell_regrown hxw.c0 d os
        have z1 := fun d os => cell_regrown hxw.c1 d os
        have z2 := fun d os => cell_regrown hxw.c2 d os
        have z3 := fun d os => cell_regrown hxw.c3 d os
        have z4 := fun d os => cell_regrown hxw.c4 d os
        have z5 := fun d os => cell_regrown hxw.c5 d os
        have z6 := fun d os => cell_regrown hxw.c6 d os
        have z7 := fun d os => cell_regrown hxw.c7 d os
        have z8 := fun d os => cell_regrown hxw.c8 d os
        have z9 := fun d os => cell_regrown hxw.c9 d os
        have z10 := fun d os => cell_regrown hxw.c10 d os
        have z11 := fun d os => cell_regrown hxw.c11 d os
        have mQ := fun d os => Calls.regrown_of (cmpB_any y x (grow (redrawn W d) os))
        simp only [alV, Nat.zero_add] at *
        obtain ⟨k1, hk1e⟩ : ∃ k1, k1 = k - 1 := ⟨_, rfl⟩
        rw [← hk1e] at y0 y1 y2 y3 y4 y5 y6 y7 y8 y9 y10 y11
        have j0 : IntKind.i64.wrap ((k : Int) - 1) = (k1 : Int) := by rw [IntKind.wrap_i64]; omega
        have j1 : ¬ (k1 : Int) < 0 := by omega
        have j2 : (k1 : Int) < (Q.length : Int) := by omega
        have j3 : (0 : Int) ≤ (k1 : Int) := by omega
        have j4 : (k1 : Int).toNat = k1 := by omega
        have j5 : 0 < k := by omega
        have j6 : decide (0 < k) = true := decide_eq_true j5
        generalize Lib.compareBytes y.q.nm x.q.nm = cb at hcmp mQ
        clear hc2 hy hye hxw hk1e hk1 hk0
        refine wp_region_quiet_below (by kernel_rfl) (by kernel_rfl) ?_
        repeat (go_big_quiet_step ((go_at_call 52; exact mQ _ _)))
        refine wpQuiet_nil ?_
        intro _ hw'
        obtain ⟨⟨dq, osq⟩, hw''⟩ := hw'
        subst hw''
        go_wp2_with fail
        go_meet
        exact ⟨rfl, rfl, below_regrown W dq osq⟩
    case rest =>
    obtain ⟨rfl, rfl, hBc⟩ := hcut
    have HBC : Hid (Below w.heap.size w wc) := HWB.out.trans (hBc.mono HWB.out.size)
    have hxc := HXW.out.below hBc HWS.out
    have HS1 : Hid (wr.heap.size < wc.heap.size) := Nat.lt_of_lt_of_le HWS.out hBc.size
    have HXC : Hid (NCells wc wr.heap.size 0 x) := hxc
    have hLc := HLD.out.below HBC.out
    have HLC : Hid (PA.Laid wc) := hLc
    have hchk := PA.check_any x.q.nm wc hLc
    have HOKE : Hid (okAt (Q.map (·.q)) k = (!bad && nodeOk x.q)) := by
      show _ = _
      unfold okAt
      rw [HXE.out, HBAD.out]
      cases decide (k = 0) <;> simp
    clear hBc
    cases hbad : bad with
    | true =>
      rw [hbad] at HOKE
      have hRf : R = false := by
        rw [HR.out]
        cases e : areF (Q.map (·.q)) with
        | false => rfl
        | true => exact absurd ((areF_iff.1 e).2.2 k hlt') (by rw [HOKE.out]; simp)
      subst hRf
      clear HBAD hchk hxc hLc
      go_wp2_with fail
      go_ret
      exact ⟨rfl, HBC.out⟩
    | false =>
      rw [hbad] at HOKE
      have HOKN : Hid (nodeOk x.q = okAt (Q.map (·.q)) k) := by rw [HOKE.out]; unfold Hid; simp
      have hbadR : nodeOk x.q = false → R = false := by
        intro hno
        rw [HR.out]
        cases e : areF (Q.map (·.q)) with
        | false => rfl
        | true => exact absurd ((areF_iff.1 e).2.2 k hlt') (by rw [← HOKN.out, hno]; simp)
      have HNO : Hid (nodeOk x.q = false → R = false) := hbadR
      clear HBAD hLc hbadR HOKE
      obtain ⟨z0, z1, z2, z3, z4, z5, z6, z7, z8, z9, z10, z11⟩ := hxc
      simp only [Nat.zero_add] at z0 z1 z2 z3 z4 z5 z6 z7 z8 z9 z10 z11
      cases hrt : PA.right x.q.nm with
      | false =>
        obtain rfl : R = false := HNO.out (by unfold nodeOk; rw [hrt]; rfl)
        rw [hrt] at hchk
        clear hrt
        go_wp2_with fail
        refine hchk.mono ?_
        rintro e w4 ⟨rfl, hB4⟩
        clear hchk
        go_wp2_with fail
        go_ret
        exact ⟨rfl, HBC.out.trans (hB4.mono HBC.out.size)⟩
      | true =>
        rw [hrt] at hchk
        have HRT : Hid (PA.right x.q.nm = true) := hrt
        clear hrt
        go_wp2_with fail
        refine hchk.mono ?_
        rintro e w4 ⟨rfl, hB4⟩
        have HB4 : Hid (Below w.heap.size w w4) := HBC.out.trans (hB4.mono HBC.out.size)
        have hx4 := HXC.out.below hB4 HS1.out
        clear hchk z0 z1 z2 z3 z4 z5 z6 z7 z8 z9 z10 z11 hB4
        obtain ⟨z0, z1, z2, z3, z4, z5, z6, z7, z8, z9, z10, z11⟩ := hx4
        simp only [Nat.zero_add] at z0 z1 z2 z3 z4 z5 z6 z7 z8 z9 z10 z11
        have hls := least_any x.q.st w4
        simp only [stV] at hls
        by_cases hbl : 1000 < x.q.b.length
        · obtain rfl : R = false := HNO.out (by unfold nodeOk; rw [HRT.out, decide_eq_false (by omega : ¬ x.q.b.length ≤ 1000)]; rfl)
          clear hls
          have hbi : (1000 : Int) < (x.q.b.length : Int) := by omega
          go_wp2_with fail
          go_ret
          exact ⟨rfl, HB4.out⟩
        · have hbi : ¬ (1000 : Int) < (x.q.b.length : Int) := by omega
          have HBL2 : Hid (x.q.b.length ≤ 1000) := by show _ ≤ _; omega
          go_wp2_with fail
          refine hls.mono ?_
          rintro e w5 ⟨rfl, hB5⟩
          have HB5 : Hid (Below w.heap.size w w5) := HB4.out.trans (hB5.mono HB4.out.size)
          clear hls z0 z1 z2 z3 z4 z5 z6 z7 z8 z9 z10 z11 hB5
          have HMN : Hid (nodeOk x.q = decide (0 ≤ stMin x.q.st)) := by unfold Hid nodeOk; rw [HRT.out, decide_eq_true HBL2.out]; simp
          generalize stMin x.q.st = mnv at *
          by_cases hm : mnv < 0
          · obtain rfl : R = false := HNO.out (by rw [HMN.out]; exact decide_eq_false (by omega))
            go_wp2_with fail
            go_ret
            exact ⟨rfl, HB5.out⟩
          · have HOKK : Hid (okAt (Q.map (·.q)) k = true) := by rw [← HOKN.out, HMN.out]; exact decide_eq_true (by omega)
            go_wp2_with fail
            go_roundg (Q.length - (k + 1))
            case measure => have := HG.out; omega
            case rel =>
              refine ⟨k + 1, by omega, rfl, by go_num, fun i hi => ?_, HB5.out⟩
              rcases Nat.lt_or_ge i k with h | h
              · exact HOK.out i h
              · have : i = k := by omega
                rw [this]; exact HOKK.out
end Go.Proofs.YtcdnfgibcochhaaGreatDoor

namespace Go.Proofs.YtcdnfgibcochhaaGreatDoor
set_option linter.unusedSimpArgs false
set_option linter.unusedVariables false
set_option linter.unusedSimpArgs false
set_option linter.unusedVariables false
open Go.RowKit Go.MapKept

def loadF (l : List Fi) : List Fi := l.foldl (fun N q => putF ⟨q.nm, q.b, bare q.st⟩ N) []
theorem loadF_take (l : List Fi) (k : Nat) (hk : k < l.length) : loadF (l.take (k + 1)) = putF ⟨(nth l k).nm, (nth l k).b, bare (nth l k).st⟩ (loadF (l.take k)) := by
  have h1 : nth l k = l[k] := by unfold nth; rw [List.getElem?_eq_getElem hk]; rfl
  rw [h1]
  unfold loadF
  rw [List.take_add_one, List.getElem?_eq_getElem hk, List.foldl_append]
  rfl
theorem cell_t {w w' : World} {t m n : Nat} {N : List Fi} {S : List Si.Fi} (hT : Tr w t m n N S) (hc : Chg (fun k => k = t) w w') {g i : Nat} {v : Value} (hv : w.cell? ⟨g, i, none⟩ = some v) (hm : ∀ a, v ≠ .map a) : w'.cell? ⟨g, i, none⟩ = some v := by
  obtain ⟨L, K, hk, _⟩ := hT
  have hl := World.block_lt_of_cell? w _ hv
  rw [hc.cell (a := ⟨g, i, none⟩) hl ?_]
  · exact hv
  · intro e
    have e' : g = t := e
    subst e'
    rw [cell_at hk.cell] at hv
    match i, hv with
    | 0, hv => simp at hv; exact hm _ hv.symm
    | 1, hv => simp at hv; exact hm _ hv.symm
    | i + 2, hv => simp at hv
theorem bs_t {w w' : World} {t m n : Nat} {N : List Fi} {S : List Si.Fi} (hT : Tr w t m n N S) (hc : Chg (fun k => k = t) w w') {v : Value} {l : List UInt8} (h : Bs w v l) : Bs w' v l := by
  rcases h with h | h | ⟨h0, b, o, c, rfl, h1, h2, h3⟩
  · exact .inl h
  · exact .inr (.inl h)
  · exact .inr (.inr ⟨h0, b, o, c, rfl, h1, Nat.lt_of_lt_of_le h2 hc.size, fun j hj => cell_t hT hc (h3 j hj) (fun a e => by cases e)⟩)
theorem NCells.by {w w' : World} {b o : Nat} {x : Al} (h : NCells w b o x) (k : ∀ {o' v}, w.cell? ⟨b, o', none⟩ = some v → (∀ a, v ≠ .map a) → w'.cell? ⟨b, o', none⟩ = some v) : NCells w' b o x := by
  obtain ⟨c0, c1, c2, c3, c4, c5, c6, c7, c8, c9, c10, c11⟩ := h
  exact ⟨k c0 (fun a e => by cases e), k c1 (fun a e => by cases e), k c2 (fun a e => by cases e), k c3 (fun a e => by cases e), k c4 (fun a e => by cases e), k c5 (fun a e => by cases e), k c6 (fun a e => by cases e), k c7 (fun a e => by cases e), k c8 (fun a e => by cases e), k c9 (fun a e => by cases e), k c10 (fun a e => by cases e), k c11 (fun a e => by cases e)⟩
theorem Tk.reload {w : World} {t m n m' : Nat} {L : List Fv} {K : List Si.Fv} (h : Tk w t m n L K) (hm : m' = w.heap.size) : Tk ((w.alloc (.map #[] 0)).setCell ⟨t, 0, none⟩ (.map (some m'))) t m' n [] K := by
  subst hm
  have htl := theap_lt h.cell
  have hnl := h.seats.lt
  have hne : n ≠ t := by
    intro e
    obtain ⟨es, c, hb, _⟩ := h.seats
    rw [e, h.cell] at hb; cases hb
  have h1 : (w.alloc (.map #[] 0)).heap[t]? = some (.cells #[.map (some m), .map (some n)] 38 (0, 0)) := by rw [Below.heap_alloc _ _ _ htl]; exact h.cell
  have hc : Chg (fun k => k = t) (w.alloc (.map #[] 0)) ((w.alloc (.map #[] 0)).setCell ⟨t, 0, none⟩ (.map (some w.heap.size))) := Chg.setCell _ _ _ rfl
  refine ⟨?_, ?_, (h.seats.keep (Chg.alloc Non w _) id).keep hc hne, by omega, fun p hp => (nomatch hp), fun p hp => (nomatch hp)⟩
  · have := heap_set h1 0 (.map (some w.heap.size))
    simpa using this
  · exact MapIs.keep ⟨#[], 0, heap_alloc_new w _, rfl, by simp, by simp, by simp⟩ hc (by omega)
set_option maxRecDepth 100000 in
set_option maxHeartbeats 8000000 in
theorem load_any {w : World} {t m n : Nat} {N : List Fi} {S : List Si.Fi} (h : Tr w t m n N S) (hL : PA.Laid w) {A : Option Addr} {Q : List Al} {C : Nat} (hr : RowN w A Q C) (hb : ∀ x ∈ Q, Bs w (.slice x.A x.q.b.length x.C) x.q.b) (hlen : Q.length ≤ 4611686018427387904) (hbl : ∀ x ∈ Q, x.q.b.length ≤ 4611686018427387904) :
    Calls Tryz.prog 20 #[.pointer (some ⟨t, 0, none⟩), .slice A Q.length C] w fun e w' =>
      (areF (Q.map (·.q)) = true → e = .returned (.int .i64 0) ∧ ∃ m', w.heap.size ≤ m' ∧ Tr w' t m' n (loadF (Q.map (·.q))) S ∧ Chg (fun k => k = t) w w') ∧
      (areF (Q.map (·.q)) = false → e = .returned (.int .i64 4) ∧ Below w.heap.size w w') := by
  obtain ⟨L, K, hT, rfl, rfl⟩ := h
  have hth := there_yes (cell_at hT.cell 0)
  have HT0 : Hid (Tk w t m n L K) := hT
  have HR : Hid (RowN w A Q C) := hr
  have HBS : Hid (∀ x ∈ Q, Bs w (.slice x.A x.q.b.length x.C) x.q.b) := hb
  have HLEN : Hid (Q.length ≤ 4611686018427387904) := hlen
  have har := are_any hr hL hlen hbl
  cases hR : areF (Q.map (·.q)) with
  | false =>
    rw [hR] at har
    simp only [Bool.false_eq_true, false_implies, true_and, forall_const]
    clear hR hT hL hr hb hbl
    go_enter Tryz.func20, Tryz.ntmps20
    go_wp2_with fail
    refine hth.mono ?_
    rintro e w1 ⟨rfl, hw1⟩
    obtain rfl : w = w1 := hw1.symm
    go_wp2_with fail
    refine har.mono ?_
    rintro e w1 ⟨rfl, hb1⟩
    go_wp2_with fail
    go_ret
    exact ⟨rfl, hb1⟩
  | true =>
    rw [hR] at har
    simp only [Bool.true_eq_false, false_implies, and_true, forall_const]
    have HAR : Hid (areF (Q.map (·.q)) = true) := hR
    clear hR hT hL hr hb hbl
    go_enter Tryz.func20, Tryz.ntmps20
    go_wp2_with fail
    refine hth.mono ?_
    rintro e w1 ⟨rfl, hw1⟩
    obtain rfl : w = w1 := hw1.symm
    go_wp2_with fail
    refine har.mono ?_
    rintro e w1 ⟨rfl, hb1⟩
    have HB1 : Hid (Below w.heap.size w w1) := hb1
    have hT1 := (HT0.out.below hb1).alloc (.map #[] 0)
    have hc0 : (w1.alloc (.map #[] 0)).cell? ⟨t, 0, none⟩ = some (.map (some m)) := by rw [cell_at hT1.cell]; rfl
    have hf0 : (w1.alloc (.map #[] 0)).frozen? ⟨t, 0, none⟩ = false := frozen_at hT1.cell 0
    have hT2 := (HT0.out.below hb1).reload (m' := w1.heap.size) rfl
    obtain ⟨m', hm'⟩ : ∃ m', m' = w1.heap.size := ⟨_, rfl⟩
    have HM' : Hid (m' = w1.heap.size) := hm'
    obtain ⟨w2, hw2⟩ : ∃ w2, w2 = (w1.alloc (.map #[] 0)).setCell ⟨t, 0, none⟩ (.map (some w1.heap.size)) := ⟨_, rfl⟩
    rw [← hw2, ← hm'] at hT2
    have HT2 : Hid (Tr w2 t m' n [] (K.map Prod.fst)) := ⟨[], K, hT2, rfl, rfl⟩
    have HC2 : Hid (Chg (fun k => k = t) w w2) := by
      rw [hw2]
      exact ((Chg.of_below hb1).none_to.trans (Chg.alloc _ _ _)).trans (Chg.setCell _ _ _ rfl)
    have HW2 : Hid (w2 = (w1.alloc (.map #[] 0)).setCell ⟨t, 0, none⟩ (.map (some w1.heap.size))) := hw2
    have hmm := @run_makeMap Tryz.prog
    clear hth har hb1 hT1 hT2 hw2 hm'
    go_upto_region 6 with fail
    rw [← HW2.out, ← HM'.out]
    clear hc0 hf0
    have HTR0 : Hid (Tr w t m n (L.map Prod.fst) (K.map Prod.fst)) := ⟨L, K, HT0.out, rfl, rfl⟩
    have HMW : Hid (w.heap.size ≤ m') := by rw [HM'.out]; exact HB1.out.size
    go_wp2_with fail
    go_loopg [19] Q.length (fun g v19 wr => ∃ k : Nat, k ≤ Q.length ∧ g = Q.length - k ∧ v19 = .int .i64 (k : Int) ∧ Tr wr t m' n (loadF ((Q.map (·.q)).take k)) (K.map Prod.fst) ∧ Chg (fun k => k = t) w wr)
    case atStart => exact ⟨0, Nat.zero_le _, rfl, rfl, HT2.out, HC2.out⟩
    case round =>
      obtain ⟨k, hk, hg, rfl, hTr, hCr⟩ := hrel
      have HG : Hid (gk = Q.length - k) := hg
      have HTR : Hid (Tr wr t m' n (loadF ((Q.map (·.q)).take k)) (K.map Prod.fst)) := hTr
      have HCR : Hid (Chg (fun k => k = t) w wr) := hCr
      clear hg hTr hCr
      by_cases hlt : k < Q.length
      case neg =>
        have hke : k = Q.length := by omega
        have HKE : Hid (k = Q.length) := hke
        clear hke
        go_wp2_with fail
        go_ret
        refine ⟨rfl, m', HMW.out, ?_, HCR.out⟩
        have := HTR.out
        rw [HKE.out, List.take_of_length_le (by simp)] at this
        exact this
      case pos =>
      have hlt' : k < (Q.map (·.q)).length := by simpa using hlt
      obtain ⟨b, o, rfl, hb1, _, hc⟩ := HR.out.at k hlt
      have hx := (ncells hc).by (fun h hm => cell_t HTR0.out HCR.out h hm)
      have hxe : nth (Q.map (·.q)) k = (Q[k]'hlt).q := by
        unfold nth
        rw [List.getElem?_map, List.getElem?_eq_getElem hlt]; rfl
      have hbx := bs_t HTR0.out HCR.out (HBS.out _ (List.getElem_mem hlt))
      have hok := (areF_iff.1 HAR.out).2.2 k hlt'
      obtain ⟨x, hxx⟩ : ∃ x, x = Q[k]'hlt := ⟨_, rfl⟩
      rw [← hxx] at hx hxe hbx
      have hok2 : nodeOk x.q = true := by
        unfold okAt at hok
        rw [hxe] at hok
        simp only [Bool.and_eq_true] at hok
        exact hok.2
      have hnl : x.q.nm.length ≤ 281474976710656 ∧ x.q.b.length ≤ 1000 := by
        simp only [nodeOk, Bool.and_eq_true, decide_eq_true_eq] at hok2
        have := PA.right_len hok2.1
        exact ⟨by omega, hok2.2.1⟩
      obtain ⟨W, hW⟩ : ∃ W, W = wr.alloc (.cells (alA x) 47) := ⟨_, rfl⟩
      have HW : Hid (W = wr.alloc (.cells (alA x) 47)) := hW
      obtain ⟨Lr, Kr, hTk, hLr, hKr⟩ := HTR.out
      have hput := put_any (w := W) (by rw [hW]; exact hTk.alloc _) x.q.nm hnl.1 (by rw [hW]; exact hbx.alloc _) rfl hnl.2 x.q.st
      have hxw : NCells W wr.heap.size 0 x := by rw [hW]; exact ncells_new (heap_alloc_new wr _)
      have HXE : Hid (nth (Q.map (·.q)) k = x.q) := hxe
      have HLK : Hid (Lr.map Prod.fst = loadF ((Q.map (·.q)).take k) ∧ Kr.map Prod.fst = K.map Prod.fst) := ⟨hLr, hKr⟩
      have HLT : Hid (k < (Q.map (·.q)).length) := hlt'
      have i0 : ¬ (k : Int) < 0 := by omega
      have i1 : (k : Int) < (Q.length : Int) := by omega
      have i2 : (0 : Int) ≤ (k : Int) := by omega
      have i3 : (k : Int).toNat = k := by omega
      obtain ⟨z0, z1, z2, z3, z4, z5, z6, z7, z8, z9, z10, z11⟩ := hx
      clear hc hxx hxe hbx hok hok2 hnl hTk hLr hKr hlt'
      go_upto_region 9 with fail
      simp only [alA] at hW
      rw [← hW]
      clear hW z0 z1 z2 z3 z4 z5 z6 z7 z8 z9 z10 z11
      obtain ⟨z0, z1, z2, z3, z4, z5, z6, z7, z8, z9, z10, z11⟩ := hxw
      simp only [Nat.zero_add] at z0 z1 z2 z3 z4 z5 z6 z7 z8 z9 z10 z11
      simp only [stA] at hput
      go_wp2_with fail
      refine hput.mono ?_
      rintro e w5 ⟨rfl, v, hT5, hc5⟩
      have HT5 : Hid (Tr w5 t m' n (loadF ((Q.map (·.q)).take (k + 1))) (K.map Prod.fst)) := by
        refine ⟨_, _, hT5, ?_, HLK.out.2⟩
        rw [put_F, HLK.out.1, loadF_take _ _ HLT.out, HXE.out]
      have HC5 : Hid (Chg (fun k => k = t) w w5) := by
        refine (HCR.out.trans ?_).trans' hc5 (fun i hi e => by have := HMW.out; omega)
        rw [HW.out]; exact Chg.alloc _ _ _
      clear hput hT5 hc5 z0 z1 z2 z3 z4 z5 z6 z7 z8 z9 z10 z11
      go_wp2_with fail
      go_roundg (Q.length - (k + 1))
      case measure => have := HG.out; omega
      case rel => exact ⟨k + 1, by omega, rfl, by go_num, HT5.out, HC5.out⟩
end Go.Proofs.YtcdnfgibcochhaaGreatDoor
