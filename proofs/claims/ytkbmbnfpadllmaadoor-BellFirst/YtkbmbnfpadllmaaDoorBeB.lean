/- A tower in memory; the walks of its small functions, of New, Add, Count and Drop. -/
import Derived.Test.YtkbmbnfpadllmaaDoorBeM
import Derived.Laws.Cover3
import Derived.Carry
import Derived.Deep.RegionHeld3
import Derived.Lib.QuietBelow
import Derived.Deep.CutRange
import Derived.Deep.CutBlock
namespace Go.Proofs.YtkbmbnfpadllmaaDoor.We
set_option linter.unusedSimpArgs false
set_option linter.unusedVariables false
open Go.RowKit Go.MapKept
set_option linter.unusedVariables false
set_option linter.unusedSimpArgs false

theorem neqM (w : World) (m : Option Nat) : (binOp .neq 42 (.map m) (.map none)).run Tryd.prog w = .ok (.bool (!m.isNone)) w := run_neq_map_nil w 42 69 81 m undM
theorem cell_lt {w : World} {d : Nat} {i : Nat} {x : Value} (h : w.cell? ⟨d, i, none⟩ = some x) : d < w.heap.size := by
  rcases Nat.lt_or_ge d w.heap.size with h1 | h1
  · exact h1
  · simp [World.cell?, Array.getElem?_eq_none h1] at h
theorem cellAt {w : World} {g T : Nat} {cs : Array Value} {fr : Nat × Nat} (h : w.heap[g]? = some (.cells cs T fr)) (i : Nat) : w.cell? ⟨g, i, none⟩ = cs[i]? := by
  simp [World.cell?, h]
theorem frozenAt {w : World} {g T : Nat} {cs : Array Value} (h : w.heap[g]? = some (.cells cs T (0, 0))) (i : Nat) : w.frozen? ⟨g, i, none⟩ = false := by
  simp [World.frozen?, h]
theorem heapLt {w : World} {g : Nat} {o : Obj} (h : w.heap[g]? = some o) : g < w.heap.size := (Array.getElem?_eq_some_iff.1 h).1

/- No tower, or one that nobody made. -/
def NoT (w : World) (v : Value) : Prop := v = .pointer none ∨ ∃ d, v = .pointer (some ⟨d, 0, none⟩) ∧ w.cell? ⟨d, 0, none⟩ = some (.map none)
theorem NoT.below {w w' : World} {v : Value} (h : NoT w v) (hb : Below w.heap.size w w') : NoT w' v := by
  rcases h with h | ⟨d, rfl, hc⟩
  · exact .inl h
  · exact .inr ⟨d, rfl, by rw [World.cell?_of_block (hb.block d (cell_lt hc))]; exact hc⟩
theorem NoT.alloc {w : World} {v : Value} (h : NoT w v) (o : Obj) : NoT (w.alloc o) v := h.below ((Below.refl _ _).alloc (Nat.le_refl _) o)
/- A tower in memory: its map, its watches, each of which may be. -/
structure Tx (w : World) (t m : Nat) (L : List Wa) : Prop where
  cell : w.heap[t]? = some (.cells #[.map (some m)] 44 (0, 0))
  map : MapIs w m L
  good : ∀ x ∈ L, mayB x.so x.p = true
theorem Tx.ne {w : World} {t m : Nat} {L : List Wa} (h : Tx w t m L) : t ≠ m := by
  obtain ⟨es, clock, hb, _⟩ := h.map
  intro e
  have := h.cell
  rw [e, hb] at this
  cases this
theorem Tx.ltt {w : World} {t m : Nat} {L : List Wa} (h : Tx w t m L) : t < w.heap.size := heapLt h.cell
theorem Tx.ltm {w : World} {t m : Nat} {L : List Wa} (h : Tx w t m L) : m < w.heap.size := h.map.lt
theorem Tx.keep {T : Nat → Prop} {w w' : World} {t m : Nat} {L : List Wa} (h : Tx w t m L) (hc : Chg T w w') (hb : ¬ T t) (hm : ¬ T m) : Tx w' t m L :=
  ⟨by rw [hc.block t h.ltt hb]; exact h.cell, h.map.keep hc hm, h.good⟩
theorem Tx.below {w w' : World} {t m : Nat} {L : List Wa} (h : Tx w t m L) (hc : Below w.heap.size w w') : Tx w' t m L := h.keep (Chg.of_below hc) (fun e => e) (fun e => e)
theorem Tx.alloc {w : World} {t m : Nat} {L : List Wa} (h : Tx w t m L) (o : Obj) : Tx (w.alloc o) t m L := h.keep (Chg.alloc Non w o) (fun e => e) (fun e => e)
theorem Tx.mapc {w : World} {t m : Nat} {L : List Wa} (h : Tx w t m L) : w.cell? ⟨t, 0, none⟩ = some (.map (some m)) := by
  have := cellAt h.cell 0; simpa using this
theorem Tx.to {w w' : World} {t m : Nat} {L L' : List Wa} (h : Tx w t m L) (hm : MapIs w' m L') (hc : Chg (fun k => k = m) w w') (hg : ∀ x ∈ L', mayB x.so x.p = true) : Tx w' t m L' :=
  ⟨by rw [hc.block t h.ltt h.ne]; exact h.cell, hm, hg⟩
theorem good_add {k : Wa} {L : List Wa} (h : ∀ x ∈ L, mayB x.so x.p = true) (hk : mayB k.so k.p = true) : ∀ x ∈ addL k L, mayB x.so x.p = true := by
  intro x hx
  unfold addL at hx
  split at hx
  · exact h x hx
  · rcases List.mem_append.1 hx with hx | hx
    · exact h x hx
    · cases List.mem_singleton.1 hx; exact hk

set_option maxRecDepth 100000 in
theorem there_no {w : World} {v : Value} (h : NoT w v) : Calls Tryd.prog 18 #[v] w fun e w' => e = .returned (.bool false) ∧ w' = w := by
  have hm := neqM
  rcases h with rfl | ⟨d, rfl, h⟩
  · go_enter Tryd.func18, Tryd.ntmps18
    go_wp2_with fail
    go_ret
    exact ⟨rfl, rfl⟩
  · go_enter Tryd.func18, Tryd.ntmps18
    go_wp2_with fail
    go_ret
    exact ⟨rfl, rfl⟩
set_option maxRecDepth 100000 in
theorem there_any {w : World} {d m : Nat} (h : w.cell? ⟨d, 0, none⟩ = some (.map (some m))) : Calls Tryd.prog 18 #[.pointer (some ⟨d, 0, none⟩)] w fun e w' => e = .returned (.bool true) ∧ w' = w := by
  have hm := neqM
  go_enter Tryd.func18, Tryd.ntmps18
  go_wp2_with fail
  go_ret
  exact ⟨rfl, rfl⟩
set_option maxRecDepth 100000 in
theorem new_any (w : World) : Calls Tryd.prog 8 #[] w fun e w' => ∃ t m, e = .returned (.pointer (some ⟨t, 0, none⟩)) ∧ Tx w' t m [] ∧ w.heap.size ≤ t ∧ w.heap.size ≤ m ∧ Below w.heap.size w w' := by
  have hmm := @run_makeMap Tryd.prog
  go_enter Tryd.func8, Tryd.ntmps8
  go_wp2_with fail
  go_ret
  refine ⟨w.heap.size + 1, w.heap.size, by simp, ⟨?_, ⟨#[], 0, ?_, rfl, by simp, by simp, by simp⟩, by simp⟩, by omega, Nat.le_refl _, ((Below.refl _ _).alloc (Nat.le_refl _) _).alloc (by simp) _⟩
  · have := heap_alloc_new (w.alloc (.map #[] 0)) (.cells #[.map (some w.heap.size)] 44)
    simpa using this
  · rw [Below.heap_alloc _ _ _ (by simp)]; exact heap_alloc_new w _

/- May a watch be? -/
set_option maxRecDepth 100000 in
theorem mayBe_any (so : Int) (p : List UInt8) (w : World) (hL : PA.Laid w) : Calls Tryd.prog 19 #[.int .u8 so, .string (mkS p)] w fun e w' => e = .returned (.bool (mayB so p)) ∧ Below w.heap.size w w' := by
  have hch := PA.check_any p w hL
  by_cases h1 : so = 1
  · subst h1
    rw [show mayB 1 p = PA.right p by simp [mayB]]
    generalize PA.right p = X at hch ⊢
    go_enter Tryd.func19, Tryd.ntmps19
    go_wp2_with fail
    refine hch.mono ?_
    rintro e w1 ⟨rfl, hB⟩
    clear hch
    have HB : Hid _ := hB
    clear hB
    go_wp2_with fail
    go_ret
    exact ⟨rfl, HB.out⟩
  by_cases h2 : so = 2
  · subst h2
    rw [show mayB 2 p = PA.right p by simp [mayB]]
    generalize PA.right p = X at hch ⊢
    go_enter Tryd.func19, Tryd.ntmps19
    go_wp2_with fail
    refine hch.mono ?_
    rintro e w1 ⟨rfl, hB⟩
    clear hch
    have HB : Hid _ := hB
    clear hB
    go_wp2_with fail
    go_ret
    exact ⟨rfl, HB.out⟩
  by_cases h3 : so = 3
  · subst h3
    rw [show mayB 3 p = PA.right p by simp [mayB]]
    generalize PA.right p = X at hch ⊢
    go_enter Tryd.func19, Tryd.ntmps19
    go_wp2_with fail
    refine hch.mono ?_
    rintro e w1 ⟨rfl, hB⟩
    clear hch
    have HB : Hid _ := hB
    clear hB
    go_wp2_with fail
    go_ret
    exact ⟨rfl, HB.out⟩
  rw [show mayB so p = false by simp [mayB, h1, h2, h3]]
  clear hch
  have g1 : (so == 1) = false := by simpa using h1
  have g2 : (so == 2) = false := by simpa using h2
  have g3 : (so == 3) = false := by simpa using h3
  go_enter Tryd.func19, Tryd.ntmps19
  go_wp2_with fail
  go_ret
  exact ⟨rfl, Below.refl _ _⟩
set_option maxRecDepth 100000 in
theorem sclone_any (s : List UInt8) (hs : s.length ≤ 281474976710656) (w : World) : Calls Tryd.prog 30 #[.string (mkS s)] w fun e w' => e = .returned (.string (mkS s)) ∧ Below w.heap.size w w' := by
  have hc := Tryd.stringslite_Clone (mkS s) w (by simpa [mkS, ByteArray.size] using hs)
  go_enter Tryd.func30, Tryd.ntmps30
  go_wp2_with fail
  refine hc.mono ?_
  rintro e w1 ⟨rfl, hB⟩
  clear hc
  have HB : Hid _ := hB
  clear hB
  go_wp2_with fail
  go_ret
  exact ⟨rfl, HB.out⟩
theorem may_len {so : Int} {p : List UInt8} (h : mayB so p = true) : p.length ≤ 200 := by
  simp only [mayB, Bool.and_eq_true] at h
  exact PA.right_len h.2
set_option maxRecDepth 100000 in
theorem newWatch_any (k : Wa) (hk : mayB k.so k.p = true) (w : World) : Calls Tryd.prog 21 #[.int .i64 k.cn, .int .u8 k.so, .string (mkS k.p)] w fun e w' => e = .returned (keyV k) ∧ Below w.heap.size w w' := by
  have hlen := may_len hk
  obtain ⟨cn, so, p⟩ := k
  simp only [keyV] at hlen ⊢
  have hcl := fun W => sclone_any p (by omega) W
  go_enter Tryd.func21, Tryd.ntmps21
  go_wp2_with fail
  refine (hcl _).mono ?_
  rintro e w1 ⟨rfl, hB⟩
  have HB : Hid _ := hB
  have hlt : w.heap.size < w1.heap.size := by have := hB.size; simp at this; omega
  have hc0 : w1.heap[w.heap.size]? = some (.cells #[.int .i64 0, .int .u8 0, .string (mkS [])] 69 (0, 0)) := by
    rw [hB.block _ (by simp)]; exact heap_alloc_new w _
  have hlt2 : ¬ w1.heap.size ≤ w.heap.size := by omega
  have c0 := cellAt hc0 0
  have c1 := cellAt hc0 1
  have c2 := cellAt hc0 2
  have f0 := frozenAt hc0 0
  have f1 := frozenAt hc0 1
  have f2 := frozenAt hc0 2
  simp only [mkS] at c2
  simp at c0 c1 c2
  clear hB hcl
  go_wp2_with fail
  refine bodyPost_ret (v := .agg #[.int .i64 cn, .int .u8 so, .string (mkS p)]) (by simp [results, Tryd.results21, go_sem, c0, c1, c2, f0, f1, f2]) rfl ⟨rfl, ?_⟩
  have hB := ((Below.refl w.heap.size w).alloc (Nat.le_refl _) (.cells #[.int .i64 0, .int .u8 0, .string ⟨#[]⟩] 69)).trans (HB.out.mono (by simp))
  exact ((hB.setCell (p := ⟨w.heap.size, 0, none⟩) (Nat.le_refl _) _).setCell (p := ⟨w.heap.size, 1, none⟩) (Nat.le_refl _) _).setCell (p := ⟨w.heap.size, 2, none⟩) (Nat.le_refl _) _
set_option maxRecDepth 100000 in
theorem put_any {w : World} {t m : Nat} {L : List Wa} (h : Tx w t m L) (k : Wa) (hk : mayB k.so k.p = true) :
    Calls Tryd.prog 20 #[.pointer (some ⟨t, 0, none⟩), keyV k] w fun e w' => e = .returned (.tuple #[]) ∧ Tx w' t m (addL k L) ∧ Chg (fun k => k = m) w w' := by
  obtain ⟨cn, so, p⟩ := k
  have hb : (w.alloc (.cells #[.int .i64 cn, .int .u8 so, .string (mkS p)] 69)).heap[w.heap.size]? = some (.cells #[.int .i64 cn, .int .u8 so, .string (mkS p)] 69 (0, 0)) := heap_alloc_new w _
  have hA := h.alloc (.cells #[.int .i64 cn, .int .u8 so, .string (mkS p)] 69)
  obtain ⟨W, hW⟩ : ∃ W, W = (w.alloc (.cells #[.int .i64 cn, .int .u8 so, .string (mkS p)] 69)).drew := ⟨_, rfl⟩
  have hcW : Chg Non w W := by rw [hW]; exact (Chg.alloc _ _ _).trans (Chg.drew _ _)
  have hXW := h.keep hcW id id
  obtain ⟨w3, hrun, hm3, hc3, hs3⟩ := hXW.map.update ⟨cn, so, p⟩
  simp only [keyV, unitV] at hrun
  have k0 : W.cell? ⟨t, 0, none⟩ = some (.map (some m)) := hXW.mapc
  have hbW : W.heap[w.heap.size]? = some (.cells #[.int .i64 cn, .int .u8 so, .string (mkS p)] 69 (0, 0)) := by rw [hW]; exact hb
  have d0 := cellAt hbW 0
  have d1 := cellAt hbW 1
  have d2 := cellAt hbW 2
  simp at d0 d1 d2
  have HX : Hid (Tx W t m L ∧ Chg Non w W ∧ MapIs w3 m (addL ⟨cn, so, p⟩ L) ∧ Chg (fun k => k = m) W w3) := ⟨hXW, hcW, hm3, hc3⟩
  simp only [keyV]
  have e0 : w3.cell? ⟨t, 0, none⟩ = some (.map (some m)) := (hc3.cell (a := ⟨t, 0, none⟩) hXW.ltt hXW.ne).trans k0
  have hbm : ¬ w.heap.size = m := by have := h.ltm; omega
  have hblt : w.heap.size < W.heap.size := by have := hcW.size; have := heapLt hbW; omega
  have e1 : w3.cell? ⟨w.heap.size, 0, none⟩ = some (.int .i64 cn) := (hc3.cell (a := ⟨w.heap.size, 0, none⟩) hblt hbm).trans d0
  have e2 : w3.cell? ⟨w.heap.size, 1, none⟩ = some (.int .u8 so) := (hc3.cell (a := ⟨w.heap.size, 1, none⟩) hblt hbm).trans d1
  have e3 : w3.cell? ⟨w.heap.size, 2, none⟩ = some (.string (mkS p)) := (hc3.cell (a := ⟨w.heap.size, 2, none⟩) hblt hbm).trans d2
  clear hXW hcW hm3 hc3 hs3 hA hb hbW hblt hbm
  subst hW
  go_enter Tryd.func20, Tryd.ntmps20
  go_wp2_with fail
  go_region_held3 (fun w' => w'.cell? ⟨t, 0, none⟩ = some (.map (some m)) ∧ w'.cell? ⟨w.heap.size, 0, none⟩ = some (.int .i64 cn) ∧ w'.cell? ⟨w.heap.size, 1, none⟩ = some (.int .u8 so) ∧ w'.cell? ⟨w.heap.size, 2, none⟩ = some (.string (mkS p)))
    (first | exact ⟨k0, d0, d1, d2⟩ | exact ⟨e0, e1, e2, e3⟩ | go_keep)
    (fail)
  all_goals
    go_end0
    obtain ⟨hXW, hcW, hm3, hc3⟩ := HX.out
    exact ⟨rfl, hXW.to hm3 hc3 (good_add hXW.good hk), (hcW.weak fun _ _ e => e.elim).trans hc3⟩
theorem laid_chg {w w' : World} {t m : Nat} {L : List Wa} (h : PA.Laid w) (hT : Tx w t m L) (hc : Chg (fun k => k = m) w w') : PA.Laid w' := by
  obtain ⟨es, clock, hb, _⟩ := hT.map
  have hne : ∀ (g i : Nat) (v : Value), w.cell? ⟨g, i, none⟩ = some v → ¬ g = m := by
    intro g i v hv e
    subst e
    simp [World.cell?, hb] at hv
  obtain ⟨x, hx⟩ := h.one
  exact ⟨⟨x, by rw [hc.cell (a := ⟨1, 0, none⟩) h.gt.1 (hne _ _ _ hx)]; exact hx⟩, fun j hj => by rw [hc.cell (a := ⟨0, j, none⟩) h.gt.2 (hne _ _ _ (h.tab j hj))]; exact h.tab j hj⟩

/- Add. -/
def addR (cn so : Int) (p : List UInt8) (L : List Wa) : List Wa := if mayB so p then addL ⟨cn, so, p⟩ L else L
set_option maxRecDepth 100000 in
theorem add_no {w : World} {v : Value} (h : NoT w v) (c s p : Value) : Calls Tryd.prog 9 #[v, c, s, p] w fun e w' => e = .returned (.tuple #[]) ∧ w' = w := by
  have hth := there_no h
  go_enter Tryd.func9, Tryd.ntmps9
  go_wp2_with fail
  refine hth.mono ?_
  rintro e w1 ⟨rfl, rfl⟩
  go_wp2_with fail
  go_end0
  exact ⟨rfl, rfl⟩
set_option maxRecDepth 100000 in
theorem add_any {w : World} {t m : Nat} {L : List Wa} (h : Tx w t m L) (hL : PA.Laid w) (cn so : Int) (p : List UInt8) :
    Calls Tryd.prog 9 #[.pointer (some ⟨t, 0, none⟩), .int .i64 cn, .int .u8 so, .string (mkS p)] w fun e w' => e = .returned (.tuple #[]) ∧ Tx w' t m (addR cn so p L) ∧ Chg (fun k => k = m) w w' := by
  have hth := there_any h.mapc
  have hmb := mayBe_any so p w hL
  have HX : Hid (Tx w t m L) := h
  cases hk : mayB so p with
  | false =>
    rw [show addR cn so p L = L by unfold addR; rw [hk]; rfl]
    rw [hk] at hmb
    clear h hk hL
    go_enter Tryd.func9, Tryd.ntmps9
    go_wp2_with fail
    refine hth.mono ?_
    rintro e w1 ⟨rfl, rfl⟩
    go_wp2_with fail
    refine hmb.mono ?_
    rintro e w2 ⟨rfl, hB⟩
    have HB : Hid _ := hB
    clear hB hmb hth
    go_wp2_with fail
    go_end0
    exact ⟨rfl, HX.out.below HB.out, (Chg.of_below HB.out).weak fun _ _ e => e.elim⟩
  | true =>
    rw [show addR cn so p L = addL ⟨cn, so, p⟩ L by unfold addR; rw [hk]; rfl]
    have hnw := fun W => newWatch_any ⟨cn, so, p⟩ hk W
    rw [hk] at hmb
    have HK : Hid (mayB so p = true) := hk
    clear h hk hL
    go_enter Tryd.func9, Tryd.ntmps9
    go_wp2_with fail
    refine hth.mono ?_
    rintro e w1 ⟨rfl, rfl⟩
    go_wp2_with fail
    refine hmb.mono ?_
    rintro e w2 ⟨rfl, hB⟩
    have HB : Hid _ := hB
    clear hB hmb hth
    go_wp2_with fail
    refine (hnw _).mono ?_
    rintro e w3 ⟨rfl, hB3⟩
    have HB3 : Hid _ := hB3
    have hpu := put_any ((HX.out.below HB.out).below hB3) ⟨cn, so, p⟩ HK.out
    clear hB3 hnw
    go_wp2_with fail
    refine hpu.mono ?_
    rintro e w4 ⟨rfl, hx4, hc4⟩
    have HX4 : Hid _ := hx4
    have HC4 : Hid _ := hc4
    clear hpu hx4 hc4
    go_wp2_with fail
    go_end0
    exact ⟨rfl, HX4.out, (((Chg.of_below HB.out).trans (Chg.of_below HB3.out)).weak fun _ _ e => e.elim).trans HC4.out⟩

/- Count. -/
set_option maxRecDepth 100000 in
theorem count_no {w : World} {v : Value} (h : NoT w v) : Calls Tryd.prog 14 #[v] w fun e w' => e = .returned (.int .i64 0) ∧ w' = w := by
  have hth := there_no h
  go_enter Tryd.func14, Tryd.ntmps14
  go_wp2_with fail
  refine hth.mono ?_
  rintro e w1 ⟨rfl, rfl⟩
  go_wp2_with fail
  go_ret
  exact ⟨rfl, rfl⟩
set_option maxRecDepth 100000 in
theorem count_any {w : World} {t m : Nat} {L : List Wa} (h : Tx w t m L) : Calls Tryd.prog 14 #[.pointer (some ⟨t, 0, none⟩)] w fun e w' => e = .returned (.int .i64 L.length) ∧ w' = w := by
  have hth := there_any h.mapc
  have hc0 := h.mapc
  have hlen := h.map.len
  clear h
  go_enter Tryd.func14, Tryd.ntmps14
  go_wp2_with fail
  refine hth.mono ?_
  rintro e w1 ⟨rfl, rfl⟩
  clear hth
  go_wp2_with fail
  go_ret
  exact ⟨rfl, rfl⟩
end Go.Proofs.YtkbmbnfpadllmaaDoor.We
