/- The document's disk: syncing, cutting, removing. -/
import Derived.Test.YtndjlnlmlgimlaaDfE
namespace Go.Proofs.Ytndjlnlmlgimlaa
open Go.RowKit Go.MapKept

theorem cell_set_ne {w : World} {g i k : Nat} {u x : Value} (h : w.cell? ⟨g, k, none⟩ = some x) (hne : k ≠ i) : (w.setCell ⟨g, i, none⟩ u).cell? ⟨g, k, none⟩ = some x :=
  (World.cell?_setCell_other (w := w) (a := ⟨g, i, none⟩) (b := ⟨g, k, none⟩) (v := u) (by intro e; injection e; omega)).trans h
theorem owns_set {T : TypeId} {sz : Nat} {w : World} {base g n cap : Nat} {xs : List Value} (h : w.ownsRow base T sz (.slice (some ⟨g, 0, none⟩) n cap) n xs) (i : Nat) (u : Value) : (w.setCell ⟨g, i, none⟩ u).ownsRow base T sz (.slice (some ⟨g, 0, none⟩) n cap) n (xs.set i u) := by
  refine ⟨by rw [List.length_set]; exact h.1, ?_⟩
  rcases h.2 with ⟨e, _⟩ | ⟨g', cap', cur, e, hb, hg, h1, h2, h3, h4⟩
  · cases e
  · cases e
    refine .inr ⟨g, cap, cur.setIfInBounds i u, rfl, hb, heap_set hg i u, h1, h2, by simpa using h3, ?_⟩
    rw [Array.toList_setIfInBounds, List.take_set, h4]
theorem set_same {α : Type} {l : List α} {i : Nat} {x : α} (h : l[i]? = some x) : l.set i x = l := by
  obtain ⟨hi, rfl⟩ := List.getElem?_eq_some_iff.1 h
  exact List.set_getElem_self hi
theorem cel_set12 {L : List Fv} {j : Nat} {p : Fv} (h : j < L.length) (hn : p.1.nm = (L[j]'h).1.nm) : (L.set j p).flatMap cel = ((L.flatMap cel).set (j * 3 + 1) p.2).set (j * 3 + 2) (.int .i64 (p.1.sy : Int)) := by
  rw [cel_set L j p h, hn, set_same (cel_at L j h).1]
theorem cel_set2 {L : List Fv} {j : Nat} {p : Fv} (h : j < L.length) (hn : p.1.nm = (L[j]'h).1.nm) (hv : p.2 = (L[j]'h).2) : (L.set j p).flatMap cel = (L.flatMap cel).set (j * 3 + 2) (.int .i64 (p.1.sy : Int)) := by
  rw [cel_set12 h hn, hv, set_same (cel_at L j h).2.1]
theorem cel_set1 {L : List Fv} {j : Nat} {p : Fv} (h : j < L.length) (hn : p.1.nm = (L[j]'h).1.nm) (hs : p.1.sy = (L[j]'h).1.sy) : (L.set j p).flatMap cel = (L.flatMap cel).set (j * 3 + 1) p.2 := by
  rw [cel_set12 h hn, hs]
  refine set_same ?_
  rw [List.getElem?_set_ne (by omega)]
  exact (cel_at L j h).2.2
/- A file's cells written over, in the row. -/
theorem Rk.set_of {w W6 : World} {base r g N C : Nat} {room : Int} {L : List Fv} (h : Rk w base r room (.slice (some ⟨g, 0, none⟩) N C) L) (j : Nat) (p : Fv) (c : Chg (fun k => k = g ∨ w.heap.size ≤ k) w W6) (hN : N = L.length)
    (ho : W6.ownsRow base 64 3 (.slice (some ⟨g, 0, none⟩) N C) N ((L.set j p).flatMap cel)) (hb : W6.ownsRow base 5 1 p.2 p.1.b.length (bv p.1.b)) (hf : p.1.sy ≤ p.1.b.length ∧ p.1.b.length ≤ 4194304) :
    Rk W6 base r room (.slice (some ⟨g, 0, none⟩) N C) (L.set j p) ∧ Chg (Wr r (.slice (some ⟨g, 0, none⟩) N C)) w W6 := by
  have hrl := heap_lt h.cell
  have hgr := h.row_ne (g := g) rfl
  refine ⟨⟨?_, ?_, ?_, ?_, h.rm, h.low⟩, ?_⟩
  · rw [c.block r hrl (by omega)]; exact h.cell
  · rw [List.length_set, ← hN]; exact ho
  · intro q hq
    rcases List.mem_or_eq_of_mem_set hq with hq | rfl
    · refine owns_keepN (h.bs q hq) c fun k hk e => ?_
      have h1 := h.bs_ne hq hk
      have h2 := (h.lt k (.inr (.inr ⟨q, hq, hk⟩))).2
      rcases e with e | e
      · subst e; exact h1 (.inr rfl)
      · omega
    · exact hb
  · intro q hq
    rcases List.mem_or_eq_of_mem_set hq with hq | rfl
    · exact h.fits q hq
    · exact hf
  · refine c.weak fun k hk e => ?_
    rcases e with e | e
    · subst e; exact .inr rfl
    · omega
theorem Rk.frz {w : World} {base r g N C : Nat} {room : Int} {L : List Fv} (h : Rk w base r room (.slice (some ⟨g, 0, none⟩) N C) L) (i : Nat) : w.frozen? ⟨g, i, none⟩ = false := by
  obtain ⟨cur, hc, _⟩ := owns_blockN h.row (k := g) rfl
  exact frozen_at hc i
/- What a call leaves: no bytes but those that were there, or new ones. -/
def Fresh (L L' : List Fv) (w : World) : Prop := ∀ p ∈ L', ∀ g, blk p.2 = some g → (∃ q ∈ L, blk q.2 = some g) ∨ w.heap.size ≤ g
theorem Fresh.refl (L : List Fv) (w : World) : Fresh L L w := fun p hp _ hg => .inl ⟨p, hp, hg⟩
theorem Fresh.sub {L L' : List Fv} (w : World) (h : ∀ p ∈ L', p ∈ L) : Fresh L L' w := fun p hp _ hg => .inl ⟨p, h p hp, hg⟩
theorem Fresh.set {L : List Fv} {w : World} (j : Nat) {p : Fv} (h : ∀ g, blk p.2 = some g → (∃ q ∈ L, blk q.2 = some g) ∨ w.heap.size ≤ g) : Fresh L (L.set j p) w := by
  intro q hq g hg
  rcases List.mem_or_eq_of_mem_set hq with hq | rfl
  · exact .inl ⟨q, hq, hg⟩
  · exact h g hg
def Rn (base r : Nat) (room : Int) (v : Value) (L : List Fv) (w w' : World) (F : List Fi) : Prop := ∃ v' L', L'.map Prod.fst = F ∧ Rk w' base r room v' L' ∧ Chg (Wr r v) w w' ∧ (∀ g, blk v' = some g → blk v = some g ∨ w.heap.size ≤ g) ∧ Fresh L L' w
theorem Rn.refl {w w' : World} {base r : Nat} {room : Int} {v : Value} {L : List Fv} (h : Rk w base r room v L) (hB : Below w.heap.size w w') : Rn base r room v L w w' (L.map Prod.fst) :=
  ⟨v, L, rfl, h.below hB, (Chg.of_below hB).weak (fun _ _ e => e.elim), fun _ hg => .inl hg, Fresh.refl L w⟩
theorem Rn.later {w w' w'' : World} {base r : Nat} {room : Int} {v : Value} {L : List Fv} {F : List Fi} (h : Rn base r room v L w w' F) (hB : Below w'.heap.size w' w'') : Rn base r room v L w w'' F := by
  obtain ⟨v', L', h1, h2, h3, h4, h5⟩ := h
  exact ⟨v', L', h1, h2.below hB, h3.trans ((Chg.of_below hB).weak (fun _ _ e => e.elim)), h4, h5⟩
set_option maxRecDepth 100000 in
theorem rsync_any {w : World} {base r : Nat} {room : Int} {v : Value} {L : List Fv} (h : Rk w base r room v L) (hL : L.length ≤ 1000000) (k : List UInt8) :
    Calls Try.prog 21 #[.pointer (some ⟨r, 0, none⟩), .string (mkS k)] w fun e w' => e = .returned (.int .i64 (synE (L.map Prod.fst) k)) ∧ Rn base r room v L w w' (synR (L.map Prod.fst) k) := by
  have hc := rfind_any h hL k
  obtain ⟨A1, C1, rfl⟩ := owns_formN h.row
  have hc0 := h.head.2
  unfold plI at hc
  cases hq : plF k (L.map Prod.fst) with
  | none =>
    have hl := plF_none hq
    rw [hq] at hc
    simp only at hc
    have HE : Hid (synE (L.map Prod.fst) k = 6 ∧ synR (L.map Prod.fst) k = L.map Prod.fst) := by simp [Hid, synE, synR, hl]
    rw [HE.out.1, HE.out.2]
    have HR : Hid _ := Rn.refl h (Below.refl _ w)
    clear hl hq HE h
    go_enter Try.func21, Try.ntmps21
    go_wp2_with fail
    refine hc.mono ?_
    rintro e w1 ⟨rfl, rfl⟩
    clear hc
    go_wp2_with fail
    go_ret
    exact ⟨rfl, HR.out⟩
  | some j =>
    obtain ⟨hj0, hj1, hj2, _, hj4⟩ := plF_some hq
    have hj : j < L.length := by simpa using hj0
    rw [hq] at hc
    simp only at hc
    have hse : synE (L.map Prod.fst) k = 0 := by simp [synE, hj2]
    rw [hse]
    obtain ⟨g, hA, y0, y1, y2⟩ := h.at j hj
    subst hA
    have hbs := h.bs _ (List.getElem_mem hj)
    have hfit := (h.fits _ (List.getElem_mem hj)).2
    obtain ⟨A3, C3, hv3⟩ := owns_formN hbs
    obtain ⟨p, hp⟩ : ∃ p : Fv, p = L[j]'hj := ⟨_, rfl⟩
    have hsr : synR (L.map Prod.fst) k = (L.set j (⟨p.1.nm, p.1.b, p.1.b.length⟩, p.2)).map Prod.fst := by
      rw [hp]
      simp only [synR, hj2, List.getElem_map]
      rw [hj4 _ (by rw [← hj1, List.getElem_map]), List.map_set]
    have hfr := h.frz (j * 3 + 2)
    have hgr : ¬ g = r := h.row_ne (g := g) rfl
    have hrg : ¬ r = g := fun e => hgr e.symm
    have HE : Hid (Rn base r room (.slice (some ⟨g, 0, none⟩) L.length C1) L w (w.setCell ⟨g, j * 3 + 2, none⟩ (.int .i64 (p.1.b.length : Int))) (synR (L.map Prod.fst) k)) := by
      rw [Hid, hsr]
      have c : Chg (fun k => k = g ∨ w.heap.size ≤ k) w (w.setCell ⟨g, j * 3 + 2, none⟩ (.int .i64 (p.1.b.length : Int))) := Chg.setCell w ⟨g, j * 3 + 2, none⟩ _ (.inl rfl)
      have hne := fun {g' : Nat} => h.bs_ne (g := g') (List.getElem_mem hj)
      have := h.set_of j (⟨p.1.nm, p.1.b, p.1.b.length⟩, p.2) c rfl (by rw [cel_set2 hj (by rw [hp]) (by rw [hp])]; exact owns_set h.row _ _)
        (by
          rw [← hp] at hbs hne
          exact owns_keepN hbs (Chg.setCell (S := fun k => k = g) w ⟨g, j * 3 + 2, none⟩ _ rfl) fun k hk e => hne hk (.inr (by rw [e]; rfl)))
        ⟨Nat.le_refl _, by rw [hp]; exact hfit⟩
      exact ⟨_, _, rfl, this.1, this.2, fun g hg => .inl hg, Fresh.set j (fun g hg => .inl ⟨L[j]'hj, List.getElem_mem hj, by rw [← hp]; exact hg⟩)⟩
    rw [← hp] at y0 y1 y2 hv3 hfit
    obtain ⟨q, pv⟩ := p
    simp only at y0 y1 y2 hv3 hfit HE
    subst hv3
    obtain ⟨N, hN⟩ : ∃ N, N = L.length := ⟨_, rfl⟩
    have hjN : j < N := by omega
    rw [← hN] at hc0 HE
    rw [← hN]
    obtain ⟨R, hR⟩ : ∃ R, R = synR (L.map Prod.fst) k := ⟨_, rfl⟩
    rw [← hR] at HE ⊢
    clear hse hsr hbs hj0 hj1 hj2 hj4 hq h hN hL y0 hj hp hR
    go_enter Try.func21, Try.ntmps21
    go_wp2_with fail
    refine hc.mono ?_
    rintro e w1 ⟨rfl, rfl⟩
    clear hc
    go_wp2_with fail
    have hS1 : (w1.setCell ⟨g, j * 3 + 2, none⟩ (.int .i64 (q.b.length : Int))).cell? ⟨r, 1, none⟩ = some (.slice (some ⟨g, 0, none⟩) N C1) ∧ (w1.setCell ⟨g, j * 3 + 2, none⟩ (.int .i64 (q.b.length : Int))).cell? ⟨g, j * 3 + 1, none⟩ = some (.slice A3 q.b.length C3) :=
      ⟨by rw [World.cell?_setCell_far _ _ _ _ hgr]; exact hc0, cell_set_ne y1 (by omega)⟩
    go_region_held3 (fun w' => w'.cell? ⟨r, 1, none⟩ = some (.slice (some ⟨g, 0, none⟩) N C1) ∧ w'.cell? ⟨g, j * 3 + 1, none⟩ = some (.slice A3 q.b.length C3))
      (first | exact ⟨hc0, y1⟩ | exact hS1 | go_keep)
      (fail)
    go_wp2_with fail
    go_ret
    exact ⟨rfl, HE.out.later (Below.refl _ _).drew⟩
end Go.Proofs.Ytndjlnlmlgimlaa
