/- What holds while rows are grown. -/
import Derived.Test.YtbehainbggdpeaaGreatBgV
namespace Go.Proofs.YtbehainbggdpeaaGreat
namespace AN
open Go.RowKit


def GSok (w : World) (GS m : Nat) : Prop := ∃ cs, w.heap[GS]? = some (.cells cs 31 (0, 0)) ∧ cs.size = m
theorem GSok.lt {w : World} {GS m : Nat} (h : GSok w GS m) : GS < w.heap.size := by
  obtain ⟨cs, h1, _⟩ := h
  rcases Nat.lt_or_ge GS w.heap.size with h2 | h2
  · exact h2
  · rw [Array.getElem?_eq_none h2] at h1; cases h1
theorem GSok.keep {w w' : World} {GS m : Nat} {r : Option Nat} (h : GSok w GS m) (g : w.grownBy w' r) (hr : r ≠ some GS) : GSok w' GS m := by
  have hl := h.lt
  obtain ⟨cs, h1, h2⟩ := h
  exact ⟨cs, by rw [g.block GS hl (fun e => hr e.symm)]; exact h1, h2⟩
theorem GSok.cell {w : World} {GS m : Nat} (h : GSok w GS m) (k : Nat) (hk : k < m) : ∃ v, w.cell? ⟨GS, k, none⟩ = some v := by
  obtain ⟨cs, h1, h2⟩ := h
  rw [cell_of_row w GS k _ _ _ h1]
  exact ⟨cs[k]'(by omega), by simp [h2, hk]⟩
theorem GSok.thaw {w : World} {GS m : Nat} (h : GSok w GS m) (k : Nat) : w.frozen? ⟨GS, k, none⟩ = false := by
  obtain ⟨cs, h1, _⟩ := h
  exact frozen_of_row w GS k _ _ h1
theorem GSok.set {w : World} {GS m : Nat} (h : GSok w GS m) (k : Nat) (v : Value) : GSok (w.setCell ⟨GS, k, none⟩ v) GS m := by
  obtain ⟨cs, h1, h2⟩ := h
  exact ⟨_, heap_setCell_same w GS k _ _ v h1, by simpa using h2⟩

section
variable {H G m GS : Nat} {a : Nat → Option Addr} {n c : Nat → Nat} {T : Nat → List Int → Prop} {w0 : World}

/-- Where a list that has grown may lie: where it lay, or in a block of its own. -/
def Pl (H GS Hk : Nat) (a : Nat → Option Addr) (j : Nat) (A : Option Addr) : Prop := A = a j ∨ ∃ b, A = some ⟨b, 0, none⟩ ∧ H ≤ b ∧ b ≠ GS ∧ b < Hk

structure In2 (H G m GS : Nat) (a : Nat → Option Addr) (n c : Nat → Nat) (T : Nat → List Int → Prop) (w0 w : World) (Hk k : Nat) : Prop where
  out : Outer G m a n c w
  rows : ∀ j, j < m → R w (a j) (n j) (c j) (MK j (n j))
  chg : Chg m a w0 w
  gs : GSok w GS m
  h1 : H ≤ GS
  h2 : GS < Hk
  h3 : Hk ≤ w.heap.size
  got : ∀ j, j < m → j < k → ∃ A C l, w.cell? ⟨GS, j, none⟩ = some (.slice A (n j + 64) C) ∧ R w A (n j + 64) C l ∧ T j l ∧ Pl H GS Hk a j A

theorem In2.up {w : World} {Hk k : Nat} (h : In2 H G m GS a n c T w0 w Hk k) : In2 H G m GS a n c T w0 w w.heap.size k :=
  ⟨h.out, h.rows, h.chg, h.gs, h.h1, Nat.lt_of_lt_of_le h.h2 h.h3, Nat.le_refl _, fun j hj hk => by
    obtain ⟨A, C, l, h1, h2, h4, h5⟩ := h.got j hj hk
    refine ⟨A, C, l, h1, h2, h4, ?_⟩
    rcases h5 with e | ⟨b, e, x, y, z⟩
    · exact .inl e
    · exact .inr ⟨b, e, x, y, Nat.lt_of_lt_of_le z h.h3⟩⟩

/-- Any step that writes block r alone (or nothing that was there), where r is neither G, nor GS, nor a block of a list that has grown; what becomes of the list in r is told. -/
theorem In2.step {w w' : World} {Hk k : Nat} {r : Option Nat} (_L : Lay H G m a n c) (h : In2 H G m GS a n c T w0 w Hk k) (g : w.grownBy w' r) (hG : r ≠ some G) (hGS : r ≠ some GS)
    (hrow : ∀ j, j < m → (∃ x, a j = some ⟨x, 0, none⟩ ∧ r = some x) → R w' (a j) (n j) (c j) (MK j (n j)))
    (hgot : ∀ j, j < m → j < k → ∀ x, r = some x → a j ≠ some ⟨x, 0, none⟩)
    (hnew : ∀ x, r = some x → x < H ∨ Hk ≤ x) (hchg : Chg m a w0 w') : In2 H G m GS a n c T w0 w' Hk k := by
  refine ⟨h.out.keep g hG, ?_, hchg, h.gs.keep g hGS, h.h1, h.h2, Nat.le_trans h.h3 g.size, ?_⟩
  · intro j hj
    by_cases e : ∃ x, a j = some ⟨x, 0, none⟩ ∧ r = some x
    · exact hrow j hj e
    · exact (h.rows j hj).kept g (fun x hx hr => e ⟨x, hx, hr⟩)
  · intro j hj hk
    obtain ⟨A, C, l, c1, c2, c3, c4⟩ := h.got j hj hk
    refine ⟨A, C, l, g.cell c1 (fun e => hGS e.symm), c2.kept g ?_, c3, c4⟩
    intro x hx hr
    rcases c4 with e | ⟨b, e, y1, y2, y3⟩
    · rw [e] at hx; exact hgot j hj hk x hr hx
    · rw [hx] at e
      simp only [Option.some.injEq, Addr.mk.injEq, and_true] at e
      subst e
      rcases hnew x hr with h' | h' <;> omega
theorem In2.none {w w' : World} {Hk k : Nat} (L : Lay H G m a n c) (h : In2 H G m GS a n c T w0 w Hk k) (g : w.grownBy w' Option.none) : In2 H G m GS a n c T w0 w' Hk k :=
  h.step L g (by simp) (by simp) (fun j _ ⟨x, _, e⟩ => by cases e) (fun j _ _ x e => by cases e) (fun x e => by cases e) (h.chg.none g)
/-- A step in a block of its own. -/
theorem In2.own {w w' : World} {Hk k x : Nat} (L : Lay H G m a n c) (hH : H = w0.heap.size) (h : In2 H G m GS a n c T w0 w Hk k) (g : w.grownBy w' (some x)) (hx : Hk ≤ x) : In2 H G m GS a n c T w0 w' Hk k := by
  have a1 := h.h1
  have a2 := h.h2
  have a3 := L.hG
  refine h.step L g (by simp; omega) (by simp; omega) ?_ ?_ ?_ (h.chg.new g (by omega))
  · rintro j hj ⟨y, e1, e2⟩
    simp at e2
    have := (L.lt j y hj e1).1
    omega
  · intro j hj _ y e1 e2
    simp at e1
    have := (L.lt j y hj e2).1
    omega
  · intro y e
    simp at e
    omega
/-- A step in list k's own block, behind its numbers. -/
theorem In2.inRow {w w' : World} {Hk k x : Nat} (L : Lay H G m a n c) (h : In2 H G m GS a n c T w0 w Hk k) (hk : k < m) (g : w.grownBy w' (some x)) (hx : a k = some ⟨x, 0, Option.none⟩) (hr : R w' (a k) (n k) (c k) (MK k (n k))) : In2 H G m GS a n c T w0 w' Hk k := by
  have a1 := h.h1
  obtain ⟨b1, b2⟩ := L.lt k x hk hx
  refine h.step L g (by simp; omega) (by simp; omega) ?_ ?_ (fun y e => by simp at e; omega) (h.chg.row g hk hx)
  · rintro j hj ⟨y, e1, e2⟩
    simp at e2
    subst e2
    by_cases e : j = k
    · subst e; exact hr
    · exact absurd hx (L.ne j k _ hj hk e e1)
  · intro j hj hjk y e1 e2
    simp at e1
    subst e1
    exact L.ne j k _ hj hk (by omega) e2 hx

/-- Appending to what began as list k. -/
theorem In2.app {w w2 : World} {Hk k N : Nat} {A A' : Option Addr} {C C' : Nat} {l news : List Int} (L : Lay H G m a n c) (hH : H = w0.heap.size) (h : In2 H G m GS a n c T w0 w Hk k) (hk : k < m)
    (hp : (A = a k ∧ C = c k) ∨ ∃ b, A = some ⟨b, 0, Option.none⟩ ∧ Hk ≤ b) (hN : n k ≤ N) (hl : l.take (n k) = MK k (n k)) (hll : n k ≤ l.length)
    (hr : R w2 A' N C' (l ++ news)) (ho : (∃ g, A = some ⟨g, 0, Option.none⟩ ∧ A' = A ∧ C' = C ∧ w.grownBy w2 (some g)) ∨ (A' = some ⟨w.heap.size, 0, Option.none⟩ ∧ w.grownBy w2 Option.none)) :
    In2 H G m GS a n c T w0 w2 Hk k ∧ ((A' = a k ∧ C' = c k) ∨ ∃ b, A' = some ⟨b, 0, Option.none⟩ ∧ Hk ≤ b) := by
  rcases ho with ⟨g, e1, e2, e3, hg⟩ | ⟨e1, hg⟩
  · subst e2 e3
    rcases hp with ⟨p1, p2⟩ | ⟨b, p1, p2⟩
    · subst p2
      refine ⟨h.inRow L hk hg (by rw [← p1]; exact e1) ?_, .inl ⟨p1, rfl⟩⟩
      rw [← p1]
      rw [e1] at hr ⊢
      have := hr.head hN
      rw [List.take_append_of_le_length hll, hl] at this
      exact this
    · rw [e1] at p1
      simp only [Option.some.injEq, Addr.mk.injEq, and_true] at p1
      subst p1
      exact ⟨h.own L hH hg p2, .inr ⟨g, e1, p2⟩⟩
  · exact ⟨h.none L hg, .inr ⟨_, e1, h.h3⟩⟩

/-- gs[k] is set. -/
theorem In2.put {w w' : World} {Hk k C : Nat} {A : Option Addr} {l : List Int} (L : Lay H G m a n c) (h : In2 H G m GS a n c T w0 w Hk k) (hH : H = w0.heap.size) (hk : k < m)
    (hp : (A = a k ∧ C = c k) ∨ ∃ b, A = some ⟨b, 0, Option.none⟩ ∧ Hk ≤ b) (hr : R w A (n k + 64) C l) (ht : T k l) (hw : w' = w.setCell ⟨GS, k, Option.none⟩ (.slice A (n k + 64) C)) :
    In2 H G m GS a n c T w0 w' w'.heap.size (k + 1) := by
  have g : w.grownBy w' (some GS) := by rw [hw]; exact grownBy_set _ _ _ _
  have a1 := h.h1
  have a2 := h.h2
  have a3 := L.hG
  have fresh : ∀ b, A = some ⟨b, 0, Option.none⟩ → b ≠ GS := by
    intro b e
    rcases hp with ⟨p1, _⟩ | ⟨b', p1, p2⟩
    · rw [p1] at e; have := (L.lt k b hk e).1; omega
    · rw [p1] at e; simp at e; omega
  have hR : R w' A (n k + 64) C l := hr.kept g (fun b e h' => by simp at h'; exact fresh b e h'.symm)
  have hP : Pl H GS w'.heap.size a k A := by
    rcases hp with ⟨p1, _⟩ | ⟨b, p1, p2⟩
    · exact .inl p1
    · obtain ⟨b', e, hb'⟩ := hR.pos (by omega)
      rw [p1] at e; simp at e; subst e
      exact .inr ⟨b, p1, by omega, by omega, hb'⟩
  refine ⟨h.out.keep g (by simp; omega), ?_, h.chg.new g (by omega), ?_, h.h1, Nat.lt_of_lt_of_le h.gs.lt g.size, Nat.le_refl _, ?_⟩
  · intro j hj
    refine (h.rows j hj).kept g (fun x e h' => ?_)
    have := (L.lt j x hj e).1
    simp at h'; omega
  · rw [hw]; exact h.gs.set _ _
  · intro j hj hjk
    by_cases e : j = k
    · subst e
      obtain ⟨v, hv⟩ := h.gs.cell j hj
      exact ⟨A, C, l, by rw [hw]; exact World.cell?_setCell_same _ _ _ hv, hR, ht, hP⟩
    · obtain ⟨A1, C1, l1, c1, c2, c3, c4⟩ := h.got j hj (by omega)
      refine ⟨A1, C1, l1, by rw [hw, World.cell?_setCell_other _ _ _ _ (fun h' => by cases h'; exact e rfl)]; exact c1, c2.kept g ?_, c3, ?_⟩
      · intro x e1 e2
        simp at e2
        rcases c4 with e3 | ⟨b, e3, y1, y2, y3⟩
        · rw [e3] at e1; have := (L.lt j x hj e1).1; omega
        · rw [e3] at e1
          cases e1
          exact y2 e2.symm
      · rcases c4 with e3 | ⟨b, e3, y1, y2, y3⟩
        · exact .inl e3
        · exact .inr ⟨b, e3, y1, y2, Nat.lt_of_lt_of_le y3 (Nat.le_trans h.h3 g.size)⟩
theorem In2.alike {w : World} {Hk k : Nat} (h : In2 H G m GS a n c T w0 w Hk k) (q : Nat) : In2 H G m GS a n c T w0 (w.drewN q) Hk k :=
  ⟨h.out, h.rows, ⟨h.chg.os, h.chg.tape, h.chg.output, h.chg.size, h.chg.block⟩, h.gs, h.h1, h.h2, h.h3, h.got⟩
/-- Anew from the first list on. -/
theorem In2.anew {w : World} {Hk k : Nat} {T' : Nat → List Int → Prop} (h : In2 H G m GS a n c T w0 w Hk k) : In2 H G m GS a n c T' w0 w Hk 0 :=
  ⟨h.out, h.rows, h.chg, h.gs, h.h1, h.h2, h.h3, fun j _ hk => absurd hk (by omega)⟩
end
end AN
end Go.Proofs.YtbehainbggdpeaaGreat
