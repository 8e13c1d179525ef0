/- What holds while rows are marked. -/
import Derived.Test.YtbehainbggdpeaaGreatBgB
namespace Go.Proofs.YtbehainbggdpeaaGreat
namespace AN
open Go.RowKit


/-- The mark of place i in list k; the first c of them. -/
def M (k i : Nat) : Int := mb (1000003 * ((k : Int) + 7) + (i : Int))
def MK (k c : Nat) : List Int := (List.range c).map (M k)
theorem MK_len (k c : Nat) : (MK k c).length = c := by simp [MK]
theorem MK_succ (k c : Nat) : MK k (c + 1) = MK k c ++ [M k c] := by simp [MK, List.range_succ]
theorem MK_get (k c i : Nat) (h : i < c) : (MK k c).getD i 0 = M k i := by simp [MK, h]
theorem MK_take (k c d : Nat) (h : c ≤ d) : (MK k d).take c = MK k c := by
  simp [MK, ← List.map_take, List.take_range, Nat.min_eq_left h]

/-- How the lists lie: m lists, list k at a k with n k numbers and room for c k; G is the block that tells them; all lie below H, apart from each other. -/
structure Lay (H G m : Nat) (a : Nat → Option Addr) (n c : Nat → Nat) : Prop where
  hm : m ≤ 1000
  hn : ∀ k, k < m → n k ≤ 2000000
  hG : G < H
  lt : ∀ k g, k < m → a k = some ⟨g, 0, none⟩ → g < H ∧ g ≠ G
  ne : ∀ j k g, j < m → k < m → j ≠ k → a j = some ⟨g, 0, none⟩ → a k ≠ some ⟨g, 0, none⟩

/-- Of what was there before, only the lists' own blocks have turned. -/
structure Chg (m : Nat) (a : Nat → Option Addr) (w w' : World) : Prop where
  os : w'.os = w.os
  tape : w'.tape = w.tape
  output : w'.output = w.output
  size : w.heap.size ≤ w'.heap.size
  block : ∀ b, b < w.heap.size → (∀ k, k < m → a k ≠ some ⟨b, 0, none⟩) → w'.heap[b]? = w.heap[b]?
theorem Chg.refl (m : Nat) (a : Nat → Option Addr) (w : World) : Chg m a w w := ⟨rfl, rfl, rfl, Nat.le_refl _, fun _ _ _ => rfl⟩
theorem Chg.none {m : Nat} {a : Nat → Option Addr} {w w1 w2 : World} (h : Chg m a w w1) (g : w1.grownBy w2 Option.none) : Chg m a w w2 :=
  ⟨g.os.trans h.os, g.tape.trans h.tape, g.output.trans h.output, Nat.le_trans h.size g.size, fun b hb hk => (g.block b (Nat.lt_of_lt_of_le hb h.size) (by simp)).trans (h.block b hb hk)⟩
theorem Chg.row {m : Nat} {a : Nat → Option Addr} {w w1 w2 : World} {k x : Nat} (h : Chg m a w w1) (g : w1.grownBy w2 (some x)) (hk : k < m) (hx : a k = some ⟨x, 0, Option.none⟩) : Chg m a w w2 :=
  ⟨g.os.trans h.os, g.tape.trans h.tape, g.output.trans h.output, Nat.le_trans h.size g.size, fun b hb hj => (g.block b (Nat.lt_of_lt_of_le hb h.size) (by intro e; simp at e; subst e; exact hj k hk hx)).trans (h.block b hb hj)⟩
theorem Chg.new {m : Nat} {a : Nat → Option Addr} {w w1 w2 : World} {x : Nat} (h : Chg m a w w1) (g : w1.grownBy w2 (some x)) (hx : w.heap.size ≤ x) : Chg m a w w2 :=
  ⟨g.os.trans h.os, g.tape.trans h.tape, g.output.trans h.output, Nat.le_trans h.size g.size, fun b hb hj => (g.block b (Nat.lt_of_lt_of_le hb h.size) (by intro e; simp at e; omega)).trans (h.block b hb hj)⟩

section
variable {H G m : Nat} {a : Nat → Option Addr} {n c : Nat → Nat}
def Outer (G m : Nat) (a : Nat → Option Addr) (n c : Nat → Nat) (w : World) : Prop := ∀ k, k < m → w.cell? ⟨G, k, none⟩ = some (.slice (a k) (n k) (c k))
theorem Outer.keep {w w' : World} {r : Option Nat} (h : Outer G m a n c w) (g : w.grownBy w' r) (hr : r ≠ some G) : Outer G m a n c w' := fun k hk => g.cell (h k hk) (fun e => hr e.symm)

/-- Phase 1: the lists below k are marked; of list k the first i places. -/
structure In1 (m G : Nat) (a : Nat → Option Addr) (n c : Nat → Nat) (w0 w : World) (k i : Nat) : Prop where
  out : Outer G m a n c w
  done : ∀ j, j < m → j < k → R w (a j) (n j) (c j) (MK j (n j))
  rest : ∀ j, j < m → k ≤ j → ∃ l, R w (a j) (n j) (c j) l
  here : k < m → ∃ l, R w (a k) (n k) (c k) l ∧ l.take i = MK k i
  chg : Chg m a w0 w
theorem In1.step {w0 w w' : World} {k i g : Nat} (L : Lay H G m a n c) (h : In1 m G a n c w0 w k i) (hk : k < m) (hi : i < n k) (ha : a k = some ⟨g, 0, none⟩) (hw : w' = w.setCell ⟨g, i, none⟩ (.int .i64 (M k i))) : In1 m G a n c w0 w' k (i + 1) := by
  have hg : w.grownBy w' (some g) := by rw [hw]; exact grownBy_set _ _ _ _
  have hgG := (L.lt k g hk ha).2
  have keep : ∀ j, j < m → j ≠ k → ∀ l, R w (a j) (n j) (c j) l → R w' (a j) (n j) (c j) l := by
    intro j hj hjk l hl
    refine hl.kept hg ?_
    intro g' hg' e
    simp at e
    subst e
    exact L.ne j k _ hj hk hjk hg' ha
  obtain ⟨l, hl, ht⟩ := h.here hk
  have hlen := hl.len
  have hnew : R w' (a k) (n k) (c k) (l.set i (M k i)) := by
    rw [hw]; rw [ha] at hl ⊢; exact hl.set i _
  refine ⟨h.out.keep hg (by simpa using hgG), fun j hj hjk => keep j hj (by omega) _ (h.done j hj hjk), ?_, fun _ => ⟨_, hnew, ?_⟩, h.chg.row hg hk ha⟩
  · intro j hj hkj
    by_cases e : j = k
    · subst e; exact ⟨_, hnew⟩
    · obtain ⟨l', hl'⟩ := h.rest j hj hkj
      exact ⟨l', keep j hj e _ hl'⟩
  · rw [MK_succ, ← ht, List.take_succ_eq_append_getElem (by simp; omega), List.take_set, List.set_eq_of_length_le (by simp; omega)]
    simp
theorem In1.next {w0 w : World} {k i : Nat} (h : In1 m G a n c w0 w k i) (hk : k < m) (hi : n k ≤ i) : In1 m G a n c w0 w (k + 1) 0 := by
  obtain ⟨l, hl, ht⟩ := h.here hk
  have hlen := hl.len
  have e : l = MK k (n k) := by
    have : l.take i = l := List.take_of_length_le (by omega)
    rw [this] at ht
    have h2 : i = n k := by have := congrArg List.length ht; rw [MK_len] at this; omega
    rw [ht, h2]
  refine ⟨h.out, ?_, fun j hj hkj => h.rest j hj (by omega), fun h1 => ?_, h.chg⟩
  · intro j hj hjk
    by_cases e2 : j = k
    · subst e2; rw [← e]; exact hl
    · exact h.done j hj (by omega)
  · obtain ⟨l', hl'⟩ := h.rest (k + 1) h1 (by omega)
    exact ⟨l', hl', by simp [MK]⟩
theorem In1.begin {w : World} (ho : Outer G m a n c w) (hr : ∀ j, j < m → ∃ l, R w (a j) (n j) (c j) l) : In1 m G a n c w w 0 0 := by
  refine ⟨ho, fun j _ h => absurd h (by omega), fun j hj _ => hr j hj, fun h => ?_, Chg.refl _ _ _⟩
  obtain ⟨l, hl⟩ := hr 0 h
  exact ⟨l, hl, by simp [MK]⟩
theorem In1.alike {w0 w : World} {k i : Nat} (h : In1 m G a n c w0 w k i) (q : Nat) : In1 m G a n c w0 (w.drewN q) k i :=
  ⟨h.out, h.done, h.rest, h.here, ⟨h.chg.os, h.chg.tape, h.chg.output, h.chg.size, h.chg.block⟩⟩
end
theorem markC (k i : Nat) (w : World) (hk : k < 1000000) (hi : i < 1000000000) :
    Calls Tryz.prog 57 #[.int .i64 (k : Int), .int .i64 (i : Int)] w fun e w' => e = .returned (.int .i64 (M k i)) ∧ w' = w := markB_any k i w (by omega) (by omega) (by omega) (by omega)
end AN
end Go.Proofs.YtbehainbggdpeaaGreat
