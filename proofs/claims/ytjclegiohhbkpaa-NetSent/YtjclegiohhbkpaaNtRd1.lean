/- The document's net: its links. -/
import Derived.Test.YtjclegiohhbkpaaNtRb
namespace Go.Proofs.Ytjclegiohhbkpaa
open Go.RowKit Go.MapKept

/- Where a link goes in: behind those that are less. -/
def posK (x : Int × Int) : List (Int × Int) → Nat
  | [] => 0
  | y :: l => if ltK y x then posK x l + 1 else 0
theorem posK_le (x : Int × Int) : ∀ l, posK x l ≤ l.length
  | [] => Nat.le_refl _
  | y :: l => by
    unfold posK
    split
    · have := posK_le x l; simp; omega
    · simp
theorem posK_of (x : Int × Int) : ∀ (l : List (Int × Int)) (t : Nat), (∀ s (h : s < l.length), s < t → ltK (l[s]'h) x) → t ≤ l.length → (∀ h : t < l.length, ¬ ltK (l[t]'h) x) → posK x l = t
  | [], t, _, h2, _ => by simp at h2; simp [posK, h2]
  | y :: l, t, h1, h2, h3 => by
    unfold posK
    cases t with
    | zero =>
      have h3' : ¬ ltK y x := h3 (by simp)
      rw [if_neg h3']
    | succ t =>
      have h1' : ltK y x := h1 0 (by simp) (by omega)
      rw [if_pos h1', posK_of x l t (fun s h hs => by have := h1 (s + 1) (by simpa using h) (by omega); simpa using this) (by simpa using h2) (fun h => by have := h3 (by simpa using h); simpa using this)]
theorem insK_pos (x : Int × Int) : ∀ (l : List (Int × Int)), insK x l = if (∃ h : posK x l < l.length, (l[posK x l]'h) = x) then l else l.take (posK x l) ++ [x] ++ l.drop (posK x l)
  | [] => by simp [insK, posK]
  | y :: l => by
    unfold insK
    by_cases h : ltK y x
    · have hp : posK x (y :: l) = posK x l + 1 := by rw [posK, if_pos h]
      rw [if_pos h, insK_pos x l]
      simp only [hp]
      by_cases he : ∃ h : posK x l < l.length, (l[posK x l]'h) = x
      · rw [if_pos he, if_pos (by obtain ⟨h1, h2⟩ := he; exact ⟨by simpa using h1, by simpa using h2⟩)]
      · rw [if_neg he, if_neg (by rintro ⟨h1, h2⟩; exact he ⟨by simpa using h1, by simpa using h2⟩)]
        simp
    · have hp : posK x (y :: l) = 0 := by rw [posK, if_neg h]
      rw [if_neg h]
      simp only [hp]
      by_cases he : y = x
      · rw [if_pos he, if_pos ⟨by simp, by simpa using he⟩]
      · rw [if_neg he, if_neg (by rintro ⟨_, h2⟩; exact he (by simpa using h2))]
        simp
theorem links_snoc (l : List Pk) (p : Pk) : linksOf (l ++ [p]) = insK p.1 (linksOf l) := by
  unfold linksOf; rw [List.foldl_append]; rfl
/- A row of links in the making: where it lies, what it holds, and that the old row of links and the link's box are as they were. -/
structure Mk (w w1 : World) (g2 : Nat) (cur2 : Array Value) (x : Int × Int) (v : Value) (l : List (Int × Int)) (wx : World) : Prop where
  own : wx.ownsRow w.heap.size 56 2 v l.length (l.flatMap encK)
  new : ∀ k, blk v = some k → w1.heap.size < k
  old : wx.heap[g2]? = some (.cells cur2 56 (0, 0))
  box : wx.heap[w1.heap.size]? = some (.cells #[.int .i64 x.1, .int .i64 x.2] 56 (0, 0))
  bel : Below w.heap.size w wx
  sz : w1.heap.size < wx.heap.size
theorem Mk.get {w w1 wx : World} {g2 : Nat} {cur2 : Array Value} {x : Int × Int} {v : Value} {l : List (Int × Int)} (h : Mk w w1 g2 cur2 x v l wx) : wx.cell? ⟨w1.heap.size, 0, none⟩ = some (.int .i64 x.1) ∧ wx.cell? ⟨w1.heap.size, 1, none⟩ = some (.int .i64 x.2) := by
  constructor
  · rw [cell_at h.box]; rfl
  · rw [cell_at h.box]; rfl
/- More links behind it. -/
theorem Mk.app {w w1 wx wy : World} {g2 : Nat} {cur2 : Array Value} {x : Int × Int} {A B : Option Addr} {n m C D : Nat} {l l2 : List (Int × Int)} {xs : List Value} (h : Mk w w1 g2 cur2 x (.slice A n C) l wx) (hb : w.heap.size ≤ w1.heap.size) (hg2 : g2 < w1.heap.size)
    (ho : wy.ownsRow w.heap.size 56 2 (.slice B m D) m xs) (hm : m = (l ++ l2).length) (hx : xs = (l ++ l2).flatMap encK) (hg : wx.grownBy wy (blk (.slice A n C))) (hl : blk (.slice B m D) = blk (.slice A n C) ∨ blk (.slice B m D) = some wx.heap.size) :
    Mk w w1 g2 cur2 x (.slice B m D) (l ++ l2) wy := by
  have hs := h.sz
  refine ⟨by rw [← hm, ← hx]; exact ho, fun k hk => ?_, ?_, ?_, ?_, Nat.lt_of_lt_of_le h.sz hg.size⟩
  · rcases hl with e | e
    · exact h.new k (e.symm.trans hk)
    · have e' : some wx.heap.size = some k := e.symm.trans hk
      cases e'; exact hs
  · rw [hg.block g2 (heap_lt h.old) (fun e => by have := h.new g2 e.symm; omega)]; exact h.old
  · rw [hg.block _ (heap_lt h.box) (fun e => by have := h.new _ e.symm; omega)]; exact h.box
  · exact h.bel.trans ((Chg.of_grown hg).below (fun k hk => by have := h.new k hk; omega) h.bel.size)
theorem Mk.alloc {w w1 wx : World} {g2 : Nat} {cur2 : Array Value} {x : Int × Int} {v : Value} {l : List (Int × Int)} (h : Mk w w1 g2 cur2 x v l wx) (o : Obj) : Mk w w1 g2 cur2 x v l (wx.alloc o) :=
  ⟨h.own.alloc o, h.new, by rw [Below.heap_alloc _ _ _ (heap_lt h.old)]; exact h.old, by rw [Below.heap_alloc _ _ _ (heap_lt h.box)]; exact h.box, h.bel.alloc h.bel.size o, by simp; exact Nat.lt_succ_of_lt h.sz⟩
/- The cells of a part of a row of links. -/
theorem encK_len (O : List (Int × Int)) : (O.flatMap encK).length = O.length * 2 := by rw [← flat_list]; simp
theorem encK_drop (O : List (Int × Int)) (d : Nat) : (O.drop d).flatMap encK = (O.flatMap encK).drop (d * 2) := by
  induction d generalizing O with
  | zero => simp
  | succ d ih =>
    cases O with
    | nil => simp
    | cons x O =>
      rw [List.drop_succ_cons, ih, List.flatMap_cons, show (d + 1) * 2 = 2 + d * 2 by omega, ← List.drop_drop]
      rfl
theorem encK_take (O : List (Int × Int)) (d : Nat) : (O.take d).flatMap encK = (O.flatMap encK).take (d * 2) := by
  induction d generalizing O with
  | zero => simp
  | succ d ih =>
    cases O with
    | nil => simp
    | cons x O =>
      rw [List.take_succ_cons, List.flatMap_cons, ih, List.flatMap_cons, show (d + 1) * 2 = (encK x).length + d * 2 by simp [encK]; omega, List.take_length_add_append]
theorem part_cells {wx : World} {g2 : Nat} {cur2 : Array Value} {O : List (Int × Int)} (hg : wx.heap[g2]? = some (.cells cur2 56 (0, 0))) (ht : cur2.toList.take (O.length * 2) = O.flatMap encK) (d : Nat) {P : List Value} (hP : ∀ t u, P[t]? = some u → (O.flatMap encK)[d * 2 + t]? = some u) :
    ∀ t u, P[t]? = some u → wx.cell? ((⟨g2, d * 2, none⟩ : Addr).add t) = some u := by
  intro t u hu
  have h1 := hP t u hu
  rw [← ht, List.getElem?_take] at h1
  split at h1
  · rw [show (⟨g2, d * 2, none⟩ : Addr).add t = ⟨g2, d * 2 + t, none⟩ by simp only [Addr.add]; split <;> simp_all, cell_at hg, ← Array.getElem?_toList]
    exact h1
  · cases h1
theorem part_take {wx : World} {g2 : Nat} {cur2 : Array Value} {O : List (Int × Int)} (hg : wx.heap[g2]? = some (.cells cur2 56 (0, 0))) (ht : cur2.toList.take (O.length * 2) = O.flatMap encK) (d : Nat) :
    ∀ t u, ((O.take d).flatMap encK)[t]? = some u → wx.cell? ((⟨g2, 0, none⟩ : Addr).add t) = some u := by
  have := part_cells hg ht 0 (P := (O.take d).flatMap encK) (fun t u hu => by
    rw [encK_take, List.getElem?_take] at hu
    rw [Nat.zero_mul, Nat.zero_add]
    split at hu
    · exact hu
    · cases hu)
  simpa using this
theorem part_drop {wx : World} {g2 : Nat} {cur2 : Array Value} {O : List (Int × Int)} (hg : wx.heap[g2]? = some (.cells cur2 56 (0, 0))) (ht : cur2.toList.take (O.length * 2) = O.flatMap encK) (d : Nat) :
    ∀ t u, ((O.drop d).flatMap encK)[t]? = some u → wx.cell? ((⟨g2, d * 2, none⟩ : Addr).add t) = some u :=
  part_cells hg ht d (P := (O.drop d).flatMap encK) (fun t u hu => by
    rw [encK_drop, List.getElem?_drop] at hu
    exact hu)
theorem wpList_apprun {w w' : World} {ops : Array Oper} {rest : List Oper} {o : Oper} {a : Act} {Q : Exit → Act → World → Prop} (T : TypeId) (hgd : o.guard = none) (s x : Operand) (ho : o.op = .call { callee := .builtin .append, args := #[s, x], argTypes := #[T, T] })
    (vs vx v' : Value) (hs : a.eval s = vs) (hx : a.eval x = vx) (hrun : (Builtin.append_ #[T, T] o.type #[vs, vx]).run Try.prog w = .ok v' w') (h : wpList Try.prog ops Q rest (a.put o.dst v') w') : wpList Try.prog ops Q (o :: rest) a w := by
  refine wpList_plain hgd fun K hK => ?_
  unfold Oper.wp execOp
  simp only [ho, resolve, invoke, builtin, Sem.run_bind, Sem.run_pure, Result.andThen_ok, List.map_toArray, List.map_cons, List.map_nil, hs, hx, hrun]
  exact hK _ _ h
end Go.Proofs.Ytjclegiohhbkpaa
