/- What Scan holds between two frames: a row of deeds, a row of ends, the last zxid, how far it is. -/
import Derived.Test.YtogikhondibifaaDoorSgA
import Derived.Test.YtogikhondibifaaDoorSgM
import Derived.Test.YtogikhondibifaaDoorSgR
namespace Go.Proofs.YtogikhondibifaaDoor.DD
set_option linter.unusedVariables false
open Go.RowKit
set_option linter.unusedVariables false

structure El2 where
  p : It
  A1 : Option Addr
  c1 : Nat
  A2 : Option Addr
  c2 : Nat
  A3 : Option Addr
  c3 : Nat
def ev2 (e : El2) : List Value := [.int .i64 e.p.1.zxid, .int .u8 e.p.1.kind, .int .i64 e.p.1.session, .int .i64 e.p.1.turn, .int .i64 e.p.1.xid, .int .i64 e.p.1.time, .string (mkS e.p.1.path), .slice e.A1 e.p.1.data.length e.c1, .int .i64 e.p.1.owner, .int .i64 e.p.1.version, .int .i64 e.p.1.cversion, .int .i64 e.p.1.timeout, .int .i64 e.p.1.err, .int .i64 e.p.1.cver, .slice e.A2 e.p.1.mems.length e.c2, .slice e.A3 e.p.1.np e.c3]
def evd2 (l : List El2) : List Value := (l.map ev2).flatten
theorem ev2_len (e : El2) : (ev2 e).length = 16 := rfl
theorem ev2_one (e : El2) : ∀ u ∈ ev2 e, u.oneCell' = true := by
  intro u hu
  simp only [ev2, List.mem_cons, List.not_mem_nil, or_false] at hu
  rcases hu with rfl | rfl | rfl | rfl | rfl | rfl | rfl | rfl | rfl | rfl | rfl | rfl | rfl | rfl | rfl | rfl <;> rfl
theorem evd2_app (a : List El2) (e : El2) : evd2 (a ++ [e]) = evd2 a ++ ev2 e := by simp [evd2]
theorem evd2_at : ∀ (l : List El2) (j : Nat) (h : j < l.length) (i : Nat) (hi : i < 16), (evd2 l)[j * 16 + i]? = (ev2 (l[j]'h))[i]?
  | [], j, h, _, _ => by simp at h
  | e :: l, 0, h, i, hi => by
    show (ev2 e ++ evd2 l)[0 * 16 + i]? = _
    rw [Nat.zero_mul, Nat.zero_add, List.getElem?_append_left (by rw [ev2_len]; exact hi)]
    rfl
  | e :: l, j + 1, h, i, hi => by
    show (ev2 e ++ evd2 l)[(j + 1) * 16 + i]? = _
    rw [List.getElem?_append_right (by rw [ev2_len]; omega), ev2_len, show (j + 1) * 16 + i - 16 = j * 16 + i by omega, evd2_at l j (by simpa using h) i hi]
    rfl
abbrev DV (w : World) (e : El2) : Prop := DVal w e.p.1 e.p.2 e.A1 e.c1 e.A2 e.c2 e.A3 e.c3
/- A deed that was got: what it reaches lies in D, apart from the blocks rb that are written. -/
def EAt (W : World) (rb : Nat → Prop) (e : El2) : Prop :=
  ∃ D : Nat → Prop, (∀ k, D k → k < W.heap.size ∧ ¬ rb k) ∧ ∀ (w'' : World) (S : Nat → Prop), Chg S W w'' → (∀ k, D k → ¬ S k) → DV w'' e
theorem EAt.keep {W W' : World} {rb rb' S : Nat → Prop} {e : El2} (h : EAt W rb e) (hc : Chg S W W') (hs : ∀ k, k < W.heap.size → ¬ rb k → ¬ S k ∧ ¬ rb' k) : EAt W' rb' e := by
  obtain ⟨D, h1, h2⟩ := h
  refine ⟨D, fun k hk => ⟨Nat.lt_of_lt_of_le (h1 k hk).1 hc.size, (hs k (h1 k hk).1 (h1 k hk).2).2⟩, fun w'' S' hc' hs' => h2 w'' (fun k => S k ∨ S' k) ((hc.weak (fun _ _ e => .inl e)).trans (hc'.weak (fun _ _ e => .inr e))) (fun k hk e => ?_)⟩
  rcases e with e | e
  · exact (hs k (h1 k hk).1 (h1 k hk).2).1 e
  · exact hs' k hk e
theorem EAt.val {W : World} {rb : Nat → Prop} {e : El2} (h : EAt W rb e) : DV W e := by
  obtain ⟨D, h1, h2⟩ := h
  exact h2 W Non (Chg.refl _ _) (fun _ _ e => e)
theorem EAt.new {W w1 : World} {rb : Nat → Prop} {e : El2} (hf : ∀ (w'' : World) (S : Nat → Prop), Chg S w1 w'' → (∀ k, W.heap.size ≤ k → ¬ S k) → DV w'' e) (hrb : ∀ k, rb k → k < W.heap.size ∨ w1.heap.size ≤ k) : EAt w1 rb e := by
  refine ⟨fun k => W.heap.size ≤ k ∧ k < w1.heap.size, fun k hk => ⟨hk.2, fun e => by have := hrb k e; omega⟩, fun w'' S hc hs => hf w'' (fun k => S k ∧ k < w1.heap.size) ⟨hc.os, hc.tape, hc.output, hc.size, fun k hk hn => hc.block k hk (fun e => hn ⟨e, hk⟩)⟩ (fun k hk e => hs k ⟨hk, e.2⟩ e.1)⟩
def RB (N : Nat) (vd ve : Value) (k : Nat) : Prop := (N ≤ k ∧ k < N + 7) ∨ vd.ownBlock = some k ∨ ve.ownBlock = some k
def nI (n : Nat) : Value := .int .i64 n

structure Sc (l : List UInt8) (N t : Nat) (its : List It) (els : List El2) (vd ve : Value) (W : World) : Prop where
  el : els.map El2.p = its
  bd : Boxed W N 35 vd
  be : Boxed W (N + 1) 39 ve
  rd : W.ownsRow (N + 7) 37 16 vd its.length (evd2 els)
  re : W.ownsRow (N + 7) 3 1 ve its.length ((endsF 0 its).map nI)
  at' : ∀ e ∈ els, EAt W (RB N vd ve) e
  la : Boxed W (N + 2) 24 (.int .i64 (lastZ 0 its))
  too : Boxed W (N + 3) 3 (.int .i64 t)
  tt : t = (catI its).length
  tl : t ≤ l.length
  sc : scanF l 0 = its ++ scanF (l.drop t) (lastZ 0 its)
theorem boxed_chg {S : Nat → Prop} {W W' : World} {B : Nat} {T : TypeId} {v : Value} (h : Boxed W B T v) (hc : Chg S W W') (hn : ¬ S B) : Boxed W' B T v := (hc.block B h.lt hn).trans h
/- It abides a change of blocks that it has not. -/
theorem Sc.keep {l : List UInt8} {N t : Nat} {its : List It} {els : List El2} {vd ve : Value} {W W' : World} {S : Nat → Prop} (h : Sc l N t its els vd ve W) (hc : Chg S W W') (hs : ∀ k, k < W.heap.size → S k → N + 4 ≤ k ∧ RB N vd ve k ∧ vd.ownBlock ≠ some k ∧ ve.ownBlock ≠ some k) : Sc l N t its els vd ve W' := by
  have hb : ∀ j, j < 4 → N + j < W.heap.size → ¬ S (N + j) := fun j hj hl e => by have := (hs _ hl e).1; omega
  refine ⟨h.el, boxed_chg h.bd hc (hb 0 (by omega) h.bd.lt), boxed_chg h.be hc (hb 1 (by omega) h.be.lt), owns_keep h.rd hc (fun k hk e => (hs k (h.rd.lt k hk).2 e).2.2.1 hk), owns_keep h.re hc (fun k hk e => (hs k (h.re.lt k hk).2 e).2.2.2 hk), fun e he => (h.at' e he).keep hc (fun k hk hn => ⟨fun e => hn (hs k hk e).2.1, hn⟩), boxed_chg h.la hc (hb 2 (by omega) h.la.lt), boxed_chg h.too hc (hb 3 (by omega) h.too.lt), h.tt, h.tl, h.sc⟩
theorem own_cells {W : World} {base T size n : Nat} {v : Value} {xs : List Value} (h : W.ownsRow base T size v n xs) {k : Nat} (hk : v.ownBlock = some k) : ∃ cur, W.heap[k]? = some (.cells cur T (0, 0)) := by
  rcases h.2 with ⟨rfl, _⟩ | ⟨g, cap, cur, rfl, _, hg, _⟩
  · cases hk
  · cases hk
    exact ⟨cur, hg⟩
theorem Sc.more {l : List UInt8} {N t : Nat} {its : List It} {els : List El2} {vd ve : Value} {W W' : World} (h : Sc l N t its els vd ve W) (hb : Below W.heap.size W W') : Sc l N t its els vd ve W' := h.keep (Chg.of_below hb) (fun _ _ e => e.elim)
theorem Sc.put {l : List UInt8} {N t b : Nat} {its : List It} {els : List El2} {vd ve : Value} {W : World} (h : Sc l N t its els vd ve W) {o : Obj} (o' : Obj) (hb : N + 4 ≤ b) (hb' : b < N + 7) (ho : W.heap[b]? = some o) (hcc : o.isCells = false) : Sc l N t its els vd ve (W.putObj b o') := by
  have hc : Chg (fun k => k = b) W (W.putObj b o') := (Chg.of_grown (grownBy_putObj' W b o')).weak (fun k _ e => by cases e; rfl)
  refine h.keep hc (fun k hk e => ?_)
  subst e
  refine ⟨hb, .inl ⟨by omega, hb'⟩, fun e => ?_, fun e => ?_⟩
  · obtain ⟨cur, hg⟩ := own_cells h.rd e
    rw [hg] at ho; cases ho; cases hcc
  · obtain ⟨cur, hg⟩ := own_cells h.re e
    rw [hg] at ho; cases ho; cases hcc
theorem Sc.apart {l : List UInt8} {N t : Nat} {its : List It} {els : List El2} {vd ve : Value} {W : World} (h : Sc l N t its els vd ve W) (k : Nat) (h1 : vd.ownBlock = some k) : ve.ownBlock ≠ some k := by
  intro h2
  obtain ⟨c1, g1⟩ := own_cells h.rd h1
  obtain ⟨c2, g2⟩ := own_cells h.re h2
  rw [g1] at g2
  cases g2
end Go.Proofs.YtogikhondibifaaDoor.DD
