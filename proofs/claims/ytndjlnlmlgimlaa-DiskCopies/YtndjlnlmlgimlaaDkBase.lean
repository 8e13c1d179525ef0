/- Rows of bytes in memory, what a call may have turned, and appending bytes to a row of one's own. -/
import Derived.Below
import Derived.WalkKit
import Derived.Maps.AppendAt
import Derived.Maps.RangeWalk
import Derived.Maps.OwnSet
import Derived.Laws.OwnMore
import Derived.Laws.IdiomStrings
import Derived.Lib.LazyBuf
import Derived.BigQuiet
import Derived.Deep.QuietTactic
import Derived.Test.YtndjlnlmlgimlaaProg
namespace Go.Proofs.Ytndjlnlmlgimlaa
open Go.RowKit

def mkS (l : List UInt8) : ByteArray := ⟨l.toArray⟩
def bv (l : List UInt8) : List Value := l.map fun x => .int .u8 x.toNat
theorem bv_len (l : List UInt8) : (bv l).length = l.length := by simp [bv]
theorem bv_app (a b : List UInt8) : bv (a ++ b) = bv a ++ bv b := by simp [bv]
theorem bv_one (l : List UInt8) : ∀ u ∈ bv l, u.oneCell' = true := by
  intro u hu
  obtain ⟨y, _, rfl⟩ := List.mem_map.1 hu
  rfl
/- The block of a slice. -/
abbrev blk (v : Value) : Option Nat := v.ownBlock
/- The block that a slice with elements lies in. -/
def bk : Value → Option Nat
  | .slice (some a) n _ => if n = 0 then none else some a.block
  | _ => none
theorem bk_blk {v : Value} {k : Nat} (h : bk v = some k) : blk v = some k := by
  unfold bk at h
  split at h
  · split at h
    · cases h
    · exact h
  · cases h
theorem bk_zero (A : Option Addr) (c k : Nat) : ¬ bk (.slice A 0 c) = some k := by
  intro h
  cases A <;> cases h
theorem bk_pos {a : Addr} {n c : Nat} (h : 0 < n) : bk (.slice (some a) n c) = some a.block := by
  show (if n = 0 then none else some a.block) = _
  rw [if_neg (by omega)]
/- The slice v holds the bytes l. -/
def Bs (w : World) (v : Value) (l : List UInt8) : Prop :=
  (v = .slice none 0 0 ∧ l = []) ∨ (∃ ad c, v = .slice (some ad) 0 c ∧ l = []) ∨ (0 < l.length ∧ ∃ b o c, v = .slice (some ⟨b, o, none⟩) l.length c ∧ l.length ≤ c ∧ b < w.heap.size ∧
    ∀ j (h : j < l.length), w.cell? ⟨b, o + j, none⟩ = some (.int .u8 ((l[j]'h).toNat : Int)))
/- What may have turned between two worlds: the blocks of S, and nothing else that was there. -/
structure Chg (S : Nat → Prop) (w w' : World) : Prop where
  os : w'.os = w.os
  tape : w'.tape = w.tape
  output : w'.output = w.output
  size : w.heap.size ≤ w'.heap.size
  block : ∀ k, k < w.heap.size → ¬ S k → w'.heap[k]? = w.heap[k]?
abbrev Non : Nat → Prop := fun _ => False
theorem Chg.refl (S : Nat → Prop) (w : World) : Chg S w w := ⟨rfl, rfl, rfl, Nat.le_refl _, fun _ _ _ => rfl⟩
theorem Chg.trans {S : Nat → Prop} {a b c : World} (h : Chg S a b) (k : Chg S b c) : Chg S a c :=
  ⟨k.os.trans h.os, k.tape.trans h.tape, k.output.trans h.output, Nat.le_trans h.size k.size, fun i hi hn => (k.block i (Nat.lt_of_lt_of_le hi h.size) hn).trans (h.block i hi hn)⟩
/- Blocks that are new since w do not count. -/
theorem Chg.weak {S S' : Nat → Prop} {w w' : World} (h : Chg S w w') (hs : ∀ k, k < w.heap.size → S k → S' k) : Chg S' w w' :=
  ⟨h.os, h.tape, h.output, h.size, fun k hk hn => h.block k hk fun e => hn (hs k hk e)⟩
theorem Chg.trans' {S S' : Nat → Prop} {a b c : World} (h : Chg S a b) (k : Chg S' b c) (hs : ∀ i, i < a.heap.size → S' i → S i) : Chg S a c :=
  ⟨k.os.trans h.os, k.tape.trans h.tape, k.output.trans h.output, Nat.le_trans h.size k.size, fun i hi hn => (k.block i (Nat.lt_of_lt_of_le hi h.size) fun e => hn (hs i hi e)).trans (h.block i hi hn)⟩
theorem Chg.below {S : Nat → Prop} {w w' : World} {B : Nat} (h : Chg S w w') (hs : ∀ k, S k → B ≤ k) (hB : B ≤ w.heap.size) : Below B w w' :=
  ⟨h.os, h.tape, h.output, h.size, fun k hk => h.block k (by omega) fun e => by have := hs k e; omega⟩
theorem Chg.of_below {w w' : World} (h : Below w.heap.size w w') : Chg Non w w' := ⟨h.os, h.tape, h.output, h.size, fun k hk _ => h.block k hk⟩
theorem Chg.of_grown {w w' : World} {r : Option Nat} (h : w.grownBy w' r) : Chg (fun k => r = some k) w w' := ⟨h.os, h.tape, h.output, h.size, fun k hk hn => h.block k hk fun e => hn e.symm⟩
theorem Chg.alloc (S : Nat → Prop) (w : World) (o : Obj) : Chg S w (w.alloc o) := ⟨rfl, rfl, rfl, by simp, fun k hk _ => Below.heap_alloc w o k hk⟩
theorem Chg.drew (S : Nat → Prop) (w : World) : Chg S w w.drew := ⟨rfl, rfl, rfl, Nat.le_refl _, fun _ _ _ => rfl⟩
theorem Chg.drewN (S : Nat → Prop) (w : World) (n : Nat) : Chg S w (w.drewN n) := ⟨rfl, rfl, rfl, by cases n <;> exact Nat.le_refl _, fun _ _ _ => by cases n <;> rfl⟩
theorem Chg.setCell {S : Nat → Prop} (w : World) (a : Addr) (u : Value) (h : S a.block) : Chg S w (w.setCell a u) :=
  ⟨rfl, rfl, rfl, by simp [World.setCell], fun k _ hn => Below.heap_setCell w a u k fun e => hn (e ▸ h)⟩
theorem Chg.lt_of {S : Nat → Prop} {w w' : World} (h : Chg S w w') {k : Nat} (hk : k < w.heap.size) : k < w'.heap.size := Nat.lt_of_lt_of_le hk h.size
theorem Chg.cell {S : Nat → Prop} {w w' : World} (h : Chg S w w') {a : Addr} (hl : a.block < w.heap.size) (hn : ¬ S a.block) : w'.cell? a = w.cell? a :=
  World.cell?_of_block (h.block _ hl hn)

theorem Bs.nil (w : World) : Bs w (.slice none 0 0) [] := .inl ⟨rfl, rfl⟩
theorem Bs.mk {w : World} {l : List UInt8} {n : Nat} (b o c : Nat) (hn : n = l.length) (h1 : l.length ≤ c) (h2 : b < w.heap.size) (h3 : ∀ j (h : j < l.length), w.cell? ⟨b, o + j, none⟩ = some (.int .u8 ((l[j]'h).toNat : Int))) :
    Bs w (.slice (some ⟨b, o, none⟩) n c) l := by
  subst hn
  by_cases h : 0 < l.length
  · exact .inr (.inr ⟨h, b, o, c, rfl, h1, h2, h3⟩)
  · have : l = [] := List.length_eq_zero_iff.1 (by omega)
    subst this
    exact .inr (.inl ⟨_, c, rfl, rfl⟩)
theorem Bs.keep {S : Nat → Prop} {w w' : World} {v : Value} {l : List UInt8} (h : Bs w v l) (hc : Chg S w w') (hn : ∀ k, bk v = some k → ¬ S k) : Bs w' v l := by
  rcases h with h | h | ⟨h0, b, o, c, rfl, h1, h2, h3⟩
  · exact .inl h
  · exact .inr (.inl h)
  · refine .inr (.inr ⟨h0, b, o, c, rfl, h1, hc.lt_of h2, fun j hj => ?_⟩)
    rw [hc.cell (a := ⟨b, o + j, none⟩) h2 (hn b (bk_pos h0))]
    exact h3 j hj
theorem Bs.lt {w : World} {v : Value} {l : List UInt8} (h : Bs w v l) {k : Nat} (hk : bk v = some k) : k < w.heap.size := by
  rcases h with ⟨rfl, _⟩ | ⟨ad, c, rfl, _⟩ | ⟨h0, b, o, c, rfl, _, h2, _⟩
  · exact absurd hk (bk_zero _ _ _)
  · exact absurd hk (bk_zero _ _ _)
  · rw [bk_pos h0] at hk; cases hk; exact h2
theorem Bs.alloc {w : World} {v : Value} {l : List UInt8} (h : Bs w v l) (o : Obj) : Bs (w.alloc o) v l := h.keep (Chg.alloc Non w o) (fun _ _ => id)
theorem Bs.drew {w : World} {v : Value} {l : List UInt8} (h : Bs w v l) : Bs w.drew v l := h.keep (Chg.drew Non w) (fun _ _ => id)
theorem Bs.setCell {w : World} {v : Value} {l : List UInt8} (h : Bs w v l) (a : Addr) (u : Value) (hn : bk v ≠ some a.block) : Bs (w.setCell a u) v l :=
  h.keep (Chg.setCell (S := fun k => k = a.block) w a u rfl) (fun k hk e => hn (by rw [hk, e]))
theorem Bs.of_owns {w : World} {base : Nat} {v : Value} {n : Nat} {l : List UInt8} (h : w.ownsRow base 5 1 v n (bv l)) : Bs w v l := by
  have hn : n = l.length := by have := h.1; rw [bv_len] at this; omega
  subst hn
  rcases h.2 with ⟨rfl, h0⟩ | ⟨g, cap, cur, rfl, hb, hg, hc, hm, hs, ht⟩
  · exact .inl ⟨rfl, List.length_eq_zero_iff.1 h0⟩
  · have hlt : g < w.heap.size := by
      rcases Nat.lt_or_ge g w.heap.size with hl | hl
      · exact hl
      · rw [Array.getElem?_eq_none hl] at hg; cases hg
    refine Bs.mk g 0 cap rfl hc hlt fun j hj => ?_
    have := h.cells (g := g) rfl j (.int .u8 ((l[j]'hj).toNat : Int)) (by simp [bv, hj])
    rw [show (⟨g, 0, none⟩ : Addr).add j = ⟨g, 0 + j, none⟩ by simp only [Addr.add]; split <;> simp_all] at this
    exact this
/- The bytes of a slice, as the law of append asks for them. -/
theorem Bs.news {w : World} {b o : Nat} {l : List UInt8} (h : ∀ j (h : j < l.length), w.cell? ⟨b, o + j, none⟩ = some (.int .u8 ((l[j]'h).toNat : Int))) :
    ∀ j u, (bv l)[j]? = some u → w.cell? ((⟨b, o, none⟩ : Addr).add j) = some u := by
  intro j u hu
  simp only [bv, List.getElem?_map] at hu
  obtain ⟨y, hy, rfl⟩ := Option.map_eq_some_iff.1 hu
  obtain ⟨hjl, rfl⟩ := List.getElem?_eq_some_iff.1 hy
  rw [show (⟨b, o, none⟩ : Addr).add j = ⟨b, o + j, none⟩ by simp only [Addr.add]; split <;> simp_all]
  exact h j hjl

theorem info5 : (Try.prog.info? 5).map (fun i => (i.zero, i.size, i.bytes)) = some (some (.int .u8 0), 1, 1) := by kernel_rfl

def Lim (n : Nat) : Prop := n ≤ 140737488355328
/- Bytes behind a row of one's own. -/
theorem app_bytes {w : World} {base : Nat} {v : Value} {l : List UInt8} {n : Nat} (ty : TypeId) (hown : w.ownsRow base 5 1 v n (bv l)) {x : Value} {news : List UInt8} (hx : Bs w x news)
    (hb : base ≤ w.heap.size) (hn : l.length + news.length ≤ 140737488355328) :
    ∃ v' w', (Builtin.append_ #[28, 28] ty #[v, x]).run Try.prog w = .ok v' w' ∧ w'.ownsRow base 5 1 v' (l ++ news).length (bv (l ++ news)) ∧ w.grownBy w' (blk v) ∧ (blk v' = blk v ∨ blk v' = some w.heap.size) ∧
      (v' = .slice none 0 0 ↔ v = .slice none 0 0 ∧ news = []) := by
  obtain ⟨i0, hi, hz0, hz1, hz2⟩ := info_parts info5
  have hn' : n = l.length := by have := hown.1; rw [bv_len] at this; omega
  subst hn'
  rcases hx with ⟨rfl, rfl⟩ | hx | ⟨_, b, o, c, rfl, h1, h2, h3⟩
  · refine ⟨v, w, run_append_owned_none (P := Try.prog) w base 28 ty 5 i0 1 Try.underlying28 hi v l.length (bv l) hown, ?_, ⟨rfl, rfl, rfl, Nat.le_refl _, fun _ _ _ => rfl⟩, .inl rfl, by simp⟩
    rw [List.append_nil]; exact hown
  · obtain ⟨ad, c, rfl, rfl⟩ := hx
    obtain ⟨v', w', hr, ho, hg, hn0, hl⟩ := run_append_own_at (P := Try.prog) w base 28 ty 5 i0 (.int .u8 0) 1 1 Try.underlying28 hi hz0 hz1 hz2 rfl (by decide) v l.length (bv l) hown ad 0 c (bv []) rfl (fun j u hu => by simp [bv] at hu) (bv_one [])
      (by unfold maxLen; omega) (by omega) hb
    refine ⟨v', w', hr, ?_, hg, hl, ?_⟩
    · rw [List.length_append, bv_app]; exact ho
    · rw [hn0]; simp
  · obtain ⟨v', w', hr, ho, hg, hn0, hl⟩ := run_append_own_at (P := Try.prog) w base 28 ty 5 i0 (.int .u8 0) 1 1 Try.underlying28 hi hz0 hz1 hz2 rfl (by decide) v l.length (bv l) hown ⟨b, o, none⟩ news.length c (bv news) (by rw [bv_len, Nat.mul_one]) (Bs.news h3) (bv_one news)
      (by unfold maxLen; omega) (by omega) hb
    refine ⟨v', w', hr, ?_, hg, hl, ?_⟩
    · rw [List.length_append, bv_app]; exact ho
    · rw [hn0, List.length_eq_zero_iff]
theorem owns_form {w : World} {base n : Nat} {v : Value} {xs : List Value} (h : w.ownsRow base 5 1 v n xs) : ∃ A C, v = .slice A n C := by
  rcases h.2 with ⟨rfl, rfl⟩ | ⟨g, cap, cur, rfl, _⟩
  · exact ⟨none, 0, rfl⟩
  · exact ⟨_, cap, rfl⟩
theorem wpList_app {w : World} {ops : Array Oper} {rest : List Oper} {o : Oper} {a : Act} {Q : Exit → Act → World → Prop} (hgd : o.guard = none) (s x : Operand)
    (ho : o.op = .call { callee := .builtin .append, args := #[s, x], argTypes := #[28, 28] })
    {base n : Nat} (v xv : Value) {l news : List UInt8} (hs : a.eval s = v) (hxe : a.eval x = xv) (hown : w.ownsRow base 5 1 v n (bv l)) (hx : Bs w xv news)
    (hb : base ≤ w.heap.size) (hn : l.length + news.length ≤ 140737488355328)
    (h : ∀ A C w', w'.ownsRow base 5 1 (.slice A (l.length + news.length) C) (l.length + news.length) (bv (l ++ news)) → w.grownBy w' (blk v) → (blk (.slice A (l.length + news.length) C) = blk v ∨ blk (.slice A (l.length + news.length) C) = some w.heap.size) → (Value.slice A (l.length + news.length) C = .slice none 0 0 ↔ v = .slice none 0 0 ∧ news = []) → wpList Try.prog ops Q rest (a.put o.dst (.slice A (l.length + news.length) C)) w') :
    wpList Try.prog ops Q (o :: rest) a w := by
  refine wpList_plain hgd fun K hK => ?_
  obtain ⟨v', w', hr, h2, h3, h4, h5⟩ := app_bytes o.type hown hx hb hn
  unfold Oper.wp execOp
  simp only [ho, resolve, invoke, builtin, Sem.run_bind, Sem.run_pure, Result.andThen_ok, List.map_toArray, List.map_cons, List.map_nil, hs, hxe, hr]
  rw [List.length_append] at h2
  obtain ⟨A, C, rfl⟩ := owns_form h2
  exact hK _ _ (h A C w' h2 h3 h4 h5)
end Go.Proofs.Ytndjlnlmlgimlaa
