/- The sides of LinkOrders and LinkApart in memory. Each block has a colour: what one thing owns is of one colour, 0: nobody's. -/
import Derived.Test.YtpmbkncakbcmbaaLkM
import Derived.Test.YtpmbkncakbcmbaaLkG
namespace Go.Proofs.Ytpmbkncakbcmbaa
set_option linter.unusedVariables false
open Go.RowKit
set_option linter.unusedVariables false

def cel5 (x : Pkt × Value) : List Value := [.int .i64 x.1.fr, .int .i64 x.1.to, .int .i64 x.1.seq, .int .i64 x.1.ack, x.2]
/- One side: its block h, its link a; its colours are c (the link), c + 1 (h), c + 2, c + 3, c + 4 (its rows). -/
structure Sm (W : World) (col : Nat → Nat) (c h a : Nat) (k : Int) (X : Sd) (vs vt vo : Value) (Ls Lt : List (List UInt8 × Value)) (Lp : List (Pkt × Value)) : Prop where
  lk : Lo false W a X.s (fun g => g < W.heap.size ∧ col g = c)
  box : W.heap[h]? = some (.cells #[.pointer (some ⟨a, 0, none⟩), .int .i64 k, vs, vt, vo] 60 (0, 0))
  ch : col h = c + 1
  rs : Ro W 30 vs (Ls.map Prod.snd)
  cs : ∀ g, blk vs = some g → col g = c + 2
  rt : Ro W 30 vt (Lt.map Prod.snd)
  ct : ∀ g, blk vt = some g → col g = c + 3
  ro : W.ownsRow 0 32 5 vo Lp.length (Lp.flatMap cel5)
  co : ∀ g, blk vo = some g → col g = c + 4
  es : ∀ x ∈ Ls, Bs W x.2 x.1 ∧ ∀ g, bk x.2 = some g → col g = 0
  et : ∀ x ∈ Lt, Bs W x.2 x.1 ∧ ∀ g, bk x.2 = some g → col g = 0
  eo : ∀ x ∈ Lp, Bs W x.2 x.1.load ∧ ∀ g, bk x.2 = some g → col g = 0
  sent : Ls.map Prod.fst = X.sent
  told : Lt.map Prod.fst = X.told
  outs : Lp.map Prod.fst = X.outs
theorem owns_keep5 {T : TypeId} {S : Nat → Prop} {w w' : World} {base : Nat} {v : Value} {n : Nat} {xs : List Value} (h : w.ownsRow base T 5 v n xs) (hc : Chg S w w') (hn : ∀ k, blk v = some k → ¬ S k) : w'.ownsRow base T 5 v n xs := by
  refine ⟨h.1, ?_⟩
  rcases h.2 with h | ⟨g, cap, cur, rfl, hb, hg, hr⟩
  · exact .inl h
  · exact .inr ⟨g, cap, cur, rfl, hb, by rw [hc.block g (heap_lt hg) (hn g rfl)]; exact hg, hr⟩
theorem owns_block5 {T : TypeId} {w : World} {base : Nat} {v : Value} {n : Nat} {xs : List Value} (h : w.ownsRow base T 5 v n xs) {k : Nat} (hk : blk v = some k) : ∃ cur, w.heap[k]? = some (.cells cur T (0, 0)) ∧ base ≤ k := by
  rcases h.2 with ⟨rfl, _⟩ | ⟨g, cap, cur, rfl, hb, hg, hr⟩
  · cases hk
  · cases hk; exact ⟨cur, hg, hb⟩
theorem owns_form5 {T : TypeId} {w : World} {base n : Nat} {v : Value} {xs : List Value} (h : w.ownsRow base T 5 v n xs) : ∃ A C, v = .slice A n C := by
  rcases h.2 with ⟨rfl, rfl⟩ | ⟨g, cap, cur, rfl, _⟩
  · exact ⟨none, 0, rfl⟩
  · exact ⟨_, cap, rfl⟩
/- Colours of a side. -/
def Own (c q : Nat) : Prop := c ≤ q ∧ q ≤ c + 4
/- Nothing of a side has turned; blocks that are new may have any colour. -/
theorem Sm.keep {S : Nat → Prop} {W W' : World} {col col' : Nat → Nat} {c h a : Nat} {k : Int} {X : Sd} {vs vt vo : Value} {Ls Lt : List (List UInt8 × Value)} {Lp : List (Pkt × Value)} (m : Sm W col c h a k X vs vt vo Ls Lt Lp) (hc : Chg S W W')
    (hS : ∀ g, g < W.heap.size → S g → col g ≠ 0 ∧ ¬ Own c (col g)) (hcol : ∀ g, g < W.heap.size → col' g = col g) : Sm W' col' c h a k X vs vt vo Ls Lt Lp := by
  obtain ⟨m1, m2, m3, m4, m5, m6, m7, m8, m9, m10, m11, m12, m13, m14, m15⟩ := m
  have hh := heap_lt m2
  have ls : ∀ g, blk vs = some g → g < W.heap.size := fun g hg => by obtain ⟨_, q⟩ := m4.block hg; exact heap_lt q
  have lt : ∀ g, blk vt = some g → g < W.heap.size := fun g hg => by obtain ⟨_, q⟩ := m6.block hg; exact heap_lt q
  have lo : ∀ g, blk vo = some g → g < W.heap.size := fun g hg => by obtain ⟨_, q, _⟩ := owns_block5 m8 hg; exact heap_lt q
  have nS : ∀ g, g < W.heap.size → Own c (col g) ∨ col g = 0 → ¬ S g := fun g hg e s => by
    rcases e with e | e
    · exact (hS g hg s).2 e
    · exact (hS g hg s).1 e
  have own : ∀ d, d ≤ 4 → Own c (c + d) := fun d hd => ⟨by omega, by omega⟩
  refine ⟨?_, by rw [hc.block h hh (nS h hh (.inl (by rw [m3]; exact own 1 (by omega))))]; exact m2, by rw [hcol h hh]; exact m3, m4.keep hc (fun g hg => nS g (ls g hg) (.inl (by rw [m5 g hg]; exact own 2 (by omega)))), fun g hg => by rw [hcol g (ls g hg)]; exact m5 g hg,
    m6.keep hc (fun g hg => nS g (lt g hg) (.inl (by rw [m7 g hg]; exact own 3 (by omega)))), fun g hg => by rw [hcol g (lt g hg)]; exact m7 g hg, owns_keep5 m8 hc (fun g hg => nS g (lo g hg) (.inl (by rw [m9 g hg]; exact own 4 (by omega)))), fun g hg => by rw [hcol g (lo g hg)]; exact m9 g hg,
    fun x hx => ⟨(m10 x hx).1.keep hc (fun g hg => nS g ((m10 x hx).1.lt hg) (.inr ((m10 x hx).2 g hg))), fun g hg => by rw [hcol g ((m10 x hx).1.lt hg)]; exact (m10 x hx).2 g hg⟩,
    fun x hx => ⟨(m11 x hx).1.keep hc (fun g hg => nS g ((m11 x hx).1.lt hg) (.inr ((m11 x hx).2 g hg))), fun g hg => by rw [hcol g ((m11 x hx).1.lt hg)]; exact (m11 x hx).2 g hg⟩,
    fun x hx => ⟨(m12 x hx).1.keep hc (fun g hg => nS g ((m12 x hx).1.lt hg) (.inr ((m12 x hx).2 g hg))), fun g hg => by rw [hcol g ((m12 x hx).1.lt hg)]; exact (m12 x hx).2 g hg⟩, m13, m14, m15⟩
  have hk := m1.keep hc (fun g hg e => nS g e.1 (.inl (by rw [e.2]; exact own 0 (by omega))) hg)
  exact hk.more (fun g hg => ⟨hc.lt_of hg.1, by rw [hcol g hg.1]; exact hg.2⟩) (fun g hg => hg.1)
end Go.Proofs.Ytpmbkncakbcmbaa
