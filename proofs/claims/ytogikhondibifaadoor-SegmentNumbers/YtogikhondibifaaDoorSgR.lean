/- A range over a function that makes what it hands over: one law. The function's word (SeqM): what it hands over, x, stands so (Hx) in the world of that round; the caller's: one walk of its body. -/
import Derived.RangeFuncNested
import Derived.RangeFuncBound
import Derived.RangeFuncCalls
import Derived.RangeFuncLeaves
import Derived.RangeFuncBox
import Derived.Shelf.Abstract
import Derived.Shelf.RegionOpen
import Derived.WalkKit
import Derived.OwnWalkIn
import Derived.TacticsInMore
import Derived.LoopNIn
import Derived.LoopIn
import Derived.Test.YtogikhondibifaaDoorProg
namespace Go.Proofs.YtogikhondibifaaDoor.DD
open Go.RowKit

structure Wrp (T : Prop) : Prop where
  out : T
theorem cut_any {G T : Prop} (f : Wrp T → G) (k : T) : G := f ⟨k⟩
def SeqM {β γ : Type} (P : Program) (gf : Nat) (lb : Array Value) (n n0 : Nat) (enc : γ → Array Value) (Hx : γ → β → β → World → Prop) (Fin : β → Prop) (s0 : β) (w : World) : Prop :=
  ∀ (l : Nat) (J : β → World → Prop) (Jx : World → Prop) (W : World), Below w.heap.size w W →
    (∀ s A B, J s A → Below A.heap.size A B → J s B) →
    (∀ s s' x W1, J s W1 → Hx x s s' W1 → YieldAt Fence.wide (n - 1) P l (enc x) W1 fun e W' => (e = .returned (.bool true) ∧ J s' W' ∧ Below n0 W1 W') ∨ (e = .returned (.bool false) ∧ Jx W')) →
    J s0 W →
    CallsIn Fence.wide n P gf (#[.func (.yield l) #[] #[]] ++ lb) W fun e W' => (∃ v, e = .returned v) ∧ ((∃ s, Fin s ∧ J s W') ∨ Jx W')

def postM {β : Type} (n0 : Nat) (I : β → World → Prop) (Ix : Code → World → Prop) (s' : β) (W : World) : Exit → Act → World → Prop
  | .normal, _, W' => KeepsOthers W W' ∧ Below n0 W W' ∧ I s' W'
  | .exit id, _, W' => KeepsOthers W W' ∧ Ix (.exit id) W'
  | _, _, _ => False

theorem grown_of_below {A B : World} (h : Below A.heap.size A B) : A.grownBy B none := ⟨h.os, h.tape, h.output, h.size, fun k hk _ => h.block k hk⟩

/- What abides new blocks, and a turn of block B where that is no cells. -/
structure Stay {β : Type} (B : Nat) (I : β → World → Prop) : Prop where
  more : ∀ s A A', I s A → Below A.heap.size A A' → I s A'
  put : ∀ s A o o', I s A → A.heap[B]? = some o → o.isCells = false → I s (A.putObj B o')
theorem Stay.alloc {β : Type} {B : Nat} {I : β → World → Prop} (h : Stay B I) {s : β} {W : World} (o : Obj) (hs : I s W) : I s (W.alloc o) := h.more s W _ hs ((Below.refl _ W).alloc (Nat.le_refl _) o)

theorem range_law {β γ : Type} {P : Program} {n n0 : Nat} {g : Operand} {ps : Array Tmp} {assign body : Code} {Q : Exit → Act → World → Prop} {a : Act} {w : World}
    {gf : Nat} {lb : Array Value} (hg : a.eval g = .func (.func gf) #[] lb) (eg : ∀ args w, (callFunc gf args).run P w = .ok (.enter gf args) w)
    {enc : γ → Array Value} {Hx : γ → β → β → World → Prop} {Fin : β → Prop} {s0 : β} (hseq : SeqM P gf lb (n - 1) n0 enc Hx Fin s0 w) (hn0 : n0 ≤ w.heap.size)
    (hps : ∀ x, (enc x).size = ps.size) (hHx : ∀ x s s', Stay (w.heap.size + 1) (fun (_ : Unit) W => Hx x s s' W))
    (I : β → World → Prop) (Ix : Code → World → Prop) (hI : Stay (w.heap.size + 1) I) (hIx : ∀ c, Stay (w.heap.size + 1) (fun (_ : Unit) W => Ix c W)) (h0 : I s0 w) (a1 : γ → Act)
    (hassign : ∀ (l : Nat) (x : γ) (W : World) (K : Act → World → Prop), K (a1 x) W →
      assign.wpIn (Fence.wide.inRound l) (n - 1 - 1) P (Exit.then K (fun _ _ _ => False)) { tmps := (ps.zip (enc x)).foldl (fun t (p, v) => t.setIfInBounds p v) a.tmps, defers := [] } W)
    (hbody : ∀ (l : Nat) (s s' : β) (x : γ) (W : World), w.heap.size + 1 < W.heap.size → I s W → Hx x s s' W → body.wpIn (Fence.wide.inRound l) (n - 1 - 1) P (postM n0 I Ix s' W) (a1 x) W)
    (hdone : ∀ (D : Nat) (s : β) (W : World), D = w.heap.size → Fin s → I s W → W.heap[D]? = some (.deferred (some [])) → Q .normal { a with defers := { target := .collected D, args := #[] } :: a.defers } W)
    (hstop : ∀ (D : Nat) (c : Code) (W : World), D = w.heap.size → Ix c W → W.heap[D]? = some (.deferred (some [])) → c.wpIn Fence.wide n P Q { a with defers := { target := .collected D, args := #[] } :: a.defers } W) :
    (Code.rangeFunc g ps assign body).wpIn Fence.wide n P Q a w := by
  refine wpIn_rangeFunc fun fn hfn => ?_
  show ∃ (l : Nat) (mark : List Deferred) (w₁ : World) (d : Deferred) (w₁' : World) (f : FuncId) (args : Array Value) (w₂ : World), (Instr.enterLoop fn a.tmps ps assign body none).run P w = _ ∧ _
  obtain ⟨R, hR⟩ : ∃ R : LoopState → Option Code → Loop, R = fun st pe => { state := st, pending := pe, fn, tmps := a.tmps, params := ps, assign, body, defers := w.heap.size } := ⟨_, rfl⟩
  obtain ⟨V, hV⟩ : ∃ V, V = (w.alloc (.deferred (some []))).alloc (.loop (R .ready none)) := ⟨_, rfl⟩
  have vL : V.heap[w.heap.size + 1]? = some (.loop (R .ready none)) := by
    have := World.alloc_heap_new (w.alloc (.deferred (some []))) (.loop (R .ready none))
    rw [World.size_alloc] at this
    rw [hV]; exact this
  have vK : V.heap[w.heap.size]? = some (.deferred (some [])) := by
    rw [hV]; exact (Below.heap_alloc _ _ _ (by simp)).trans (World.alloc_heap_new w _)
  have vI : I s0 V := by rw [hV]; exact hI.alloc _ (hI.alloc _ h0)
  have vB : Below w.heap.size w V := by rw [hV]; exact ((Below.refl _ w).alloc (Nat.le_refl _) _).alloc (by simp) _
  refine ⟨w.heap.size + 1, [{ target := .collected w.heap.size, args := #[] }], V, { target := .fn (.func gf) lb, args := #[.func (.yield (w.heap.size + 1)) #[] #[]] }, V, gf,
    #[.func (.yield (w.heap.size + 1)) #[] #[]] ++ lb, V, ?_, ?_, fun _ _ => trivial, ?_, (fun h => (by cases h)), ?_⟩
  · rw [hV, hR]; exact run_enterLoop_outer _ _ _ _ _
  · simp only [resolve, hg]
    simp [go_sem]
  · simp [invoke, go_sem, eg]
  · have pB : ∀ (A : World) (o o' : Obj), A.heap[w.heap.size + 1]? = some o → Below n0 A (A.putObj (w.heap.size + 1) o') := fun A o o' h =>
      (Below.refl n0 A).grown (grownBy_putObj' A _ o') (by have := (Array.getElem?_eq_some_iff.1 h).1; omega) (fun k e => by cases e; omega)
    refine (hseq (w.heap.size + 1) (fun s W => I s W ∧ W.heap[w.heap.size + 1]? = some (.loop (R .ready none)) ∧ W.heap[w.heap.size]? = some (.deferred (some [])))
      (fun W => ∃ c, Ix c W ∧ W.heap[w.heap.size + 1]? = some (.loop (R .done (some c))) ∧ W.heap[w.heap.size]? = some (.deferred (some [])))
      V vB (fun s A B hs hb => ?_) ?_ ⟨vI, vL, vK⟩).mono ?_
    · obtain ⟨i1, i2, i3⟩ := hs
      exact ⟨hI.more s A B i1 hb, (hb.block _ (Array.getElem?_eq_some_iff.1 i2).1).trans i2, (hb.block _ (Array.getElem?_eq_some_iff.1 i3).1).trans i3⟩
    · rintro s s' x W ⟨hi, hl, hk⟩ hx
      have hlt : w.heap.size + 1 < W.heap.size := (Array.getElem?_eq_some_iff.1 hl).1
      have hy := run_yield (P := P) (args := enc x) hl (by rw [hR]; exact hps x)
      have hbr := run_beginRound (P := P) hl (by rw [hR])
      rw [hR] at hy
      obtain ⟨U, hU⟩ : ∃ U, U = W.putObj (w.heap.size + 1) (.loop { R .ready none with state := .busy }) := ⟨_, rfl⟩
      have uL : U.heap[w.heap.size + 1]? = some (.loop { R .ready none with state := .busy }) := by rw [hU]; exact World.putObj_heap_same hlt
      have uK : U.heap[w.heap.size]? = some (.deferred (some [])) := by rw [hU]; exact (World.putObj_heap_other (by omega)).trans hk
      have uB : Below n0 W U := by rw [hU]; exact pB _ _ _ hl
      have uI : I s U := by rw [hU]; exact hI.put _ _ _ _ hi hl rfl
      have uX : Hx x s s' U := by rw [hU]; exact (hHx x s s').put () _ _ _ hx hl rfl
      rw [← hU] at hbr
      refine ⟨fn, _, assign, body, hy, roundIn_of_wpIn hfn (hassign _ x W _ ⟨U, hbr, ?_⟩)⟩
      refine wpIn_mono (hbody _ s s' x U (Array.getElem?_eq_some_iff.1 uL).1 uI uX) ?_
      have fin : ∀ (j : Option Code) (W3 : World), KeepsOthers U W3 →
          (Instr.endRound (w.heap.size + 1) j).run P W3 = .ok (.bool j.isNone) (W3.putObj (w.heap.size + 1) (.loop (R (if j.isNone then .ready else .done) j))) ∧
          W3.heap[w.heap.size + 1]? = some (.loop { R .ready none with state := .busy }) ∧
          (W3.putObj (w.heap.size + 1) (.loop (R (if j.isNone then .ready else .done) j))).heap[w.heap.size + 1]? = some (.loop (R (if j.isNone then .ready else .done) j)) ∧
          (W3.putObj (w.heap.size + 1) (.loop (R (if j.isNone then .ready else .done) j))).heap[w.heap.size]? = some (.deferred (some [])) := by
        intro j W3 hk3
        have l3 := hk3.same _ _ uL rfl
        have r3 := run_endRound (P := P) j l3
        refine ⟨?_, l3, World.putObj_heap_same (Array.getElem?_eq_some_iff.1 l3).1, (World.putObj_heap_other (by omega)).trans (hk3.same _ _ uK rfl)⟩
        rw [hR] at r3 ⊢
        exact r3
      intro e a3 W3 hp
      cases e with
      | normal =>
        obtain ⟨q1, q2, q3⟩ := hp
        obtain ⟨f1, f2, f3, f4⟩ := fin none W3 q1
        exact ⟨_, _, f1, .inl ⟨rfl, ⟨hI.put _ _ _ _ q3 f2 rfl, f3, f4⟩, uB.trans (q2.trans (pB _ _ _ f2))⟩⟩
      | exit id =>
        obtain ⟨q1, q2⟩ := hp
        obtain ⟨f1, f2, f3, f4⟩ := fin (some (.exit id)) W3 q1
        exact ⟨_, _, f1, .inr ⟨rfl, .exit id, (hIx _).put () _ _ _ q2 f2 rfl, f3, f4⟩⟩
      | ret => exact hp.elim
      | goto t => exact hp.elim
      | panic ch => exact hp.elim
      | outgrown => exact hp.elim
    · rintro e W2 ⟨⟨v, rfl⟩, (⟨s, hf, hi, hl, hk⟩ | ⟨c, hi, hl, hk⟩)⟩
      · have r := run_endLoop (P := P) hl (by rw [hR]; simp)
        have e1 : (R .ready none).pending = none := by rw [hR]
        rw [e1] at r
        exact ⟨none, _, r, hdone _ s _ rfl hf (hI.put _ _ _ _ hi hl rfl) ((World.putObj_heap_other (by omega)).trans hk)⟩
      · have r := run_endLoop (P := P) hl (by rw [hR]; simp)
        have e1 : (R .done (some c)).pending = some c := by rw [hR]
        rw [e1] at r
        exact ⟨some c, _, r, hstop _ c _ rfl ((hIx c).put () _ _ _ hi hl rfl) ((World.putObj_heap_other (by omega)).trans hk)⟩
end Go.Proofs.YtogikhondibifaaDoor.DD
