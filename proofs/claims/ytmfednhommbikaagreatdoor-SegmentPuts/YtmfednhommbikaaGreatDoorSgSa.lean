/- A range over a function that makes what it hands over: one law. The function's word (SeqM): what it hands over, x, stands so (Hx) in the world of that round; the caller's: one walk of its body. The frames that bytes begin with, told one by one: the function that is ranged over. A row of deeds that one appends to, and a row of numbers: what the two appends of Scan do. What Scan holds between two frames: a row of deeds, a row of ends, the last zxid, how far it is. What one round of Scan does to what it holds: a deed more, an end more, the last zxid and the place. The region of Scan that appends a deed: it draws its order; all orders come to one end. The contract of Get: what is got is new: whatever older block turns, it stays. Scan: the contract. -/
import Derived.RangeFuncNested
import Derived.RangeFuncBound
import Derived.RangeFuncCalls
import Derived.RangeFuncLeaves
import Derived.RangeFuncBox
import Derived.Shelf.Abstract
import Derived.Shelf.RegionOpen
import Derived.WalkKit
import Derived.OwnWalkIn
import Derived.TacticsInMore
import Derived.LoopNIn
import Derived.LoopIn
import Derived.Test.YtmfednhommbikaaGreatDoorProg
import Derived.Test.YtmfednhommbikaaGreatDoorWalksHa
import Derived.Test.YtmfednhommbikaaGreatDoorDdI
import Derived.Deep.MidRow
import Derived.Test.YtmfednhommbikaaGreatDoorSgMa
import Derived.Test.YtmfednhommbikaaGreatDoorDdJa
import Derived.Test.YtmfednhommbikaaGreatDoorDdJ1
import Derived.Test.YtmfednhommbikaaGreatDoorDdJ2
import Derived.Test.YtmfednhommbikaaGreatDoorSgJ3
import Derived.Test.YtmfednhommbikaaGreatDoorDdJ4
import Derived.Test.YtmfednhommbikaaGreatDoorDdJ5
import Derived.Test.YtmfednhommbikaaGreatDoorSgJ6
namespace Go.Proofs.YtmfednhommbikaaGreatDoor.DD
open Go.RowKit

structure Wrp (T : Prop) : Prop where
  out : T
theorem cut_any {G T : Prop} (f : Wrp T → G) (k : T) : G := f ⟨k⟩
def SeqM {β γ : Type} (P : Program) (gf : Nat) (lb : Array Value) (n n0 : Nat) (enc : γ → Array Value) (Hx : γ → β → β → World → Prop) (Fin : β → Prop) (s0 : β) (w : World) : Prop :=
  ∀ (l : Nat) (J : β → World → Prop) (Jx : World → Prop) (W : World), Below w.heap.size w W →
    (∀ s A B, J s A → Below A.heap.size A B → J s B) →
    (∀ s s' x W1, J s W1 → Hx x s s' W1 → YieldAt Fence.wide (n - 1) P l (enc x) W1 fun e W' => (e = .returned (.bool true) ∧ J s' W' ∧ Below n0 W1 W') ∨ (e = .returned (.bool false) ∧ Jx W')) →
    J s0 W →
    CallsIn Fence.wide n P gf (#[.func (.yield l) #[] #[]] ++ lb) W fun e W' => (∃ v, e = .returned v) ∧ ((∃ s, Fin s ∧ J s W') ∨ Jx W')

def postM {β : Type} (n0 : Nat) (I : β → World → Prop) (Ix : Code → World → Prop) (s' : β) (W : World) : Exit → Act → World → Prop
  | .normal, _, W' => KeepsOthers W W' ∧ Below n0 W W' ∧ I s' W'
  | .exit id, _, W' => KeepsOthers W W' ∧ Ix (.exit id) W'
  | _, _, _ => False

theorem grown_of_below {A B : World} (h : Below A.heap.size A B) : A.grownBy B none := ⟨h.os, h.tape, h.output, h.size, fun k hk _ => h.block k hk⟩

/- What abides new blocks, and a turn of block B where that is no cells. -/
structure Stay {β : Type} (B : Nat) (I : β → World → Prop) : Prop where
  more : ∀ s A A', I s A → Below A.heap.size A A' → I s A'
  put : ∀ s A o o', I s A → A.heap[B]? = some o → o.isCells = false → I s (A.putObj B o')
theorem Stay.alloc {β : Type} {B : Nat} {I : β → World → Prop} (h : Stay B I) {s : β} {W : World} (o : Obj) (hs : I s W) : I s (W.alloc o) := h.more s W _ hs ((Below.refl _ W).alloc (Nat.le_refl _) o)

theorem range_law {β γ : Type} {P : Program} {n n0 : Nat} {g : Operand} {ps : Array Tmp} {assign body : Code} {Q : Exit → Act → World → Prop} {a : Act} {w : World}
    {gf : Nat} {lb : Array Value} (hg : a.eval g = .func (.func gf) #[] lb) (eg : ∀ args w, (callFunc gf args).run P w = .ok (.enter gf args) w)
    {enc : γ → Array Value} {Hx : γ → β → β → World → Prop} {Fin : β → Prop} {s0 : β} (hseq : SeqM P gf lb (n - 1) n0 enc Hx Fin s0 w) (hn0 : n0 ≤ w.heap.size)
    (hps : ∀ x, (enc x).size = ps.size) (hHx : ∀ x s s', Stay (w.heap.size + 1) (fun (_ : Unit) W => Hx x s s' W))
    (I : β → World → Prop) (Ix : Code → World → Prop) (hI : Stay (w.heap.size + 1) I) (hIx : ∀ c, Stay (w.heap.size + 1) (fun (_ : Unit) W => Ix c W)) (h0 : I s0 w) (a1 : γ → Act)
    (hassign : ∀ (l : Nat) (x : γ) (W : World) (K : Act → World → Prop), K (a1 x) W →
      assign.wpIn (Fence.wide.inRound l) (n - 1 - 1) P (Exit.then K (fun _ _ _ => False)) { tmps := (ps.zip (enc x)).foldl (fun t (p, v) => t.setIfInBounds p v) a.tmps, defers := [] } W)
    (hbody : ∀ (l : Nat) (s s' : β) (x : γ) (W : World), w.heap.size + 1 < W.heap.size → I s W → Hx x s s' W → body.wpIn (Fence.wide.inRound l) (n - 1 - 1) P (postM n0 I Ix s' W) (a1 x) W)
    (hdone : ∀ (D : Nat) (s : β) (W : World), D = w.heap.size → Fin s → I s W → W.heap[D]? = some (.deferred (some [])) → Q .normal { a with defers := { target := .collected D, args := #[] } :: a.defers } W)
    (hstop : ∀ (D : Nat) (c : Code) (W : World), D = w.heap.size → Ix c W → W.heap[D]? = some (.deferred (some [])) → c.wpIn Fence.wide n P Q { a with defers := { target := .collected D, args := #[] } :: a.defers } W) :
    (Code.rangeFunc g ps assign body).wpIn Fence.wide n P Q a w := by
  refine wpIn_rangeFunc fun fn hfn => ?_
  show ∃ (l : Nat) (mark : List Deferred) (w₁ : World) (d : Deferred) (w₁' : World) (f : FuncId) (args : Array Value) (w₂ : World), (Instr.enterLoop fn a.tmps ps assign body none).run P w = _ ∧ _
  obtain ⟨R, hR⟩ : ∃ R : LoopState → Option Code → Loop, R = fun st pe => { state := st, pending := pe, fn, tmps := a.tmps, params := ps, assign, body, defers := w.heap.size } := ⟨_, rfl⟩
  obtain ⟨V, hV⟩ : ∃ V, V = (w.alloc (.deferred (some []))).alloc (.loop (R .ready none)) := ⟨_, rfl⟩
  have vL : V.heap[w.heap.size + 1]? = some (.loop (R .ready none)) := by
    have := World.alloc_heap_new (w.alloc (.deferred (some []))) (.loop (R .ready none))
    rw [World.size_alloc] at this
    rw [hV]; exact this
  have vK : V.heap[w.heap.size]? = some (.deferred (some [])) := by
    rw [hV]; exact (Below.heap_alloc _ _ _ (by simp)).trans (World.alloc_heap_new w _)
  have vI : I s0 V := by rw [hV]; exact hI.alloc _ (hI.alloc _ h0)
  have vB : Below w.heap.size w V := by rw [hV]; exact ((Below.refl _ w).alloc (Nat.le_refl _) _).alloc (by simp) _
  refine ⟨w.heap.size + 1, [{ target := .collected w.heap.size, args := #[] }], V, { target := .fn (.func gf) lb, args := #[.func (.yield (w.heap.size + 1)) #[] #[]] }, V, gf,
    #[.func (.yield (w.heap.size + 1)) #[] #[]] ++ lb, V, ?_, ?_, fun _ _ => trivial, ?_, (fun h => (by cases h)), ?_⟩
  · rw [hV, hR]; exact run_enterLoop_outer _ _ _ _ _
  · simp only [resolve, hg]
    simp [go_sem]
  · simp [invoke, go_sem, eg]
  · have pB : ∀ (A : World) (o o' : Obj), A.heap[w.heap.size + 1]? = some o → Below n0 A (A.putObj (w.heap.size + 1) o') := fun A o o' h =>
      (Below.refl n0 A).grown (grownBy_putObj' A _ o') (by have := (Array.getElem?_eq_some_iff.1 h).1; omega) (fun k e => by cases e; omega)
    refine (hseq (w.heap.size + 1) (fun s W => I s W ∧ W.heap[w.heap.size + 1]? = some (.loop (R .ready none)) ∧ W.heap[w.heap.size]? = some (.deferred (some [])))
      (fun W => ∃ c, Ix c W ∧ W.heap[w.heap.size + 1]? = some (.loop (R .done (some c))) ∧ W.heap[w.heap.size]? = some (.deferred (some [])))
      V vB (fun s A B hs hb => ?_) ?_ ⟨vI, vL, vK⟩).mono ?_
    · obtain ⟨i1, i2, i3⟩ := hs
      exact ⟨hI.more s A B i1 hb, (hb.block _ (Array.getElem?_eq_some_iff.1 i2).1).trans i2, (hb.block _ (Array.getElem?_eq_some_iff.1 i3).1).trans i3⟩
    · rintro s s' x W ⟨hi, hl, hk⟩ hx
      have hlt : w.heap.size + 1 < W.heap.size := (Array.getElem?_eq_some_iff.1 hl).1
      have hy := run_yield (P := P) (args := enc x) hl (by rw [hR]; exact hps x)
      have hbr := run_beginRound (P := P) hl (by rw [hR])
      rw [hR] at hy
      obtain ⟨U, hU⟩ : ∃ U, U = W.putObj (w.heap.size + 1) (.loop { R .ready none with state := .busy }) := ⟨_, rfl⟩
      have uL : U.heap[w.heap.size + 1]? = some (.loop { R .ready none with state := .busy }) := by rw [hU]; exact World.putObj_heap_same hlt
      have uK : U.heap[w.heap.size]? = some (.deferred (some [])) := by rw [hU]; exact (World.putObj_heap_other (by omega)).trans hk
      have uB : Below n0 W U := by rw [hU]; exact pB _ _ _ hl
      have uI : I s U := by rw [hU]; exact hI.put _ _ _ _ hi hl rfl
      have uX : Hx x s s' U := by rw [hU]; exact (hHx x s s').put () _ _ _ hx hl rfl
      rw [← hU] at hbr
      refine ⟨fn, _, assign, body, hy, roundIn_of_wpIn hfn (hassign _ x W _ ⟨U, hbr, ?_⟩)⟩
      refine wpIn_mono (hbody _ s s' x U (Array.getElem?_eq_some_iff.1 uL).1 uI uX) ?_
      have fin : ∀ (j : Option Code) (W3 : World), KeepsOthers U W3 →
          (Instr.endRound (w.heap.size + 1) j).run P W3 = .ok (.bool j.isNone) (W3.putObj (w.heap.size + 1) (.loop (R (if j.isNone then .ready else .done) j))) ∧
          W3.heap[w.heap.size + 1]? = some (.loop { R .ready none with state := .busy }) ∧
          (W3.putObj (w.heap.size + 1) (.loop (R (if j.isNone then .ready else .done) j))).heap[w.heap.size + 1]? = some (.loop (R (if j.isNone then .ready else .done) j)) ∧
          (W3.putObj (w.heap.size + 1) (.loop (R (if j.isNone then .ready else .done) j))).heap[w.heap.size]? = some (.deferred (some [])) := by
        intro j W3 hk3
        have l3 := hk3.same _ _ uL rfl
        have r3 := run_endRound (P := P) j l3
        refine ⟨?_, l3, World.putObj_heap_same (Array.getElem?_eq_some_iff.1 l3).1, (World.putObj_heap_other (by omega)).trans (hk3.same _ _ uK rfl)⟩
        rw [hR] at r3 ⊢
        exact r3
      intro e a3 W3 hp
      cases e with
      | normal =>
        obtain ⟨q1, q2, q3⟩ := hp
        obtain ⟨f1, f2, f3, f4⟩ := fin none W3 q1
        exact ⟨_, _, f1, .inl ⟨rfl, ⟨hI.put _ _ _ _ q3 f2 rfl, f3, f4⟩, uB.trans (q2.trans (pB _ _ _ f2))⟩⟩
      | exit id =>
        obtain ⟨q1, q2⟩ := hp
        obtain ⟨f1, f2, f3, f4⟩ := fin (some (.exit id)) W3 q1
        exact ⟨_, _, f1, .inr ⟨rfl, .exit id, (hIx _).put () _ _ _ q2 f2 rfl, f3, f4⟩⟩
      | ret => exact hp.elim
      | goto t => exact hp.elim
      | panic ch => exact hp.elim
      | outgrown => exact hp.elim
    · rintro e W2 ⟨⟨v, rfl⟩, (⟨s, hf, hi, hl, hk⟩ | ⟨c, hi, hl, hk⟩)⟩
      · have r := run_endLoop (P := P) hl (by rw [hR]; simp)
        have e1 : (R .ready none).pending = none := by rw [hR]
        rw [e1] at r
        exact ⟨none, _, r, hdone _ s _ rfl hf (hI.put _ _ _ _ hi hl rfl) ((World.putObj_heap_other (by omega)).trans hk)⟩
      · have r := run_endLoop (P := P) hl (by rw [hR]; simp)
        have e1 : (R .done (some c)).pending = some c := by rw [hR]
        rw [e1] at r
        exact ⟨some c, _, r, hstop _ c _ rfl ((hIx c).put () _ _ _ hi hl rfl) ((World.putObj_heap_other (by omega)).trans hk)⟩
end Go.Proofs.YtmfednhommbikaaGreatDoor.DD

namespace Go.Proofs.YtmfednhommbikaaGreatDoor.DD
set_option linter.unusedVariables false
open Go.RowKit Go.Shelf
attribute [local go_sem] Oper.semAt_some
set_option linter.unusedVariables false

theorem bs_drop {w : World} {A : Option Addr} {n C : Nat} {l : List UInt8} (h : Bs w (.slice A n C) l) (k : Nat) (hk : k ≤ l.length) (hp : 0 < l.length) :
    ∃ b o, A = some ⟨b, o, none⟩ ∧ l.length ≤ C ∧ n = l.length ∧ Bs w (.slice (some ⟨b, o + k, none⟩) (l.length - k) (l.length - k)) (l.drop k) := by
  rcases h with ⟨h, rfl⟩ | ⟨ad, c, h, rfl⟩ | ⟨h0, b, o, c, hv, h1, h2, h3⟩
  · simp at hp
  · simp at hp
  · cases hv
    refine ⟨b, o, rfl, h1, rfl, Bs.mk b (o + k) _ (by simp) (by simp) h2 (fun j hj => ?_)⟩
    rw [List.length_drop] at hj
    rw [Nat.add_assoc, h3 (k + j) (by omega)]
    simp

structure Itm where
  v : Value
  b : List UInt8
def encF (x : Itm × Nat) : Array Value := #[x.1.v, .int .i64 x.2]
def HxF (l : List UInt8) (x : Itm × Nat) (t t' : Nat) (W : World) : Prop := unframe (l.drop t) = some x.1.b ∧ Bs W x.1.v x.1.b ∧ x.2 = t' ∧ t' = t + (8 + x.1.b.length)
def FinF (l : List UInt8) (t : Nat) : Prop := unframe (l.drop t) = none

set_option maxRecDepth 100000 in
set_option maxHeartbeats 4000000 in
theorem frames1_seq {w : World} {A : Option Addr} {C n0 bb n : Nat} {l : List UInt8} (hl : l.length ≤ 140737488355328) (hbb : bb < w.heap.size) (hn0 : n0 ≤ w.heap.size) (hc : w.cell? ⟨bb, 0, none⟩ = some (.slice A l.length C)) (hx : Bs w (.slice A l.length C) l) (hk : ∀ k, bk (.slice A l.length C) = some k → k < n0) :
    SeqM Tryz.prog 45 #[.pointer (some ⟨bb, 0, none⟩)] n n0 encF (HxF l) (FinF l) 0 w := by
  intro L J Jx W hB hJ hY h0
  have hcW : W.cell? ⟨bb, 0, none⟩ = some (.slice A l.length C) := (hB.cell (p := ⟨bb, 0, none⟩) (by show bb < _; omega)).trans hc
  have HXW : Hid (Bs W (.slice A l.length C) l) := Bs.below hx hB (fun k hk' => hx.lt hk')
  have HK : Hid (∀ k, bk (.slice A l.length C) = some k → k < n0) := hk
  have HJ : Hid (∀ s A B, J s A → Below A.heap.size A B → J s B) := hJ
  have HY : Hid _ := hY
  have H0 : Hid (J 0 W) := h0
  have hnW : n0 ≤ W.heap.size := Nat.le_trans hn0 hB.size
  clear hx hk hJ hY h0 hc hB hn0
  refine callsIn_of_wp Tryz.func45 rfl trivial ?_ rfl
  simp only [Tryz.ntmps45, List.size_toArray, List.length_cons, List.length_nil, Nat.reduceAdd, Nat.reduceSub, Array.replicate_succ, Array.replicate_zero, List.push_toArray, List.append_toArray, List.nil_append, List.cons_append]
  gi_wp2
  gi_loopw [3, 4] (fun vl ve wr => ∃ (t : Nat) (A' : Option Addr) (C' : Nat), t ≤ l.length ∧ vl = .slice A' (l.length - t) C' ∧ ve = .int .i64 t ∧ J t wr ∧ Bs wr vl (l.drop t) ∧ (∀ k, bk vl = some k → k < n0) ∧ n0 ≤ wr.heap.size)
    (fun _ ve _ => l.length - (intOf ve).toNat)
  case atStart => exact ⟨0, A, C, by omega, rfl, rfl, H0.out, HXW.out, HK.out, hnW⟩
  case round =>
    obtain ⟨t, A', C', ht, rfl, rfl, hJr, hBr, hkr, hnr⟩ := hrel
    have HJr : Hid (J t wr) := hJr
    have HBr : Hid (Bs wr (.slice A' (l.length - t) C') (l.drop t)) := hBr
    have HKr : Hid (∀ k, bk (.slice A' (l.length - t) C') = some k → k < n0) := hkr
    clear hJr hBr hkr H0 HXW HK hcW hnW
    by_cases hlt : t < l.length
    · have hpos : (0 : Int) < ((l.length - t : Nat) : Int) := by omega
      have hdl : (l.drop t).length = l.length - t := List.length_drop
      have hu := unframe_any HBr.out (by omega)
      cases hun : unframe (l.drop t) with
      | none =>
        rw [hun] at hu
        gi_wp2
        refine ⟨trivial, (fun h => (by cases h)), (callsIn_wide.2 hu).mono ?_⟩
        rintro e w1 ⟨rfl, hB1⟩
        have HJ1 : Hid (J t w1) := HJ.out _ _ _ HJr.out hB1
        clear hu hB1
        gi_wp2
        refine bodyPost_ret (results_none rfl _ _ _) rfl ?_
        exact ⟨⟨_, rfl⟩, .inl ⟨t, hun, HJ1.out⟩⟩
      | some x =>
        rw [hun] at hu
        have hxl := (unframe_some hun).2.1
        gi_wp2
        refine ⟨trivial, (fun h => (by cases h)), (callsIn_wide.2 hu).mono ?_⟩
        rintro e w1 ⟨v, w0, rfl, hN1, hB1, hs1⟩
        have HJ1 : Hid (J t w1) := HJ.out _ _ _ HJr.out hB1
        have HB1 : Hid (Bs w1 v x) := hN1.bs
        have hn1 : n0 ≤ w1.heap.size := Nat.le_trans hnr hB1.size
        have HBl : Hid (Bs w1 (.slice A' (l.length - t) C') (l.drop t)) := Bs.below HBr.out hB1 (fun k hk' => HBr.out.lt hk')
        obtain ⟨fn, tmps, assign, body, hy, hR⟩ := HY.out t (t + (8 + x.length)) (⟨v, x⟩, t + (8 + x.length)) w1 HJ1.out ⟨hun, HB1.out, rfl, rfl⟩
        clear hu hN1 hB1
        unfold encF at hy
        dsimp only at hy
        rw [show ((t + (8 + x.length) : Nat) : Int) = (t : Int) + (8 + (x.length : Int)) by omega] at hy
        gi_wp2
        refine ⟨(fun h => (by cases h)), hR.mono ?_⟩
        clear hR hy
        rintro e W3 (⟨rfl, hJ3, hk3⟩ | ⟨rfl, hJx3⟩)
        · have HJ3 : Hid (J (t + (8 + x.length)) W3) := hJ3
          have hB3 : Bs W3 (.slice A' (l.length - t) C') (l.drop t) := Bs.below HBl.out hk3 HKr.out
          have hn3 : n0 ≤ W3.heap.size := Nat.le_trans hn1 hk3.size
          obtain ⟨b0, o0, rfl, hC0, -, hD0⟩ := bs_drop hB3 (8 + x.length) (by omega) (by omega)
          have HD0 : Hid (Bs W3 (.slice (some ⟨b0, o0 + (8 + x.length), none⟩) (l.length - (t + (8 + x.length))) (l.length - (t + (8 + x.length)))) (l.drop (t + (8 + x.length)))) := by
            show Bs _ _ _
            rw [hdl, List.drop_drop] at hD0
            rw [show l.length - (t + (8 + x.length)) = l.length - t - (8 + x.length) by omega]
            exact hD0
          rw [hdl] at hC0 hxl
          have e1 : (8 : Int) + (x.length : Int) ≤ ((l.length - t : Nat) : Int) := by omega
          have e2 : ((l.length - t : Nat) : Int) ≤ (C' : Int) := by omega
          have e3 : (0 : Int) ≤ 8 + (x.length : Int) := by omega
          clear hJ3 hk3 hB3 hD0 HBl HBr HJr HJ1 HB1
          gi_wp2
          have hm : (intOf (Value.int IntKind.i64 ((t : Int) + (8 + (x.length : Int))))).toNat = t + (8 + x.length) := by simp only [intOf]; omega
          have hm2 : (intOf (Value.int IntKind.i64 (t : Int))).toNat = t := by simp only [intOf]; omega
          have hb0 : b0 < n0 := by
            have h := HKr.out
            obtain ⟨q, hq⟩ : ∃ q, l.length - t = q + 1 := ⟨l.length - t - 1, by omega⟩
            rw [hq] at h
            exact h b0 rfl
          refine ⟨⟨t + (8 + x.length), (if l.length - t = 8 + x.length then some ⟨b0, o0, none⟩ else some ⟨b0, o0 + (8 + x.length), none⟩), l.length - t - (8 + x.length), by omega, by rw [show l.length - (t + (8 + x.length)) = l.length - t - (8 + x.length) by omega], by simp, HJ3.out, ?_, ?_, hn3⟩, by rw [hm, hm2]; omega⟩
          · by_cases hz : l.length - t = 8 + x.length
            · rw [if_pos hz, List.drop_eq_nil_of_le (by omega), hz, Nat.sub_self]
              exact .inr (.inl ⟨_, _, rfl, rfl⟩)
            · rw [if_neg hz, show l.length - t - (8 + x.length) = l.length - (t + (8 + x.length)) by omega]
              exact HD0.out
          · intro k hk
            by_cases hz : l.length - t = 8 + x.length
            · rw [if_pos hz, hz, Nat.sub_self] at hk; cases hk <;> exact hb0
            · rw [if_neg hz] at hk
              have hk2 := bk_blk hk
              have hk3 : some b0 = some k := hk2
              cases hk3
              exact hb0
        · have HJx3 : Hid (Jx W3) := hJx3
          clear hJx3
          gi_wp2
          refine bodyPost_ret (results_none rfl _ _ _) rfl ?_
          exact ⟨⟨_, rfl⟩, .inr HJx3.out⟩
    · have e0 : t = l.length := by omega
      have hun : unframe (l.drop t) = none := by rw [e0, List.drop_length]; decide
      have hpos : ¬ (0 : Int) < ((l.length - t : Nat) : Int) := by omega
      gi_wp2
      go_end0
      exact ⟨⟨_, rfl⟩, .inl ⟨t, hun, HJr.out⟩⟩
end Go.Proofs.YtmfednhommbikaaGreatDoor.DD

namespace Go.Proofs.YtmfednhommbikaaGreatDoor.DD
set_option linter.unusedVariables false
open Go.RowKit
set_option linter.unusedVariables false

theorem setCells_row : ∀ (us : List Value) (w : World) (g o : Nat) (cur : Array Value) (T : TypeId) (fr : Nat × Nat), w.heap[g]? = some (.cells cur T fr) →
    ∃ cur', (w.setCells g o us).heap[g]? = some (.cells cur' T fr) ∧ cur'.size = cur.size ∧ ∀ i, i < cur.size → cur'[i]? = if o ≤ i ∧ i < o + us.length then us[i - o]? else cur[i]?
  | [], w, g, o, cur, T, fr, h => ⟨cur, h, rfl, fun i _ => by rw [if_neg]; rintro ⟨a, b⟩; simp at b; omega⟩
  | u :: us, w, g, o, cur, T, fr, h => by
    have h1 := heap_set h o u
    obtain ⟨cur', e1, e2, e3⟩ := setCells_row us _ g (o + 1) _ T fr h1
    refine ⟨cur', e1, by rw [e2]; simp, fun i hi => ?_⟩
    rw [e3 i (by simpa using hi)]
    by_cases c1 : o + 1 ≤ i ∧ i < o + 1 + us.length
    · rw [if_pos c1, if_pos ⟨by omega, by rw [List.length_cons]; omega⟩, show i - o = (i - (o + 1)) + 1 by omega]
      simp
    · rw [if_neg c1]
      by_cases c2 : o = i
      · subst c2
        rw [if_pos ⟨Nat.le_refl _, by simp⟩, Nat.sub_self, Array.getElem?_setIfInBounds_self_of_lt hi]
        rfl
      · rw [Array.getElem?_setIfInBounds_ne c2, if_neg]
        rintro ⟨a, b⟩
        rw [List.length_cons] at b
        exact c1 ⟨by omega, by omega⟩
theorem setCells_chg (S : Nat → Prop) (g : Nat) (hS : S g) : ∀ (us : List Value) (w : World) (o : Nat), Chg S w (w.setCells g o us)
  | [], w, o => Chg.refl _ _
  | u :: us, w, o => (Chg.setCell w ⟨g, o, none⟩ u hS).trans (setCells_chg S g hS us _ (o + 1))
theorem owns_last {w : World} {base T g k cap : Nat} {xs zs us : List Value} (h : w.ownsRow base T 16 (.slice (some ⟨g, 0, none⟩) (k + 1) cap) (k + 1) (xs ++ zs)) (hx : xs.length = k * 16) (hz : zs.length = 16) (hu : us.length = 16) :
    (w.setCells g (k * 16) us).ownsRow base T 16 (.slice (some ⟨g, 0, none⟩) (k + 1) cap) (k + 1) (xs ++ us) ∧ w.there g (k * 16) 16 := by
  obtain ⟨h1, h2⟩ := h
  rcases h2 with ⟨e, _⟩ | ⟨g', cap', cur, hv, hb, hg, hc, hm, hs, ht⟩
  · cases e
  cases hv
  obtain ⟨cur', e1, e2, e3⟩ := setCells_row us w g (k * 16) cur T (0, 0) hg
  have hsz : (k + 1) * 16 ≤ cur.size := by rw [hs]; exact Nat.mul_le_mul_right 16 hc
  have hci : ∀ i, i < (k + 1) * 16 → cur[i]? = (xs ++ zs)[i]? := by
    intro i hi
    rw [← ht, List.getElem?_take_of_lt hi, Array.getElem?_toList]
  refine ⟨⟨by rw [List.length_append, hx, hu]; omega, .inr ⟨g, cap, cur', rfl, hb, e1, hc, hm, by rw [e2]; exact hs, ?_⟩⟩, ?_⟩
  · apply List.ext_getElem?
    intro i
    by_cases hi : i < (k + 1) * 16
    · rw [List.getElem?_take_of_lt hi, Array.getElem?_toList, e3 i (by omega), hu]
      by_cases c : i < k * 16
      · rw [if_neg (by omega), hci i hi, List.getElem?_append_left (by omega), List.getElem?_append_left (by omega)]
      · rw [if_pos ⟨by omega, by omega⟩, List.getElem?_append_right (by omega), hx]
    · rw [List.getElem?_eq_none (by rw [List.length_take]; omega), List.getElem?_eq_none (by rw [List.length_append, hx, hu]; omega)]
  · intro j hj
    refine ⟨?_, frozen_at hg _⟩
    rw [cell_at hg, Array.getElem?_eq_getElem (by omega)]
    rfl
theorem zero16 : ∀ u ∈ [Value.int .i64 0, .int .u8 0, .int .i64 0, .int .i64 0, .int .i64 0, .int .i64 0, .string ⟨#[]⟩, .slice none 0 0, .int .i64 0, .int .i64 0, .int .i64 0, .int .i64 0, .int .i64 0, .int .i64 0, .slice none 0 0, .slice none 0 0], u.oneCell' = true := by
  intro u hu
  simp only [List.mem_cons, List.not_mem_nil, or_false] at hu
  rcases hu with rfl | rfl | rfl | rfl | rfl | rfl | rfl | rfl | rfl | rfl | rfl | rfl | rfl | rfl | rfl | rfl <;> rfl
theorem app16 {W : World} {base k C : Nat} {A : Option Addr} {xs us : List Value} (ho : W.ownsRow base 31 16 (.slice A k C) k xs) (hb : base ≤ W.heap.size) (hk : k ≤ 4294967296) (hus : us.length = 16) (h1 : ∀ u ∈ us, u.oneCell' = true) :
    ∃ g cap W1, (Builtin.append_ #[29, 29] 29 #[.slice A k C, .slice (some ⟨W.heap.size, 0, none⟩) 1 1]).run Tryz.prog (W.alloc (.cells #[.int .i64 0, .int .u8 0, .int .i64 0, .int .i64 0, .int .i64 0, .int .i64 0, .string ⟨#[]⟩, .slice none 0 0, .int .i64 0, .int .i64 0, .int .i64 0, .int .i64 0, .int .i64 0, .int .i64 0, .slice none 0 0, .slice none 0 0] 31)) = .ok (.slice (some ⟨g, 0, none⟩) (k + 1) cap) W1 ∧
      W1.there g (k * 16) 16 ∧
      (W1.setCells g (k * 16) us).ownsRow base 31 16 (.slice (some ⟨g, 0, none⟩) (k + 1) cap) (k + 1) (xs ++ us) ∧
      Chg (fun i => (Value.slice A k C).ownBlock = some i) W (W1.setCells g (k * 16) us) ∧ ((Value.slice A k C).ownBlock = some g ∨ W.heap.size ≤ g) := by
  obtain ⟨i0, hi, hz0, hz1, hz2⟩ := info_parts infoD
  obtain ⟨g, cap, W1, hr, h2, h3, h4, h5⟩ := run_append_lies (P := Tryz.prog) (W.alloc (.cells #[.int .i64 0, .int .u8 0, .int .i64 0, .int .i64 0, .int .i64 0, .int .i64 0, .string ⟨#[]⟩, .slice none 0 0, .int .i64 0, .int .i64 0, .int .i64 0, .int .i64 0, .int .i64 0, .int .i64 0, .slice none 0 0, .slice none 0 0] 31)) 29 29 base 31 i0 _ 16 184 Tryz.underlying29 hi hz0 hz1 hz2 rfl (by decide) (.slice A k C) k xs (ho.alloc _) ⟨W.heap.size, 0, none⟩ 1 1 _ rfl (World.news_of_block (heap_alloc_new W _)) zero16 (by omega) (by unfold maxLen; omega) (by omega) (by simp; omega) (W.heap.size + 1) (by simp)
  have hxl : xs.length = k * 16 := ho.1
  obtain ⟨q1, q2⟩ := owns_last h2 hxl rfl hus
  refine ⟨g, cap, W1, hr, q2, q1, ?_, ?_⟩
  · have c1 : Chg (fun i => (Value.slice A k C).ownBlock = some i) W W1 := (Chg.alloc _ W _).trans (Chg.of_grown h3)
    rcases h4 with h4 | h4
    · exact c1.trans (setCells_chg _ g h4 us W1 _)
    · refine ⟨?_, ?_, ?_, ?_, ?_⟩
      · exact (setCells_chg (fun _ => True) g trivial us W1 _).os.trans c1.os
      · exact (setCells_chg (fun _ => True) g trivial us W1 _).tape.trans c1.tape
      · exact (setCells_chg (fun _ => True) g trivial us W1 _).output.trans c1.output
      · exact Nat.le_trans c1.size (setCells_chg (fun _ => True) g trivial us W1 (k * 16)).size
      · intro i hi' hn
        have hsz := c1.size
        exact ((setCells_chg (fun j => j = g) g rfl us W1 (k * 16)).block i (by omega) (by omega)).trans (c1.block i hi' hn)
  · rcases h4 with h4 | h4
    · exact .inl h4
    · exact .inr (by omega)
theorem infoI : (Tryz.prog.info? 3).map (fun i => (i.zero, i.size, i.bytes)) = some (some (.int .i64 0), 1, 8) := by kernel_rfl
theorem appI {W : World} {base k C : Nat} {A : Option Addr} {xs : List Value} (ho : W.ownsRow base 3 1 (.slice A k C) k xs) (hb : base ≤ W.heap.size) (hk : k ≤ 4294967296) (n : Int) :
    ∃ g cap W1, (Builtin.append_ #[37, 37] 37 #[.slice A k C, .slice (some ⟨W.heap.size, 0, none⟩) 1 1]).run Tryz.prog (W.alloc (.cells #[.int .i64 n] 3)) = .ok (.slice (some ⟨g, 0, none⟩) (k + 1) cap) W1 ∧
      W1.ownsRow base 3 1 (.slice (some ⟨g, 0, none⟩) (k + 1) cap) (k + 1) (xs ++ [.int .i64 n]) ∧
      Chg (fun i => (Value.slice A k C).ownBlock = some i) W W1 ∧ ((Value.slice A k C).ownBlock = some g ∨ W.heap.size ≤ g) := by
  obtain ⟨i0, hi, hz0, hz1, hz2⟩ := info_parts infoI
  obtain ⟨g, cap, W1, hr, h2, h3, h4, h5⟩ := run_append_lies (P := Tryz.prog) (W.alloc (.cells #[.int .i64 n] 3)) 37 37 base 3 i0 _ 1 8 Tryz.underlying37 hi hz0 hz1 hz2 rfl (by decide) (.slice A k C) k xs (ho.alloc _) ⟨W.heap.size, 0, none⟩ 1 1 [.int .i64 n] rfl (World.news_of_block (heap_alloc_new W _)) (fun u hu => by simp at hu; subst hu; rfl) (by omega) (by unfold maxLen; omega) (by omega) (by simp; omega) (W.heap.size + 1) (by simp)
  refine ⟨g, cap, W1, hr, h2, (Chg.alloc _ W _).trans (Chg.of_grown h3), ?_⟩
  rcases h4 with h4 | h4
  · exact .inl h4
  · exact .inr (by omega)
theorem there_16 {w : World} {g o : Nat} (h : w.there g o 16) : ∃ v0 v1 v2 v3 v4 v5 v6 v7 v8 v9 v10 v11 v12 v13 v14 v15 : Value, w.cell? ⟨g, o, none⟩ = some v0 ∧ w.cell? ⟨g, o + 1, none⟩ = some v1 ∧ w.cell? ⟨g, o + 2, none⟩ = some v2 ∧ w.cell? ⟨g, o + 3, none⟩ = some v3 ∧ w.cell? ⟨g, o + 4, none⟩ = some v4 ∧ w.cell? ⟨g, o + 5, none⟩ = some v5 ∧ w.cell? ⟨g, o + 6, none⟩ = some v6 ∧ w.cell? ⟨g, o + 7, none⟩ = some v7 ∧ w.cell? ⟨g, o + 8, none⟩ = some v8 ∧ w.cell? ⟨g, o + 9, none⟩ = some v9 ∧ w.cell? ⟨g, o + 10, none⟩ = some v10 ∧ w.cell? ⟨g, o + 11, none⟩ = some v11 ∧ w.cell? ⟨g, o + 12, none⟩ = some v12 ∧ w.cell? ⟨g, o + 13, none⟩ = some v13 ∧ w.cell? ⟨g, o + 14, none⟩ = some v14 ∧ w.cell? ⟨g, o + 15, none⟩ = some v15 ∧ w.frozen? ⟨g, o, none⟩ = false ∧ w.frozen? ⟨g, o + 1, none⟩ = false ∧ w.frozen? ⟨g, o + 2, none⟩ = false ∧ w.frozen? ⟨g, o + 3, none⟩ = false ∧ w.frozen? ⟨g, o + 4, none⟩ = false ∧ w.frozen? ⟨g, o + 5, none⟩ = false ∧ w.frozen? ⟨g, o + 6, none⟩ = false ∧ w.frozen? ⟨g, o + 7, none⟩ = false ∧ w.frozen? ⟨g, o + 8, none⟩ = false ∧ w.frozen? ⟨g, o + 9, none⟩ = false ∧ w.frozen? ⟨g, o + 10, none⟩ = false ∧ w.frozen? ⟨g, o + 11, none⟩ = false ∧ w.frozen? ⟨g, o + 12, none⟩ = false ∧ w.frozen? ⟨g, o + 13, none⟩ = false ∧ w.frozen? ⟨g, o + 14, none⟩ = false ∧ w.frozen? ⟨g, o + 15, none⟩ = false := by
  have k : ∀ j, j < 16 → ∃ v, w.cell? ⟨g, o + j, none⟩ = some v := fun j hj => Option.isSome_iff_exists.1 (h j hj).1
  obtain ⟨v0, h0⟩ := k 0 (by omega)
  obtain ⟨v1, h1⟩ := k 1 (by omega)
  obtain ⟨v2, h2⟩ := k 2 (by omega)
  obtain ⟨v3, h3⟩ := k 3 (by omega)
  obtain ⟨v4, h4⟩ := k 4 (by omega)
  obtain ⟨v5, h5⟩ := k 5 (by omega)
  obtain ⟨v6, h6⟩ := k 6 (by omega)
  obtain ⟨v7, h7⟩ := k 7 (by omega)
  obtain ⟨v8, h8⟩ := k 8 (by omega)
  obtain ⟨v9, h9⟩ := k 9 (by omega)
  obtain ⟨v10, h10⟩ := k 10 (by omega)
  obtain ⟨v11, h11⟩ := k 11 (by omega)
  obtain ⟨v12, h12⟩ := k 12 (by omega)
  obtain ⟨v13, h13⟩ := k 13 (by omega)
  obtain ⟨v14, h14⟩ := k 14 (by omega)
  obtain ⟨v15, h15⟩ := k 15 (by omega)
  exact ⟨v0, v1, v2, v3, v4, v5, v6, v7, v8, v9, v10, v11, v12, v13, v14, v15, h0, h1, h2, h3, h4, h5, h6, h7, h8, h9, h10, h11, h12, h13, h14, h15, (h 0 (by omega)).2, (h 1 (by omega)).2, (h 2 (by omega)).2, (h 3 (by omega)).2, (h 4 (by omega)).2, (h 5 (by omega)).2, (h 6 (by omega)).2, (h 7 (by omega)).2, (h 8 (by omega)).2, (h 9 (by omega)).2, (h 10 (by omega)).2, (h 11 (by omega)).2, (h 12 (by omega)).2, (h 13 (by omega)).2, (h 14 (by omega)).2, (h 15 (by omega)).2⟩
end Go.Proofs.YtmfednhommbikaaGreatDoor.DD

namespace Go.Proofs.YtmfednhommbikaaGreatDoor.DD
set_option linter.unusedVariables false
open Go.RowKit
set_option linter.unusedVariables false

structure El2 where
  p : It
  A1 : Option Addr
  c1 : Nat
  A2 : Option Addr
  c2 : Nat
  A3 : Option Addr
  c3 : Nat
def ev2 (e : El2) : List Value := [.int .i64 e.p.1.zxid, .int .u8 e.p.1.kind, .int .i64 e.p.1.session, .int .i64 e.p.1.turn, .int .i64 e.p.1.xid, .int .i64 e.p.1.time, .string (mkS e.p.1.path), .slice e.A1 e.p.1.data.length e.c1, .int .i64 e.p.1.owner, .int .i64 e.p.1.version, .int .i64 e.p.1.cversion, .int .i64 e.p.1.timeout, .int .i64 e.p.1.err, .int .i64 e.p.1.cver, .slice e.A2 e.p.1.mems.length e.c2, .slice e.A3 e.p.1.np e.c3]
def evd2 (l : List El2) : List Value := (l.map ev2).flatten
theorem ev2_len (e : El2) : (ev2 e).length = 16 := rfl
theorem ev2_one (e : El2) : ∀ u ∈ ev2 e, u.oneCell' = true := by
  intro u hu
  simp only [ev2, List.mem_cons, List.not_mem_nil, or_false] at hu
  rcases hu with rfl | rfl | rfl | rfl | rfl | rfl | rfl | rfl | rfl | rfl | rfl | rfl | rfl | rfl | rfl | rfl <;> rfl
theorem evd2_app (a : List El2) (e : El2) : evd2 (a ++ [e]) = evd2 a ++ ev2 e := by simp [evd2]
theorem evd2_at : ∀ (l : List El2) (j : Nat) (h : j < l.length) (i : Nat) (hi : i < 16), (evd2 l)[j * 16 + i]? = (ev2 (l[j]'h))[i]?
  | [], j, h, _, _ => by simp at h
  | e :: l, 0, h, i, hi => by
    show (ev2 e ++ evd2 l)[0 * 16 + i]? = _
    rw [Nat.zero_mul, Nat.zero_add, List.getElem?_append_left (by rw [ev2_len]; exact hi)]
    rfl
  | e :: l, j + 1, h, i, hi => by
    show (ev2 e ++ evd2 l)[(j + 1) * 16 + i]? = _
    rw [List.getElem?_append_right (by rw [ev2_len]; omega), ev2_len, show (j + 1) * 16 + i - 16 = j * 16 + i by omega, evd2_at l j (by simpa using h) i hi]
    rfl
abbrev DV (w : World) (e : El2) : Prop := DVal w e.p.1 e.p.2 e.A1 e.c1 e.A2 e.c2 e.A3 e.c3
/- A deed that was got: what it reaches lies in D, apart from the blocks rb that are written. -/
def EAt (W : World) (rb : Nat → Prop) (e : El2) : Prop :=
  ∃ D : Nat → Prop, (∀ k, D k → k < W.heap.size ∧ ¬ rb k) ∧ ∀ (w'' : World) (S : Nat → Prop), Chg S W w'' → (∀ k, D k → ¬ S k) → DV w'' e
theorem EAt.keep {W W' : World} {rb rb' S : Nat → Prop} {e : El2} (h : EAt W rb e) (hc : Chg S W W') (hs : ∀ k, k < W.heap.size → ¬ rb k → ¬ S k ∧ ¬ rb' k) : EAt W' rb' e := by
  obtain ⟨D, h1, h2⟩ := h
  refine ⟨D, fun k hk => ⟨Nat.lt_of_lt_of_le (h1 k hk).1 hc.size, (hs k (h1 k hk).1 (h1 k hk).2).2⟩, fun w'' S' hc' hs' => h2 w'' (fun k => S k ∨ S' k) ((hc.weak (fun _ _ e => .inl e)).trans (hc'.weak (fun _ _ e => .inr e))) (fun k hk e => ?_)⟩
  rcases e with e | e
  · exact (hs k (h1 k hk).1 (h1 k hk).2).1 e
  · exact hs' k hk e
theorem EAt.val {W : World} {rb : Nat → Prop} {e : El2} (h : EAt W rb e) : DV W e := by
  obtain ⟨D, h1, h2⟩ := h
  exact h2 W Non (Chg.refl _ _) (fun _ _ e => e)
theorem EAt.new {W w1 : World} {rb : Nat → Prop} {e : El2} (hf : ∀ (w'' : World) (S : Nat → Prop), Chg S w1 w'' → (∀ k, W.heap.size ≤ k → ¬ S k) → DV w'' e) (hrb : ∀ k, rb k → k < W.heap.size ∨ w1.heap.size ≤ k) : EAt w1 rb e := by
  refine ⟨fun k => W.heap.size ≤ k ∧ k < w1.heap.size, fun k hk => ⟨hk.2, fun e => by have := hrb k e; omega⟩, fun w'' S hc hs => hf w'' (fun k => S k ∧ k < w1.heap.size) ⟨hc.os, hc.tape, hc.output, hc.size, fun k hk hn => hc.block k hk (fun e => hn ⟨e, hk⟩)⟩ (fun k hk e => hs k ⟨hk, e.2⟩ e.1)⟩
def RB (N : Nat) (vd ve : Value) (k : Nat) : Prop := (N ≤ k ∧ k < N + 7) ∨ vd.ownBlock = some k ∨ ve.ownBlock = some k
def nI (n : Nat) : Value := .int .i64 n

structure Sc (l : List UInt8) (N t : Nat) (its : List It) (els : List El2) (vd ve : Value) (W : World) : Prop where
  el : els.map El2.p = its
  bd : Boxed W N 29 vd
  be : Boxed W (N + 1) 37 ve
  rd : W.ownsRow (N + 7) 31 16 vd its.length (evd2 els)
  re : W.ownsRow (N + 7) 3 1 ve its.length ((endsF 0 its).map nI)
  at' : ∀ e ∈ els, EAt W (RB N vd ve) e
  la : Boxed W (N + 2) 22 (.int .i64 (lastZ 0 its))
  too : Boxed W (N + 3) 3 (.int .i64 t)
  tt : t = (catI its).length
  tl : t ≤ l.length
  sc : scanF l 0 = its ++ scanF (l.drop t) (lastZ 0 its)
theorem boxed_chg {S : Nat → Prop} {W W' : World} {B : Nat} {T : TypeId} {v : Value} (h : Boxed W B T v) (hc : Chg S W W') (hn : ¬ S B) : Boxed W' B T v := (hc.block B h.lt hn).trans h
/- It abides a change of blocks that it has not. -/
theorem Sc.keep {l : List UInt8} {N t : Nat} {its : List It} {els : List El2} {vd ve : Value} {W W' : World} {S : Nat → Prop} (h : Sc l N t its els vd ve W) (hc : Chg S W W') (hs : ∀ k, k < W.heap.size → S k → N + 4 ≤ k ∧ RB N vd ve k ∧ vd.ownBlock ≠ some k ∧ ve.ownBlock ≠ some k) : Sc l N t its els vd ve W' := by
  have hb : ∀ j, j < 4 → N + j < W.heap.size → ¬ S (N + j) := fun j hj hl e => by have := (hs _ hl e).1; omega
  refine ⟨h.el, boxed_chg h.bd hc (hb 0 (by omega) h.bd.lt), boxed_chg h.be hc (hb 1 (by omega) h.be.lt), owns_keep h.rd hc (fun k hk e => (hs k (h.rd.lt k hk).2 e).2.2.1 hk), owns_keep h.re hc (fun k hk e => (hs k (h.re.lt k hk).2 e).2.2.2 hk), fun e he => (h.at' e he).keep hc (fun k hk hn => ⟨fun e => hn (hs k hk e).2.1, hn⟩), boxed_chg h.la hc (hb 2 (by omega) h.la.lt), boxed_chg h.too hc (hb 3 (by omega) h.too.lt), h.tt, h.tl, h.sc⟩
theorem own_cells {W : World} {base T size n : Nat} {v : Value} {xs : List Value} (h : W.ownsRow base T size v n xs) {k : Nat} (hk : v.ownBlock = some k) : ∃ cur, W.heap[k]? = some (.cells cur T (0, 0)) := by
  rcases h.2 with ⟨rfl, _⟩ | ⟨g, cap, cur, rfl, _, hg, _⟩
  · cases hk
  · cases hk
    exact ⟨cur, hg⟩
theorem Sc.more {l : List UInt8} {N t : Nat} {its : List It} {els : List El2} {vd ve : Value} {W W' : World} (h : Sc l N t its els vd ve W) (hb : Below W.heap.size W W') : Sc l N t its els vd ve W' := h.keep (Chg.of_below hb) (fun _ _ e => e.elim)
theorem Sc.put {l : List UInt8} {N t b : Nat} {its : List It} {els : List El2} {vd ve : Value} {W : World} (h : Sc l N t its els vd ve W) {o : Obj} (o' : Obj) (hb : N + 4 ≤ b) (hb' : b < N + 7) (ho : W.heap[b]? = some o) (hcc : o.isCells = false) : Sc l N t its els vd ve (W.putObj b o') := by
  have hc : Chg (fun k => k = b) W (W.putObj b o') := (Chg.of_grown (grownBy_putObj' W b o')).weak (fun k _ e => by cases e; rfl)
  refine h.keep hc (fun k hk e => ?_)
  subst e
  refine ⟨hb, .inl ⟨by omega, hb'⟩, fun e => ?_, fun e => ?_⟩
  · obtain ⟨cur, hg⟩ := own_cells h.rd e
    rw [hg] at ho; cases ho; cases hcc
  · obtain ⟨cur, hg⟩ := own_cells h.re e
    rw [hg] at ho; cases ho; cases hcc
theorem Sc.apart {l : List UInt8} {N t : Nat} {its : List It} {els : List El2} {vd ve : Value} {W : World} (h : Sc l N t its els vd ve W) (k : Nat) (h1 : vd.ownBlock = some k) : ve.ownBlock ≠ some k := by
  intro h2
  obtain ⟨c1, g1⟩ := own_cells h.rd h1
  obtain ⟨c2, g2⟩ := own_cells h.re h2
  rw [g1] at g2
  cases g2
end Go.Proofs.YtmfednhommbikaaGreatDoor.DD

namespace Go.Proofs.YtmfednhommbikaaGreatDoor.DD
set_option linter.unusedVariables false
open Go.RowKit
set_option linter.unusedVariables false

structure Rw (N : Nat) (els : List El2) (es : List Value) (vd ve : Value) (z t : Int) (W : World) : Prop where
  bd : Boxed W N 29 vd
  be : Boxed W (N + 1) 37 ve
  rd : W.ownsRow (N + 7) 31 16 vd els.length (evd2 els)
  re : W.ownsRow (N + 7) 3 1 ve es.length es
  at' : ∀ e ∈ els, EAt W (RB N vd ve) e
  la : Boxed W (N + 2) 22 (.int .i64 z)
  too : Boxed W (N + 3) 3 (.int .i64 t)
theorem Sc.rw' {l : List UInt8} {N t : Nat} {its : List It} {els : List El2} {vd ve : Value} {W : World} (h : Sc l N t its els vd ve W) : Rw N els ((endsF 0 its).map nI) vd ve (lastZ 0 its) t W := by
  have e1 : els.length = its.length := by rw [← h.el, List.length_map]
  have e2 : ((endsF 0 its).map nI).length = its.length := by rw [List.length_map, endsF_len]
  exact ⟨h.bd, h.be, by rw [e1]; exact h.rd, by rw [e2]; exact h.re, h.at', h.la, h.too⟩
theorem Rw.sc {l : List UInt8} {N t : Nat} {its : List It} {els : List El2} {vd ve : Value} {W : World} (h : Rw N els ((endsF 0 its).map nI) vd ve (lastZ 0 its) t W) (he : els.map El2.p = its) (tt : t = (catI its).length) (tl : t ≤ l.length) (sc : scanF l 0 = its ++ scanF (l.drop t) (lastZ 0 its)) : Sc l N t its els vd ve W := by
  have e1 : els.length = its.length := by rw [← he, List.length_map]
  have e2 : ((endsF 0 its).map nI).length = its.length := by rw [List.length_map, endsF_len]
  have h1 := h.rd
  have h2 := h.re
  rw [e1] at h1
  rw [e2] at h2
  exact ⟨he, h.bd, h.be, h1, h2, h.at', h.la, h.too, tt, tl, sc⟩
theorem Rw.apart {N : Nat} {els : List El2} {es : List Value} {vd ve : Value} {z t : Int} {W : World} (h : Rw N els es vd ve z t W) (k : Nat) (h1 : vd.ownBlock = some k) : ve.ownBlock ≠ some k := by
  intro h2
  obtain ⟨c1, g1⟩ := own_cells h.rd h1
  obtain ⟨c2, g2⟩ := own_cells h.re h2
  rw [g1] at g2
  cases g2
theorem keeps_chg {S : Nat → Prop} {W W' : World} (hc : Chg S W W') (h : ∀ k o, S k → W.heap[k]? = some o → o.isCells = true) : KeepsOthers W W' :=
  ⟨hc.size, fun k o hk ho => (hc.block k (Array.getElem?_eq_some_iff.1 hk).1 (fun e => by rw [h k o e hk] at ho; cases ho)).trans hk⟩
theorem keeps_own {W W' : World} {base T size n : Nat} {v : Value} {xs : List Value} (h : W.ownsRow base T size v n xs) (hc : Chg (fun i => v.ownBlock = some i) W W') : KeepsOthers W W' :=
  keeps_chg hc (fun k o e hk => by obtain ⟨c, hg⟩ := own_cells h e; rw [hg] at hk; cases hk; rfl)
/- A deed more. -/
theorem Rw.deed {N : Nat} {els : List El2} {es : List Value} {vd ve : Value} {z t : Int} {W W6 : World} (h : Rw N els es vd ve z t W) {g cap : Nat} {e0 : El2} (ho : W6.ownsRow (N + 7) 31 16 (.slice (some ⟨g, 0, none⟩) (els.length + 1) cap) (els.length + 1) (evd2 els ++ ev2 e0)) (hc : Chg (fun i => vd.ownBlock = some i) W W6) (hg : vd.ownBlock = some g ∨ W.heap.size ≤ g) (hN : N + 7 ≤ W.heap.size) (he : EAt W (RB N vd ve) e0) :
    Rw N (els ++ [e0]) es (.slice (some ⟨g, 0, none⟩) (els.length + 1) cap) ve z t (W6.setCell ⟨N, 0, none⟩ (.slice (some ⟨g, 0, none⟩) (els.length + 1) cap)) ∧ Boxed W6 N 29 vd ∧ KeepsOthers W (W6.setCell ⟨N, 0, none⟩ (.slice (some ⟨g, 0, none⟩) (els.length + 1) cap)) ∧ Chg (fun i => vd.ownBlock = some i ∨ i = N) W (W6.setCell ⟨N, 0, none⟩ (.slice (some ⟨g, 0, none⟩) (els.length + 1) cap)) := by
  have hlt : ∀ k, vd.ownBlock = some k → N + 7 ≤ k ∧ k < W.heap.size := h.rd.lt
  have hgN : N + 7 ≤ g := by
    rcases hg with e | e
    · exact (hlt g e).1
    · omega
  have b6 : Boxed W6 N 29 vd := boxed_chg h.bd hc (fun e => by have := (hlt _ e).1; omega)
  have c7 : Chg (fun i => vd.ownBlock = some i ∨ i = N) W (W6.setCell ⟨N, 0, none⟩ (.slice (some ⟨g, 0, none⟩) (els.length + 1) cap)) := (hc.weak (fun _ _ e => .inl e)).trans (Chg.setCell W6 ⟨N, 0, none⟩ _ (.inr rfl))
  have key : ∀ e, EAt W (RB N vd ve) e → EAt (W6.setCell ⟨N, 0, none⟩ (.slice (some ⟨g, 0, none⟩) (els.length + 1) cap)) (RB N (.slice (some ⟨g, 0, none⟩) (els.length + 1) cap) ve) e := by
    intro e he
    refine he.keep c7 (fun k hk hn => ⟨fun e => ?_, fun e => ?_⟩)
    · rcases e with e | e
      · exact hn (.inr (.inl e))
      · exact hn (.inl ⟨by omega, by omega⟩)
    · rcases e with e | e | e
      · exact hn (.inl e)
      · have e' : g = k := Option.some.inj e
        subst e'
        rcases hg with q | q
        · exact hn (.inr (.inl q))
        · omega
      · exact hn (.inr (.inr e))
  refine ⟨⟨b6.set _, boxed_chg h.be c7 (fun e => ?_), ?_, ?_, fun e he' => ?_, boxed_chg h.la c7 (fun e => ?_), boxed_chg h.too c7 (fun e => ?_)⟩, b6, (keeps_own h.rd hc).trans (KeepsOthers.setCell _ _ _), c7⟩
  · rcases e with e | e
    · have := (hlt _ e).1; omega
    · omega
  · rw [List.length_append, evd2_app]
    exact owns_keep ho (Chg.setCell (S := fun k => k = N) W6 ⟨N, 0, none⟩ _ rfl) (fun k hk e => by have e' : g = k := Option.some.inj hk; omega)
  · refine owns_keep h.re c7 (fun k hk e => ?_)
    rcases e with e | e
    · exact h.apart k e hk
    · have := (h.re.lt k hk).1; omega
  · rcases List.mem_append.1 he' with q | q
    · exact key e (h.at' e q)
    · rw [List.mem_singleton.1 q]; exact key _ he
  · rcases e with e | e
    · have := (hlt _ e).1; omega
    · omega
  · rcases e with e | e
    · have := (hlt _ e).1; omega
    · omega
/- An end more. -/
theorem Rw.fin {N : Nat} {els : List El2} {es : List Value} {vd ve : Value} {z t : Int} {W W6 : World} (h : Rw N els es vd ve z t W) {g cap : Nat} {n : Int} (ho : W6.ownsRow (N + 7) 3 1 (.slice (some ⟨g, 0, none⟩) (es.length + 1) cap) (es.length + 1) (es ++ [.int .i64 n])) (hc : Chg (fun i => ve.ownBlock = some i) W W6) (hg : ve.ownBlock = some g ∨ W.heap.size ≤ g) (hN : N + 7 ≤ W.heap.size) :
    Rw N els (es ++ [.int .i64 n]) vd (.slice (some ⟨g, 0, none⟩) (es.length + 1) cap) z t (W6.setCell ⟨N + 1, 0, none⟩ (.slice (some ⟨g, 0, none⟩) (es.length + 1) cap)) ∧ Boxed W6 (N + 1) 37 ve ∧ KeepsOthers W (W6.setCell ⟨N + 1, 0, none⟩ (.slice (some ⟨g, 0, none⟩) (es.length + 1) cap)) ∧ Chg (fun i => ve.ownBlock = some i ∨ i = N + 1) W (W6.setCell ⟨N + 1, 0, none⟩ (.slice (some ⟨g, 0, none⟩) (es.length + 1) cap)) := by
  have hlt : ∀ k, ve.ownBlock = some k → N + 7 ≤ k ∧ k < W.heap.size := h.re.lt
  have hgN : N + 7 ≤ g := by
    rcases hg with e | e
    · exact (hlt g e).1
    · omega
  have b6 : Boxed W6 (N + 1) 37 ve := boxed_chg h.be hc (fun e => by have := (hlt _ e).1; omega)
  have c7 : Chg (fun i => ve.ownBlock = some i ∨ i = N + 1) W (W6.setCell ⟨N + 1, 0, none⟩ (.slice (some ⟨g, 0, none⟩) (es.length + 1) cap)) := (hc.weak (fun _ _ e => .inl e)).trans (Chg.setCell W6 ⟨N + 1, 0, none⟩ _ (.inr rfl))
  have far : ∀ j, j < 4 → j ≠ 1 → ¬ (ve.ownBlock = some (N + j) ∨ N + j = N + 1) := by
    intro j hj h1 e
    rcases e with e | e
    · have := (hlt _ e).1; omega
    · omega
  refine ⟨⟨boxed_chg h.bd c7 (far 0 (by omega) (by omega)), b6.set _, ?_, ?_, fun e he => ?_, boxed_chg h.la c7 (far 2 (by omega) (by omega)), boxed_chg h.too c7 (far 3 (by omega) (by omega))⟩, b6, (keeps_own h.re hc).trans (KeepsOthers.setCell _ _ _), c7⟩
  · refine owns_keep h.rd c7 (fun k hk e => ?_)
    rcases e with e | e
    · exact h.apart k hk e
    · have := (h.rd.lt k hk).1; omega
  · rw [List.length_append]
    exact owns_keep ho (Chg.setCell (S := fun k => k = N + 1) W6 ⟨N + 1, 0, none⟩ _ rfl) (fun k hk e => by have e' : g = k := Option.some.inj hk; omega)
  · refine (h.at' e he).keep c7 (fun k hk hn => ⟨fun e => ?_, fun e => ?_⟩)
    · rcases e with e | e
      · exact hn (.inr (.inr e))
      · exact hn (.inl ⟨by omega, by omega⟩)
    · rcases e with e | e | e
      · exact hn (.inl e)
      · exact hn (.inr (.inl e))
      · have e' : g = k := Option.some.inj e
        subst e'
        rcases hg with q | q
        · exact hn (.inr (.inr q))
        · omega
/- The last zxid, and how far. -/
theorem Rw.last {N : Nat} {els : List El2} {es : List Value} {vd ve : Value} {z t : Int} {W : World} (h : Rw N els es vd ve z t W) (z' t' : Int) :
    Rw N els es vd ve z' t' ((W.setCell ⟨N + 2, 0, none⟩ (.int .i64 z')).setCell ⟨N + 3, 0, none⟩ (.int .i64 t')) ∧ KeepsOthers W ((W.setCell ⟨N + 2, 0, none⟩ (.int .i64 z')).setCell ⟨N + 3, 0, none⟩ (.int .i64 t')) ∧ Chg (fun i => i = N + 2 ∨ i = N + 3) W ((W.setCell ⟨N + 2, 0, none⟩ (.int .i64 z')).setCell ⟨N + 3, 0, none⟩ (.int .i64 t')) := by
  have c7 : Chg (fun i => i = N + 2 ∨ i = N + 3) W ((W.setCell ⟨N + 2, 0, none⟩ (.int .i64 z')).setCell ⟨N + 3, 0, none⟩ (.int .i64 t')) := (Chg.setCell W ⟨N + 2, 0, none⟩ _ (.inl rfl)).trans (Chg.setCell _ ⟨N + 3, 0, none⟩ _ (.inr rfl))
  have c2 : Chg (fun i => i = N + 2) W (W.setCell ⟨N + 2, 0, none⟩ (.int .i64 z')) := Chg.setCell W ⟨N + 2, 0, none⟩ _ rfl
  refine ⟨⟨boxed_chg h.bd c7 (by omega), boxed_chg h.be c7 (by omega), owns_keep h.rd c7 (fun k hk e => by have := (h.rd.lt k hk).1; omega), owns_keep h.re c7 (fun k hk e => by have := (h.re.lt k hk).1; omega), fun e he => (h.at' e he).keep c7 (fun k hk hn => ⟨fun e => hn (.inl ⟨by omega, by omega⟩), hn⟩), (h.la.set _).other (by omega) _, (boxed_chg h.too c2 (by omega)).set _⟩, (KeepsOthers.setCell _ _ _).trans (KeepsOthers.setCell _ _ _), c7⟩
theorem Sc.next {l b : List UInt8} {N t : Nat} {its : List It} {els : List El2} {vd ve : Value} {W : World} (h : Sc l N t its els vd ve W) {f : Fl} {ps : List Fl} (hu : unframe (l.drop t) = some b) (hd : deedOf b = some (f, ps)) (hz : ¬ f.zxid ≤ lastZ 0 its) {e0 : El2} (he : e0.p = (f, ps)) {vd' ve' : Value} {W' : World}
    (hR : Rw N (els ++ [e0]) ((endsF 0 its).map nI ++ [.int .i64 ((t : Int) + (8 + (b.length : Int)))]) vd' ve' f.zxid ((t : Int) + (8 + (b.length : Int))) W') : Sc l N (t + (8 + b.length)) (its ++ [(f, ps)]) (els ++ [e0]) vd' ve' W' := by
  obtain ⟨d1, d2, d3⟩ := (deedOf_iff b f ps).1 hd
  have hl := (unframe_whole hu).2.2
  rw [List.length_drop] at hl
  have hi : (itB (f, ps)).length = 8 + b.length := by rw [itB_len, d1]
  have e1 : ((endsF 0 (its ++ [(f, ps)])).map nI) = (endsF 0 its).map nI ++ [.int .i64 ((t : Int) + (8 + (b.length : Int)))] := by
    rw [endsF_app, List.map_append, hi, ← h.tt]
    simp [nI]
  refine Rw.sc ?_ ?_ ?_ ?_ ?_
  · rw [e1, lastZ_app]
    have : ((t + (8 + b.length) : Nat) : Int) = (t : Int) + (8 + (b.length : Int)) := by omega
    rw [this]
    exact hR
  · rw [List.map_append, h.el]
    show its ++ [e0.p] = _
    rw [he]
  · rw [catI_app, catI_one, List.length_append, ← h.tt, hi]
  · have := h.tl
    omega
  · rw [lastZ_app, h.sc, scanF_step hu hd hz, List.append_assoc, List.drop_drop]
    rfl
theorem set_comm (w : World) (a b : Addr) (u v : Value) (h : a.block ≠ b.block) : (w.setCell a u).setCell b v = (w.setCell b v).setCell a u := by
  have e : ((w.setCell a u).setCell b v).heap = ((w.setCell b v).setCell a u).heap := by
    apply Array.ext_getElem?
    intro i
    simp only [World.setCell, Array.getElem?_modify]
    by_cases h1 : a.block = i
    · by_cases h2 : b.block = i
      · exact absurd (h1.trans h2.symm) h
      · simp [h1, h2]
    · by_cases h2 : b.block = i
      · simp [h1, h2]
      · simp [h1, h2]
  show World.mk _ _ _ _ _ = World.mk _ _ _ _ _
  congr 1
theorem set_setCells (w : World) (a : Addr) (u : Value) (g : Nat) (h : a.block ≠ g) : ∀ (us : List Value) (o : Nat) (w : World), (w.setCell a u).setCells g o us = (w.setCells g o us).setCell a u
  | [], _, _ => rfl
  | v :: us, o, w => by
    show ((w.setCell a u).setCell ⟨g, o, none⟩ v).setCells g (o + 1) us = _
    rw [set_comm w a ⟨g, o, none⟩ u v h, set_setCells w a u g h us (o + 1)]
    rfl
theorem chain16 (w : World) (g o : Nat) (v0 v1 v2 v3 v4 v5 v6 v7 v8 v9 v10 v11 v12 v13 v14 v15 : Value) : ((((((((((((((((w.setCell ⟨g, o, none⟩ v0).setCell ⟨g, o + 1, none⟩ v1).setCell ⟨g, o + 2, none⟩ v2).setCell ⟨g, o + 3, none⟩ v3).setCell ⟨g, o + 4, none⟩ v4).setCell ⟨g, o + 5, none⟩ v5).setCell ⟨g, o + 6, none⟩ v6).setCell ⟨g, o + 7, none⟩ v7).setCell ⟨g, o + 8, none⟩ v8).setCell ⟨g, o + 9, none⟩ v9).setCell ⟨g, o + 10, none⟩ v10).setCell ⟨g, o + 11, none⟩ v11).setCell ⟨g, o + 12, none⟩ v12).setCell ⟨g, o + 13, none⟩ v13).setCell ⟨g, o + 14, none⟩ v14).setCell ⟨g, o + 15, none⟩ v15) = w.setCells g o [v0, v1, v2, v3, v4, v5, v6, v7, v8, v9, v10, v11, v12, v13, v14, v15] := rfl
theorem at_world {Q : Exit → Act → World → Prop} {e : Exit} {a : Act} {w w' : World} (h : w = w') (hq : Q e a w') : Q e a w := h ▸ hq
theorem at_then {K : Act → World → Prop} {Q : Exit → Act → World → Prop} {a : Act} {w w' : World} (h : w = w') (hq : Exit.then K Q .normal a w') : Exit.then K Q .normal a w := h ▸ hq
end Go.Proofs.YtmfednhommbikaaGreatDoor.DD

namespace Go.Proofs.YtmfednhommbikaaGreatDoor.DD
set_option linter.unusedVariables false
open Go.RowKit Go.Shelf
attribute [local go_sem] Oper.semAt_some
set_option linter.unusedVariables false

theorem wpListIn_run_append {F : Fence} {n : Nat} {P : Program} {w w' : World} {ops : Array Oper} {rest : List Oper} {o : Oper} {a : Act} {Q : Exit → Act → World → Prop} (hg : o.guard = none) (s x : Operand) (t : TypeId) (hop : o.op = Op.call { callee := Callee.builtin Builtin.append, args := #[s, x], argTypes := #[t, t] }) {v u v' : Value} (hs : a.eval s = v) (hx : a.eval x = u)
    (hrun : (Builtin.append_ #[t, t] o.type #[v, u]).run P w = .ok v' w') (h : wpListIn F n P ops Q rest (a.put o.dst v') w') : wpListIn F n P ops Q (o :: rest) a w := by
  refine wpListIn_plain hg fun K hK => ?_
  unfold Oper.wpIn
  refine ⟨?_, ?_⟩
  · simp [Oper.about, hop, resolve, Target.leads, Sem.run_pure]
  · rw [Oper.semAt_plain F _ _ (by rw [hop]; intro c hc; cases hc)]
    simp [execOp, hop, resolve, invoke, builtin, hs, hx, hrun, Result.andThen]
    exact hK _ _ h

theorem there_set {w : World} {g o n N : Nat} (h : w.there g o n) (hN : ¬ N = g) (v : Value) : (w.setCell ⟨N, 0, none⟩ v).there g o n := by
  intro j hj
  have e : (w.setCell ⟨N, 0, none⟩ v).heap[g]? = w.heap[g]? := Below.heap_setCell w ⟨N, 0, none⟩ v g (fun e => hN e.symm)
  rw [World.cell?_of_block (a := ⟨g, o + j, none⟩) e, World.frozen?_of_block (a := ⟨g, o + j, none⟩) e]
  exact h j hj
theorem opIn_load {F : Fence} {n : Nat} {P : Program} {ops : Array Oper} {o : Oper} {a : Act} {w : World} {K : Act → World → Prop} {Q : Exit → Act → World → Prop} {E : Prop} (hg : o.guard = none) (ty : TypeId) (x : Operand) (ho : o.op = .load ty x) (b off : Nat) (hx : a.eval x = .pointer (some ⟨b, off, none⟩)) (cs : List Value) (d : TypeDesc) (hc : w.rangeAt b off cs) (hu : P.underlying ty = some d) (hd : d.isRow = true) (hi : (P.info? ty).map (·.size) = some cs.length)
    (h : K (a.put o.dst (.agg cs.toArray)) w) : if Region.wanted o (yielded ops a.tmps) = true then Oper.wpIn F n P o a w K Q else E := by
  rw [if_pos (by simp [Region.wanted, hg])]
  unfold Oper.wpIn
  refine ⟨?_, ?_⟩
  · simp [Oper.about, ho]
  · rw [Oper.semAt_plain F _ _ (by rw [ho]; intro c hc; cases hc)]
    unfold execOp
    simp only [ho, hx, Instr.loadAt, Instr.sureAddr, Sem.run_bind, Sem.run_pure, Result.andThen_ok, run_loadVar_mid w b off ty cs d hc hu hd hi]
    exact h
theorem opIn_append {F : Fence} {n : Nat} {P : Program} {ops : Array Oper} {o : Oper} {a : Act} {w w' : World} {K : Act → World → Prop} {Q : Exit → Act → World → Prop} {E : Prop} (hg : o.guard = none) (s x : Operand) (t : TypeId) (hop : o.op = Op.call { callee := Callee.builtin Builtin.append, args := #[s, x], argTypes := #[t, t] }) {v u v' : Value} (hs : a.eval s = v) (hx : a.eval x = u) (hrun : (Builtin.append_ #[t, t] o.type #[v, u]).run P w = .ok v' w')
    (h : K (a.put o.dst v') w') : if Region.wanted o (yielded ops a.tmps) = true then Oper.wpIn F n P o a w K Q else E := by
  rw [if_pos (by simp [Region.wanted, hg])]
  unfold Oper.wpIn
  refine ⟨?_, ?_⟩
  · simp [Oper.about, hop, resolve, Target.leads, Sem.run_pure]
  · rw [Oper.semAt_plain F _ _ (by rw [hop]; intro c hc; cases hc)]
    simp [execOp, hop, resolve, invoke, builtin, hs, hx, hrun, Result.andThen]
    exact h
theorem opIn_store {F : Fence} {n : Nat} {P : Program} {ops : Array Oper} {o : Oper} {a : Act} {w : World} {K : Act → World → Prop} {Q : Exit → Act → World → Prop} {E : Prop} (hg : o.guard = none) (ty : TypeId) (x y : Operand) (ho : o.op = .store ty x y) (b off : Nat) (cells : Array Value) (hx : a.eval x = .pointer (some ⟨b, off, none⟩)) (hy : a.eval y = .agg cells) (ht : w.there b off cells.size) (hi : (P.info? ty).map (·.size) = some cells.size) (h1 : cells.all (·.oneCell') = true) {w6 : World} (h6 : w6 = w.setCells b off cells.toList)
    (h : K (a.put o.dst undef) w6) : if Region.wanted o (yielded ops a.tmps) = true then Oper.wpIn F n P o a w K Q else E := by
  rw [if_pos (by simp [Region.wanted, hg])]
  unfold Oper.wpIn
  refine ⟨?_, ?_⟩
  · simp [Oper.about, ho]
  · rw [Oper.semAt_plain F _ _ (by rw [ho]; intro c hc; cases hc)]
    unfold execOp
    simp only [ho, hx, hy, Instr.storeAt, Instr.sureAddr, Sem.run_bind, Sem.run_pure, Result.andThen_ok, run_storeVar_mid w b off ty cells ht hi h1]
    rw [← h6]
    exact h

set_option maxRecDepth 100000 in
set_option maxHeartbeats 8000000 in
theorem reg9 {L m N pd g cap k Cd : Nat} {Ad : Option Addr} {w2 w5 : World} {K : Act → World → Prop} {Q : Exit → Act → World → Prop} {f : Fl} {A1 A2 A3 : Option Addr} {c1 c2 c3 : Nat} {x0 x1 x2 x3 x4 x6 x7 x8 x9 x10 x12 x13 x14 x15 x16 x17 x18 x19 x20 x21 x22 x23 x24 x25 x26 x27 x28 x29 x30 x31 x32 x33 x34 x35 x36 x37 x38 x39 x40 x41 x42 x43 x44 x45 : Value}
    (hbd : w2.cell? ⟨N, 0, none⟩ = some (.slice Ad k Cd)) (hNl : N < w2.heap.size) (hd : w2.heap[pd]? = some (.cells #[.int .i64 f.zxid, .int .u8 f.kind, .int .i64 f.session, .int .i64 f.turn, .int .i64 f.xid, .int .i64 f.time, .string (mkS f.path), .slice A1 f.data.length c1, .int .i64 f.owner, .int .i64 f.version, .int .i64 f.cversion, .int .i64 f.timeout, .int .i64 f.err, .int .i64 f.cver, .slice A2 f.mems.length c2, .slice A3 f.np c3] 31 (0, 0)))
    (hap : (Builtin.append_ #[29, 29] 29 #[.slice Ad k Cd, .slice (some ⟨w2.drew.heap.size, 0, none⟩) 1 1]).run Tryz.prog (w2.drew.alloc (.cells #[.int .i64 0, .int .u8 0, .int .i64 0, .int .i64 0, .int .i64 0, .int .i64 0, .string ⟨#[]⟩, .slice none 0 0, .int .i64 0, .int .i64 0, .int .i64 0, .int .i64 0, .int .i64 0, .int .i64 0, .slice none 0 0, .slice none 0 0] 31)) = .ok (.slice (some ⟨g, 0, none⟩) (k + 1) cap) w5)
    (ht : w5.there g (k * 16) 16) (hb5 : Boxed w5 N 29 (.slice Ad k Cd)) (hgN : ¬ N = g)
    {w7 : World} (h7 : w7 = (w5.setCells g (k * 16) #[.int .i64 f.zxid, .int .u8 f.kind, .int .i64 f.session, .int .i64 f.turn, .int .i64 f.xid, .int .i64 f.time, .string (mkS f.path), .slice A1 f.data.length c1, .int .i64 f.owner, .int .i64 f.version, .int .i64 f.cversion, .int .i64 f.timeout, .int .i64 f.err, .int .i64 f.cver, .slice A2 f.mems.length c2, .slice A3 f.np c3].toList).setCell ⟨N, 0, none⟩ (.slice (some ⟨g, 0, none⟩) (k + 1) cap))
    (hK : K { tmps := #[x0, x1, x2, x3, x4, .pointer (some ⟨N, 0, none⟩), x6, x7, x8, x9, x10, .pointer (some ⟨pd, 0, none⟩), x12, x13, x14, x15, x16, x17, x18, x19, x20, x21, x22, x23, x24, x25, x26, x27, x28, x29, .slice Ad k Cd, .agg #[.int .i64 f.zxid, .int .u8 f.kind, .int .i64 f.session, .int .i64 f.turn, .int .i64 f.xid, .int .i64 f.time, .string (mkS f.path), .slice A1 f.data.length c1, .int .i64 f.owner, .int .i64 f.version, .int .i64 f.cversion, .int .i64 f.timeout, .int .i64 f.err, .int .i64 f.cver, .slice A2 f.mems.length c2, .slice A3 f.np c3], .int .i64 k, .slice (some ⟨w2.heap.size, 0, none⟩) 1 1, .slice (some ⟨g, 0, none⟩) (k + 1) cap, .pointer (some ⟨g, k * 16, none⟩), x36, x37, x38, x39, x40, x41, x42, x43, x44, x45], defers := [] } w7) :
    Code.wpIn (Fence.wide.inRound L) m Tryz.prog (Code.region 9 #[{ dst := some 30, op := Op.load 29 (Operand.tmp 5), type := 29, pos := "segment.go:31", after := #[], guard := none }, { dst := some 31, op := Op.load 31 (Operand.tmp 11), type := 31, pos := "segment.go:31", after := #[], guard := none }, { dst := some 32, op := Op.call { callee := Callee.builtin Builtin.len, args := #[Operand.tmp 30], argTypes := #[29] }, type := 3, pos := "segment.go:31", after := #[{ on := 0, ground := Ground.data }], guard := none }, { dst := some 33, op := Op.buildSlice 29 1 #[(0, Operand.const (Value.agg #[Value.int IntKind.i64 0, Value.int IntKind.u8 0, Value.int IntKind.i64 0, Value.int IntKind.i64 0, Value.int IntKind.i64 0, Value.int IntKind.i64 0, Value.string { data := #[] }, Value.slice none 0 0, Value.int IntKind.i64 0, Value.int IntKind.i64 0, Value.int IntKind.i64 0, Value.int IntKind.i64 0, Value.int IntKind.i64 0, Value.int IntKind.i64 0, Value.slice none 0 0, Value.slice none 0 0]))], type := 29, pos := "segment.go:31", after := #[], guard := none }, { dst := some 34, op := Op.call { callee := Callee.builtin Builtin.append, args := #[Operand.tmp 30, Operand.tmp 33], argTypes := #[29, 29] }, type := 29, pos := "segment.go:31", after := #[{ on := 0, ground := Ground.data }, { on := 3, ground := Ground.data }, { on := 0, ground := Ground.phase }, { on := 1, ground := Ground.phase }, { on := 2, ground := Ground.phase }, { on := 3, ground := Ground.phase }], guard := none }, { dst := some 35, op := Op.indexAddr 29 (Operand.tmp 34) (Operand.tmp 32), type := 0, pos := "segment.go:31", after := #[{ on := 4, ground := Ground.data }, { on := 2, ground := Ground.data }, { on := 0, ground := Ground.phase }, { on := 1, ground := Ground.phase }, { on := 2, ground := Ground.phase }, { on := 3, ground := Ground.phase }, { on := 4, ground := Ground.phase }, { on := 7, ground := Ground.gcOnly Departure.appendInPlace }], guard := none }, { dst := none, op := Op.store 31 (Operand.tmp 35) (Operand.tmp 31), type := 0, pos := "segment.go:31", after := #[{ on := 5, ground := Ground.data }, { on := 1, ground := Ground.data }, { on := 4, ground := Ground.chain }, { on := 0, ground := Ground.phase }, { on := 1, ground := Ground.phase }, { on := 2, ground := Ground.phase }, { on := 3, ground := Ground.phase }, { on := 4, ground := Ground.phase }, { on := 7, ground := Ground.gcOnly Departure.appendInPlace }], guard := none }, { dst := none, op := Op.store 29 (Operand.tmp 5) (Operand.tmp 34), type := 0, pos := "segment.go:31", after := #[{ on := 4, ground := Ground.data }, { on := 4, ground := Ground.chain }, { on := 6, ground := Ground.textOnly Departure.appendInPlace }, { on := 0, ground := Ground.phase }, { on := 1, ground := Ground.phase }, { on := 2, ground := Ground.phase }, { on := 3, ground := Ground.phase }, { on := 4, ground := Ground.phase }, { on := 5, ground := Ground.textOnly Departure.appendInPlace }, { on := 6, ground := Ground.textOnly Departure.appendInPlace }], guard := none }] true) (Exit.then K Q) { tmps := #[x0, x1, x2, x3, x4, .pointer (some ⟨N, 0, none⟩), x6, x7, x8, x9, x10, .pointer (some ⟨pd, 0, none⟩), x12, x13, x14, x15, x16, x17, x18, x19, x20, x21, x22, x23, x24, x25, x26, x27, x28, x29, x30, x31, x32, x33, x34, x35, x36, x37, x38, x39, x40, x41, x42, x43, x44, x45], defers := [] } w2 := by
  have hmx : Tryz.prog.follows .mixedOrders = true := by kernel_rfl
  subst h7
  have hpl := heap_lt hd
  have hd4 : (w2.drew.alloc (.cells #[.int .i64 0, .int .u8 0, .int .i64 0, .int .i64 0, .int .i64 0, .int .i64 0, .string ⟨#[]⟩, .slice none 0 0, .int .i64 0, .int .i64 0, .int .i64 0, .int .i64 0, .int .i64 0, .int .i64 0, .slice none 0 0, .slice none 0 0] 31)).heap[pd]? = some (.cells #[.int .i64 f.zxid, .int .u8 f.kind, .int .i64 f.session, .int .i64 f.turn, .int .i64 f.xid, .int .i64 f.time, .string (mkS f.path), .slice A1 f.data.length c1, .int .i64 f.owner, .int .i64 f.version, .int .i64 f.cversion, .int .i64 f.timeout, .int .i64 f.err, .int .i64 f.cver, .slice A2 f.mems.length c2, .slice A3 f.np c3] 31 (0, 0)) := (Below.heap_alloc w2.drew _ pd hpl).trans hd
  have hb4 : (w2.drew.alloc (.cells #[.int .i64 0, .int .u8 0, .int .i64 0, .int .i64 0, .int .i64 0, .int .i64 0, .string ⟨#[]⟩, .slice none 0 0, .int .i64 0, .int .i64 0, .int .i64 0, .int .i64 0, .int .i64 0, .int .i64 0, .slice none 0 0, .slice none 0 0] 31)).cell? ⟨N, 0, none⟩ = some (.slice Ad k Cd) := (World.cell?_of_block (a := ⟨N, 0, none⟩) (Below.heap_alloc w2.drew _ N hNl)).trans hbd
  have HR3 : Hid (w2.drew.rangeAt pd 0 #[.int .i64 f.zxid, .int .u8 f.kind, .int .i64 f.session, .int .i64 f.turn, .int .i64 f.xid, .int .i64 f.time, .string (mkS f.path), .slice A1 f.data.length c1, .int .i64 f.owner, .int .i64 f.version, .int .i64 f.cversion, .int .i64 f.timeout, .int .i64 f.err, .int .i64 f.cver, .slice A2 f.mems.length c2, .slice A3 f.np c3].toList) := range16 (w := w2.drew) hd
  have HR4 : Hid ((w2.drew.alloc (.cells #[.int .i64 0, .int .u8 0, .int .i64 0, .int .i64 0, .int .i64 0, .int .i64 0, .string ⟨#[]⟩, .slice none 0 0, .int .i64 0, .int .i64 0, .int .i64 0, .int .i64 0, .int .i64 0, .int .i64 0, .slice none 0 0, .slice none 0 0] 31)).rangeAt pd 0 #[.int .i64 f.zxid, .int .u8 f.kind, .int .i64 f.session, .int .i64 f.turn, .int .i64 f.xid, .int .i64 f.time, .string (mkS f.path), .slice A1 f.data.length c1, .int .i64 f.owner, .int .i64 f.version, .int .i64 f.cversion, .int .i64 f.timeout, .int .i64 f.err, .int .i64 f.cver, .slice A2 f.mems.length c2, .slice A3 f.np c3].toList) := range16 hd4
  have HAP : Hid _ := hap
  have HT : Hid _ := ht
  have HB5 : Hid _ := hb5
  have HK : Hid _ := hK
  have hne2 : ¬ pd = w2.heap.size := by omega
  have hne3 : ¬ N = w2.heap.size := by omega
  clear hd hd4 hap ht hb5 hK
  refine wpIn_region_any hmx ?_
  change wpAnyIn _ _ _ _ _ _ _ _ _ (World.drew _)
  apply cut_any
  case f =>
    intro key
    all_goals (first | (refine wpAnyIn_ready (rs := [0, 1, 3]) (by decide +kernel) (by simp) ?_; refine (AllReadyIn.cons rfl (fun K0 hK0 => ?_) (AllReadyIn.cons rfl (fun K0 hK0 => ?_) (AllReadyIn.cons rfl (fun K0 hK0 => ?_) AllReadyIn.nil)))))
    all_goals (first | (refine opIn_load rfl 31 (.tmp 11) rfl pd 0 rfl _ _ HR3.out Tryz.underlying31 rfl infoDs ?_; go_simp; refine hK0 _ _ ?_; clear hK0 K0) | (refine opIn_load rfl 31 (.tmp 11) rfl pd 0 rfl _ _ HR4.out Tryz.underlying31 rfl infoDs ?_; go_simp; refine hK0 _ _ ?_; clear hK0 K0) | (go_simp; first | (refine hK0 _ _ ?_; clear hK0 K0) | (gi_wp2; first | (refine hK0 _ _ ?_; clear hK0 K0) | skip)))
    all_goals (first | (refine wpAnyIn_ready (rs := [1, 2, 3]) (by decide +kernel) (by simp) ?_; refine (AllReadyIn.cons rfl (fun K0 hK0 => ?_) (AllReadyIn.cons rfl (fun K0 hK0 => ?_) (AllReadyIn.cons rfl (fun K0 hK0 => ?_) AllReadyIn.nil)))) | (refine wpAnyIn_ready (rs := [0, 3]) (by decide +kernel) (by simp) ?_; refine (AllReadyIn.cons rfl (fun K0 hK0 => ?_) (AllReadyIn.cons rfl (fun K0 hK0 => ?_) AllReadyIn.nil))) | (refine wpAnyIn_ready (rs := [0, 1]) (by decide +kernel) (by simp) ?_; refine (AllReadyIn.cons rfl (fun K0 hK0 => ?_) (AllReadyIn.cons rfl (fun K0 hK0 => ?_) AllReadyIn.nil))))
    all_goals (first | (refine opIn_load rfl 31 (.tmp 11) rfl pd 0 rfl _ _ HR3.out Tryz.underlying31 rfl infoDs ?_; go_simp; refine hK0 _ _ ?_; clear hK0 K0) | (refine opIn_load rfl 31 (.tmp 11) rfl pd 0 rfl _ _ HR4.out Tryz.underlying31 rfl infoDs ?_; go_simp; refine hK0 _ _ ?_; clear hK0 K0) | (go_simp; first | (refine hK0 _ _ ?_; clear hK0 K0) | (gi_wp2; first | (refine hK0 _ _ ?_; clear hK0 K0) | skip)))
    all_goals (first | (refine wpAnyIn_ready (rs := [2, 3]) (by decide +kernel) (by simp) ?_; refine (AllReadyIn.cons rfl (fun K0 hK0 => ?_) (AllReadyIn.cons rfl (fun K0 hK0 => ?_) AllReadyIn.nil))) | (refine wpAnyIn_ready (rs := [1, 3]) (by decide +kernel) (by simp) ?_; refine (AllReadyIn.cons rfl (fun K0 hK0 => ?_) (AllReadyIn.cons rfl (fun K0 hK0 => ?_) AllReadyIn.nil))) | (refine wpAnyIn_ready (rs := [1, 2]) (by decide +kernel) (by simp) ?_; refine (AllReadyIn.cons rfl (fun K0 hK0 => ?_) (AllReadyIn.cons rfl (fun K0 hK0 => ?_) AllReadyIn.nil))) | (refine wpAnyIn_ready (rs := [0]) (by decide +kernel) (by simp) ?_; refine (AllReadyIn.cons rfl (fun K0 hK0 => ?_) AllReadyIn.nil)))
    all_goals (first | (refine opIn_load rfl 31 (.tmp 11) rfl pd 0 rfl _ _ HR3.out Tryz.underlying31 rfl infoDs ?_; go_simp; refine hK0 _ _ ?_; clear hK0 K0) | (refine opIn_load rfl 31 (.tmp 11) rfl pd 0 rfl _ _ HR4.out Tryz.underlying31 rfl infoDs ?_; go_simp; refine hK0 _ _ ?_; clear hK0 K0) | (go_simp; first | (refine hK0 _ _ ?_; clear hK0 K0) | (gi_wp2; first | (refine hK0 _ _ ?_; clear hK0 K0) | skip)))
    all_goals (first | (refine wpAnyIn_ready (rs := [3]) (by decide +kernel) (by simp) ?_; refine (AllReadyIn.cons rfl (fun K0 hK0 => ?_) AllReadyIn.nil)) | (refine wpAnyIn_ready (rs := [2]) (by decide +kernel) (by simp) ?_; refine (AllReadyIn.cons rfl (fun K0 hK0 => ?_) AllReadyIn.nil)) | (refine wpAnyIn_ready (rs := [1]) (by decide +kernel) (by simp) ?_; refine (AllReadyIn.cons rfl (fun K0 hK0 => ?_) AllReadyIn.nil)))
    all_goals (first | (refine opIn_load rfl 31 (.tmp 11) rfl pd 0 rfl _ _ HR3.out Tryz.underlying31 rfl infoDs ?_; go_simp; refine hK0 _ _ ?_; clear hK0 K0) | (refine opIn_load rfl 31 (.tmp 11) rfl pd 0 rfl _ _ HR4.out Tryz.underlying31 rfl infoDs ?_; go_simp; refine hK0 _ _ ?_; clear hK0 K0) | (go_simp; first | (refine hK0 _ _ ?_; clear hK0 K0) | (gi_wp2; first | (refine hK0 _ _ ?_; clear hK0 K0) | skip)))
    all_goals exact key.out
  case k =>
    clear hb4 hbd
    have e1 : (k : Int) < ((k + 1 : Nat) : Int) := by omega
    refine wpAnyIn_ready (rs := [4]) (by decide +kernel) (by simp) ?_
    refine (AllReadyIn.cons rfl (fun K0 hK0 => ?_) AllReadyIn.nil)
    refine opIn_append rfl (.tmp 30) (.tmp 33) 29 rfl rfl rfl HAP.out ?_
    go_simp
    refine hK0 _ _ ?_
    clear hK0 K0
    have hon : (#[.int .i64 f.zxid, .int .u8 f.kind, .int .i64 f.session, .int .i64 f.turn, .int .i64 f.xid, .int .i64 f.time, .string (mkS f.path), .slice A1 f.data.length c1, .int .i64 f.owner, .int .i64 f.version, .int .i64 f.cversion, .int .i64 f.timeout, .int .i64 f.err, .int .i64 f.cver, .slice A2 f.mems.length c2, .slice A3 f.np c3] : Array Value).all (·.oneCell') = true := all_oneCell_toArray (ev2_one ⟨(f, []), A1, c1, A2, c2, A3, c3⟩)
    have HT2 : Hid ((w5.setCell ⟨N, 0, none⟩ (.slice (some ⟨g, 0, none⟩) (k + 1) cap)).there g (k * 16) 16) := there_set HT.out hgN _
    have HON : Hid _ := hon
    clear hon
    have q5a := Boxed.cell HB5.out
    have q5b := Boxed.frozen HB5.out
    have hgN' : ¬ g = N := fun e => hgN e.symm
    obtain ⟨w6, hw6⟩ : ∃ X, X = w5.setCells g (k * 16) #[.int .i64 f.zxid, .int .u8 f.kind, .int .i64 f.session, .int .i64 f.turn, .int .i64 f.xid, .int .i64 f.time, .string (mkS f.path), .slice A1 f.data.length c1, .int .i64 f.owner, .int .i64 f.version, .int .i64 f.cversion, .int .i64 f.timeout, .int .i64 f.err, .int .i64 f.cver, .slice A2 f.mems.length c2, .slice A3 f.np c3].toList := ⟨_, rfl⟩
    obtain ⟨w6b, hw6b⟩ : ∃ X, X = (w5.setCell ⟨N, 0, none⟩ (.slice (some ⟨g, 0, none⟩) (k + 1) cap)).setCells g (k * 16) #[.int .i64 f.zxid, .int .u8 f.kind, .int .i64 f.session, .int .i64 f.turn, .int .i64 f.xid, .int .i64 f.time, .string (mkS f.path), .slice A1 f.data.length c1, .int .i64 f.owner, .int .i64 f.version, .int .i64 f.cversion, .int .i64 f.timeout, .int .i64 f.err, .int .i64 f.cver, .slice A2 f.mems.length c2, .slice A3 f.np c3].toList := ⟨_, rfl⟩
    have e6 : w6.heap[N]? = w5.heap[N]? := by rw [hw6]; exact (setCells_chg (fun i => i = g) g rfl _ w5 _).block N (Boxed.lt HB5.out) hgN
    have q6a : w6.cell? ⟨N, 0, none⟩ = some (.slice Ad k Cd) := (World.cell?_of_block (a := ⟨N, 0, none⟩) e6).trans q5a
    have q6b : w6.frozen? ⟨N, 0, none⟩ = false := (World.frozen?_of_block (a := ⟨N, 0, none⟩) e6).trans q5b
    have H6 : Hid _ := hw6
    have H6b : Hid _ := hw6b
    have HK6 : Hid _ := HK.out
    rw [← hw6] at HK6
    clear hw6 hw6b e6
    refine wpAnyIn_ready (rs := [5, 7]) (by decide +kernel) (by simp) ?_
    refine (AllReadyIn.cons rfl (fun K0 hK0 => ?_) (AllReadyIn.cons rfl (fun K0 hK0 => ?_) AllReadyIn.nil))
    · (go_simp; first | (refine hK0 _ _ ?_; clear hK0 K0) | (gi_wp2; first | (refine hK0 _ _ ?_; clear hK0 K0) | skip))
      refine wpAnyIn_ready (rs := [6, 7]) (by decide +kernel) (by simp) ?_
      refine (AllReadyIn.cons rfl (fun K0 hK0 => ?_) (AllReadyIn.cons rfl (fun K0 hK0 => ?_) AllReadyIn.nil))
      · (refine opIn_store rfl 31 (.tmp 35) (.tmp 31) rfl g (k * 16) #[.int .i64 f.zxid, .int .u8 f.kind, .int .i64 f.session, .int .i64 f.turn, .int .i64 f.xid, .int .i64 f.time, .string (mkS f.path), .slice A1 f.data.length c1, .int .i64 f.owner, .int .i64 f.version, .int .i64 f.cversion, .int .i64 f.timeout, .int .i64 f.err, .int .i64 f.cver, .slice A2 f.mems.length c2, .slice A3 f.np c3] rfl rfl HT.out infoDs HON.out H6.out ?_; go_simp; refine hK0 _ _ ?_; clear hK0 K0)
        refine wpAnyIn_ready (rs := [7]) (by decide +kernel) (by simp) ?_
        refine (AllReadyIn.cons rfl (fun K0 hK0 => ?_) AllReadyIn.nil)
        (go_simp; first | (refine hK0 _ _ ?_; clear hK0 K0) | (gi_wp2; first | (refine hK0 _ _ ?_; clear hK0 K0) | skip))
        refine wpAnyIn_done (by decide +kernel) ?_ _
        exact HK6.out
      · (go_simp; first | (refine hK0 _ _ ?_; clear hK0 K0) | (gi_wp2; first | (refine hK0 _ _ ?_; clear hK0 K0) | skip))
        refine wpAnyIn_ready (rs := [6]) (by decide +kernel) (by simp) ?_
        refine (AllReadyIn.cons rfl (fun K0 hK0 => ?_) AllReadyIn.nil)
        (refine opIn_store rfl 31 (.tmp 35) (.tmp 31) rfl g (k * 16) #[.int .i64 f.zxid, .int .u8 f.kind, .int .i64 f.session, .int .i64 f.turn, .int .i64 f.xid, .int .i64 f.time, .string (mkS f.path), .slice A1 f.data.length c1, .int .i64 f.owner, .int .i64 f.version, .int .i64 f.cversion, .int .i64 f.timeout, .int .i64 f.err, .int .i64 f.cver, .slice A2 f.mems.length c2, .slice A3 f.np c3] rfl rfl HT2.out infoDs HON.out H6b.out ?_; go_simp; refine hK0 _ _ ?_; clear hK0 K0)
        refine wpAnyIn_done (by decide +kernel) ?_ _
        exact at_then (by rw [H6b.out, H6.out]; exact set_setCells w5 ⟨N, 0, none⟩ _ g hgN _ _ _) HK6.out
    · (go_simp; first | (refine hK0 _ _ ?_; clear hK0 K0) | (gi_wp2; first | (refine hK0 _ _ ?_; clear hK0 K0) | skip))
      refine wpAnyIn_ready (rs := [5]) (by decide +kernel) (by simp) ?_
      refine (AllReadyIn.cons rfl (fun K0 hK0 => ?_) AllReadyIn.nil)
      (go_simp; first | (refine hK0 _ _ ?_; clear hK0 K0) | (gi_wp2; first | (refine hK0 _ _ ?_; clear hK0 K0) | skip))
      refine wpAnyIn_ready (rs := [6]) (by decide +kernel) (by simp) ?_
      refine (AllReadyIn.cons rfl (fun K0 hK0 => ?_) AllReadyIn.nil)
      (refine opIn_store rfl 31 (.tmp 35) (.tmp 31) rfl g (k * 16) #[.int .i64 f.zxid, .int .u8 f.kind, .int .i64 f.session, .int .i64 f.turn, .int .i64 f.xid, .int .i64 f.time, .string (mkS f.path), .slice A1 f.data.length c1, .int .i64 f.owner, .int .i64 f.version, .int .i64 f.cversion, .int .i64 f.timeout, .int .i64 f.err, .int .i64 f.cver, .slice A2 f.mems.length c2, .slice A3 f.np c3] rfl rfl HT2.out infoDs HON.out H6b.out ?_; go_simp; refine hK0 _ _ ?_; clear hK0 K0)
      refine wpAnyIn_done (by decide +kernel) ?_ _
      exact at_then (by rw [H6b.out, H6.out]; exact set_setCells w5 ⟨N, 0, none⟩ _ g hgN _ _ _) HK6.out
end Go.Proofs.YtmfednhommbikaaGreatDoor.DD

namespace Go.Proofs.YtmfednhommbikaaGreatDoor.DD
open Go.RowKit

def GotF' (w w' : World) (e : Ending) (o : Option (Fl × List Fl)) : Prop :=
  match o with
  | none => e = .returned (.tuple #[.agg #[.int .i64 0, .int .u8 0, .int .i64 0, .int .i64 0, .int .i64 0, .int .i64 0, .string ⟨#[]⟩, .slice none 0 0, .int .i64 0, .int .i64 0, .int .i64 0, .int .i64 0, .int .i64 0, .int .i64 0, .slice none 0 0, .slice none 0 0], .int .i64 4]) ∧ Below w.heap.size w w'
  | some (f, ps) => ∃ A1 c1 A2 c2 A3 c3, e = .returned (.tuple #[.agg #[.int .i64 f.zxid, .int .u8 f.kind, .int .i64 f.session, .int .i64 f.turn, .int .i64 f.xid, .int .i64 f.time, .string (mkS f.path), .slice A1 f.data.length c1, .int .i64 f.owner, .int .i64 f.version, .int .i64 f.cversion, .int .i64 f.timeout, .int .i64 f.err, .int .i64 f.cver, .slice A2 f.mems.length c2, .slice A3 f.np c3], .int .i64 0]) ∧ DVal w' f ps A1 c1 A2 c2 A3 c3 ∧ Below w.heap.size w w' ∧ ∀ (w'' : World) (S : Nat → Prop), Chg S w' w'' → (∀ k, w.heap.size ≤ k → ¬ S k) → DVal w'' f ps A1 c1 A2 c2 A3 c3
theorem dgetf_any {w : World} {x : Value} {b : List UInt8} (hx : Bs w x b) (hb : b.length ≤ 140737488355328) (hL : PA.Laid w) :
    Calls Tryz.prog 20 #[x] w fun e w' => GotF' w w' e (deedOf b) := by
  obtain ⟨AX, CX, rfl⟩ := bs_form hx
  by_cases hw : (rdAll b).2.2 = some []
  · cases hr : rightD (rdAll b).1 (rdAll b).2.1 with
    | true =>
      have e : deedOf b = some ((rdAll b).1, (rdAll b).2.1) := by unfold deedOf; rw [if_pos ⟨hw, hr⟩]
      rw [e]
      cases hp : hasParts ((rdByte (some b)).1.toNat : Int) with
      | false => exact get_3f hx hb hL hp hw hr
      | true => exact get_6f hx hb hL hp hw hr
    | false =>
      have e : deedOf b = none := by unfold deedOf; rw [if_neg (fun h => by rw [hr] at h; exact absurd h.2 (by simp))]
      rw [e]
      cases hp : hasParts ((rdByte (some b)).1.toNat : Int) with
      | false => exact get_2 hx hb hL hp hw hr
      | true => exact get_5 hx hb hL hp hw hr
  · have e : deedOf b = none := by unfold deedOf; rw [if_neg (fun h => hw h.1)]
    rw [e]
    cases hp : hasParts ((rdByte (some b)).1.toNat : Int) with
    | false => exact get_1 hx hb hL hp hw
    | true => exact get_4 hx hb hL hp hw
end Go.Proofs.YtmfednhommbikaaGreatDoor.DD

namespace Go.Proofs.YtmfednhommbikaaGreatDoor.DD
set_option linter.unusedVariables false
open Go.RowKit Go.Shelf
attribute [local go_sem] Oper.semAt_some
set_option linter.unusedVariables false

theorem frames_any (w : World) (A : Option Addr) (n C : Nat) : Calls Tryz.prog 19 #[.slice A n C] w fun e w' => e = .returned (.func (.func 45) #[] #[.pointer (some ⟨w.heap.size, 0, none⟩)]) ∧ w' = w.alloc (.cells #[.slice A n C] 24) := by
  have hmf : ∀ (fn : Fn) (first cap : Array Value) (w : World), (Instr.makeFunc fn first cap).run Tryz.prog w = .ok (.func fn first cap) w := fun _ _ _ _ => rfl
  go_enter Tryz.func19, Tryz.ntmps19
  go_wp2
  go_ret
  exact ⟨rfl, rfl⟩

theorem bs_put {W : World} {v : Value} {b : List UInt8} (h : Bs W v b) {B : Nat} {o : Obj} (o' : Obj) (ho : W.heap[B]? = some o) (hc : o.isCells = false) : Bs (W.putObj B o') v b := by
  have hg : Chg (fun k => k = B) W (W.putObj B o') := (Chg.of_grown (grownBy_putObj' W B o')).weak (fun k _ e => by cases e; rfl)
  refine h.keep hg (fun k hk e => ?_)
  subst e
  rcases h with ⟨rfl, _⟩ | ⟨ad, c, rfl, _⟩ | ⟨h0, b', o1, c, rfl, h1, h2, h3⟩
  · cases hk
  · cases hk
  · have hk2 : some b' = some k := bk_blk hk
    cases hk2
    obtain ⟨o2, e1, e2⟩ := cells_of_cell (h3 0 h0)
    rw [ho] at e1
    cases e1
    rw [hc] at e2
    cases e2
theorem hx_stay (l : List UInt8) (B : Nat) (x : Itm × Nat) (t t' : Nat) : Stay B (fun (_ : Unit) W => HxF l x t t' W) :=
  ⟨fun _ A A' h hb => ⟨h.1, Bs.below' h.2.1 hb, h.2.2⟩, fun _ A o o' h ho hc => ⟨h.1, bs_put h.2.1 o' ho hc, h.2.2⟩⟩
theorem keeps_below {W W' : World} (h : Below W.heap.size W W') : KeepsOthers W W' := ⟨h.size, fun k o hk _ => (h.block k (Array.getElem?_eq_some_iff.1 hk).1).trans hk⟩
def ScI (l : List UInt8) (w : World) (t : Nat) (W : World) : Prop := ∃ its els vd ve, Sc l w.heap.size t its els vd ve W ∧ Below w.heap.size w W
def ScX (l : List UInt8) (w : World) (c : Code) (W : World) : Prop := c = .exit 0 ∧ ∃ t its els vd ve, Sc l w.heap.size t its els vd ve W ∧ Below w.heap.size w W ∧ scanF (l.drop t) (lastZ 0 its) = []
theorem below_put {N : Nat} {w W : World} (h : Below N w W) {B : Nat} (o' : Obj) (hB : N ≤ B) (hl : N ≤ W.heap.size) : Below N w (W.putObj B o') := h.grown (grownBy_putObj' W B o') hl (fun k e => by cases e; exact hB)
theorem sci_stay (l : List UInt8) (w : World) : Stay (w.heap.size + 5 + 1) (ScI l w) :=
  ⟨fun t A A' ⟨its, els, vd, ve, h, hb⟩ hB => ⟨its, els, vd, ve, h.more hB, hb.trans (hB.mono hb.size)⟩,
   fun t A o o' ⟨its, els, vd, ve, h, hb⟩ ho hc => ⟨its, els, vd, ve, h.put o' (by omega) (by omega) ho hc, below_put hb o' (by omega) hb.size⟩⟩
theorem scx_stay (l : List UInt8) (w : World) (c : Code) : Stay (w.heap.size + 5 + 1) (fun (_ : Unit) W => ScX l w c W) :=
  ⟨fun _ A A' ⟨hc, t, its, els, vd, ve, h, hb, hn⟩ hB => ⟨hc, t, its, els, vd, ve, h.more hB, hb.trans (hB.mono hb.size), hn⟩,
   fun _ A o o' ⟨hc, t, its, els, vd, ve, h, hb, hn⟩ ho hcc => ⟨hc, t, its, els, vd, ve, h.put o' (by omega) (by omega) ho hcc, below_put hb o' (by omega) hb.size, hn⟩⟩
theorem setCells_size : ∀ (us : List Value) (w : World) (g o : Nat), (w.setCells g o us).heap.size = w.heap.size
  | [], _, _, _ => rfl
  | u :: us, w, g, o => by
    show ((w.setCell ⟨g, o, none⟩ u).setCells g (o + 1) us).heap.size = _
    rw [setCells_size us]
    simp [World.setCell]
theorem round_yes {l b : List UInt8} {w W w1 w2 : World} {t Cd Ce : Nat} {Ad Ae : Option Addr} {its : List It} {els : List El2} {f : Fl} {ps : List Fl} {A1 A2 A3 : Option Addr} {c1 c2 c3 : Nat}
    (hS : Sc l w.heap.size t its els (.slice Ad its.length Cd) (.slice Ae its.length Ce) W) (hB : Below w.heap.size w W) (hB2 : Below W.heap.size W w2) (hB12 : Below w1.heap.size w1 w2) (hS2 : Sc l w.heap.size t its els (.slice Ad its.length Cd) (.slice Ae its.length Ce) w2) (hd2 : w2.heap[w1.heap.size]? = some (.cells #[.int .i64 f.zxid, .int .u8 f.kind, .int .i64 f.session, .int .i64 f.turn, .int .i64 f.xid, .int .i64 f.time, .string (mkS f.path), .slice A1 f.data.length c1, .int .i64 f.owner, .int .i64 f.version, .int .i64 f.cversion, .int .i64 f.timeout, .int .i64 f.err, .int .i64 f.cver, .slice A2 f.mems.length c2, .slice A3 f.np c3] 31 (0, 0)))
    (hF1 : ∀ (w'' : World) (S : Nat → Prop), Chg S w1 w'' → (∀ k, W.heap.size ≤ k → ¬ S k) → DVal w'' f ps A1 c1 A2 c2 A3 c3) (hU : unframe (l.drop t) = some b) (hD : deedOf b = some (f, ps)) (hz : ¬ f.zxid ≤ lastZ 0 its) (hsz : w.heap.size + 7 ≤ W.heap.size) (hsW : W.heap.size ≤ w1.heap.size) (hl : l.length ≤ 4294967296) :
    ∃ g cap w5 w7 g2 cap2 w8, (Builtin.append_ #[29, 29] 29 #[.slice Ad its.length Cd, .slice (some ⟨w2.drew.heap.size, 0, none⟩) 1 1]).run Tryz.prog (w2.drew.alloc (.cells #[.int .i64 0, .int .u8 0, .int .i64 0, .int .i64 0, .int .i64 0, .int .i64 0, .string ⟨#[]⟩, .slice none 0 0, .int .i64 0, .int .i64 0, .int .i64 0, .int .i64 0, .int .i64 0, .int .i64 0, .slice none 0 0, .slice none 0 0] 31)) = .ok (.slice (some ⟨g, 0, none⟩) (its.length + 1) cap) w5 ∧
      w5.there g (its.length * 16) 16 ∧ Boxed w5 w.heap.size 29 (.slice Ad its.length Cd) ∧ (¬ w.heap.size = g) ∧ w7 = (w5.setCells g (its.length * 16) #[.int .i64 f.zxid, .int .u8 f.kind, .int .i64 f.session, .int .i64 f.turn, .int .i64 f.xid, .int .i64 f.time, .string (mkS f.path), .slice A1 f.data.length c1, .int .i64 f.owner, .int .i64 f.version, .int .i64 f.cversion, .int .i64 f.timeout, .int .i64 f.err, .int .i64 f.cver, .slice A2 f.mems.length c2, .slice A3 f.np c3].toList).setCell ⟨w.heap.size, 0, none⟩ (.slice (some ⟨g, 0, none⟩) (its.length + 1) cap) ∧
      (Builtin.append_ #[37, 37] 37 #[.slice Ae its.length Ce, .slice (some ⟨w7.heap.size, 0, none⟩) 1 1]).run Tryz.prog (w7.alloc (.cells #[.int .i64 ((t : Int) + (8 + (b.length : Int)))] 3)) = .ok (.slice (some ⟨g2, 0, none⟩) (its.length + 1) cap2) w8 ∧
      w7.cell? ⟨w.heap.size + 1, 0, none⟩ = some (.slice Ae its.length Ce) ∧ w8.cell? ⟨w.heap.size + 1, 0, none⟩ = some (.slice Ae its.length Ce) ∧ w8.frozen? ⟨w.heap.size + 1, 0, none⟩ = false ∧
      (w8.setCell ⟨w.heap.size + 1, 0, none⟩ (.slice (some ⟨g2, 0, none⟩) (its.length + 1) cap2)).cell? ⟨w1.heap.size, 0, none⟩ = some (.int .i64 f.zxid) ∧ (w8.setCell ⟨w.heap.size + 1, 0, none⟩ (.slice (some ⟨g2, 0, none⟩) (its.length + 1) cap2)).cell? ⟨w.heap.size + 2, 0, none⟩ = some (.int .i64 (lastZ 0 its)) ∧ (w8.setCell ⟨w.heap.size + 1, 0, none⟩ (.slice (some ⟨g2, 0, none⟩) (its.length + 1) cap2)).frozen? ⟨w.heap.size + 2, 0, none⟩ = false ∧ (w8.setCell ⟨w.heap.size + 1, 0, none⟩ (.slice (some ⟨g2, 0, none⟩) (its.length + 1) cap2)).cell? ⟨w.heap.size + 3, 0, none⟩ = some (.int .i64 (t : Int)) ∧ (w8.setCell ⟨w.heap.size + 1, 0, none⟩ (.slice (some ⟨g2, 0, none⟩) (its.length + 1) cap2)).frozen? ⟨w.heap.size + 3, 0, none⟩ = false ∧
      KeepsOthers W (((w8.setCell ⟨w.heap.size + 1, 0, none⟩ (.slice (some ⟨g2, 0, none⟩) (its.length + 1) cap2)).setCell ⟨w.heap.size + 2, 0, none⟩ (.int .i64 f.zxid)).setCell ⟨w.heap.size + 3, 0, none⟩ (.int .i64 ((t : Int) + (8 + (b.length : Int))))) ∧ Below w.heap.size W (((w8.setCell ⟨w.heap.size + 1, 0, none⟩ (.slice (some ⟨g2, 0, none⟩) (its.length + 1) cap2)).setCell ⟨w.heap.size + 2, 0, none⟩ (.int .i64 f.zxid)).setCell ⟨w.heap.size + 3, 0, none⟩ (.int .i64 ((t : Int) + (8 + (b.length : Int))))) ∧ ScI l w (t + (8 + b.length)) (((w8.setCell ⟨w.heap.size + 1, 0, none⟩ (.slice (some ⟨g2, 0, none⟩) (its.length + 1) cap2)).setCell ⟨w.heap.size + 2, 0, none⟩ (.int .i64 f.zxid)).setCell ⟨w.heap.size + 3, 0, none⟩ (.int .i64 ((t : Int) + (8 + (b.length : Int))))) := by
  have hits : its.length ≤ 4294967296 := by
    have h1 := hS2.tt
    have h2 := hS2.tl
    have h3 := catI_ge its
    omega
  obtain ⟨w3, hw3⟩ : ∃ X, X = w2.drew := ⟨_, rfl⟩
  have hc23 : Chg Non w2 w3 := by rw [hw3]; exact Chg.drew _ _
  have hS3 : Sc l w.heap.size t its els (.slice Ad its.length Cd) (.slice Ae its.length Ce) w3 := hS2.keep hc23 (fun _ _ e => e.elim)
  have hd3 : w3.heap[w1.heap.size]? = some (.cells #[.int .i64 f.zxid, .int .u8 f.kind, .int .i64 f.session, .int .i64 f.turn, .int .i64 f.xid, .int .i64 f.time, .string (mkS f.path), .slice A1 f.data.length c1, .int .i64 f.owner, .int .i64 f.version, .int .i64 f.cversion, .int .i64 f.timeout, .int .i64 f.err, .int .i64 f.cver, .slice A2 f.mems.length c2, .slice A3 f.np c3] 31 (0, 0)) := by rw [hw3]; exact hd2
  have hbs : w.heap.size + 7 ≤ w3.heap.size := by
    have h1 := hB2.size
    have h2 : w3.heap.size = w2.heap.size := by rw [hw3]; rfl
    omega
  obtain ⟨g, cap, w5, hap, ht5, ho5, hc5, hg5⟩ := app16 (us := ev2 ⟨(f, ps), A1, c1, A2, c2, A3, c3⟩) hS3.rd hbs hits rfl (ev2_one _)
  obtain ⟨w6, hw6⟩ : ∃ X, X = w5.setCells g (its.length * 16) (ev2 ⟨(f, ps), A1, c1, A2, c2, A3, c3⟩) := ⟨_, rfl⟩
  rw [← hw6] at ho5 hc5
  have hel : els.length = its.length := by rw [← hS3.el, List.length_map]
  have hes : ((endsF 0 its).map nI).length = its.length := by rw [List.length_map, endsF_len]
  have HE1 : EAt w1 (RB w.heap.size (.slice Ad its.length Cd) (.slice Ae its.length Ce)) ⟨(f, ps), A1, c1, A2, c2, A3, c3⟩ := by
    refine EAt.new (W := W) hF1 (fun k e => .inl ?_)
    rcases e with e | e | e
    · omega
    · exact (hS.rd.lt k e).2
    · exact (hS.re.lt k e).2
  have HE3 : EAt w3 (RB w.heap.size (.slice Ad its.length Cd) (.slice Ae its.length Ce)) ⟨(f, ps), A1, c1, A2, c2, A3, c3⟩ := HE1.keep ((Chg.of_below hB12).trans hc23) (fun k _ h => ⟨fun e => e, h⟩)
  have hpd : w1.heap.size < w3.heap.size := heap_lt hd3
  have hgg : w.heap.size + 7 ≤ g := by
    rcases hg5 with e | e
    · exact (hS3.rd.lt g e).1
    · omega
  have hs56 : w5.heap.size ≤ w6.heap.size := by rw [hw6]; exact (setCells_chg (fun k => k = g) g rfl _ w5 _).size
  rw [← hel] at ho5
  obtain ⟨hR7, hb6, hk7, hc7⟩ := hS3.rw'.deed ho5 hc5 hg5 hbs HE3
  rw [hel] at hR7 hk7 hc7
  have hb5 : Boxed w5 w.heap.size 29 (.slice Ad its.length Cd) := by
    have e6 : w6.heap.size = w5.heap.size := by rw [hw6]; exact setCells_size _ _ _ _
    have : w6.heap[w.heap.size]? = w5.heap[w.heap.size]? := by
      have hlt := hb6.lt
      rw [hw6]
      exact (setCells_chg (fun k => k = g) g rfl _ w5 _).block _ (by omega) (by omega)
    exact this.symm.trans hb6
  obtain ⟨w7, hw7⟩ : ∃ X, X = w6.setCell ⟨w.heap.size, 0, none⟩ (.slice (some ⟨g, 0, none⟩) (its.length + 1) cap) := ⟨_, rfl⟩
  rw [← hw7] at hR7 hk7 hc7
  have hbs7 : w.heap.size + 7 ≤ w7.heap.size := Nat.le_trans hbs hc7.size
  have hre7 := hR7.re
  rw [hes] at hre7
  obtain ⟨g2, cap2, w8, hap2, ho8, hc8, hg8⟩ := appI hre7 hbs7 hits ((t : Int) + (8 + (b.length : Int)))
  rw [← hes] at ho8
  obtain ⟨hR9, hb8, hk9, hc9⟩ := hR7.fin ho8 hc8 hg8 hbs7
  rw [hes] at hR9 hk9 hc9
  obtain ⟨w9, hw9⟩ : ∃ X, X = w8.setCell ⟨w.heap.size + 1, 0, none⟩ (.slice (some ⟨g2, 0, none⟩) (its.length + 1) cap2) := ⟨_, rfl⟩
  rw [← hw9] at hR9 hk9 hc9
  obtain ⟨hR11, hk11, hc11⟩ := hR9.last f.zxid ((t : Int) + (8 + (b.length : Int)))
  have hold : ∀ k, k < W.heap.size → k < w1.heap.size := fun k hk => by
    have := hsW
    omega
  have hd7 : w7.heap[w1.heap.size]? = some (.cells #[.int .i64 f.zxid, .int .u8 f.kind, .int .i64 f.session, .int .i64 f.turn, .int .i64 f.xid, .int .i64 f.time, .string (mkS f.path), .slice A1 f.data.length c1, .int .i64 f.owner, .int .i64 f.version, .int .i64 f.cversion, .int .i64 f.timeout, .int .i64 f.err, .int .i64 f.cver, .slice A2 f.mems.length c2, .slice A3 f.np c3] 31 (0, 0)) := (hc7.block _ hpd (fun e => by
    rcases e with e | e
    · have := hold _ (hS.rd.lt _ e).2; omega
    · omega)).trans hd3
  have hd9 : w9.heap[w1.heap.size]? = some (.cells #[.int .i64 f.zxid, .int .u8 f.kind, .int .i64 f.session, .int .i64 f.turn, .int .i64 f.xid, .int .i64 f.time, .string (mkS f.path), .slice A1 f.data.length c1, .int .i64 f.owner, .int .i64 f.version, .int .i64 f.cversion, .int .i64 f.timeout, .int .i64 f.err, .int .i64 f.cver, .slice A2 f.mems.length c2, .slice A3 f.np c3] 31 (0, 0)) := (hc9.block _ (heap_lt hd7) (fun e => by
    rcases e with e | e
    · have := hold _ (hS.re.lt _ e).2; omega
    · omega)).trans hd7
  have k3 : KeepsOthers W w3 := (keeps_below hB2).trans (keeps_chg hc23 (fun _ _ e => e.elim))
  have hNW := hB.size
  have b3 : Below w.heap.size W w3 := (hB2.mono hNW).trans (hc23.below (fun _ e => e.elim) (Nat.le_trans hNW hB2.size))
  have b7 : Below w.heap.size w3 w7 := hc7.below (fun k e => by
    rcases e with e | e
    · have := (hS3.rd.lt k e).1; omega
    · omega) (by omega)
  have b9 : Below w.heap.size w7 w9 := hc9.below (fun k e => by
    rcases e with e | e
    · have := (hR7.re.lt k e).1; omega
    · omega) (by omega)
  have b11 : Below w.heap.size w9 _ := hc11.below (fun k e => by omega) (by have := hc9.size; omega)
  have bb := b3.trans (b7.trans (b9.trans b11))
  have hfin := And.intro (k3.trans (hk7.trans (hk9.trans hk11))) (And.intro bb (show ScI l w (t + (8 + b.length)) _ from ⟨its ++ [(f, ps)], els ++ [⟨(f, ps), A1, c1, A2, c2, A3, c3⟩], _, _, hS3.next hU hD hz rfl hR11, hB.trans bb⟩))
  have q9 := (cells16 hd9).1
  have q7 := hR7.be.cell
  have q9a := hR9.la.cell
  have q9b := hR9.la.frozen
  have q9c := hR9.too.cell
  have q9d := hR9.too.frozen
  rw [hw9] at q9 q9a q9b q9c q9d hfin
  rw [hw3] at hap
  exact ⟨g, cap, w5, w7, g2, cap2, w8, hap, ht5, hb5, by omega, by rw [hw7, hw6]; rfl, hap2, q7, hb8.cell, hb8.frozen, q9, q9a, q9b, q9c, q9d, hfin⟩

theorem scan_end {l : List UInt8} {w W : World} {t D : Nat} {its : List It} {els : List El2} {vd ve : Value} (hS : Sc l w.heap.size t its els vd ve W) (hn : scanF (l.drop t) (lastZ 0 its) = []) (hB : Below w.heap.size w W) (hK : W.drew.heap[D]? = some (.deferred (some []))) (h1 : w.heap.size + 4 ≤ D) (h2 : D < w.heap.size + 7) :
    ∃ (els : List El2) (vd' ve' : Value), Ending.returned (.tuple #[vd, ve, .int .i64 (t : Int)]) = .returned (.tuple #[vd', ve', .int .i64 ((catI (scanF l 0)).length : Nat)]) ∧ els.map El2.p = scanF l 0 ∧
      (W.drew.putObj D (.deferred none)).ownsRow (w.heap.size + 7) 31 16 vd' (scanF l 0).length (evd2 els) ∧ (W.drew.putObj D (.deferred none)).ownsRow (w.heap.size + 7) 3 1 ve' (scanF l 0).length ((endsF 0 (scanF l 0)).map nI) ∧ (∀ e ∈ els, DV (W.drew.putObj D (.deferred none)) e) ∧ Below w.heap.size w (W.drew.putObj D (.deferred none)) := by
  have hd : Sc l w.heap.size t its els vd ve W.drew := hS.keep (Chg.drew Non W) (fun _ _ e => e.elim)
  have hp := hd.put (.deferred none) h1 h2 hK rfl
  have e0 : scanF l 0 = its := by rw [hS.sc, hn, List.append_nil]
  rw [e0]
  refine ⟨els, vd, ve, by rw [← hS.tt], hp.el, hp.rd, hp.re, fun e he => (hp.at' e he).val, below_put hB.drew _ (by omega) hB.size⟩

set_option maxRecDepth 100000 in
set_option maxHeartbeats 8000000 in
theorem scan_any {w : World} {x : Value} {l : List UInt8} (hx : Bs w x l) (hl : l.length ≤ 4294967296) (hL : PA.Laid w) :
    Calls Tryz.prog 9 #[x] w fun e w' => ∃ (els : List El2) (vd ve : Value), e = .returned (.tuple #[vd, ve, .int .i64 ((catI (scanF l 0)).length : Nat)]) ∧ els.map El2.p = scanF l 0 ∧
      w'.ownsRow (w.heap.size + 7) 31 16 vd (scanF l 0).length (evd2 els) ∧ w'.ownsRow (w.heap.size + 7) 3 1 ve (scanF l 0).length ((endsF 0 (scanF l 0)).map nI) ∧ (∀ e ∈ els, DV w' e) ∧ Below w.heap.size w w' := by
  have HX : Hid (Bs w x l) := hx
  obtain ⟨A, C, rfl⟩ := bs_form hx
  clear hx
  have HL : Hid (PA.Laid w) := hL
  clear hL
  refine (callsIn_wide (n := 3)).1 ?_
  refine callsIn_of_wp_marks Tryz.func9 rfl trivial ?_ rfl
  simp only [Tryz.ntmps9, List.size_toArray, List.length_cons, List.length_nil, Nat.reduceAdd, Nat.reduceSub, Array.replicate_succ, Array.replicate_zero, List.push_toArray, List.append_toArray, List.nil_append, List.cons_append]
  gi_wp2
  refine ⟨trivial, (callsIn_wide.2 (frames_any _ _ _ _)).mono ?_⟩
  rintro e w1 ⟨rfl, rfl⟩
  obtain ⟨W0, hW0⟩ : ∃ X, X = ((((w.alloc (.cells #[.slice none 0 0] 29)).alloc (.cells #[.slice none 0 0] 37)).alloc (.cells #[.int .i64 0] 22)).alloc (.cells #[.int .i64 0] 3)).alloc (.cells #[.slice A l.length C] 24) := ⟨_, rfl⟩
  have hs0 : W0.heap.size = w.heap.size + 5 := by rw [hW0]; simp
  have hB0 : Below w.heap.size w W0 := by
    rw [hW0]
    exact (((((Below.refl _ w).alloc (Nat.le_refl _) _).alloc (by simp) _).alloc (by simp; omega) _).alloc (by simp; omega) _).alloc (by simp; omega) _
  have hx0 : Bs W0 (.slice A l.length C) l := Bs.below HX.out hB0 (fun k hk => HX.out.lt hk)
  have hc0 : W0.cell? ⟨w.heap.size + 4, 0, none⟩ = some (.slice A l.length C) := by
    rw [hW0]
    have := Boxed.new ((((w.alloc (.cells #[.slice none 0 0] 29)).alloc (.cells #[.slice none 0 0] 37)).alloc (.cells #[.int .i64 0] 22)).alloc (.cells #[.int .i64 0] 3)) 24 (.slice A l.length C)
    rw [World.size_alloc, World.size_alloc, World.size_alloc, World.size_alloc] at this
    exact this.cell
  have HS0 : Hid (ScI l w 0 W0) := by
    refine ⟨[], [], .slice none 0 0, .slice none 0 0, ⟨rfl, ?_, ?_, World.ownsRow_nil _ _ _ _, World.ownsRow_nil _ _ _ _, fun e he => (nomatch he), ?_, ?_, rfl, by omega, rfl⟩, hB0⟩
    · rw [hW0]; exact ((((Boxed.new w _ _).alloc _).alloc _).alloc _).alloc _
    · rw [hW0]; have := Boxed.new (w.alloc (.cells #[.slice none 0 0] 29)) 37 (.slice none 0 0); rw [World.size_alloc] at this; exact ((this.alloc _).alloc _).alloc _
    · rw [hW0]; have := Boxed.new ((w.alloc (.cells #[.slice none 0 0] 29)).alloc (.cells #[.slice none 0 0] 37)) 22 (.int .i64 0); rw [World.size_alloc, World.size_alloc] at this; exact (this.alloc _).alloc _
    · rw [hW0]; have := Boxed.new (((w.alloc (.cells #[.slice none 0 0] 29)).alloc (.cells #[.slice none 0 0] 37)).alloc (.cells #[.int .i64 0] 22)) 3 (.int .i64 0); rw [World.size_alloc, World.size_alloc, World.size_alloc] at this; exact this.alloc _
  have hsq := frames1_seq (n := 3 - 1) (n0 := w.heap.size) (bb := w.heap.size + 4) (by omega) (by omega) (by omega) hc0 hx0 (fun k hk => HX.out.lt hk)
  gi_wp2
  simp only [Nat.add_assoc, Nat.reduceAdd]
  rw [← hW0]
  refine range_law (Q := _) (n := 3) (n0 := w.heap.size) (gf := 45) (lb := #[.pointer (some ⟨w.heap.size + 4, 0, none⟩)]) rfl (enters_of Tryz.func45 (by kernel_rfl) rfl) hsq (by omega) (fun _ => rfl) (fun x s s' => hx_stay l _ x s s') (ScI l w) (ScX l w) (by rw [hs0]; exact sci_stay l w) (fun c => by rw [hs0]; exact scx_stay l w c) HS0.out
    (fun x => { tmps := #[.slice A l.length C, undef, .slice none 0 0, .slice none 0 0, .int .i64 0, .pointer (some ⟨w.heap.size, 0, none⟩), .pointer (some ⟨w.heap.size + 1, 0, none⟩), .pointer (some ⟨w.heap.size + 2, 0, none⟩), .pointer (some ⟨w.heap.size + 3, 0, none⟩), x.1.v, .int .i64 x.2, undef, undef, .slice A l.length C, .func (.func 45) #[] #[.pointer (some ⟨w.heap.size + 4, 0, none⟩)], x.1.v, .int .i64 x.2, undef, undef, undef, undef, undef, undef, undef, undef, undef, undef, undef, undef, undef, undef, undef, undef, undef, undef, undef, undef, undef, undef, undef, undef, undef, undef, undef, undef, undef], defers := [] }) ?assign ?body ?done ?stop
  case assign =>
    intro L x W K hK
    unfold encF
    gi_wp2
    exact hK
  case body =>
    rintro L t t' ⟨⟨v, b⟩, n⟩ W hsz ⟨its, els, vd, ve, hS, hB⟩ ⟨hu, hv, hn, ht'⟩
    dsimp only at hu hv hn ht' ⊢
    have HV : Hid (Bs W v b) := hv
    obtain ⟨AX, CX, rfl⟩ := bs_form hv
    have hbl := (unframe_some hu).2.2.2.2
    have hg := dgetf_any hv (by omega) (HL.out.below hB)
    have HS : Hid (Sc l w.heap.size t its els vd ve W) := hS
    have HB : Hid (Below w.heap.size w W) := hB
    have HU : Hid (unframe (l.drop t) = some b) := hu
    clear hv hS hB hu hsq hx0 hc0 HS0 hB0
    subst hn
    cases hd : deedOf b with
    | none =>
      rw [hd] at hg
      gi_wp2
      refine ⟨trivial, (CallsIn.inRound L (callsIn_wide.2 hg)).mono ?_⟩
      clear hg
      rintro e w1 ⟨rfl, hB1⟩
      have HB1 : Hid (Below W.heap.size W w1) := hB1
      clear hB1
      gi_wp2
      have hb2 : Below W.heap.size W (w1.alloc (.cells #[.int .i64 0, .int .u8 0, .int .i64 0, .int .i64 0, .int .i64 0, .int .i64 0, .string ⟨#[]⟩, .slice none 0 0, .int .i64 0, .int .i64 0, .int .i64 0, .int .i64 0, .int .i64 0, .int .i64 0, .slice none 0 0, .slice none 0 0] 31)) := HB1.out.alloc HB1.out.size _
      exact ⟨keeps_below hb2, rfl, t, its, els, vd, ve, HS.out.more hb2, HB.out.trans (hb2.mono HB.out.size), scanF_bad HU.out hd _⟩
    | some p =>
      rw [hd] at hg
      obtain ⟨f, ps⟩ := p
      have HD : Hid (deedOf b = some (f, ps)) := hd
      clear hd
      gi_wp2
      refine ⟨trivial, (CallsIn.inRound L (callsIn_wide.2 hg)).mono ?_⟩
      clear hg
      rintro e w1 ⟨A1, c1, A2, c2, A3, c3, rfl, -, hB1, hF1⟩
      have HF1 : Hid (∀ (w'' : World) (S : Nat → Prop), Chg S w1 w'' → (∀ k, W.heap.size ≤ k → ¬ S k) → DVal w'' f ps A1 c1 A2 c2 A3 c3) := hF1
      obtain ⟨w2, hw2⟩ : ∃ X, X = w1.alloc (.cells #[.int .i64 f.zxid, .int .u8 f.kind, .int .i64 f.session, .int .i64 f.turn, .int .i64 f.xid, .int .i64 f.time, .string (mkS f.path), .slice A1 f.data.length c1, .int .i64 f.owner, .int .i64 f.version, .int .i64 f.cversion, .int .i64 f.timeout, .int .i64 f.err, .int .i64 f.cver, .slice A2 f.mems.length c2, .slice A3 f.np c3] 31) := ⟨_, rfl⟩
      have HB12 : Hid (Below w1.heap.size w1 w2) := by rw [hw2]; exact (Below.refl _ _).alloc (Nat.le_refl _) _
      have HB2 : Hid (Below W.heap.size W w2) := hB1.trans (HB12.out.mono hB1.size)
      have HS2 : Hid (Sc l w.heap.size t its els vd ve w2) := HS.out.more HB2.out
      have hd2 : w2.heap[w1.heap.size]? = some (.cells #[.int .i64 f.zxid, .int .u8 f.kind, .int .i64 f.session, .int .i64 f.turn, .int .i64 f.xid, .int .i64 f.time, .string (mkS f.path), .slice A1 f.data.length c1, .int .i64 f.owner, .int .i64 f.version, .int .i64 f.cversion, .int .i64 f.timeout, .int .i64 f.err, .int .i64 f.cver, .slice A2 f.mems.length c2, .slice A3 f.np c3] 31 (0, 0)) := by rw [hw2]; exact heap_alloc_new w1 _
      have hz := (cells16 hd2).1
      have hla : w2.cell? ⟨w.heap.size + 2, 0, none⟩ = some (.int .i64 (lastZ 0 its)) := HS2.out.la.cell
      have HD2 : Hid _ := hd2
      have hs1 := hB1.size
      clear hB1 hF1 hd2
      rw [hw2] at hz hla
      by_cases hz' : f.zxid ≤ lastZ 0 its
      · gi_wp2
        rw [← hw2]
        exact ⟨keeps_below HB2.out, rfl, t, its, els, vd, ve, HS2.out, HB.out.trans (HB2.out.mono HB.out.size), scanF_low HU.out HD.out hz'⟩
      · obtain ⟨Ad, Cd, rfl⟩ := owns_form' HS2.out.rd
        obtain ⟨Ae, Ce, rfl⟩ := owns_form' HS2.out.re
        obtain ⟨g, cap, w5, w7, g2, cap2, w8, hap, ht5, hb5, hgN, h7, hap2, q7, q8a, q8b, q9, q9a, q9b, q9c, q9d, hfin⟩ := round_yes (ps := ps) HS.out HB.out HB2.out HB12.out HS2.out HD2.out HF1.out HU.out HD.out hz' (by omega) hs1 hl
        have HFIN : Hid _ := hfin
        have HAP : Hid _ := And.intro hap (And.intro ht5 (And.intro hb5 (And.intro hgN h7)))
        have HAP2 : Hid _ := And.intro hap2 (And.intro q7 (And.intro q8a (And.intro q8b (And.intro q9 (And.intro q9a (And.intro q9b (And.intro q9c q9d)))))))
        have hbd : w2.cell? ⟨w.heap.size, 0, none⟩ = some (.slice Ad its.length Cd) := HS2.out.bd.cell
        have HBD : Hid _ := hbd
        clear hfin hap ht5 hb5 hgN h7 hap2 q7 q8a q8b q9 q9a q9b q9c q9d
        rw [hw2] at hbd
        gi_wp2
        rw [← hw2]
        clear hz hla hbd hz' hw2
        refine reg9 HBD.out HS2.out.bd.lt HD2.out HAP.out.1 HAP.out.2.1 HAP.out.2.2.1 HAP.out.2.2.2.1 HAP.out.2.2.2.2 ?_
        obtain ⟨hap2, q7, q8a, q8b, q9, q9a, q9b, q9c, q9d⟩ := HAP2.out
        clear HAP HAP2 HBD
        gi_wp2_with (gi_at_builtin; refine wpListIn_run_append rfl (.tmp 36) (.tmp 38) 37 rfl rfl rfl hap2 ?_)
        rw [ht']
        exact HFIN.out
  case done =>
    rintro D s W hD hf ⟨its, els, vd, ve, hS, hB⟩ hK
    have hn : scanF (l.drop s) (lastZ 0 its) = [] := scanF_none hf _
    clear hsq hc0 hx0 HS0 hB0 hW0
    have c1 := hS.bd.cell
    have c2 := hS.be.cell
    have c3 := hS.too.cell
    have HSS : Hid (Sc l w.heap.size s its els vd ve W) := hS
    have HB : Hid (Below w.heap.size w W) := hB
    have hKd : W.drew.heap[D]? = some (.deferred (some [])) := hK
    clear hS hB
    gi_wp2
    gi_region
    gi_wp2
    refine ⟨by simp, .inl ⟨_, _, rfl, run_takeDeferred hKd, ?_⟩⟩
    refine ⟨.tuple #[vd, ve, .int .i64 s], by simp [results, Tryz.results9, go_sem], ?_⟩
    exact scan_end HSS.out hn HB.out hKd (by omega) (by omega)
  case stop =>
    rintro D c W hD ⟨rfl, s, its, els, vd, ve, hS, hB, hn⟩ hK
    clear hsq hc0 hx0 HS0 hB0 hW0
    have c1 := hS.bd.cell
    have c2 := hS.be.cell
    have c3 := hS.too.cell
    have HSS : Hid (Sc l w.heap.size s its els vd ve W) := hS
    have HB : Hid (Below w.heap.size w W) := hB
    have hKd : W.drew.heap[D]? = some (.deferred (some [])) := hK
    clear hS hB
    gi_wp2
    gi_region
    gi_wp2
    refine ⟨by simp, .inl ⟨_, _, rfl, run_takeDeferred hKd, ?_⟩⟩
    refine ⟨.tuple #[vd, ve, .int .i64 s], by simp [results, Tryz.results9, go_sem], ?_⟩
    exact scan_end HSS.out hn HB.out hKd (by omega) (by omega)
end Go.Proofs.YtmfednhommbikaaGreatDoor.DD
