/- A range over a function that makes what it hands over: one law. The function's word (SeqM): what it hands over, x, stands so (Hx) in the world of that round; the caller's: one walk of its body. A row of deeds that one appends to, and a row of numbers: what the two appends of Scan do. What Scan holds between two frames: a row of deeds, a row of ends, the last zxid, how far it is. What one round of Scan does to what it holds: a deed more, an end more, the last zxid and the place. -/
import Derived.RangeFuncNested
import Derived.RangeFuncBound
import Derived.RangeFuncCalls
import Derived.RangeFuncLeaves
import Derived.RangeFuncBox
import Derived.Shelf.Abstract
import Derived.Shelf.RegionOpen
import Derived.WalkKit
import Derived.OwnWalkIn
import Derived.TacticsInMore
import Derived.LoopNIn
import Derived.LoopIn
import Derived.Test.YtaeoafedfgbcaaaGreatDoorProg
import Derived.Test.YtaeoafedfgbcaaaGreatDoorDdI
import Derived.Deep.MidRow
import Derived.Test.YtaeoafedfgbcaaaGreatDoorSgMa
namespace Go.Proofs.YtaeoafedfgbcaaaGreatDoor.DD
open Go.RowKit

structure Wrp (T : Prop) : Prop where
  out : T
theorem cut_any {G T : Prop} (f : Wrp T → G) (k : T) : G := f ⟨k⟩
def SeqM {β γ : Type} (P : Program) (gf : Nat) (lb : Array Value) (n n0 : Nat) (enc : γ → Array Value) (Hx : γ → β → β → World → Prop) (Fin : β → Prop) (s0 : β) (w : World) : Prop :=
  ∀ (l : Nat) (J : β → World → Prop) (Jx : World → Prop) (W : World), Below w.heap.size w W →
    (∀ s A B, J s A → Below A.heap.size A B → J s B) →
    (∀ s s' x W1, J s W1 → Hx x s s' W1 → YieldAt Fence.wide (n - 1) P l (enc x) W1 fun e W' => (e = .returned (.bool true) ∧ J s' W' ∧ Below n0 W1 W') ∨ (e = .returned (.bool false) ∧ Jx W')) →
    J s0 W →
    CallsIn Fence.wide n P gf (#[.func (.yield l) #[] #[]] ++ lb) W fun e W' => (∃ v, e = .returned v) ∧ ((∃ s, Fin s ∧ J s W') ∨ Jx W')

def postM {β : Type} (n0 : Nat) (I : β → World → Prop) (Ix : Code → World → Prop) (s' : β) (W : World) : Exit → Act → World → Prop
  | .normal, _, W' => KeepsOthers W W' ∧ Below n0 W W' ∧ I s' W'
  | .exit id, _, W' => KeepsOthers W W' ∧ Ix (.exit id) W'
  | _, _, _ => False

theorem grown_of_below {A B : World} (h : Below A.heap.size A B) : A.grownBy B none := ⟨h.os, h.tape, h.output, h.size, fun k hk _ => h.block k hk⟩

/- What abides new blocks, and a turn of block B where that is no cells. -/
structure Stay {β : Type} (B : Nat) (I : β → World → Prop) : Prop where
  more : ∀ s A A', I s A → Below A.heap.size A A' → I s A'
  put : ∀ s A o o', I s A → A.heap[B]? = some o → o.isCells = false → I s (A.putObj B o')
theorem Stay.alloc {β : Type} {B : Nat} {I : β → World → Prop} (h : Stay B I) {s : β} {W : World} (o : Obj) (hs : I s W) : I s (W.alloc o) := h.more s W _ hs ((Below.refl _ W).alloc (Nat.le_refl _) o)

theorem range_law {β γ : Type} {P : Program} {n n0 : Nat} {g : Operand} {ps : Array Tmp} {assign body : Code} {Q : Exit → Act → World → Prop} {a : Act} {w : World}
    {gf : Nat} {lb : Array Value} (hg : a.eval g = .func (.func gf) #[] lb) (eg : ∀ args w, (callFunc gf args).run P w = .ok (.enter gf args) w)
    {enc : γ → Array Value} {Hx : γ → β → β → World → Prop} {Fin : β → Prop} {s0 : β} (hseq : SeqM P gf lb (n - 1) n0 enc Hx Fin s0 w) (hn0 : n0 ≤ w.heap.size)
    (hps : ∀ x, (enc x).size = ps.size) (hHx : ∀ x s s', Stay (w.heap.size + 1) (fun (_ : Unit) W => Hx x s s' W))
    (I : β → World → Prop) (Ix : Code → World → Prop) (hI : Stay (w.heap.size + 1) I) (hIx : ∀ c, Stay (w.heap.size + 1) (fun (_ : Unit) W => Ix c W)) (h0 : I s0 w) (a1 : γ → Act)
    (hassign : ∀ (l : Nat) (x : γ) (W : World) (K : Act → World → Prop), K (a1 x) W →
      assign.wpIn (Fence.wide.inRound l) (n - 1 - 1) P (Exit.then K (fun _ _ _ => False)) { tmps := (ps.zip (enc x)).foldl (fun t (p, v) => t.setIfInBounds p v) a.tmps, defers := [] } W)
    (hbody : ∀ (l : Nat) (s s' : β) (x : γ) (W : World), w.heap.size + 1 < W.heap.size → I s W → Hx x s s' W → body.wpIn (Fence.wide.inRound l) (n - 1 - 1) P (postM n0 I Ix s' W) (a1 x) W)
    (hdone : ∀ (D : Nat) (s : β) (W : World), D = w.heap.size → Fin s → I s W → W.heap[D]? = some (.deferred (some [])) → Q .normal { a with defers := { target := .collected D, args := #[] } :: a.defers } W)
    (hstop : ∀ (D : Nat) (c : Code) (W : World), D = w.heap.size → Ix c W → W.heap[D]? = some (.deferred (some [])) → c.wpIn Fence.wide n P Q { a with defers := { target := .collected D, args := #[] } :: a.defers } W) :
    (Code.rangeFunc g ps assign body).wpIn Fence.wide n P Q a w := by
  refine wpIn_rangeFunc fun fn hfn => ?_
  show ∃ (l : Nat) (mark : List Deferred) (w₁ : World) (d : Deferred) (w₁' : World) (f : FuncId) (args : Array Value) (w₂ : World), (Instr.enterLoop fn a.tmps ps assign body none).run P w = _ ∧ _
  obtain ⟨R, hR⟩ : ∃ R : LoopState → Option Code → Loop, R = fun st pe => { state := st, pending := pe, fn, tmps := a.tmps, params := ps, assign, body, defers := w.heap.size } := ⟨_, rfl⟩
  obtain ⟨V, hV⟩ : ∃ V, V = (w.alloc (.deferred (some []))).alloc (.loop (R .ready none)) := ⟨_, rfl⟩
  have vL : V.heap[w.heap.size + 1]? = some (.loop (R .ready none)) := by
    have := World.alloc_heap_new (w.alloc (.deferred (some []))) (.loop (R .ready none))
    rw [World.size_alloc] at this
    rw [hV]; exact this
  have vK : V.heap[w.heap.size]? = some (.deferred (some [])) := by
    rw [hV]; exact (Below.heap_alloc _ _ _ (by simp)).trans (World.alloc_heap_new w _)
  have vI : I s0 V := by rw [hV]; exact hI.alloc _ (hI.alloc _ h0)
  have vB : Below w.heap.size w V := by rw [hV]; exact ((Below.refl _ w).alloc (Nat.le_refl _) _).alloc (by simp) _
  refine ⟨w.heap.size + 1, [{ target := .collected w.heap.size, args := #[] }], V, { target := .fn (.func gf) lb, args := #[.func (.yield (w.heap.size + 1)) #[] #[]] }, V, gf,
    #[.func (.yield (w.heap.size + 1)) #[] #[]] ++ lb, V, ?_, ?_, fun _ _ => trivial, ?_, (fun h => (by cases h)), ?_⟩
  · rw [hV, hR]; exact run_enterLoop_outer _ _ _ _ _
  · simp only [resolve, hg]
    simp [go_sem]
  · simp [invoke, go_sem, eg]
  · have pB : ∀ (A : World) (o o' : Obj), A.heap[w.heap.size + 1]? = some o → Below n0 A (A.putObj (w.heap.size + 1) o') := fun A o o' h =>
      (Below.refl n0 A).grown (grownBy_putObj' A _ o') (by have := (Array.getElem?_eq_some_iff.1 h).1; omega) (fun k e => by cases e; omega)
    refine (hseq (w.heap.size + 1) (fun s W => I s W ∧ W.heap[w.heap.size + 1]? = some (.loop (R .ready none)) ∧ W.heap[w.heap.size]? = some (.deferred (some [])))
      (fun W => ∃ c, Ix c W ∧ W.heap[w.heap.size + 1]? = some (.loop (R .done (some c))) ∧ W.heap[w.heap.size]? = some (.deferred (some [])))
      V vB (fun s A B hs hb => ?_) ?_ ⟨vI, vL, vK⟩).mono ?_
    · obtain ⟨i1, i2, i3⟩ := hs
      exact ⟨hI.more s A B i1 hb, (hb.block _ (Array.getElem?_eq_some_iff.1 i2).1).trans i2, (hb.block _ (Array.getElem?_eq_some_iff.1 i3).1).trans i3⟩
    · rintro s s' x W ⟨hi, hl, hk⟩ hx
      have hlt : w.heap.size + 1 < W.heap.size := (Array.getElem?_eq_some_iff.1 hl).1
      have hy := run_yield (P := P) (args := enc x) hl (by rw [hR]; exact hps x)
      have hbr := run_beginRound (P := P) hl (by rw [hR])
      rw [hR] at hy
      obtain ⟨U, hU⟩ : ∃ U, U = W.putObj (w.heap.size + 1) (.loop { R .ready none with state := .busy }) := ⟨_, rfl⟩
      have uL : U.heap[w.heap.size + 1]? = some (.loop { R .ready none with state := .busy }) := by rw [hU]; exact World.putObj_heap_same hlt
      have uK : U.heap[w.heap.size]? = some (.deferred (some [])) := by rw [hU]; exact (World.putObj_heap_other (by omega)).trans hk
      have uB : Below n0 W U := by rw [hU]; exact pB _ _ _ hl
      have uI : I s U := by rw [hU]; exact hI.put _ _ _ _ hi hl rfl
      have uX : Hx x s s' U := by rw [hU]; exact (hHx x s s').put () _ _ _ hx hl rfl
      rw [← hU] at hbr
      refine ⟨fn, _, assign, body, hy, roundIn_of_wpIn hfn (hassign _ x W _ ⟨U, hbr, ?_⟩)⟩
      refine wpIn_mono (hbody _ s s' x U (Array.getElem?_eq_some_iff.1 uL).1 uI uX) ?_
      have fin : ∀ (j : Option Code) (W3 : World), KeepsOthers U W3 →
          (Instr.endRound (w.heap.size + 1) j).run P W3 = .ok (.bool j.isNone) (W3.putObj (w.heap.size + 1) (.loop (R (if j.isNone then .ready else .done) j))) ∧
          W3.heap[w.heap.size + 1]? = some (.loop { R .ready none with state := .busy }) ∧
          (W3.putObj (w.heap.size + 1) (.loop (R (if j.isNone then .ready else .done) j))).heap[w.heap.size + 1]? = some (.loop (R (if j.isNone then .ready else .done) j)) ∧
          (W3.putObj (w.heap.size + 1) (.loop (R (if j.isNone then .ready else .done) j))).heap[w.heap.size]? = some (.deferred (some [])) := by
        intro j W3 hk3
        have l3 := hk3.same _ _ uL rfl
        have r3 := run_endRound (P := P) j l3
        refine ⟨?_, l3, World.putObj_heap_same (Array.getElem?_eq_some_iff.1 l3).1, (World.putObj_heap_other (by omega)).trans (hk3.same _ _ uK rfl)⟩
        rw [hR] at r3 ⊢
        exact r3
      intro e a3 W3 hp
      cases e with
      | normal =>
        obtain ⟨q1, q2, q3⟩ := hp
        obtain ⟨f1, f2, f3, f4⟩ := fin none W3 q1
        exact ⟨_, _, f1, .inl ⟨rfl, ⟨hI.put _ _ _ _ q3 f2 rfl, f3, f4⟩, uB.trans (q2.trans (pB _ _ _ f2))⟩⟩
      | exit id =>
        obtain ⟨q1, q2⟩ := hp
        obtain ⟨f1, f2, f3, f4⟩ := fin (some (.exit id)) W3 q1
        exact ⟨_, _, f1, .inr ⟨rfl, .exit id, (hIx _).put () _ _ _ q2 f2 rfl, f3, f4⟩⟩
      | ret => exact hp.elim
      | goto t => exact hp.elim
      | panic ch => exact hp.elim
      | outgrown => exact hp.elim
    · rintro e W2 ⟨⟨v, rfl⟩, (⟨s, hf, hi, hl, hk⟩ | ⟨c, hi, hl, hk⟩)⟩
      · have r := run_endLoop (P := P) hl (by rw [hR]; simp)
        have e1 : (R .ready none).pending = none := by rw [hR]
        rw [e1] at r
        exact ⟨none, _, r, hdone _ s _ rfl hf (hI.put _ _ _ _ hi hl rfl) ((World.putObj_heap_other (by omega)).trans hk)⟩
      · have r := run_endLoop (P := P) hl (by rw [hR]; simp)
        have e1 : (R .done (some c)).pending = some c := by rw [hR]
        rw [e1] at r
        exact ⟨some c, _, r, hstop _ c _ rfl ((hIx c).put () _ _ _ hi hl rfl) ((World.putObj_heap_other (by omega)).trans hk)⟩
end Go.Proofs.YtaeoafedfgbcaaaGreatDoor.DD

namespace Go.Proofs.YtaeoafedfgbcaaaGreatDoor.DD
set_option linter.unusedVariables false
open Go.RowKit
set_option linter.unusedVariables false

theorem setCells_row : ∀ (us : List Value) (w : World) (g o : Nat) (cur : Array Value) (T : TypeId) (fr : Nat × Nat), w.heap[g]? = some (.cells cur T fr) →
    ∃ cur', (w.setCells g o us).heap[g]? = some (.cells cur' T fr) ∧ cur'.size = cur.size ∧ ∀ i, i < cur.size → cur'[i]? = if o ≤ i ∧ i < o + us.length then us[i - o]? else cur[i]?
  | [], w, g, o, cur, T, fr, h => ⟨cur, h, rfl, fun i _ => by rw [if_neg]; rintro ⟨a, b⟩; simp at b; omega⟩
  | u :: us, w, g, o, cur, T, fr, h => by
    have h1 := heap_set h o u
    obtain ⟨cur', e1, e2, e3⟩ := setCells_row us _ g (o + 1) _ T fr h1
    refine ⟨cur', e1, by rw [e2]; simp, fun i hi => ?_⟩
    rw [e3 i (by simpa using hi)]
    by_cases c1 : o + 1 ≤ i ∧ i < o + 1 + us.length
    · rw [if_pos c1, if_pos ⟨by omega, by rw [List.length_cons]; omega⟩, show i - o = (i - (o + 1)) + 1 by omega]
      simp
    · rw [if_neg c1]
      by_cases c2 : o = i
      · subst c2
        rw [if_pos ⟨Nat.le_refl _, by simp⟩, Nat.sub_self, Array.getElem?_setIfInBounds_self_of_lt hi]
        rfl
      · rw [Array.getElem?_setIfInBounds_ne c2, if_neg]
        rintro ⟨a, b⟩
        rw [List.length_cons] at b
        exact c1 ⟨by omega, by omega⟩
theorem setCells_chg (S : Nat → Prop) (g : Nat) (hS : S g) : ∀ (us : List Value) (w : World) (o : Nat), Chg S w (w.setCells g o us)
  | [], w, o => Chg.refl _ _
  | u :: us, w, o => (Chg.setCell w ⟨g, o, none⟩ u hS).trans (setCells_chg S g hS us _ (o + 1))
theorem owns_last {w : World} {base T g k cap : Nat} {xs zs us : List Value} (h : w.ownsRow base T 16 (.slice (some ⟨g, 0, none⟩) (k + 1) cap) (k + 1) (xs ++ zs)) (hx : xs.length = k * 16) (hz : zs.length = 16) (hu : us.length = 16) :
    (w.setCells g (k * 16) us).ownsRow base T 16 (.slice (some ⟨g, 0, none⟩) (k + 1) cap) (k + 1) (xs ++ us) ∧ w.there g (k * 16) 16 := by
  obtain ⟨h1, h2⟩ := h
  rcases h2 with ⟨e, _⟩ | ⟨g', cap', cur, hv, hb, hg, hc, hm, hs, ht⟩
  · cases e
  cases hv
  obtain ⟨cur', e1, e2, e3⟩ := setCells_row us w g (k * 16) cur T (0, 0) hg
  have hsz : (k + 1) * 16 ≤ cur.size := by rw [hs]; exact Nat.mul_le_mul_right 16 hc
  have hci : ∀ i, i < (k + 1) * 16 → cur[i]? = (xs ++ zs)[i]? := by
    intro i hi
    rw [← ht, List.getElem?_take_of_lt hi, Array.getElem?_toList]
  refine ⟨⟨by rw [List.length_append, hx, hu]; omega, .inr ⟨g, cap, cur', rfl, hb, e1, hc, hm, by rw [e2]; exact hs, ?_⟩⟩, ?_⟩
  · apply List.ext_getElem?
    intro i
    by_cases hi : i < (k + 1) * 16
    · rw [List.getElem?_take_of_lt hi, Array.getElem?_toList, e3 i (by omega), hu]
      by_cases c : i < k * 16
      · rw [if_neg (by omega), hci i hi, List.getElem?_append_left (by omega), List.getElem?_append_left (by omega)]
      · rw [if_pos ⟨by omega, by omega⟩, List.getElem?_append_right (by omega), hx]
    · rw [List.getElem?_eq_none (by rw [List.length_take]; omega), List.getElem?_eq_none (by rw [List.length_append, hx, hu]; omega)]
  · intro j hj
    refine ⟨?_, frozen_at hg _⟩
    rw [cell_at hg, Array.getElem?_eq_getElem (by omega)]
    rfl
theorem zero16 : ∀ u ∈ [Value.int .i64 0, .int .u8 0, .int .i64 0, .int .i64 0, .int .i64 0, .int .i64 0, .string ⟨#[]⟩, .slice none 0 0, .int .i64 0, .int .i64 0, .int .i64 0, .int .i64 0, .int .i64 0, .int .i64 0, .slice none 0 0, .slice none 0 0], u.oneCell' = true := by
  intro u hu
  simp only [List.mem_cons, List.not_mem_nil, or_false] at hu
  rcases hu with rfl | rfl | rfl | rfl | rfl | rfl | rfl | rfl | rfl | rfl | rfl | rfl | rfl | rfl | rfl | rfl <;> rfl
theorem app16 {W : World} {base k C : Nat} {A : Option Addr} {xs us : List Value} (ho : W.ownsRow base 41 16 (.slice A k C) k xs) (hb : base ≤ W.heap.size) (hk : k ≤ 4294967296) (hus : us.length = 16) (h1 : ∀ u ∈ us, u.oneCell' = true) :
    ∃ g cap W1, (Builtin.append_ #[24, 24] 24 #[.slice A k C, .slice (some ⟨W.heap.size, 0, none⟩) 1 1]).run Tryz.prog (W.alloc (.cells #[.int .i64 0, .int .u8 0, .int .i64 0, .int .i64 0, .int .i64 0, .int .i64 0, .string ⟨#[]⟩, .slice none 0 0, .int .i64 0, .int .i64 0, .int .i64 0, .int .i64 0, .int .i64 0, .int .i64 0, .slice none 0 0, .slice none 0 0] 41)) = .ok (.slice (some ⟨g, 0, none⟩) (k + 1) cap) W1 ∧
      W1.there g (k * 16) 16 ∧
      (W1.setCells g (k * 16) us).ownsRow base 41 16 (.slice (some ⟨g, 0, none⟩) (k + 1) cap) (k + 1) (xs ++ us) ∧
      Chg (fun i => (Value.slice A k C).ownBlock = some i) W (W1.setCells g (k * 16) us) ∧ ((Value.slice A k C).ownBlock = some g ∨ W.heap.size ≤ g) := by
  obtain ⟨i0, hi, hz0, hz1, hz2⟩ := info_parts infoD
  obtain ⟨g, cap, W1, hr, h2, h3, h4, h5⟩ := run_append_lies (P := Tryz.prog) (W.alloc (.cells #[.int .i64 0, .int .u8 0, .int .i64 0, .int .i64 0, .int .i64 0, .int .i64 0, .string ⟨#[]⟩, .slice none 0 0, .int .i64 0, .int .i64 0, .int .i64 0, .int .i64 0, .int .i64 0, .int .i64 0, .slice none 0 0, .slice none 0 0] 41)) 24 24 base 41 i0 _ 16 184 Tryz.underlying24 hi hz0 hz1 hz2 rfl (by decide) (.slice A k C) k xs (ho.alloc _) ⟨W.heap.size, 0, none⟩ 1 1 _ rfl (World.news_of_block (heap_alloc_new W _)) zero16 (by omega) (by unfold maxLen; omega) (by omega) (by simp; omega) (W.heap.size + 1) (by simp)
  have hxl : xs.length = k * 16 := ho.1
  obtain ⟨q1, q2⟩ := owns_last h2 hxl rfl hus
  refine ⟨g, cap, W1, hr, q2, q1, ?_, ?_⟩
  · have c1 : Chg (fun i => (Value.slice A k C).ownBlock = some i) W W1 := (Chg.alloc _ W _).trans (Chg.of_grown h3)
    rcases h4 with h4 | h4
    · exact c1.trans (setCells_chg _ g h4 us W1 _)
    · refine ⟨?_, ?_, ?_, ?_, ?_⟩
      · exact (setCells_chg (fun _ => True) g trivial us W1 _).os.trans c1.os
      · exact (setCells_chg (fun _ => True) g trivial us W1 _).tape.trans c1.tape
      · exact (setCells_chg (fun _ => True) g trivial us W1 _).output.trans c1.output
      · exact Nat.le_trans c1.size (setCells_chg (fun _ => True) g trivial us W1 (k * 16)).size
      · intro i hi' hn
        have hsz := c1.size
        exact ((setCells_chg (fun j => j = g) g rfl us W1 (k * 16)).block i (by omega) (by omega)).trans (c1.block i hi' hn)
  · rcases h4 with h4 | h4
    · exact .inl h4
    · exact .inr (by omega)
theorem infoI : (Tryz.prog.info? 3).map (fun i => (i.zero, i.size, i.bytes)) = some (some (.int .i64 0), 1, 8) := by kernel_rfl
theorem appI {W : World} {base k C : Nat} {A : Option Addr} {xs : List Value} (ho : W.ownsRow base 3 1 (.slice A k C) k xs) (hb : base ≤ W.heap.size) (hk : k ≤ 4294967296) (n : Int) :
    ∃ g cap W1, (Builtin.append_ #[25, 25] 25 #[.slice A k C, .slice (some ⟨W.heap.size, 0, none⟩) 1 1]).run Tryz.prog (W.alloc (.cells #[.int .i64 n] 3)) = .ok (.slice (some ⟨g, 0, none⟩) (k + 1) cap) W1 ∧
      W1.ownsRow base 3 1 (.slice (some ⟨g, 0, none⟩) (k + 1) cap) (k + 1) (xs ++ [.int .i64 n]) ∧
      Chg (fun i => (Value.slice A k C).ownBlock = some i) W W1 ∧ ((Value.slice A k C).ownBlock = some g ∨ W.heap.size ≤ g) := by
  obtain ⟨i0, hi, hz0, hz1, hz2⟩ := info_parts infoI
  obtain ⟨g, cap, W1, hr, h2, h3, h4, h5⟩ := run_append_lies (P := Tryz.prog) (W.alloc (.cells #[.int .i64 n] 3)) 25 25 base 3 i0 _ 1 8 Tryz.underlying25 hi hz0 hz1 hz2 rfl (by decide) (.slice A k C) k xs (ho.alloc _) ⟨W.heap.size, 0, none⟩ 1 1 [.int .i64 n] rfl (World.news_of_block (heap_alloc_new W _)) (fun u hu => by simp at hu; subst hu; rfl) (by omega) (by unfold maxLen; omega) (by omega) (by simp; omega) (W.heap.size + 1) (by simp)
  refine ⟨g, cap, W1, hr, h2, (Chg.alloc _ W _).trans (Chg.of_grown h3), ?_⟩
  rcases h4 with h4 | h4
  · exact .inl h4
  · exact .inr (by omega)
theorem there_16 {w : World} {g o : Nat} (h : w.there g o 16) : ∃ v0 v1 v2 v3 v4 v5 v6 v7 v8 v9 v10 v11 v12 v13 v14 v15 : Value, w.cell? ⟨g, o, none⟩ = some v0 ∧ w.cell? ⟨g, o + 1, none⟩ = some v1 ∧ w.cell? ⟨g, o + 2, none⟩ = some v2 ∧ w.cell? ⟨g, o + 3, none⟩ = some v3 ∧ w.cell? ⟨g, o + 4, none⟩ = some v4 ∧ w.cell? ⟨g, o + 5, none⟩ = some v5 ∧ w.cell? ⟨g, o + 6, none⟩ = some v6 ∧ w.cell? ⟨g, o + 7, none⟩ = some v7 ∧ w.cell? ⟨g, o + 8, none⟩ = some v8 ∧ w.cell? ⟨g, o + 9, none⟩ = some v9 ∧ w.cell? ⟨g, o + 10, none⟩ = some v10 ∧ w.cell? ⟨g, o + 11, none⟩ = some v11 ∧ w.cell? ⟨g, o + 12, none⟩ = some v12 ∧ w.cell? ⟨g, o + 13, none⟩ = some v13 ∧ w.cell? ⟨g, o + 14, none⟩ = some v14 ∧ w.cell? ⟨g, o + 15, none⟩ = some v15 ∧ w.frozen? ⟨g, o, none⟩ = false ∧ w.frozen? ⟨g, o + 1, none⟩ = false ∧ w.frozen? ⟨g, o + 2, none⟩ = false ∧ w.frozen? ⟨g, o + 3, none⟩ = false ∧ w.frozen? ⟨g, o + 4, none⟩ = false ∧ w.frozen? ⟨g, o + 5, none⟩ = false ∧ w.frozen? ⟨g, o + 6, none⟩ = false ∧ w.frozen? ⟨g, o + 7, none⟩ = false ∧ w.frozen? ⟨g, o + 8, none⟩ = false ∧ w.frozen? ⟨g, o + 9, none⟩ = false ∧ w.frozen? ⟨g, o + 10, none⟩ = false ∧ w.frozen? ⟨g, o + 11, none⟩ = false ∧ w.frozen? ⟨g, o + 12, none⟩ = false ∧ w.frozen? ⟨g, o + 13, none⟩ = false ∧ w.frozen? ⟨g, o + 14, none⟩ = false ∧ w.frozen? ⟨g, o + 15, none⟩ = false := by
  have k : ∀ j, j < 16 → ∃ v, w.cell? ⟨g, o + j, none⟩ = some v := fun j hj => Option.isSome_iff_exists.1 (h j hj).1
  obtain ⟨v0, h0⟩ := k 0 (by omega)
  obtain ⟨v1, h1⟩ := k 1 (by omega)
  obtain ⟨v2, h2⟩ := k 2 (by omega)
  obtain ⟨v3, h3⟩ := k 3 (by omega)
  obtain ⟨v4, h4⟩ := k 4 (by omega)
  obtain ⟨v5, h5⟩ := k 5 (by omega)
  obtain ⟨v6, h6⟩ := k 6 (by omega)
  obtain ⟨v7, h7⟩ := k 7 (by omega)
  obtain ⟨v8, h8⟩ := k 8 (by omega)
  obtain ⟨v9, h9⟩ := k 9 (by omega)
  obtain ⟨v10, h10⟩ := k 10 (by omega)
  obtain ⟨v11, h11⟩ := k 11 (by omega)
  obtain ⟨v12, h12⟩ := k 12 (by omega)
  obtain ⟨v13, h13⟩ := k 13 (by omega)
  obtain ⟨v14, h14⟩ := k 14 (by omega)
  obtain ⟨v15, h15⟩ := k 15 (by omega)
  exact ⟨v0, v1, v2, v3, v4, v5, v6, v7, v8, v9, v10, v11, v12, v13, v14, v15, h0, h1, h2, h3, h4, h5, h6, h7, h8, h9, h10, h11, h12, h13, h14, h15, (h 0 (by omega)).2, (h 1 (by omega)).2, (h 2 (by omega)).2, (h 3 (by omega)).2, (h 4 (by omega)).2, (h 5 (by omega)).2, (h 6 (by omega)).2, (h 7 (by omega)).2, (h 8 (by omega)).2, (h 9 (by omega)).2, (h 10 (by omega)).2, (h 11 (by omega)).2, (h 12 (by omega)).2, (h 13 (by omega)).2, (h 14 (by omega)).2, (h 15 (by omega)).2⟩
end Go.Proofs.YtaeoafedfgbcaaaGreatDoor.DD

namespace Go.Proofs.YtaeoafedfgbcaaaGreatDoor.DD
set_option linter.unusedVariables false
open Go.RowKit
set_option linter.unusedVariables false

structure El2 where
  p : It
  A1 : Option Addr
  c1 : Nat
  A2 : Option Addr
  c2 : Nat
  A3 : Option Addr
  c3 : Nat
def ev2 (e : El2) : List Value := [.int .i64 e.p.1.zxid, .int .u8 e.p.1.kind, .int .i64 e.p.1.session, .int .i64 e.p.1.turn, .int .i64 e.p.1.xid, .int .i64 e.p.1.time, .string (mkS e.p.1.path), .slice e.A1 e.p.1.data.length e.c1, .int .i64 e.p.1.owner, .int .i64 e.p.1.version, .int .i64 e.p.1.cversion, .int .i64 e.p.1.timeout, .int .i64 e.p.1.err, .int .i64 e.p.1.cver, .slice e.A2 e.p.1.mems.length e.c2, .slice e.A3 e.p.1.np e.c3]
def evd2 (l : List El2) : List Value := (l.map ev2).flatten
theorem ev2_len (e : El2) : (ev2 e).length = 16 := rfl
theorem ev2_one (e : El2) : ∀ u ∈ ev2 e, u.oneCell' = true := by
  intro u hu
  simp only [ev2, List.mem_cons, List.not_mem_nil, or_false] at hu
  rcases hu with rfl | rfl | rfl | rfl | rfl | rfl | rfl | rfl | rfl | rfl | rfl | rfl | rfl | rfl | rfl | rfl <;> rfl
theorem evd2_app (a : List El2) (e : El2) : evd2 (a ++ [e]) = evd2 a ++ ev2 e := by simp [evd2]
theorem evd2_at : ∀ (l : List El2) (j : Nat) (h : j < l.length) (i : Nat) (hi : i < 16), (evd2 l)[j * 16 + i]? = (ev2 (l[j]'h))[i]?
  | [], j, h, _, _ => by simp at h
  | e :: l, 0, h, i, hi => by
    show (ev2 e ++ evd2 l)[0 * 16 + i]? = _
    rw [Nat.zero_mul, Nat.zero_add, List.getElem?_append_left (by rw [ev2_len]; exact hi)]
    rfl
  | e :: l, j + 1, h, i, hi => by
    show (ev2 e ++ evd2 l)[(j + 1) * 16 + i]? = _
    rw [List.getElem?_append_right (by rw [ev2_len]; omega), ev2_len, show (j + 1) * 16 + i - 16 = j * 16 + i by omega, evd2_at l j (by simpa using h) i hi]
    rfl
abbrev DV (w : World) (e : El2) : Prop := DVal w e.p.1 e.p.2 e.A1 e.c1 e.A2 e.c2 e.A3 e.c3
/- A deed that was got: what it reaches lies in D, apart from the blocks rb that are written. -/
def EAt (W : World) (rb : Nat → Prop) (e : El2) : Prop :=
  ∃ D : Nat → Prop, (∀ k, D k → k < W.heap.size ∧ ¬ rb k) ∧ ∀ (w'' : World) (S : Nat → Prop), Chg S W w'' → (∀ k, D k → ¬ S k) → DV w'' e
theorem EAt.keep {W W' : World} {rb rb' S : Nat → Prop} {e : El2} (h : EAt W rb e) (hc : Chg S W W') (hs : ∀ k, k < W.heap.size → ¬ rb k → ¬ S k ∧ ¬ rb' k) : EAt W' rb' e := by
  obtain ⟨D, h1, h2⟩ := h
  refine ⟨D, fun k hk => ⟨Nat.lt_of_lt_of_le (h1 k hk).1 hc.size, (hs k (h1 k hk).1 (h1 k hk).2).2⟩, fun w'' S' hc' hs' => h2 w'' (fun k => S k ∨ S' k) ((hc.weak (fun _ _ e => .inl e)).trans (hc'.weak (fun _ _ e => .inr e))) (fun k hk e => ?_)⟩
  rcases e with e | e
  · exact (hs k (h1 k hk).1 (h1 k hk).2).1 e
  · exact hs' k hk e
theorem EAt.val {W : World} {rb : Nat → Prop} {e : El2} (h : EAt W rb e) : DV W e := by
  obtain ⟨D, h1, h2⟩ := h
  exact h2 W Non (Chg.refl _ _) (fun _ _ e => e)
theorem EAt.new {W w1 : World} {rb : Nat → Prop} {e : El2} (hf : ∀ (w'' : World) (S : Nat → Prop), Chg S w1 w'' → (∀ k, W.heap.size ≤ k → ¬ S k) → DV w'' e) (hrb : ∀ k, rb k → k < W.heap.size ∨ w1.heap.size ≤ k) : EAt w1 rb e := by
  refine ⟨fun k => W.heap.size ≤ k ∧ k < w1.heap.size, fun k hk => ⟨hk.2, fun e => by have := hrb k e; omega⟩, fun w'' S hc hs => hf w'' (fun k => S k ∧ k < w1.heap.size) ⟨hc.os, hc.tape, hc.output, hc.size, fun k hk hn => hc.block k hk (fun e => hn ⟨e, hk⟩)⟩ (fun k hk e => hs k ⟨hk, e.2⟩ e.1)⟩
def RB (N : Nat) (vd ve : Value) (k : Nat) : Prop := (N ≤ k ∧ k < N + 7) ∨ vd.ownBlock = some k ∨ ve.ownBlock = some k
def nI (n : Nat) : Value := .int .i64 n

structure Sc (l : List UInt8) (N t : Nat) (its : List It) (els : List El2) (vd ve : Value) (W : World) : Prop where
  el : els.map El2.p = its
  bd : Boxed W N 24 vd
  be : Boxed W (N + 1) 25 ve
  rd : W.ownsRow (N + 7) 41 16 vd its.length (evd2 els)
  re : W.ownsRow (N + 7) 3 1 ve its.length ((endsF 0 its).map nI)
  at' : ∀ e ∈ els, EAt W (RB N vd ve) e
  la : Boxed W (N + 2) 32 (.int .i64 (lastZ 0 its))
  too : Boxed W (N + 3) 3 (.int .i64 t)
  tt : t = (catI its).length
  tl : t ≤ l.length
  sc : scanF l 0 = its ++ scanF (l.drop t) (lastZ 0 its)
theorem boxed_chg {S : Nat → Prop} {W W' : World} {B : Nat} {T : TypeId} {v : Value} (h : Boxed W B T v) (hc : Chg S W W') (hn : ¬ S B) : Boxed W' B T v := (hc.block B h.lt hn).trans h
/- It abides a change of blocks that it has not. -/
theorem Sc.keep {l : List UInt8} {N t : Nat} {its : List It} {els : List El2} {vd ve : Value} {W W' : World} {S : Nat → Prop} (h : Sc l N t its els vd ve W) (hc : Chg S W W') (hs : ∀ k, k < W.heap.size → S k → N + 4 ≤ k ∧ RB N vd ve k ∧ vd.ownBlock ≠ some k ∧ ve.ownBlock ≠ some k) : Sc l N t its els vd ve W' := by
  have hb : ∀ j, j < 4 → N + j < W.heap.size → ¬ S (N + j) := fun j hj hl e => by have := (hs _ hl e).1; omega
  refine ⟨h.el, boxed_chg h.bd hc (hb 0 (by omega) h.bd.lt), boxed_chg h.be hc (hb 1 (by omega) h.be.lt), owns_keep h.rd hc (fun k hk e => (hs k (h.rd.lt k hk).2 e).2.2.1 hk), owns_keep h.re hc (fun k hk e => (hs k (h.re.lt k hk).2 e).2.2.2 hk), fun e he => (h.at' e he).keep hc (fun k hk hn => ⟨fun e => hn (hs k hk e).2.1, hn⟩), boxed_chg h.la hc (hb 2 (by omega) h.la.lt), boxed_chg h.too hc (hb 3 (by omega) h.too.lt), h.tt, h.tl, h.sc⟩
theorem own_cells {W : World} {base T size n : Nat} {v : Value} {xs : List Value} (h : W.ownsRow base T size v n xs) {k : Nat} (hk : v.ownBlock = some k) : ∃ cur, W.heap[k]? = some (.cells cur T (0, 0)) := by
  rcases h.2 with ⟨rfl, _⟩ | ⟨g, cap, cur, rfl, _, hg, _⟩
  · cases hk
  · cases hk
    exact ⟨cur, hg⟩
theorem Sc.more {l : List UInt8} {N t : Nat} {its : List It} {els : List El2} {vd ve : Value} {W W' : World} (h : Sc l N t its els vd ve W) (hb : Below W.heap.size W W') : Sc l N t its els vd ve W' := h.keep (Chg.of_below hb) (fun _ _ e => e.elim)
theorem Sc.put {l : List UInt8} {N t b : Nat} {its : List It} {els : List El2} {vd ve : Value} {W : World} (h : Sc l N t its els vd ve W) {o : Obj} (o' : Obj) (hb : N + 4 ≤ b) (hb' : b < N + 7) (ho : W.heap[b]? = some o) (hcc : o.isCells = false) : Sc l N t its els vd ve (W.putObj b o') := by
  have hc : Chg (fun k => k = b) W (W.putObj b o') := (Chg.of_grown (grownBy_putObj' W b o')).weak (fun k _ e => by cases e; rfl)
  refine h.keep hc (fun k hk e => ?_)
  subst e
  refine ⟨hb, .inl ⟨by omega, hb'⟩, fun e => ?_, fun e => ?_⟩
  · obtain ⟨cur, hg⟩ := own_cells h.rd e
    rw [hg] at ho; cases ho; cases hcc
  · obtain ⟨cur, hg⟩ := own_cells h.re e
    rw [hg] at ho; cases ho; cases hcc
theorem Sc.apart {l : List UInt8} {N t : Nat} {its : List It} {els : List El2} {vd ve : Value} {W : World} (h : Sc l N t its els vd ve W) (k : Nat) (h1 : vd.ownBlock = some k) : ve.ownBlock ≠ some k := by
  intro h2
  obtain ⟨c1, g1⟩ := own_cells h.rd h1
  obtain ⟨c2, g2⟩ := own_cells h.re h2
  rw [g1] at g2
  cases g2
end Go.Proofs.YtaeoafedfgbcaaaGreatDoor.DD

namespace Go.Proofs.YtaeoafedfgbcaaaGreatDoor.DD
set_option linter.unusedVariables false
open Go.RowKit
set_option linter.unusedVariables false

structure Rw (N : Nat) (els : List El2) (es : List Value) (vd ve : Value) (z t : Int) (W : World) : Prop where
  bd : Boxed W N 24 vd
  be : Boxed W (N + 1) 25 ve
  rd : W.ownsRow (N + 7) 41 16 vd els.length (evd2 els)
  re : W.ownsRow (N + 7) 3 1 ve es.length es
  at' : ∀ e ∈ els, EAt W (RB N vd ve) e
  la : Boxed W (N + 2) 32 (.int .i64 z)
  too : Boxed W (N + 3) 3 (.int .i64 t)
theorem Sc.rw' {l : List UInt8} {N t : Nat} {its : List It} {els : List El2} {vd ve : Value} {W : World} (h : Sc l N t its els vd ve W) : Rw N els ((endsF 0 its).map nI) vd ve (lastZ 0 its) t W := by
  have e1 : els.length = its.length := by rw [← h.el, List.length_map]
  have e2 : ((endsF 0 its).map nI).length = its.length := by rw [List.length_map, endsF_len]
  exact ⟨h.bd, h.be, by rw [e1]; exact h.rd, by rw [e2]; exact h.re, h.at', h.la, h.too⟩
theorem Rw.sc {l : List UInt8} {N t : Nat} {its : List It} {els : List El2} {vd ve : Value} {W : World} (h : Rw N els ((endsF 0 its).map nI) vd ve (lastZ 0 its) t W) (he : els.map El2.p = its) (tt : t = (catI its).length) (tl : t ≤ l.length) (sc : scanF l 0 = its ++ scanF (l.drop t) (lastZ 0 its)) : Sc l N t its els vd ve W := by
  have e1 : els.length = its.length := by rw [← he, List.length_map]
  have e2 : ((endsF 0 its).map nI).length = its.length := by rw [List.length_map, endsF_len]
  have h1 := h.rd
  have h2 := h.re
  rw [e1] at h1
  rw [e2] at h2
  exact ⟨he, h.bd, h.be, h1, h2, h.at', h.la, h.too, tt, tl, sc⟩
theorem Rw.apart {N : Nat} {els : List El2} {es : List Value} {vd ve : Value} {z t : Int} {W : World} (h : Rw N els es vd ve z t W) (k : Nat) (h1 : vd.ownBlock = some k) : ve.ownBlock ≠ some k := by
  intro h2
  obtain ⟨c1, g1⟩ := own_cells h.rd h1
  obtain ⟨c2, g2⟩ := own_cells h.re h2
  rw [g1] at g2
  cases g2
theorem keeps_chg {S : Nat → Prop} {W W' : World} (hc : Chg S W W') (h : ∀ k o, S k → W.heap[k]? = some o → o.isCells = true) : KeepsOthers W W' :=
  ⟨hc.size, fun k o hk ho => (hc.block k (Array.getElem?_eq_some_iff.1 hk).1 (fun e => by rw [h k o e hk] at ho; cases ho)).trans hk⟩
theorem keeps_own {W W' : World} {base T size n : Nat} {v : Value} {xs : List Value} (h : W.ownsRow base T size v n xs) (hc : Chg (fun i => v.ownBlock = some i) W W') : KeepsOthers W W' :=
  keeps_chg hc (fun k o e hk => by obtain ⟨c, hg⟩ := own_cells h e; rw [hg] at hk; cases hk; rfl)
/- A deed more. -/
theorem Rw.deed {N : Nat} {els : List El2} {es : List Value} {vd ve : Value} {z t : Int} {W W6 : World} (h : Rw N els es vd ve z t W) {g cap : Nat} {e0 : El2} (ho : W6.ownsRow (N + 7) 41 16 (.slice (some ⟨g, 0, none⟩) (els.length + 1) cap) (els.length + 1) (evd2 els ++ ev2 e0)) (hc : Chg (fun i => vd.ownBlock = some i) W W6) (hg : vd.ownBlock = some g ∨ W.heap.size ≤ g) (hN : N + 7 ≤ W.heap.size) (he : EAt W (RB N vd ve) e0) :
    Rw N (els ++ [e0]) es (.slice (some ⟨g, 0, none⟩) (els.length + 1) cap) ve z t (W6.setCell ⟨N, 0, none⟩ (.slice (some ⟨g, 0, none⟩) (els.length + 1) cap)) ∧ Boxed W6 N 24 vd ∧ KeepsOthers W (W6.setCell ⟨N, 0, none⟩ (.slice (some ⟨g, 0, none⟩) (els.length + 1) cap)) ∧ Chg (fun i => vd.ownBlock = some i ∨ i = N) W (W6.setCell ⟨N, 0, none⟩ (.slice (some ⟨g, 0, none⟩) (els.length + 1) cap)) := by
  have hlt : ∀ k, vd.ownBlock = some k → N + 7 ≤ k ∧ k < W.heap.size := h.rd.lt
  have hgN : N + 7 ≤ g := by
    rcases hg with e | e
    · exact (hlt g e).1
    · omega
  have b6 : Boxed W6 N 24 vd := boxed_chg h.bd hc (fun e => by have := (hlt _ e).1; omega)
  have c7 : Chg (fun i => vd.ownBlock = some i ∨ i = N) W (W6.setCell ⟨N, 0, none⟩ (.slice (some ⟨g, 0, none⟩) (els.length + 1) cap)) := (hc.weak (fun _ _ e => .inl e)).trans (Chg.setCell W6 ⟨N, 0, none⟩ _ (.inr rfl))
  have key : ∀ e, EAt W (RB N vd ve) e → EAt (W6.setCell ⟨N, 0, none⟩ (.slice (some ⟨g, 0, none⟩) (els.length + 1) cap)) (RB N (.slice (some ⟨g, 0, none⟩) (els.length + 1) cap) ve) e := by
    intro e he
    refine he.keep c7 (fun k hk hn => ⟨fun e => ?_, fun e => ?_⟩)
    · rcases e with e | e
      · exact hn (.inr (.inl e))
      · exact hn (.inl ⟨by omega, by omega⟩)
    · rcases e with e | e | e
      · exact hn (.inl e)
      · have e' : g = k := Option.some.inj e
        subst e'
        rcases hg with q | q
        · exact hn (.inr (.inl q))
        · omega
      · exact hn (.inr (.inr e))
  refine ⟨⟨b6.set _, boxed_chg h.be c7 (fun e => ?_), ?_, ?_, fun e he' => ?_, boxed_chg h.la c7 (fun e => ?_), boxed_chg h.too c7 (fun e => ?_)⟩, b6, (keeps_own h.rd hc).trans (KeepsOthers.setCell _ _ _), c7⟩
  · rcases e with e | e
    · have := (hlt _ e).1; omega
    · omega
  · rw [List.length_append, evd2_app]
    exact owns_keep ho (Chg.setCell (S := fun k => k = N) W6 ⟨N, 0, none⟩ _ rfl) (fun k hk e => by have e' : g = k := Option.some.inj hk; omega)
  · refine owns_keep h.re c7 (fun k hk e => ?_)
    rcases e with e | e
    · exact h.apart k e hk
    · have := (h.re.lt k hk).1; omega
  · rcases List.mem_append.1 he' with q | q
    · exact key e (h.at' e q)
    · rw [List.mem_singleton.1 q]; exact key _ he
  · rcases e with e | e
    · have := (hlt _ e).1; omega
    · omega
  · rcases e with e | e
    · have := (hlt _ e).1; omega
    · omega
/- An end more. -/
theorem Rw.fin {N : Nat} {els : List El2} {es : List Value} {vd ve : Value} {z t : Int} {W W6 : World} (h : Rw N els es vd ve z t W) {g cap : Nat} {n : Int} (ho : W6.ownsRow (N + 7) 3 1 (.slice (some ⟨g, 0, none⟩) (es.length + 1) cap) (es.length + 1) (es ++ [.int .i64 n])) (hc : Chg (fun i => ve.ownBlock = some i) W W6) (hg : ve.ownBlock = some g ∨ W.heap.size ≤ g) (hN : N + 7 ≤ W.heap.size) :
    Rw N els (es ++ [.int .i64 n]) vd (.slice (some ⟨g, 0, none⟩) (es.length + 1) cap) z t (W6.setCell ⟨N + 1, 0, none⟩ (.slice (some ⟨g, 0, none⟩) (es.length + 1) cap)) ∧ Boxed W6 (N + 1) 25 ve ∧ KeepsOthers W (W6.setCell ⟨N + 1, 0, none⟩ (.slice (some ⟨g, 0, none⟩) (es.length + 1) cap)) ∧ Chg (fun i => ve.ownBlock = some i ∨ i = N + 1) W (W6.setCell ⟨N + 1, 0, none⟩ (.slice (some ⟨g, 0, none⟩) (es.length + 1) cap)) := by
  have hlt : ∀ k, ve.ownBlock = some k → N + 7 ≤ k ∧ k < W.heap.size := h.re.lt
  have hgN : N + 7 ≤ g := by
    rcases hg with e | e
    · exact (hlt g e).1
    · omega
  have b6 : Boxed W6 (N + 1) 25 ve := boxed_chg h.be hc (fun e => by have := (hlt _ e).1; omega)
  have c7 : Chg (fun i => ve.ownBlock = some i ∨ i = N + 1) W (W6.setCell ⟨N + 1, 0, none⟩ (.slice (some ⟨g, 0, none⟩) (es.length + 1) cap)) := (hc.weak (fun _ _ e => .inl e)).trans (Chg.setCell W6 ⟨N + 1, 0, none⟩ _ (.inr rfl))
  have far : ∀ j, j < 4 → j ≠ 1 → ¬ (ve.ownBlock = some (N + j) ∨ N + j = N + 1) := by
    intro j hj h1 e
    rcases e with e | e
    · have := (hlt _ e).1; omega
    · omega
  refine ⟨⟨boxed_chg h.bd c7 (far 0 (by omega) (by omega)), b6.set _, ?_, ?_, fun e he => ?_, boxed_chg h.la c7 (far 2 (by omega) (by omega)), boxed_chg h.too c7 (far 3 (by omega) (by omega))⟩, b6, (keeps_own h.re hc).trans (KeepsOthers.setCell _ _ _), c7⟩
  · refine owns_keep h.rd c7 (fun k hk e => ?_)
    rcases e with e | e
    · exact h.apart k hk e
    · have := (h.rd.lt k hk).1; omega
  · rw [List.length_append]
    exact owns_keep ho (Chg.setCell (S := fun k => k = N + 1) W6 ⟨N + 1, 0, none⟩ _ rfl) (fun k hk e => by have e' : g = k := Option.some.inj hk; omega)
  · refine (h.at' e he).keep c7 (fun k hk hn => ⟨fun e => ?_, fun e => ?_⟩)
    · rcases e with e | e
      · exact hn (.inr (.inr e))
      · exact hn (.inl ⟨by omega, by omega⟩)
    · rcases e with e | e | e
      · exact hn (.inl e)
      · exact hn (.inr (.inl e))
      · have e' : g = k := Option.some.inj e
        subst e'
        rcases hg with q | q
        · exact hn (.inr (.inr q))
        · omega
/- The last zxid, and how far. -/
theorem Rw.last {N : Nat} {els : List El2} {es : List Value} {vd ve : Value} {z t : Int} {W : World} (h : Rw N els es vd ve z t W) (z' t' : Int) :
    Rw N els es vd ve z' t' ((W.setCell ⟨N + 2, 0, none⟩ (.int .i64 z')).setCell ⟨N + 3, 0, none⟩ (.int .i64 t')) ∧ KeepsOthers W ((W.setCell ⟨N + 2, 0, none⟩ (.int .i64 z')).setCell ⟨N + 3, 0, none⟩ (.int .i64 t')) ∧ Chg (fun i => i = N + 2 ∨ i = N + 3) W ((W.setCell ⟨N + 2, 0, none⟩ (.int .i64 z')).setCell ⟨N + 3, 0, none⟩ (.int .i64 t')) := by
  have c7 : Chg (fun i => i = N + 2 ∨ i = N + 3) W ((W.setCell ⟨N + 2, 0, none⟩ (.int .i64 z')).setCell ⟨N + 3, 0, none⟩ (.int .i64 t')) := (Chg.setCell W ⟨N + 2, 0, none⟩ _ (.inl rfl)).trans (Chg.setCell _ ⟨N + 3, 0, none⟩ _ (.inr rfl))
  have c2 : Chg (fun i => i = N + 2) W (W.setCell ⟨N + 2, 0, none⟩ (.int .i64 z')) := Chg.setCell W ⟨N + 2, 0, none⟩ _ rfl
  refine ⟨⟨boxed_chg h.bd c7 (by omega), boxed_chg h.be c7 (by omega), owns_keep h.rd c7 (fun k hk e => by have := (h.rd.lt k hk).1; omega), owns_keep h.re c7 (fun k hk e => by have := (h.re.lt k hk).1; omega), fun e he => (h.at' e he).keep c7 (fun k hk hn => ⟨fun e => hn (.inl ⟨by omega, by omega⟩), hn⟩), (h.la.set _).other (by omega) _, (boxed_chg h.too c2 (by omega)).set _⟩, (KeepsOthers.setCell _ _ _).trans (KeepsOthers.setCell _ _ _), c7⟩
theorem Sc.next {l b : List UInt8} {N t : Nat} {its : List It} {els : List El2} {vd ve : Value} {W : World} (h : Sc l N t its els vd ve W) {f : Fl} {ps : List Fl} (hu : unframe (l.drop t) = some b) (hd : deedOf b = some (f, ps)) (hz : ¬ f.zxid ≤ lastZ 0 its) {e0 : El2} (he : e0.p = (f, ps)) {vd' ve' : Value} {W' : World}
    (hR : Rw N (els ++ [e0]) ((endsF 0 its).map nI ++ [.int .i64 ((t : Int) + (8 + (b.length : Int)))]) vd' ve' f.zxid ((t : Int) + (8 + (b.length : Int))) W') : Sc l N (t + (8 + b.length)) (its ++ [(f, ps)]) (els ++ [e0]) vd' ve' W' := by
  obtain ⟨d1, d2, d3⟩ := (deedOf_iff b f ps).1 hd
  have hl := (unframe_whole hu).2.2
  rw [List.length_drop] at hl
  have hi : (itB (f, ps)).length = 8 + b.length := by rw [itB_len, d1]
  have e1 : ((endsF 0 (its ++ [(f, ps)])).map nI) = (endsF 0 its).map nI ++ [.int .i64 ((t : Int) + (8 + (b.length : Int)))] := by
    rw [endsF_app, List.map_append, hi, ← h.tt]
    simp [nI]
  refine Rw.sc ?_ ?_ ?_ ?_ ?_
  · rw [e1, lastZ_app]
    have : ((t + (8 + b.length) : Nat) : Int) = (t : Int) + (8 + (b.length : Int)) := by omega
    rw [this]
    exact hR
  · rw [List.map_append, h.el]
    show its ++ [e0.p] = _
    rw [he]
  · rw [catI_app, catI_one, List.length_append, ← h.tt, hi]
  · have := h.tl
    omega
  · rw [lastZ_app, h.sc, scanF_step hu hd hz, List.append_assoc, List.drop_drop]
    rfl
theorem set_comm (w : World) (a b : Addr) (u v : Value) (h : a.block ≠ b.block) : (w.setCell a u).setCell b v = (w.setCell b v).setCell a u := by
  have e : ((w.setCell a u).setCell b v).heap = ((w.setCell b v).setCell a u).heap := by
    apply Array.ext_getElem?
    intro i
    simp only [World.setCell, Array.getElem?_modify]
    by_cases h1 : a.block = i
    · by_cases h2 : b.block = i
      · exact absurd (h1.trans h2.symm) h
      · simp [h1, h2]
    · by_cases h2 : b.block = i
      · simp [h1, h2]
      · simp [h1, h2]
  show World.mk _ _ _ _ _ = World.mk _ _ _ _ _
  congr 1
theorem set_setCells (w : World) (a : Addr) (u : Value) (g : Nat) (h : a.block ≠ g) : ∀ (us : List Value) (o : Nat) (w : World), (w.setCell a u).setCells g o us = (w.setCells g o us).setCell a u
  | [], _, _ => rfl
  | v :: us, o, w => by
    show ((w.setCell a u).setCell ⟨g, o, none⟩ v).setCells g (o + 1) us = _
    rw [set_comm w a ⟨g, o, none⟩ u v h, set_setCells w a u g h us (o + 1)]
    rfl
theorem chain16 (w : World) (g o : Nat) (v0 v1 v2 v3 v4 v5 v6 v7 v8 v9 v10 v11 v12 v13 v14 v15 : Value) : ((((((((((((((((w.setCell ⟨g, o, none⟩ v0).setCell ⟨g, o + 1, none⟩ v1).setCell ⟨g, o + 2, none⟩ v2).setCell ⟨g, o + 3, none⟩ v3).setCell ⟨g, o + 4, none⟩ v4).setCell ⟨g, o + 5, none⟩ v5).setCell ⟨g, o + 6, none⟩ v6).setCell ⟨g, o + 7, none⟩ v7).setCell ⟨g, o + 8, none⟩ v8).setCell ⟨g, o + 9, none⟩ v9).setCell ⟨g, o + 10, none⟩ v10).setCell ⟨g, o + 11, none⟩ v11).setCell ⟨g, o + 12, none⟩ v12).setCell ⟨g, o + 13, none⟩ v13).setCell ⟨g, o + 14, none⟩ v14).setCell ⟨g, o + 15, none⟩ v15) = w.setCells g o [v0, v1, v2, v3, v4, v5, v6, v7, v8, v9, v10, v11, v12, v13, v14, v15] := rfl
theorem at_world {Q : Exit → Act → World → Prop} {e : Exit} {a : Act} {w w' : World} (h : w = w') (hq : Q e a w') : Q e a w := h ▸ hq
theorem at_then {K : Act → World → Prop} {Q : Exit → Act → World → Prop} {a : Act} {w w' : World} (h : w = w') (hq : Exit.then K Q .normal a w') : Exit.then K Q .normal a w := h ▸ hq
end Go.Proofs.YtaeoafedfgbcaaaGreatDoor.DD
