/- What serves the walks of putFields. -/
import Derived.Test.YtmojplgoohnmdaaDoorAkS
namespace Go.Proofs.YtmojplgoohnmdaaDoor.AK
set_option linter.unusedVariables false
open Go.RowKit
set_option linter.unusedVariables false

/- A block that a putting call keeps. -/
structure Own (w : World) (p : Nat) (o : Obj) (g : Nat) (q : Option Nat) : Prop where
  at' : w.heap[p]? = some o
  ne : p ≠ g
  nq : q ≠ some p
theorem Own.put {w w' : World} {p g : Nat} {o : Obj} {q q' : Option Nat} (h : Own w p o g q) (hp : Put g q w w' q') : Own w' p o g q' := by
  have hl := heap_lt h.at'
  refine ⟨?_, h.ne, ?_⟩
  · rw [hp.chg.block p hl (fun e => by rcases e with e | e; exact h.ne e; exact h.nq e)]; exact h.at'
  · rcases hp.lies with e | ⟨k, e, hk⟩
    · rw [e]; exact h.nq
    · rw [e]; intro e'; cases e'; omega
theorem Bs.put {w w' : World} {base g : Nat} {q q' : Option Nat} {v : Value} {b l : List UInt8} (h : Bs w v b) (hw : WrAt w base g q l) (hg : base ≤ g) (hb : ∀ k, bk v = some k → k < base) (hp : Put g q w w' q') : Bs w' v b :=
  h.keep hp.chg (fun k hk e => by
    have := hb k hk
    rcases e with e | e
    · omega
    · have := (RowAt.qlt hw k e).1; omega)
theorem Mems.put {w w' : World} {base g : Nat} {q q' : Option Nat} {v : Value} {b : List Mem} {l : List UInt8} (h : Mems w v b) (hw : WrAt w base g q l) (hg : base ≤ g) (hb : ∀ k, bk v = some k → k < base) (hp : Put g q w w' q') : Mems w' v b :=
  h.keep hp.chg (fun k hk e => by
    have := hb k hk
    rcases e with e | e
    · omega
    · have := (RowAt.qlt hw k e).1; omega)
theorem have_b (T m : Int) (b : Bool) (h : (bits BinOp.and IntKind.u16 T m != 0) = b) (w : World) : Calls Tryd.prog 37 #[.int .u16 T, .int .u16 m] w fun e w' => e = .returned (.bool b) ∧ w' = w := by
  have := have_any T m w
  rwa [h] at this
end Go.Proofs.YtmojplgoohnmdaaDoor.AK
