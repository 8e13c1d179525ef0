/- What a call that puts leaves, over the document's writer. -/
import Derived.Test.YtmojplgoohnmdaaDoorRefW
import Derived.Test.YtmojplgoohnmdaaDoorAkX
namespace Go.Proofs.YtmojplgoohnmdaaDoor.AK
set_option linter.unusedSimpArgs false
set_option linter.unusedVariables false
open Go.RowKit
set_option linter.unusedVariables false
set_option linter.unusedSimpArgs false

theorem WrF.below {w w' : World} {base g : Nat} {q : Option Nat} {l : List UInt8} (h : WrF w base g q l) (hb : Below w.heap.size w w') : WrF w' base g q l := RowAt.keep h (Chg.of_below hb) (fun e => e) (fun _ _ e => e)
theorem putF_below {w w' : World} {base g : Nat} {q q' : Option Nat} {l : List UInt8} (h : WrF w base g q l) (hg : base ≤ g) (hp : Put g q w w' q') : Below base w w' := by
  obtain ⟨v, _, _, _, _, hb⟩ := h
  exact hp.chg.below (fun k e => by
    rcases e with e | e
    · omega
    · have := (RowAt.qlt ⟨v, by assumption, by assumption, by assumption, by assumption, hb⟩ k e).1; omega) hb
theorem WrF.base' {w : World} {base g : Nat} {q : Option Nat} {l : List UInt8} (h : WrF w base g q l) : base ≤ w.heap.size := by obtain ⟨v, _, _, _, _, hb⟩ := h; exact hb
end Go.Proofs.YtmojplgoohnmdaaDoor.AK
