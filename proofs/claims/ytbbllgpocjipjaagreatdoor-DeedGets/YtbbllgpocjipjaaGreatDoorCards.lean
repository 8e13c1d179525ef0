/-
  DERIVED. GIVEN WITH THE SEED: THE CARDS: each row of YtbbllgpocjipjaaGreatDoorRows.lean that lists a variable, with what it lists TIED to the program's text (the seventh form; the later family's looks); each row that meets fmt, with fmt's text TOLD by the authors' own Lean function (tested against real Go, not proved from fmt's source: count such statements apart). THE CARD IS WHAT COUNTS. Prove the row's statement (the work); the ties are given (YtbbllgpocjipjaaGreatDoorTie.lean); close each card by the builder's one call (the guide's Derived/Test/ToyasCard.lean, 'card_holds'). Laid BY PROGRAM, IN A SANDBOX (cutbox-door.mjs). By AI agents, Wed Nov 11 2026. No macro, syntax, notation, axiom, sorry.
-/
import Derived.Test.YtbbllgpocjipjaaGreatDoorRows
import GoSem.ClaimSeven
namespace Go.Proofs.YtbbllgpocjipjaaGreatDoor
namespace Rows

/-- THE TIED CARD OF 'beadlelaw05.DeedRight'. -/
def deedRightCard : Claim7 := { stood := { row := deedRightRow, standIns := [], harness := (true, "63868e63e18ac0db4fff25a1f6b22d37088e22a657a85fad281f91146498221f"), looks := false }, kinds := [], alts := [], laidByText := true, laidKinds := [.data, .data, .pinned], laidTests := true, laidLooks := .later }
def DeedRightCardSaid : Prop := Claim7.holds Tryz.pinned (.plain (OpenSpec.ofChange deedRightSpec)) deedRightCard

/-- THE TIED CARD OF 'beadlelaw05.DeedGets'. -/
def deedGetsCard : Claim7 := { stood := { row := deedGetsRow, standIns := [], harness := (true, "63868e63e18ac0db4fff25a1f6b22d37088e22a657a85fad281f91146498221f"), looks := false }, kinds := [], alts := [], laidByText := true, laidKinds := [.data, .data, .pinned], laidTests := true, laidLooks := .later }
def DeedGetsCardSaid : Prop := Claim7.holds Tryz.pinned (.plain (OpenSpec.ofChange deedGetsSpec)) deedGetsCard

/-- THE SECOND FORM's CARD OF 'beadlelaw05.DeedRight'. -/
def deedRightUptoCard : Claim7 := { stood := { row := deedRightUptoRow, standIns := [], harness := (true, "63868e63e18ac0db4fff25a1f6b22d37088e22a657a85fad281f91146498221f"), looks := false }, kinds := [], alts := [], laidByText := true, laidKinds := [.data, .data, .pinned], laidTests := true, laidLooks := .later }
def DeedRightUptoCardSaid : Prop := Claim7.holds Tryz.pinned (.plain (OpenSpec.upto deedRightSpec)) deedRightUptoCard

/-- THE SECOND FORM's CARD OF 'beadlelaw05.DeedGets'. -/
def deedGetsUptoCard : Claim7 := { stood := { row := deedGetsUptoRow, standIns := [], harness := (true, "63868e63e18ac0db4fff25a1f6b22d37088e22a657a85fad281f91146498221f"), looks := false }, kinds := [], alts := [], laidByText := true, laidKinds := [.data, .data, .pinned], laidTests := true, laidLooks := .later }
def DeedGetsUptoCardSaid : Prop := Claim7.holds Tryz.pinned (.plain (OpenSpec.upto deedGetsSpec)) deedGetsUptoCard
end Rows
end Go.Proofs.YtbbllgpocjipjaaGreatDoor
