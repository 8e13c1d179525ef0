/-
  DERIVED. GIVEN WITH THE SEED: THE CARDS: each row of YtbbllgpocjipjaaDoorRows.lean that lists a variable, with what it lists TIED to the program's text (the seventh form; the later family's looks); each row that meets fmt, with fmt's text TOLD by the authors' own Lean function (tested against real Go, not proved from fmt's source: count such statements apart). THE CARD IS WHAT COUNTS. Prove the row's statement (the work); the ties are given (YtbbllgpocjipjaaDoorTie.lean); close each card by the builder's one call (the guide's Derived/Test/ToyasCard.lean, 'card_holds'). Laid BY PROGRAM, IN A SANDBOX (cutbox-door.mjs). By AI agents, Wed Nov 11 2026. No macro, syntax, notation, axiom, sorry.
-/
import Derived.Test.YtbbllgpocjipjaaDoorRows
import GoSem.ClaimSeven
namespace Go.Proofs.YtbbllgpocjipjaaDoor
namespace Rows

/-- THE TIED CARD OF 'beadlelaw05.DeedZxids'. -/
def deedZxidsCard : Claim7 := { stood := { row := deedZxidsRow, standIns := [], harness := (true, "e5de2476935d680b8aa45401042ae17c6f05d32f687b9acfc80b6b39f75c5930"), looks := false }, kinds := [], alts := [], laidByText := true, laidKinds := [.data], laidTests := true, laidLooks := .later }
def DeedZxidsCardSaid : Prop := Claim7.holds Tryd.pinned (.plain (OpenSpec.ofChange deedZxidsSpec)) deedZxidsCard

/-- THE TIED CARD OF 'beadlelaw05.DeedBack'. -/
def deedBackCard : Claim7 := { stood := { row := deedBackRow, standIns := [], harness := (true, "e5de2476935d680b8aa45401042ae17c6f05d32f687b9acfc80b6b39f75c5930"), looks := false }, kinds := [], alts := [], laidByText := true, laidKinds := [.data], laidTests := true, laidLooks := .later }
def DeedBackCardSaid : Prop := Claim7.holds Tryd.pinned (.plain (OpenSpec.ofChange deedBackSpec)) deedBackCard

/-- THE TIED CARD OF 'beadlelaw05.DeedOrder'. -/
def deedOrderCard : Claim7 := { stood := { row := deedOrderRow, standIns := [], harness := (true, "e5de2476935d680b8aa45401042ae17c6f05d32f687b9acfc80b6b39f75c5930"), looks := false }, kinds := [], alts := [], laidByText := true, laidKinds := [.data], laidTests := true, laidLooks := .later }
def DeedOrderCardSaid : Prop := Claim7.holds Tryd.pinned (.plain (OpenSpec.ofChange deedOrderSpec)) deedOrderCard

/-- THE SECOND FORM's CARD OF 'beadlelaw05.DeedZxids'. -/
def deedZxidsUptoCard : Claim7 := { stood := { row := deedZxidsUptoRow, standIns := [], harness := (true, "e5de2476935d680b8aa45401042ae17c6f05d32f687b9acfc80b6b39f75c5930"), looks := false }, kinds := [], alts := [], laidByText := true, laidKinds := [.data], laidTests := true, laidLooks := .later }
def DeedZxidsUptoCardSaid : Prop := Claim7.holds Tryd.pinned (.plain (OpenSpec.upto deedZxidsSpec)) deedZxidsUptoCard

/-- THE SECOND FORM's CARD OF 'beadlelaw05.DeedBack'. -/
def deedBackUptoCard : Claim7 := { stood := { row := deedBackUptoRow, standIns := [], harness := (true, "e5de2476935d680b8aa45401042ae17c6f05d32f687b9acfc80b6b39f75c5930"), looks := false }, kinds := [], alts := [], laidByText := true, laidKinds := [.data], laidTests := true, laidLooks := .later }
def DeedBackUptoCardSaid : Prop := Claim7.holds Tryd.pinned (.plain (OpenSpec.upto deedBackSpec)) deedBackUptoCard

/-- THE SECOND FORM's CARD OF 'beadlelaw05.DeedOrder'. -/
def deedOrderUptoCard : Claim7 := { stood := { row := deedOrderUptoRow, standIns := [], harness := (true, "e5de2476935d680b8aa45401042ae17c6f05d32f687b9acfc80b6b39f75c5930"), looks := false }, kinds := [], alts := [], laidByText := true, laidKinds := [.data], laidTests := true, laidLooks := .later }
def DeedOrderUptoCardSaid : Prop := Claim7.holds Tryd.pinned (.plain (OpenSpec.upto deedOrderSpec)) deedOrderUptoCard
end Rows
end Go.Proofs.YtbbllgpocjipjaaDoor
