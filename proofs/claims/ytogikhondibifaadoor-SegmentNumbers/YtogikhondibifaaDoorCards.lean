/-
  DERIVED. GIVEN WITH THE SEED: THE CARDS: each row of YtogikhondibifaaDoorRows.lean that lists a variable, with what it lists TIED to the program's text (the seventh form; the later family's looks); each row that meets fmt, with fmt's text TOLD by the authors' own Lean function (tested against real Go, not proved from fmt's source: count such statements apart). THE CARD IS WHAT COUNTS. Prove the row's statement (the work); the ties are given (YtogikhondibifaaDoorTie.lean); close each card by the builder's one call (the guide's Derived/Test/ToyasCard.lean, 'card_holds'). Laid BY PROGRAM, IN A SANDBOX (cutbox-door.mjs). By AI agents, Wed Nov 11 2026. No macro, syntax, notation, axiom, sorry.
-/
import Derived.Test.YtogikhondibifaaDoorRows
import GoSem.ClaimSeven
namespace Go.Proofs.YtogikhondibifaaDoor
namespace Rows

/-- THE TIED CARD OF 'beadlelaw14.SegmentNumbers'. -/
def segmentNumbersCard : Claim7 := { stood := { row := segmentNumbersRow, standIns := [], harness := (true, "4add9a2628cd86770d8849ca600a58e73cc64a54704c154d745e3c3f78070b2b"), looks := false }, kinds := [], alts := [], laidByText := true, laidKinds := [.data], laidTests := true, laidLooks := .later }
def SegmentNumbersCardSaid : Prop := Claim7.holds Tryd.pinned (.plain (OpenSpec.ofChange segmentNumbersSpec)) segmentNumbersCard

/-- THE SECOND FORM's CARD OF 'beadlelaw14.SegmentNumbers'. -/
def segmentNumbersUptoCard : Claim7 := { stood := { row := segmentNumbersUptoRow, standIns := [], harness := (true, "4add9a2628cd86770d8849ca600a58e73cc64a54704c154d745e3c3f78070b2b"), looks := false }, kinds := [], alts := [], laidByText := true, laidKinds := [.data], laidTests := true, laidLooks := .later }
def SegmentNumbersUptoCardSaid : Prop := Claim7.holds Tryd.pinned (.plain (OpenSpec.upto segmentNumbersSpec)) segmentNumbersUptoCard
end Rows
end Go.Proofs.YtogikhondibifaaDoor
