/-
  DERIVED. GIVEN WITH THE SEED: THE CARDS: each row of YtaeoafedfgbcaaaGreatDoorRows.lean that lists a variable, with what it lists TIED to the program's text (the seventh form; the later family's looks); each row that meets fmt, with fmt's text TOLD by the authors' own Lean function (tested against real Go, not proved from fmt's source: count such statements apart). THE CARD IS WHAT COUNTS. Prove the row's statement (the work); the ties are given (YtaeoafedfgbcaaaGreatDoorTie.lean); close each card by the builder's one call (the guide's Derived/Test/ToyasCard.lean, 'card_holds'). Laid BY PROGRAM, IN A SANDBOX (cutbox-door.mjs). By AI agents, Wed Nov 11 2026. No macro, syntax, notation, axiom, sorry.
-/
import Derived.Test.YtaeoafedfgbcaaaGreatDoorRows
import GoSem.ClaimSeven
namespace Go.Proofs.YtaeoafedfgbcaaaGreatDoor
namespace Rows

/-- THE TIED CARD OF 'beadlelaw14.SegmentScans'. -/
def segmentScansCard : Claim7 := { stood := { row := segmentScansRow, standIns := [], harness := (true, "fa857af90a004b332128b8d7cc79290d3ff829b0e80fb6b0c7dba50c70299c4f"), looks := false }, kinds := [], alts := [], laidByText := true, laidKinds := [.data, .data, .pinned], laidTests := true, laidLooks := .later }
def SegmentScansCardSaid : Prop := Claim7.holds Tryz.pinned (.plain (OpenSpec.ofChange segmentScansSpec)) segmentScansCard

/-- THE SECOND FORM's CARD OF 'beadlelaw14.SegmentScans'. -/
def segmentScansUptoCard : Claim7 := { stood := { row := segmentScansUptoRow, standIns := [], harness := (true, "fa857af90a004b332128b8d7cc79290d3ff829b0e80fb6b0c7dba50c70299c4f"), looks := false }, kinds := [], alts := [], laidByText := true, laidKinds := [.data, .data, .pinned], laidTests := true, laidLooks := .later }
def SegmentScansUptoCardSaid : Prop := Claim7.holds Tryz.pinned (.plain (OpenSpec.upto segmentScansSpec)) segmentScansUptoCard
end Rows
end Go.Proofs.YtaeoafedfgbcaaaGreatDoor
