/-
  DERIVED. GIVEN WITH THE SEED: THE CARDS: each row of YtjgknjlinmcapaaDoorRows.lean that lists a variable, with what it lists TIED to the program's text (the seventh form; the later family's looks); each row that meets fmt, with fmt's text TOLD by the authors' own Lean function (tested against real Go, not proved from fmt's source: count such statements apart). THE CARD IS WHAT COUNTS. Prove the row's statement (the work); the ties are given (YtjgknjlinmcapaaDoorTie.lean); close each card by the builder's one call (the guide's Derived/Test/ToyasCard.lean, 'card_holds'). Laid BY PROGRAM, IN A SANDBOX (cutbox-door.mjs). By AI agents, Wed Nov 11 2026. No macro, syntax, notation, axiom, sorry.
-/
import Derived.Test.YtjgknjlinmcapaaDoorRows
import GoSem.ClaimSeven
namespace Go.Proofs.YtjgknjlinmcapaaDoor
namespace Rows

/-- THE TIED CARD OF 'beadlelaw02.PathTells'. -/
def pathTellsCard : Claim7 := { stood := { row := pathTellsRow, standIns := [], harness := (true, "54e5ba0a79278516de60f3ea83c9be4274319cc2e388e946e1bfb5b05ae6938b"), looks := false }, kinds := [], alts := [], laidByText := true, laidKinds := [.data, .data, .data, .data, .pinned], laidTests := true, laidLooks := .later }
def PathTellsCardSaid : Prop := Claim7.holds Tryd.pinned (.plain (OpenSpec.ofChange pathTellsSpec)) pathTellsCard

/-- THE TIED CARD OF 'beadlelaw02.PathNumbers'. -/
def pathNumbersCard : Claim7 := { stood := { row := pathNumbersRow, standIns := [], harness := (true, "54e5ba0a79278516de60f3ea83c9be4274319cc2e388e946e1bfb5b05ae6938b"), looks := false }, kinds := [], alts := [], laidByText := true, laidKinds := [.data, .data, .data, .data, .pinned], laidTests := true, laidLooks := .later }
def PathNumbersCardSaid : Prop := Claim7.holds Tryd.pinned (.plain (OpenSpec.ofChange pathNumbersSpec)) pathNumbersCard

/-- THE TIED CARD OF 'beadlelaw02.PathLimits'. -/
def pathLimitsCard : Claim7 := { stood := { row := pathLimitsRow, standIns := [], harness := (true, "54e5ba0a79278516de60f3ea83c9be4274319cc2e388e946e1bfb5b05ae6938b"), looks := false }, kinds := [], alts := [], laidByText := true, laidKinds := [.data, .data, .data, .data, .pinned], laidTests := true, laidLooks := .later }
def PathLimitsCardSaid : Prop := Claim7.holds Tryd.pinned (.plain (OpenSpec.ofChange pathLimitsSpec)) pathLimitsCard

/-- THE TIED CARD OF 'beadlelaw02.PathWhole'. -/
def pathWholeCard : Claim7 := { stood := { row := pathWholeRow, standIns := [], harness := (true, "54e5ba0a79278516de60f3ea83c9be4274319cc2e388e946e1bfb5b05ae6938b"), looks := false }, kinds := [], alts := [], laidByText := true, laidKinds := [.data, .data, .data], laidTests := true, laidLooks := .later }
def PathWholeCardSaid : Prop := Claim7.holds Tryd.pinned (.plain (OpenSpec.ofChange pathWholeSpec)) pathWholeCard

/-- THE TIED CARD OF 'beadlelaw02.PathOver'. -/
def pathOverCard : Claim7 := { stood := { row := pathOverRow, standIns := [], harness := (true, "54e5ba0a79278516de60f3ea83c9be4274319cc2e388e946e1bfb5b05ae6938b"), looks := false }, kinds := [], alts := [], laidByText := true, laidKinds := [.data, .data, .data], laidTests := true, laidLooks := .later }
def PathOverCardSaid : Prop := Claim7.holds Tryd.pinned (.plain (OpenSpec.ofChange pathOverSpec)) pathOverCard

/-- THE TIED CARD OF 'beadlelaw02.PathRises'. -/
def pathRisesCard : Claim7 := { stood := { row := pathRisesRow, standIns := [], harness := (true, "54e5ba0a79278516de60f3ea83c9be4274319cc2e388e946e1bfb5b05ae6938b"), looks := false }, kinds := [], alts := [], laidByText := true, laidKinds := [.data, .data, .data], laidTests := true, laidLooks := .later }
def PathRisesCardSaid : Prop := Claim7.holds Tryd.pinned (.plain (OpenSpec.ofChange pathRisesSpec)) pathRisesCard

/-- THE SECOND FORM's CARD OF 'beadlelaw02.PathTells'. -/
def pathTellsUptoCard : Claim7 := { stood := { row := pathTellsUptoRow, standIns := [], harness := (true, "54e5ba0a79278516de60f3ea83c9be4274319cc2e388e946e1bfb5b05ae6938b"), looks := false }, kinds := [], alts := [], laidByText := true, laidKinds := [.data, .data, .data, .data, .pinned], laidTests := true, laidLooks := .later }
def PathTellsUptoCardSaid : Prop := Claim7.holds Tryd.pinned (.plain (OpenSpec.upto pathTellsSpec)) pathTellsUptoCard

/-- THE SECOND FORM's CARD OF 'beadlelaw02.PathNumbers'. -/
def pathNumbersUptoCard : Claim7 := { stood := { row := pathNumbersUptoRow, standIns := [], harness := (true, "54e5ba0a79278516de60f3ea83c9be4274319cc2e388e946e1bfb5b05ae6938b"), looks := false }, kinds := [], alts := [], laidByText := true, laidKinds := [.data, .data, .data, .data, .pinned], laidTests := true, laidLooks := .later }
def PathNumbersUptoCardSaid : Prop := Claim7.holds Tryd.pinned (.plain (OpenSpec.upto pathNumbersSpec)) pathNumbersUptoCard

/-- THE SECOND FORM's CARD OF 'beadlelaw02.PathLimits'. -/
def pathLimitsUptoCard : Claim7 := { stood := { row := pathLimitsUptoRow, standIns := [], harness := (true, "54e5ba0a79278516de60f3ea83c9be4274319cc2e388e946e1bfb5b05ae6938b"), looks := false }, kinds := [], alts := [], laidByText := true, laidKinds := [.data, .data, .data, .data, .pinned], laidTests := true, laidLooks := .later }
def PathLimitsUptoCardSaid : Prop := Claim7.holds Tryd.pinned (.plain (OpenSpec.upto pathLimitsSpec)) pathLimitsUptoCard

/-- THE SECOND FORM's CARD OF 'beadlelaw02.PathWhole'. -/
def pathWholeUptoCard : Claim7 := { stood := { row := pathWholeUptoRow, standIns := [], harness := (true, "54e5ba0a79278516de60f3ea83c9be4274319cc2e388e946e1bfb5b05ae6938b"), looks := false }, kinds := [], alts := [], laidByText := true, laidKinds := [.data, .data, .data], laidTests := true, laidLooks := .later }
def PathWholeUptoCardSaid : Prop := Claim7.holds Tryd.pinned (.plain (OpenSpec.upto pathWholeSpec)) pathWholeUptoCard

/-- THE SECOND FORM's CARD OF 'beadlelaw02.PathOver'. -/
def pathOverUptoCard : Claim7 := { stood := { row := pathOverUptoRow, standIns := [], harness := (true, "54e5ba0a79278516de60f3ea83c9be4274319cc2e388e946e1bfb5b05ae6938b"), looks := false }, kinds := [], alts := [], laidByText := true, laidKinds := [.data, .data, .data], laidTests := true, laidLooks := .later }
def PathOverUptoCardSaid : Prop := Claim7.holds Tryd.pinned (.plain (OpenSpec.upto pathOverSpec)) pathOverUptoCard

/-- THE SECOND FORM's CARD OF 'beadlelaw02.PathRises'. -/
def pathRisesUptoCard : Claim7 := { stood := { row := pathRisesUptoRow, standIns := [], harness := (true, "54e5ba0a79278516de60f3ea83c9be4274319cc2e388e946e1bfb5b05ae6938b"), looks := false }, kinds := [], alts := [], laidByText := true, laidKinds := [.data, .data, .data], laidTests := true, laidLooks := .later }
def PathRisesUptoCardSaid : Prop := Claim7.holds Tryd.pinned (.plain (OpenSpec.upto pathRisesSpec)) pathRisesUptoCard
end Rows
end Go.Proofs.YtjgknjlinmcapaaDoor
