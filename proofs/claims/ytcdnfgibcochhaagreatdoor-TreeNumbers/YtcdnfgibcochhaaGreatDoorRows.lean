/-
  NARROWER THAN 'FOR EVERY INPUT', by the rows' own cells (each row's printed sentence says how): TreeNil: loops, laid · TreeNumbers: laid · TreeAgain: loops, laid · TreeTwice: loops, laid · TreeAgrees: loops, laid.
  DERIVED. THE GIVEN ROWS OF THIS SEAT. 5 by the template 'for every input the law returns true; each argument reads behind the call as it read before'; 0 by the template 'total and deterministic' (their statements: YtcdnfgibcochhaaGreatDoorTotals.lean).
  GIVEN WITH THE SEED: the statements are not yours to turn. If you find one false, say at which input.
  Laid BY PROGRAM, IN A SANDBOX (cutbox-rows.mjs): the forced cells as the released guide's own fill.sh prints them over the translation 75a280107b7cbfe4… (all of the seat's roots in one cut). By AI agents, Wed Nov 11 2026. No macro, syntax, notation, axiom, sorry.
-/
import Derived.Test.YtcdnfgibcochhaaGreatDoorChecked
import GoSem.Claim
import GoSem.ClaimJoined
import GoSem.ClaimMapViews
import Derived.JoinedTies
import Derived.KernelRfl
namespace Go.Proofs.YtcdnfgibcochhaaGreatDoor
/- THE CELL 'sum', in the pinned program and in every row, IS THE sha256 OF THE DUMP (.gsa) THAT YtcdnfgibcochhaaGreatDoorProg.lean LOADS. Nothing in Lean hashes anything: it is a label: what it is worth is what the hold of that sum in a sandbox is worth. -/
noncomputable def Tryz.pinned : Pinned := { name := "ytcdnfgibcochhaagreatdoor", sum := "75a280107b7cbfe4a11ab636e04459aa408056c62239881ab4498da9b1caf0c6", checked := Tryz.checked }
namespace Rows
def none {H : Type} : Left H := { results := [], args := [] }

/- WHAT THE LISTED PACKAGE-LEVEL VARIABLES READ AS WHEN THE CALL BEGINS. Each datum BY PROGRAM (the guide's laid-datum.mjs) off the statement by which the dump's own 'gosem.cut.vars' lays the variable. In a bare row this is a premise. The card (YtcdnfgibcochhaaGreatDoorCards.lean) ties it to the program's text. -/
def laid_beadle_deed_kinds {H : Type} : DataW H := .agg [.lit (.int .u16 0), .lit (.int .u16 2071), .lit (.int .u16 3089), .lit (.int .u16 2059), .lit (.int .u16 32), .lit (.int .u16 260), .lit (.int .u16 512), .lit (.int .u16 128), .lit (.int .u16 256), .lit (.int .u16 64)]

/-- 'beadlelaw11.TreeNil': WHATEVER THE INPUT: true; the input reads as it did. -/
def treeNilSpec : ChangeSpec := { name := "treeNil", fn := fun _ => fun
  | [d] => { results := [.lit (.bool true)], args := [d] }
  | _ => none }
def treeNilRow : OpenClaim := { program := "ytcdnfgibcochhaagreatdoor", sum := "75a280107b7cbfe4a11ab636e04459aa408056c62239881ab4498da9b1caf0c6", func := "beadle/beadlelaw11.TreeNil", spec := "treeNil", inPlace := ["internal/bytealg.IndexByteString", "internal/bytealg.IndexString", "internal/bytealg.abigen_runtime_cmpstring", "maps.clone"], unfollowed := true, recurses := true, named := ["beadle/deed.kinds", "internal/bytealg.MaxLen"], loops := true, apart := false, laid := [("beadle/deed.kinds", laid_beadle_deed_kinds)] }
def TreeNilSaid : Prop := treeNilRow.holds Tryz.pinned (OpenSpec.ofChange treeNilSpec)

/-- ITS FALSE NEIGHBOUR: 'it returns false'. Refute it at one input. -/
def treeNilWrong : ChangeSpec := { name := "treeNil", fn := fun _ => fun
  | [d] => { results := [.lit (.bool false)], args := [d] }
  | _ => none }
def TreeNilWrongFalsely : Prop := treeNilRow.holds Tryz.pinned (OpenSpec.ofChange treeNilWrong)

/-- 'beadlelaw11.TreeNumbers': WHATEVER THE INPUT: true; the input reads as it did. -/
def treeNumbersSpec : ChangeSpec := { name := "treeNumbers", fn := fun _ => fun
  | [] => { results := [.lit (.bool true)], args := [] }
  | _ => none }
def treeNumbersRow : OpenClaim := { program := "ytcdnfgibcochhaagreatdoor", sum := "75a280107b7cbfe4a11ab636e04459aa408056c62239881ab4498da9b1caf0c6", func := "beadle/beadlelaw11.TreeNumbers", spec := "treeNumbers", inPlace := ["internal/bytealg.IndexByteString", "internal/bytealg.IndexString", "maps.clone", "internal/bytealg.abigen_runtime_cmpstring"], unfollowed := true, recurses := true, named := ["beadle/deed.kinds", "internal/bytealg.MaxLen"], apart := false, laid := [("beadle/deed.kinds", laid_beadle_deed_kinds)] }
def TreeNumbersSaid : Prop := treeNumbersRow.holds Tryz.pinned (OpenSpec.ofChange treeNumbersSpec)

/-- ITS FALSE NEIGHBOUR: 'it returns false'. Refute it at one input. -/
def treeNumbersWrong : ChangeSpec := { name := "treeNumbers", fn := fun _ => fun
  | [] => { results := [.lit (.bool false)], args := [] }
  | _ => none }
def TreeNumbersWrongFalsely : Prop := treeNumbersRow.holds Tryz.pinned (OpenSpec.ofChange treeNumbersWrong)

/-- 'beadlelaw11.TreeAgain': WHATEVER THE INPUT: true; the input reads as it did. -/
def treeAgainSpec : ChangeSpec := { name := "treeAgain", fn := fun _ => fun
  | [d1, d2, d3, d4] => { results := [.lit (.bool true)], args := [d1, d2, d3, d4] }
  | _ => none }
def treeAgainRow : OpenClaim := { program := "ytcdnfgibcochhaagreatdoor", sum := "75a280107b7cbfe4a11ab636e04459aa408056c62239881ab4498da9b1caf0c6", func := "beadle/beadlelaw11.TreeAgain", spec := "treeAgain", inPlace := ["internal/bytealg.IndexByteString", "internal/bytealg.IndexString", "internal/bytealg.abigen_runtime_cmpstring"], unfollowed := true, recurses := true, named := ["beadle/deed.kinds", "internal/bytealg.MaxLen"], loops := true, apart := false, laid := [("beadle/deed.kinds", laid_beadle_deed_kinds)] }
def TreeAgainSaid : Prop := treeAgainRow.holds Tryz.pinned (OpenSpec.ofChange treeAgainSpec)

/-- ITS FALSE NEIGHBOUR: 'it returns false'. Refute it at one input. -/
def treeAgainWrong : ChangeSpec := { name := "treeAgain", fn := fun _ => fun
  | [d1, d2, d3, d4] => { results := [.lit (.bool false)], args := [d1, d2, d3, d4] }
  | _ => none }
def TreeAgainWrongFalsely : Prop := treeAgainRow.holds Tryz.pinned (OpenSpec.ofChange treeAgainWrong)

/-- 'beadlelaw11.TreeTwice': WHATEVER THE INPUT: true; the input reads as it did. -/
def treeTwiceSpec : ChangeSpec := { name := "treeTwice", fn := fun _ => fun
  | [d] => { results := [.lit (.bool true)], args := [d] }
  | _ => none }
def treeTwiceRow : OpenClaim := { program := "ytcdnfgibcochhaagreatdoor", sum := "75a280107b7cbfe4a11ab636e04459aa408056c62239881ab4498da9b1caf0c6", func := "beadle/beadlelaw11.TreeTwice", spec := "treeTwice", inPlace := ["internal/bytealg.IndexByteString", "internal/bytealg.IndexString", "maps.clone"], unfollowed := true, recurses := true, named := ["beadle/deed.kinds", "internal/bytealg.MaxLen"], loops := true, apart := false, laid := [("beadle/deed.kinds", laid_beadle_deed_kinds)] }
def TreeTwiceSaid : Prop := treeTwiceRow.holds Tryz.pinned (OpenSpec.ofChange treeTwiceSpec)

/-- ITS FALSE NEIGHBOUR: 'it returns false'. Refute it at one input. -/
def treeTwiceWrong : ChangeSpec := { name := "treeTwice", fn := fun _ => fun
  | [d] => { results := [.lit (.bool false)], args := [d] }
  | _ => none }
def TreeTwiceWrongFalsely : Prop := treeTwiceRow.holds Tryz.pinned (OpenSpec.ofChange treeTwiceWrong)

/-- 'beadlelaw11.TreeAgrees': WHATEVER THE INPUT: true; the input reads as it did. -/
def treeAgreesSpec : ChangeSpec := { name := "treeAgrees", fn := fun _ => fun
  | [d] => { results := [.lit (.bool true)], args := [d] }
  | _ => none }
def treeAgreesRow : OpenClaim := { program := "ytcdnfgibcochhaagreatdoor", sum := "75a280107b7cbfe4a11ab636e04459aa408056c62239881ab4498da9b1caf0c6", func := "beadle/beadlelaw11.TreeAgrees", spec := "treeAgrees", inPlace := ["internal/bytealg.IndexByteString", "internal/bytealg.IndexString", "internal/bytealg.abigen_runtime_cmpstring"], unfollowed := true, recurses := true, named := ["beadle/deed.kinds", "internal/bytealg.MaxLen"], loops := true, apart := false, laid := [("beadle/deed.kinds", laid_beadle_deed_kinds)] }
def TreeAgreesSaid : Prop := treeAgreesRow.holds Tryz.pinned (OpenSpec.ofChange treeAgreesSpec)

/-- ITS FALSE NEIGHBOUR: 'it returns false'. Refute it at one input. -/
def treeAgreesWrong : ChangeSpec := { name := "treeAgrees", fn := fun _ => fun
  | [d] => { results := [.lit (.bool false)], args := [d] }
  | _ => none }
def TreeAgreesWrongFalsely : Prop := treeAgreesRow.holds Tryz.pinned (OpenSpec.ofChange treeAgreesWrong)

/- THE SECOND FORM. 'bulk': how many values and letters a reading holds, each counted each time it is reached (what is shared counts as often as it is met; a slice's spare places count too). A statement '..UptoSaid' is the law's where the arguments, and the package variables that the reading takes, are together of bulk at most 1048576: NARROWER than '..Said'. Prove '..Said' where nothing that the law and all that it calls make is longer than what came in: it says more and counts as full. Else prove '..UptoSaid'. A law counts once. -/
mutual
def uptoBulk {H : Type} : DataW H → Nat
  | .lit (.string bytes) => bytes.length + 1
  | .lit _ => 1
  | .nil => 1
  | .ptr d => uptoBulk d + 1
  | .slice elems spare => uptoBulkAll elems + uptoBulkAll spare + 1
  | .agg parts => uptoBulkAll parts + 1
  | .iface _ d => uptoBulk d + 1
  | .map entries => uptoBulkEntries entries + 1
  | .held _ => 1
def uptoBulkAll {H : Type} : List (DataW H) → Nat
  | [] => 0
  | d :: r => uptoBulk d + uptoBulkAll r
def uptoBulkEntries {H : Type} : List (Lit × DataW H) → Nat
  | [] => 0
  | x :: r => uptoBulkEntry x + uptoBulkEntries r
def uptoBulkEntry {H : Type} : Lit × DataW H → Nat
  | (.string bytes, d) => bytes.length + uptoBulk d + 1
  | (_, d) => uptoBulk d + 1
 end
def uptoSmall : (H : Type) → List (DataW H) → Bool := fun _ ds => decide (uptoBulkAll ds ≤ 1048576)
def OpenSpec.upto (s : _root_.Go.ChangeSpec) : _root_.Go.OpenSpec := { _root_.Go.OpenSpec.ofChange s with cond := some uptoSmall }

/-- 'beadlelaw11.TreeNil', WHERE WHAT IT READS IS OF BULK AT MOST 1048576: true; the input reads as it did. -/
def treeNilUptoRow : OpenClaim := { program := "ytcdnfgibcochhaagreatdoor", sum := "75a280107b7cbfe4a11ab636e04459aa408056c62239881ab4498da9b1caf0c6", func := "beadle/beadlelaw11.TreeNil", spec := "treeNil", inPlace := ["internal/bytealg.IndexByteString", "internal/bytealg.IndexString", "internal/bytealg.abigen_runtime_cmpstring", "maps.clone"], unfollowed := true, recurses := true, named := ["beadle/deed.kinds", "internal/bytealg.MaxLen"], loops := true, apart := false, laid := [("beadle/deed.kinds", laid_beadle_deed_kinds)], narrowed := true }
def TreeNilUptoSaid : Prop := treeNilUptoRow.holds Tryz.pinned (OpenSpec.upto treeNilSpec)

/-- 'beadlelaw11.TreeNumbers', WHERE WHAT IT READS IS OF BULK AT MOST 1048576: true; the input reads as it did. -/
def treeNumbersUptoRow : OpenClaim := { program := "ytcdnfgibcochhaagreatdoor", sum := "75a280107b7cbfe4a11ab636e04459aa408056c62239881ab4498da9b1caf0c6", func := "beadle/beadlelaw11.TreeNumbers", spec := "treeNumbers", inPlace := ["internal/bytealg.IndexByteString", "internal/bytealg.IndexString", "maps.clone", "internal/bytealg.abigen_runtime_cmpstring"], unfollowed := true, recurses := true, named := ["beadle/deed.kinds", "internal/bytealg.MaxLen"], apart := false, laid := [("beadle/deed.kinds", laid_beadle_deed_kinds)], narrowed := true }
def TreeNumbersUptoSaid : Prop := treeNumbersUptoRow.holds Tryz.pinned (OpenSpec.upto treeNumbersSpec)

/-- 'beadlelaw11.TreeAgain', WHERE WHAT IT READS IS OF BULK AT MOST 1048576: true; the input reads as it did. -/
def treeAgainUptoRow : OpenClaim := { program := "ytcdnfgibcochhaagreatdoor", sum := "75a280107b7cbfe4a11ab636e04459aa408056c62239881ab4498da9b1caf0c6", func := "beadle/beadlelaw11.TreeAgain", spec := "treeAgain", inPlace := ["internal/bytealg.IndexByteString", "internal/bytealg.IndexString", "internal/bytealg.abigen_runtime_cmpstring"], unfollowed := true, recurses := true, named := ["beadle/deed.kinds", "internal/bytealg.MaxLen"], loops := true, apart := false, laid := [("beadle/deed.kinds", laid_beadle_deed_kinds)], narrowed := true }
def TreeAgainUptoSaid : Prop := treeAgainUptoRow.holds Tryz.pinned (OpenSpec.upto treeAgainSpec)

/-- 'beadlelaw11.TreeTwice', WHERE WHAT IT READS IS OF BULK AT MOST 1048576: true; the input reads as it did. -/
def treeTwiceUptoRow : OpenClaim := { program := "ytcdnfgibcochhaagreatdoor", sum := "75a280107b7cbfe4a11ab636e04459aa408056c62239881ab4498da9b1caf0c6", func := "beadle/beadlelaw11.TreeTwice", spec := "treeTwice", inPlace := ["internal/bytealg.IndexByteString", "internal/bytealg.IndexString", "maps.clone"], unfollowed := true, recurses := true, named := ["beadle/deed.kinds", "internal/bytealg.MaxLen"], loops := true, apart := false, laid := [("beadle/deed.kinds", laid_beadle_deed_kinds)], narrowed := true }
def TreeTwiceUptoSaid : Prop := treeTwiceUptoRow.holds Tryz.pinned (OpenSpec.upto treeTwiceSpec)

/-- 'beadlelaw11.TreeAgrees', WHERE WHAT IT READS IS OF BULK AT MOST 1048576: true; the input reads as it did. -/
def treeAgreesUptoRow : OpenClaim := { program := "ytcdnfgibcochhaagreatdoor", sum := "75a280107b7cbfe4a11ab636e04459aa408056c62239881ab4498da9b1caf0c6", func := "beadle/beadlelaw11.TreeAgrees", spec := "treeAgrees", inPlace := ["internal/bytealg.IndexByteString", "internal/bytealg.IndexString", "internal/bytealg.abigen_runtime_cmpstring"], unfollowed := true, recurses := true, named := ["beadle/deed.kinds", "internal/bytealg.MaxLen"], loops := true, apart := false, laid := [("beadle/deed.kinds", laid_beadle_deed_kinds)], narrowed := true }
def TreeAgreesUptoSaid : Prop := treeAgreesUptoRow.holds Tryz.pinned (OpenSpec.upto treeAgreesSpec)

end Rows
end Go.Proofs.YtcdnfgibcochhaaGreatDoor
