/-
  NARROWER THAN 'FOR EVERY INPUT', by the rows' own cells (each row's printed sentence says how): DeedZxids: laid · DeedBack: loops, laid · DeedOrder: laid.
  DERIVED. THE GIVEN ROWS OF THIS SEAT. 3 by the template 'for every input the law returns true; each argument reads behind the call as it read before'; 0 by the template 'total and deterministic' (their statements: YtbbllgpocjipjaaDoorTotals.lean).
  GIVEN WITH THE SEED: the statements are not yours to turn. If you find one false, say at which input.
  Laid BY PROGRAM, IN A SANDBOX (cutbox-rows.mjs): the forced cells as the released guide's own fill.sh prints them over the translation 91349324499f1bd9… (all of the seat's roots in one cut). By AI agents, Wed Nov 11 2026. No macro, syntax, notation, axiom, sorry.
-/
import Derived.Test.YtbbllgpocjipjaaDoorChecked
import GoSem.Claim
import GoSem.ClaimJoined
import GoSem.ClaimMapViews
import Derived.JoinedTies
import Derived.KernelRfl
namespace Go.Proofs.YtbbllgpocjipjaaDoor
/- THE CELL 'sum', in the pinned program and in every row, IS THE sha256 OF THE DUMP (.gsa) THAT YtbbllgpocjipjaaDoorProg.lean LOADS. Nothing in Lean hashes anything: it is a label: what it is worth is what the hold of that sum in a sandbox is worth. -/
noncomputable def Tryd.pinned : Pinned := { name := "ytbbllgpocjipjaadoor", sum := "91349324499f1bd99d8a858c5934ae01c263c60355c953282fb018d603f3e691", checked := Tryd.checked }
namespace Rows
def none {H : Type} : Left H := { results := [], args := [] }

/- WHAT THE LISTED PACKAGE-LEVEL VARIABLES READ AS WHEN THE CALL BEGINS. Each datum BY PROGRAM (the guide's laid-datum.mjs) off the statement by which the dump's own 'gosem.cut.vars' lays the variable. In a bare row this is a premise. The card (YtbbllgpocjipjaaDoorCards.lean) ties it to the program's text. -/
def laid_beadle_deed_kinds {H : Type} : DataW H := .agg [.lit (.int .u16 0), .lit (.int .u16 2071), .lit (.int .u16 3089), .lit (.int .u16 2059), .lit (.int .u16 32), .lit (.int .u16 260), .lit (.int .u16 512), .lit (.int .u16 128), .lit (.int .u16 256), .lit (.int .u16 64)]

/-- 'beadlelaw05.DeedZxids': WHATEVER THE INPUT: true; the input reads as it did. -/
def deedZxidsSpec : ChangeSpec := { name := "deedZxids", fn := fun _ => fun
  | [d1, d2, d3] => { results := [.lit (.bool true)], args := [d1, d2, d3] }
  | _ => none }
def deedZxidsRow : OpenClaim := { program := "ytbbllgpocjipjaadoor", sum := "91349324499f1bd99d8a858c5934ae01c263c60355c953282fb018d603f3e691", func := "beadle/beadlelaw05.DeedZxids", spec := "deedZxids", inPlace := ["internal/bytealg.IndexByteString", "internal/bytealg.IndexString"], unfollowed := true, recurses := true, named := ["beadle/deed.kinds", "internal/bytealg.MaxLen"], apart := false, laid := [("beadle/deed.kinds", laid_beadle_deed_kinds)] }
def DeedZxidsSaid : Prop := deedZxidsRow.holds Tryd.pinned (OpenSpec.ofChange deedZxidsSpec)

/-- ITS FALSE NEIGHBOUR: 'it returns false'. Refute it at one input. -/
def deedZxidsWrong : ChangeSpec := { name := "deedZxids", fn := fun _ => fun
  | [d1, d2, d3] => { results := [.lit (.bool false)], args := [d1, d2, d3] }
  | _ => none }
def DeedZxidsWrongFalsely : Prop := deedZxidsRow.holds Tryd.pinned (OpenSpec.ofChange deedZxidsWrong)

/-- 'beadlelaw05.DeedBack': WHATEVER THE INPUT: true; the input reads as it did. -/
def deedBackSpec : ChangeSpec := { name := "deedBack", fn := fun _ => fun
  | [d1, d2, d3, d4] => { results := [.lit (.bool true)], args := [d1, d2, d3, d4] }
  | _ => none }
def deedBackRow : OpenClaim := { program := "ytbbllgpocjipjaadoor", sum := "91349324499f1bd99d8a858c5934ae01c263c60355c953282fb018d603f3e691", func := "beadle/beadlelaw05.DeedBack", spec := "deedBack", inPlace := ["internal/bytealg.IndexByteString", "internal/bytealg.IndexString"], unfollowed := true, recurses := true, named := ["beadle/deed.kinds", "internal/bytealg.MaxLen"], loops := true, apart := false, laid := [("beadle/deed.kinds", laid_beadle_deed_kinds)] }
def DeedBackSaid : Prop := deedBackRow.holds Tryd.pinned (OpenSpec.ofChange deedBackSpec)

/-- ITS FALSE NEIGHBOUR: 'it returns false'. Refute it at one input. -/
def deedBackWrong : ChangeSpec := { name := "deedBack", fn := fun _ => fun
  | [d1, d2, d3, d4] => { results := [.lit (.bool false)], args := [d1, d2, d3, d4] }
  | _ => none }
def DeedBackWrongFalsely : Prop := deedBackRow.holds Tryd.pinned (OpenSpec.ofChange deedBackWrong)

/-- 'beadlelaw05.DeedOrder': WHATEVER THE INPUT: true; the input reads as it did. -/
def deedOrderSpec : ChangeSpec := { name := "deedOrder", fn := fun _ => fun
  | [d1, d2, d3, d4] => { results := [.lit (.bool true)], args := [d1, d2, d3, d4] }
  | _ => none }
def deedOrderRow : OpenClaim := { program := "ytbbllgpocjipjaadoor", sum := "91349324499f1bd99d8a858c5934ae01c263c60355c953282fb018d603f3e691", func := "beadle/beadlelaw05.DeedOrder", spec := "deedOrder", inPlace := ["internal/bytealg.IndexByteString", "internal/bytealg.IndexString"], unfollowed := true, recurses := true, named := ["beadle/deed.kinds", "internal/bytealg.MaxLen"], apart := false, laid := [("beadle/deed.kinds", laid_beadle_deed_kinds)] }
def DeedOrderSaid : Prop := deedOrderRow.holds Tryd.pinned (OpenSpec.ofChange deedOrderSpec)

/-- ITS FALSE NEIGHBOUR: 'it returns false'. Refute it at one input. -/
def deedOrderWrong : ChangeSpec := { name := "deedOrder", fn := fun _ => fun
  | [d1, d2, d3, d4] => { results := [.lit (.bool false)], args := [d1, d2, d3, d4] }
  | _ => none }
def DeedOrderWrongFalsely : Prop := deedOrderRow.holds Tryd.pinned (OpenSpec.ofChange deedOrderWrong)

/- THE SECOND FORM. 'bulk': how many values and letters a reading holds, each counted each time it is reached (what is shared counts as often as it is met; a slice's spare places count too). A statement '..UptoSaid' is the law's where the arguments, and the package variables that the reading takes, are together of bulk at most 1048576: NARROWER than '..Said'. Prove '..Said' where nothing that the law and all that it calls make is longer than what came in: it says more and counts as full. Else prove '..UptoSaid'. A law counts once. -/
mutual
def uptoBulk {H : Type} : DataW H → Nat
  | .lit (.string bytes) => bytes.length + 1
  | .lit _ => 1
  | .nil => 1
  | .ptr d => uptoBulk d + 1
  | .slice elems spare => uptoBulkAll elems + uptoBulkAll spare + 1
  | .agg parts => uptoBulkAll parts + 1
  | .iface _ d => uptoBulk d + 1
  | .map entries => uptoBulkEntries entries + 1
  | .held _ => 1
def uptoBulkAll {H : Type} : List (DataW H) → Nat
  | [] => 0
  | d :: r => uptoBulk d + uptoBulkAll r
def uptoBulkEntries {H : Type} : List (Lit × DataW H) → Nat
  | [] => 0
  | x :: r => uptoBulkEntry x + uptoBulkEntries r
def uptoBulkEntry {H : Type} : Lit × DataW H → Nat
  | (.string bytes, d) => bytes.length + uptoBulk d + 1
  | (_, d) => uptoBulk d + 1
 end
def uptoSmall : (H : Type) → List (DataW H) → Bool := fun _ ds => decide (uptoBulkAll ds ≤ 1048576)
def OpenSpec.upto (s : _root_.Go.ChangeSpec) : _root_.Go.OpenSpec := { _root_.Go.OpenSpec.ofChange s with cond := some uptoSmall }

/-- 'beadlelaw05.DeedZxids', WHERE WHAT IT READS IS OF BULK AT MOST 1048576: true; the input reads as it did. -/
def deedZxidsUptoRow : OpenClaim := { program := "ytbbllgpocjipjaadoor", sum := "91349324499f1bd99d8a858c5934ae01c263c60355c953282fb018d603f3e691", func := "beadle/beadlelaw05.DeedZxids", spec := "deedZxids", inPlace := ["internal/bytealg.IndexByteString", "internal/bytealg.IndexString"], unfollowed := true, recurses := true, named := ["beadle/deed.kinds", "internal/bytealg.MaxLen"], apart := false, laid := [("beadle/deed.kinds", laid_beadle_deed_kinds)], narrowed := true }
def DeedZxidsUptoSaid : Prop := deedZxidsUptoRow.holds Tryd.pinned (OpenSpec.upto deedZxidsSpec)

/-- 'beadlelaw05.DeedBack', WHERE WHAT IT READS IS OF BULK AT MOST 1048576: true; the input reads as it did. -/
def deedBackUptoRow : OpenClaim := { program := "ytbbllgpocjipjaadoor", sum := "91349324499f1bd99d8a858c5934ae01c263c60355c953282fb018d603f3e691", func := "beadle/beadlelaw05.DeedBack", spec := "deedBack", inPlace := ["internal/bytealg.IndexByteString", "internal/bytealg.IndexString"], unfollowed := true, recurses := true, named := ["beadle/deed.kinds", "internal/bytealg.MaxLen"], loops := true, apart := false, laid := [("beadle/deed.kinds", laid_beadle_deed_kinds)], narrowed := true }
def DeedBackUptoSaid : Prop := deedBackUptoRow.holds Tryd.pinned (OpenSpec.upto deedBackSpec)

/-- 'beadlelaw05.DeedOrder', WHERE WHAT IT READS IS OF BULK AT MOST 1048576: true; the input reads as it did. -/
def deedOrderUptoRow : OpenClaim := { program := "ytbbllgpocjipjaadoor", sum := "91349324499f1bd99d8a858c5934ae01c263c60355c953282fb018d603f3e691", func := "beadle/beadlelaw05.DeedOrder", spec := "deedOrder", inPlace := ["internal/bytealg.IndexByteString", "internal/bytealg.IndexString"], unfollowed := true, recurses := true, named := ["beadle/deed.kinds", "internal/bytealg.MaxLen"], apart := false, laid := [("beadle/deed.kinds", laid_beadle_deed_kinds)], narrowed := true }
def DeedOrderUptoSaid : Prop := deedOrderUptoRow.holds Tryd.pinned (OpenSpec.upto deedOrderSpec)

end Rows
end Go.Proofs.YtbbllgpocjipjaaDoor
