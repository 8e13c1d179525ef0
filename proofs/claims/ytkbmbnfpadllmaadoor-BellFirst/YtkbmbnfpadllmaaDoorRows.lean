/-
  NARROWER THAN 'FOR EVERY INPUT', by the rows' own cells (each row's printed sentence says how): BellNil: loops, laid · BellFirst: loops, laid.
  DERIVED. THE GIVEN ROWS OF THIS SEAT. 2 by the template 'for every input the law returns true; each argument reads behind the call as it read before'; 0 by the template 'total and deterministic' (their statements: YtkbmbnfpadllmaaDoorTotals.lean).
  GIVEN WITH THE SEED: the statements are not yours to turn. If you find one false, say at which input.
  Laid BY PROGRAM, IN A SANDBOX (cutbox-rows.mjs): the forced cells as the released guide's own fill.sh prints them over the translation c2d9f33af94f8f8a… (all of the seat's roots in one cut). By AI agents, Wed Nov 11 2026. No macro, syntax, notation, axiom, sorry.
-/
import Derived.Test.YtkbmbnfpadllmaaDoorChecked
import GoSem.Claim
import GoSem.ClaimJoined
import GoSem.ClaimMapViews
import Derived.JoinedTies
import Derived.KernelRfl
namespace Go.Proofs.YtkbmbnfpadllmaaDoor
/- THE CELL 'sum', in the pinned program and in every row, IS THE sha256 OF THE DUMP (.gsa) THAT YtkbmbnfpadllmaaDoorProg.lean LOADS. Nothing in Lean hashes anything: it is a label: what it is worth is what the hold of that sum in a sandbox is worth. -/
noncomputable def Tryd.pinned : Pinned := { name := "ytkbmbnfpadllmaadoor", sum := "c2d9f33af94f8f8a31cbe2ac5d6be148d31179c83553a23827f16dcb7c8cf4bb", checked := Tryd.checked }
namespace Rows
def none {H : Type} : Left H := { results := [], args := [] }

/- WHAT THE LISTED PACKAGE-LEVEL VARIABLES READ AS WHEN THE CALL BEGINS. Each datum BY PROGRAM (the guide's laid-datum.mjs) off the statement by which the dump's own 'gosem.cut.vars' lays the variable. In a bare row this is a premise. The card (YtkbmbnfpadllmaaDoorCards.lean) ties it to the program's text. -/
def laid_beadle_deed_kinds {H : Type} : DataW H := .agg [.lit (.int .u16 0), .lit (.int .u16 2071), .lit (.int .u16 3089), .lit (.int .u16 2059), .lit (.int .u16 32), .lit (.int .u16 260), .lit (.int .u16 512), .lit (.int .u16 128), .lit (.int .u16 256), .lit (.int .u16 64)]

/-- 'beadlelaw19.BellNil': WHATEVER THE INPUT: true; the input reads as it did. -/
def bellNilSpec : ChangeSpec := { name := "bellNil", fn := fun _ => fun
  | [d] => { results := [.lit (.bool true)], args := [d] }
  | _ => none }
def bellNilRow : OpenClaim := { program := "ytkbmbnfpadllmaadoor", sum := "c2d9f33af94f8f8a31cbe2ac5d6be148d31179c83553a23827f16dcb7c8cf4bb", func := "beadle/beadlelaw19.BellNil", spec := "bellNil", inPlace := ["internal/bytealg.IndexByteString", "internal/bytealg.IndexString", "internal/bytealg.abigen_runtime_cmpstring"], unfollowed := true, recurses := true, named := ["internal/bytealg.MaxLen", "beadle/deed.kinds"], loops := true, plainKeys := false, apart := false, laid := [("beadle/deed.kinds", laid_beadle_deed_kinds)] }
def BellNilSaid : Prop := bellNilRow.holds Tryd.pinned (OpenSpec.ofChange bellNilSpec)

/-- ITS FALSE NEIGHBOUR: 'it returns false'. Refute it at one input. -/
def bellNilWrong : ChangeSpec := { name := "bellNil", fn := fun _ => fun
  | [d] => { results := [.lit (.bool false)], args := [d] }
  | _ => none }
def BellNilWrongFalsely : Prop := bellNilRow.holds Tryd.pinned (OpenSpec.ofChange bellNilWrong)

/-- 'beadlelaw19.BellFirst': WHATEVER THE INPUT: true; the input reads as it did. -/
def bellFirstSpec : ChangeSpec := { name := "bellFirst", fn := fun _ => fun
  | [d1, d2, d3, d4] => { results := [.lit (.bool true)], args := [d1, d2, d3, d4] }
  | _ => none }
def bellFirstRow : OpenClaim := { program := "ytkbmbnfpadllmaadoor", sum := "c2d9f33af94f8f8a31cbe2ac5d6be148d31179c83553a23827f16dcb7c8cf4bb", func := "beadle/beadlelaw19.BellFirst", spec := "bellFirst", inPlace := ["internal/bytealg.IndexByteString", "internal/bytealg.IndexString", "internal/bytealg.abigen_runtime_cmpstring"], unfollowed := true, recurses := true, named := ["internal/bytealg.MaxLen", "beadle/deed.kinds"], loops := true, plainKeys := false, apart := false, laid := [("beadle/deed.kinds", laid_beadle_deed_kinds)] }
def BellFirstSaid : Prop := bellFirstRow.holds Tryd.pinned (OpenSpec.ofChange bellFirstSpec)

/-- ITS FALSE NEIGHBOUR: 'it returns false'. Refute it at one input. -/
def bellFirstWrong : ChangeSpec := { name := "bellFirst", fn := fun _ => fun
  | [d1, d2, d3, d4] => { results := [.lit (.bool false)], args := [d1, d2, d3, d4] }
  | _ => none }
def BellFirstWrongFalsely : Prop := bellFirstRow.holds Tryd.pinned (OpenSpec.ofChange bellFirstWrong)

/- THE SECOND FORM. 'bulk': how many values and letters a reading holds, each counted each time it is reached (what is shared counts as often as it is met; a slice's spare places count too). A statement '..UptoSaid' is the law's where the arguments, and the package variables that the reading takes, are together of bulk at most 1048576: NARROWER than '..Said'. Prove '..Said' where nothing that the law and all that it calls make is longer than what came in: it says more and counts as full. Else prove '..UptoSaid'. A law counts once. -/
mutual
def uptoBulk {H : Type} : DataW H → Nat
  | .lit (.string bytes) => bytes.length + 1
  | .lit _ => 1
  | .nil => 1
  | .ptr d => uptoBulk d + 1
  | .slice elems spare => uptoBulkAll elems + uptoBulkAll spare + 1
  | .agg parts => uptoBulkAll parts + 1
  | .iface _ d => uptoBulk d + 1
  | .map entries => uptoBulkEntries entries + 1
  | .held _ => 1
def uptoBulkAll {H : Type} : List (DataW H) → Nat
  | [] => 0
  | d :: r => uptoBulk d + uptoBulkAll r
def uptoBulkEntries {H : Type} : List (Lit × DataW H) → Nat
  | [] => 0
  | x :: r => uptoBulkEntry x + uptoBulkEntries r
def uptoBulkEntry {H : Type} : Lit × DataW H → Nat
  | (.string bytes, d) => bytes.length + uptoBulk d + 1
  | (_, d) => uptoBulk d + 1
 end
def uptoSmall : (H : Type) → List (DataW H) → Bool := fun _ ds => decide (uptoBulkAll ds ≤ 1048576)
def OpenSpec.upto (s : _root_.Go.ChangeSpec) : _root_.Go.OpenSpec := { _root_.Go.OpenSpec.ofChange s with cond := some uptoSmall }

/-- 'beadlelaw19.BellNil', WHERE WHAT IT READS IS OF BULK AT MOST 1048576: true; the input reads as it did. -/
def bellNilUptoRow : OpenClaim := { program := "ytkbmbnfpadllmaadoor", sum := "c2d9f33af94f8f8a31cbe2ac5d6be148d31179c83553a23827f16dcb7c8cf4bb", func := "beadle/beadlelaw19.BellNil", spec := "bellNil", inPlace := ["internal/bytealg.IndexByteString", "internal/bytealg.IndexString", "internal/bytealg.abigen_runtime_cmpstring"], unfollowed := true, recurses := true, named := ["internal/bytealg.MaxLen", "beadle/deed.kinds"], loops := true, plainKeys := false, apart := false, laid := [("beadle/deed.kinds", laid_beadle_deed_kinds)], narrowed := true }
def BellNilUptoSaid : Prop := bellNilUptoRow.holds Tryd.pinned (OpenSpec.upto bellNilSpec)

/-- 'beadlelaw19.BellFirst', WHERE WHAT IT READS IS OF BULK AT MOST 1048576: true; the input reads as it did. -/
def bellFirstUptoRow : OpenClaim := { program := "ytkbmbnfpadllmaadoor", sum := "c2d9f33af94f8f8a31cbe2ac5d6be148d31179c83553a23827f16dcb7c8cf4bb", func := "beadle/beadlelaw19.BellFirst", spec := "bellFirst", inPlace := ["internal/bytealg.IndexByteString", "internal/bytealg.IndexString", "internal/bytealg.abigen_runtime_cmpstring"], unfollowed := true, recurses := true, named := ["internal/bytealg.MaxLen", "beadle/deed.kinds"], loops := true, plainKeys := false, apart := false, laid := [("beadle/deed.kinds", laid_beadle_deed_kinds)], narrowed := true }
def BellFirstUptoSaid : Prop := bellFirstUptoRow.holds Tryd.pinned (OpenSpec.upto bellFirstSpec)

end Rows
end Go.Proofs.YtkbmbnfpadllmaaDoor
