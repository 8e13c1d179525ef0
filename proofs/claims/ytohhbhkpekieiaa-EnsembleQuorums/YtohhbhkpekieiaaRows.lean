/-
  No cell of these rows narrows 'for every input' (looked for: loops, veiled, ifaces, maps, wideKeys, modest, calm, conditions, laid).
  DERIVED. THE GIVEN ROWS OF THIS SEAT. 3 by the template 'for every input the law returns true; each argument reads behind the call as it read before'; 0 by the template 'total and deterministic' (their statements: YtohhbhkpekieiaaTotals.lean).
  GIVEN WITH THE SEED: the statements are not yours to turn. If you find one false, say at which input.
  Laid BY PROGRAM, IN A SANDBOX (cutbox-rows.mjs): the forced cells as the released guide's own fill.sh prints them over the translation b9c6fc3531e69560… (all of the seat's roots in one cut). By AI agents, Wed Nov 11 2026. No macro, syntax, notation, axiom, sorry.
-/
import Derived.Test.YtohhbhkpekieiaaChecked
import GoSem.Claim
import GoSem.ClaimJoined
import GoSem.ClaimMapViews
import Derived.JoinedTies
import Derived.KernelRfl
namespace Go.Proofs.Ytohhbhkpekieiaa
/- THE CELL 'sum', in the pinned program and in every row, IS THE sha256 OF THE DUMP (.gsa) THAT YtohhbhkpekieiaaProg.lean LOADS. Nothing in Lean hashes anything: it is a label: what it is worth is what the hold of that sum in a sandbox is worth. -/
noncomputable def Try.pinned : Pinned := { name := "ytohhbhkpekieiaa", sum := "b9c6fc3531e69560eef5deaaed51f2a00520c1492d4a9a00415fcfd1387476fe", checked := Try.checked }
namespace Rows
def none {H : Type} : Left H := { results := [], args := [] }

/-- 'beadlelaw04.EnsembleChecks': WHATEVER THE INPUT: true; the input reads as it did. -/
def ensembleChecksSpec : ChangeSpec := { name := "ensembleChecks", fn := fun _ => fun
  | [d1, d2] => { results := [.lit (.bool true)], args := [d1, d2] }
  | _ => none }
def ensembleChecksRow : OpenClaim := { program := "ytohhbhkpekieiaa", sum := "b9c6fc3531e69560eef5deaaed51f2a00520c1492d4a9a00415fcfd1387476fe", func := "beadle/beadlelaw04.EnsembleChecks", spec := "ensembleChecks", unfollowed := true, recurses := true, apart := false }
def EnsembleChecksSaid : Prop := ensembleChecksRow.holds Try.pinned (OpenSpec.ofChange ensembleChecksSpec)

/-- ITS FALSE NEIGHBOUR: 'it returns false'. Refute it at one input. -/
def ensembleChecksWrong : ChangeSpec := { name := "ensembleChecks", fn := fun _ => fun
  | [d1, d2] => { results := [.lit (.bool false)], args := [d1, d2] }
  | _ => none }
def EnsembleChecksWrongFalsely : Prop := ensembleChecksRow.holds Try.pinned (OpenSpec.ofChange ensembleChecksWrong)

/-- 'beadlelaw04.EnsembleQuorums': WHATEVER THE INPUT: true; the input reads as it did. -/
def ensembleQuorumsSpec : ChangeSpec := { name := "ensembleQuorums", fn := fun _ => fun
  | [d1, d2] => { results := [.lit (.bool true)], args := [d1, d2] }
  | _ => none }
def ensembleQuorumsRow : OpenClaim := { program := "ytohhbhkpekieiaa", sum := "b9c6fc3531e69560eef5deaaed51f2a00520c1492d4a9a00415fcfd1387476fe", func := "beadle/beadlelaw04.EnsembleQuorums", spec := "ensembleQuorums", unfollowed := true, recurses := true, apart := false }
def EnsembleQuorumsSaid : Prop := ensembleQuorumsRow.holds Try.pinned (OpenSpec.ofChange ensembleQuorumsSpec)

/-- ITS FALSE NEIGHBOUR: 'it returns false'. Refute it at one input. -/
def ensembleQuorumsWrong : ChangeSpec := { name := "ensembleQuorums", fn := fun _ => fun
  | [d1, d2] => { results := [.lit (.bool false)], args := [d1, d2] }
  | _ => none }
def EnsembleQuorumsWrongFalsely : Prop := ensembleQuorumsRow.holds Try.pinned (OpenSpec.ofChange ensembleQuorumsWrong)

/-- 'beadlelaw04.EnsembleBytes': WHATEVER THE INPUT: true; the input reads as it did. -/
def ensembleBytesSpec : ChangeSpec := { name := "ensembleBytes", fn := fun _ => fun
  | [d1, d2] => { results := [.lit (.bool true)], args := [d1, d2] }
  | _ => none }
def ensembleBytesRow : OpenClaim := { program := "ytohhbhkpekieiaa", sum := "b9c6fc3531e69560eef5deaaed51f2a00520c1492d4a9a00415fcfd1387476fe", func := "beadle/beadlelaw04.EnsembleBytes", spec := "ensembleBytes", unfollowed := true, recurses := true, apart := false }
def EnsembleBytesSaid : Prop := ensembleBytesRow.holds Try.pinned (OpenSpec.ofChange ensembleBytesSpec)

/-- ITS FALSE NEIGHBOUR: 'it returns false'. Refute it at one input. -/
def ensembleBytesWrong : ChangeSpec := { name := "ensembleBytes", fn := fun _ => fun
  | [d1, d2] => { results := [.lit (.bool false)], args := [d1, d2] }
  | _ => none }
def EnsembleBytesWrongFalsely : Prop := ensembleBytesRow.holds Try.pinned (OpenSpec.ofChange ensembleBytesWrong)

/- THE SECOND FORM. 'bulk': how many values and letters a reading holds, each counted each time it is reached (what is shared counts as often as it is met; a slice's spare places count too). A statement '..UptoSaid' is the law's where the arguments, and the package variables that the reading takes, are together of bulk at most 1048576: NARROWER than '..Said'. Prove '..Said' where nothing that the law and all that it calls make is longer than what came in: it says more and counts as full. Else prove '..UptoSaid'. A law counts once. -/
mutual
def uptoBulk {H : Type} : DataW H → Nat
  | .lit (.string bytes) => bytes.length + 1
  | .lit _ => 1
  | .nil => 1
  | .ptr d => uptoBulk d + 1
  | .slice elems spare => uptoBulkAll elems + uptoBulkAll spare + 1
  | .agg parts => uptoBulkAll parts + 1
  | .iface _ d => uptoBulk d + 1
  | .map entries => uptoBulkEntries entries + 1
  | .held _ => 1
def uptoBulkAll {H : Type} : List (DataW H) → Nat
  | [] => 0
  | d :: r => uptoBulk d + uptoBulkAll r
def uptoBulkEntries {H : Type} : List (Lit × DataW H) → Nat
  | [] => 0
  | x :: r => uptoBulkEntry x + uptoBulkEntries r
def uptoBulkEntry {H : Type} : Lit × DataW H → Nat
  | (.string bytes, d) => bytes.length + uptoBulk d + 1
  | (_, d) => uptoBulk d + 1
 end
def uptoSmall : (H : Type) → List (DataW H) → Bool := fun _ ds => decide (uptoBulkAll ds ≤ 1048576)
def OpenSpec.upto (s : _root_.Go.ChangeSpec) : _root_.Go.OpenSpec := { _root_.Go.OpenSpec.ofChange s with cond := some uptoSmall }

/-- 'beadlelaw04.EnsembleChecks', WHERE WHAT IT READS IS OF BULK AT MOST 1048576: true; the input reads as it did. -/
def ensembleChecksUptoRow : OpenClaim := { program := "ytohhbhkpekieiaa", sum := "b9c6fc3531e69560eef5deaaed51f2a00520c1492d4a9a00415fcfd1387476fe", func := "beadle/beadlelaw04.EnsembleChecks", spec := "ensembleChecks", unfollowed := true, recurses := true, apart := false, narrowed := true }
def EnsembleChecksUptoSaid : Prop := ensembleChecksUptoRow.holds Try.pinned (OpenSpec.upto ensembleChecksSpec)

/-- 'beadlelaw04.EnsembleQuorums', WHERE WHAT IT READS IS OF BULK AT MOST 1048576: true; the input reads as it did. -/
def ensembleQuorumsUptoRow : OpenClaim := { program := "ytohhbhkpekieiaa", sum := "b9c6fc3531e69560eef5deaaed51f2a00520c1492d4a9a00415fcfd1387476fe", func := "beadle/beadlelaw04.EnsembleQuorums", spec := "ensembleQuorums", unfollowed := true, recurses := true, apart := false, narrowed := true }
def EnsembleQuorumsUptoSaid : Prop := ensembleQuorumsUptoRow.holds Try.pinned (OpenSpec.upto ensembleQuorumsSpec)

/-- 'beadlelaw04.EnsembleBytes', WHERE WHAT IT READS IS OF BULK AT MOST 1048576: true; the input reads as it did. -/
def ensembleBytesUptoRow : OpenClaim := { program := "ytohhbhkpekieiaa", sum := "b9c6fc3531e69560eef5deaaed51f2a00520c1492d4a9a00415fcfd1387476fe", func := "beadle/beadlelaw04.EnsembleBytes", spec := "ensembleBytes", unfollowed := true, recurses := true, apart := false, narrowed := true }
def EnsembleBytesUptoSaid : Prop := ensembleBytesUptoRow.holds Try.pinned (OpenSpec.upto ensembleBytesSpec)

end Rows
end Go.Proofs.Ytohhbhkpekieiaa
