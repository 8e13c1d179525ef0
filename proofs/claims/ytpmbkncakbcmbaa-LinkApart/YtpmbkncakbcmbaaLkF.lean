/- The walk of Take: every packet. -/
import Derived.Test.YtpmbkncakbcmbaaLkE1
import Derived.Test.YtpmbkncakbcmbaaLkE2
namespace Go.Proofs.Ytpmbkncakbcmbaa
set_option linter.unusedVariables false
open Go.RowKit
set_option linter.unusedVariables false

set_option maxRecDepth 100000 in
set_option maxHeartbeats 2000000 in
theorem take_any {w : World} {n : Nat} {s : St} {T : Nat → Prop} (h : Lx false w n s T) (p : Pkt) {A : Option Addr} {C : Nat} (hx : Bs w (.slice A p.load.length C) p.load) (hT : ∀ g, bk (.slice A p.load.length C) = some g → T g)
    (hf : i64 p.fr) (hl : p.load.length ≤ 140737488355328) (ha : s.acked < 4611686018427387904) (hg : s.got < 4611686018427387904) :
    Calls Try.prog 17 #[.pointer (some ⟨n, 0, none⟩), pkV p A C] w fun e w' => TakeEnd w n (takeR s p) T e w' := by
  by_cases h0 : p.fr < 1
  · exact take_lo h p hx hT hf hl ha hg h0
  by_cases h1 : p.fr < s.peer
  · exact take_lo2 h p hx hT hf hl ha hg h0 h1
  by_cases h2 : s.peer < p.fr
  · exact take_met h p hx hT hf hl ha hg h0 h1 h2
  · exact take_same h p hx hT hf hl ha hg h0 h1 h2
end Go.Proofs.Ytpmbkncakbcmbaa
