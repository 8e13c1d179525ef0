/- LinkDoes, of any row of steps. -/
import Derived.Test.YtnonboegnbnepaaLkDw
namespace Go.Proofs.Ytnonboegnbnepaa
open Go.RowKit

set_option maxRecDepth 100000 in
theorem does_any {w : World} {inc : Int} {v : Value} {l : List Dd} (h : Dds w v l) (hz : ∀ x ∈ l, x.load.length ≤ 140737488351232 ∧ x.p.load.length ≤ 140737488351232) :
    Calls Try.prog 3 #[.int .i64 inc, v] w fun e w' => e = .returned (.bool true) ∧ Below w.heap.size w w' := by
  obtain ⟨A, C, rfl, h3, h4⟩ := id h
  by_cases hl : l.length ≤ 300
  · exact does_short h hl hz
  · have h1 : (300 : Int) < (l.length : Int) := by omega
    clear hz h h3 h4 hl
    generalize l.length = K at *
    go_enter Try.func3, Try.ntmps3
    go_wp2_with fail
    refine (awake_any _).mono ?_
    rintro e w1 ⟨rfl, hb⟩
    go_wp2_with fail
    go_ret
    exact ⟨rfl, hb⟩
end Go.Proofs.Ytnonboegnbnepaa
