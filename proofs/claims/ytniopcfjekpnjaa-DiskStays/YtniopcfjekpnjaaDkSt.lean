/- The walk of DiskStays. -/
import Derived.Test.YtniopcfjekpnjaaDkP
namespace Go.Proofs.Ytniopcfjekpnjaa
open Go.RowKit Go.MapKept

set_option maxRecDepth 100000 in
theorem stays_long {w : World} {A1 A2 : Option Addr} {n1 c1 n2 c2 : Nat} (h : 5000 < n1 ∨ 5000 < n2) (k : Value) (b : Value) :
    Calls Try.prog 7 #[.slice A1 n1 c1, .slice A2 n2 c2, k, b] w fun e w' => e = .returned (.bool true) ∧ Below w.heap.size w w' := by
  go_enter Try.func7, Try.ntmps7
  go_wp2_with fail
  refine (awake_any w).mono ?_
  rintro e w1 ⟨rfl, hB1⟩
  by_cases h1 : 5000 < n1
  · have t1 : (5000 : Int) < n1 := by omega
    go_wp2_with fail
    go_ret
    exact ⟨rfl, hB1⟩
  · have t1 : ¬ (5000 : Int) < n1 := by omega
    have t2 : (5000 : Int) < n2 := by omega
    go_wp2_with fail
    go_ret
    exact ⟨rfl, hB1⟩

end Go.Proofs.Ytniopcfjekpnjaa
