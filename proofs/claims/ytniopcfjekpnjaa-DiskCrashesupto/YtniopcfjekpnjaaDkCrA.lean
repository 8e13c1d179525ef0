/- The walk of DiskCrashes, whatever comes in. -/
import Derived.Test.YtniopcfjekpnjaaDkCr
namespace Go.Proofs.Ytniopcfjekpnjaa
open Go.RowKit Go.MapKept

theorem crashes_any {w : World} {A1 A2 : Option Addr} {n1 c1 n2 c2 : Nat} {R M : List (List UInt8)} (hR : Rws w (.slice A1 n1 c1) R) (hM : Rws w (.slice A2 n2 c2) M) (keep again : Int) (hk : -9223372036854775808 ≤ keep ∧ keep < 9223372036854775808) (ha : -9223372036854775808 ≤ again ∧ again < 9223372036854775808) :
    Calls Try.prog 6 #[.slice A1 n1 c1, .slice A2 n2 c2, .int .i64 keep, .int .i64 again] w fun e w' => e = .returned (.bool true) ∧ Below w.heap.size w w' := by
  by_cases hl : 20 < n1 ∨ 20 < n2
  · exact crashes_long hl _ _
  · exact crashes_small hR hM (by omega) (by omega) keep again hk ha
end Go.Proofs.Ytniopcfjekpnjaa
