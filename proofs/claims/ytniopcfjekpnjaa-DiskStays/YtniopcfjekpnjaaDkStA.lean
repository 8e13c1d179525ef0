/- The walk of DiskStays, whatever comes in. -/
import Derived.Test.YtniopcfjekpnjaaDkSt
import Derived.Test.YtniopcfjekpnjaaDkStT
import Derived.Test.YtniopcfjekpnjaaDkStF
namespace Go.Proofs.Ytniopcfjekpnjaa
open Go.RowKit Go.MapKept

theorem stays_any {w : World} {A1 A2 : Option Addr} {n1 c1 n2 c2 : Nat} {was now : List UInt8} (hx1 : Bs w (.slice A1 n1 c1) was) (hx2 : Bs w (.slice A2 n2 c2) now) (keep : Int) (hk : -9223372036854775808 ≤ keep ∧ keep < 9223372036854775808) (synced : Bool) :
    Calls Try.prog 7 #[.slice A1 n1 c1, .slice A2 n2 c2, .int .i64 keep, .bool synced] w fun e w' => e = .returned (.bool true) ∧ Below w.heap.size w w' := by
  have h1 := (bs_part hx1 0 (Nat.zero_le _)).2.1
  have h2 := (bs_part hx2 0 (Nat.zero_le _)).2.1
  by_cases hl : 5000 < n1 ∨ 5000 < n2
  · exact stays_long hl _ _
  · cases synced
    · exact stays_false hx1 hx2 h1 h2 (by omega) (by omega) keep hk
    · exact stays_true hx1 hx2 h1 h2 (by omega) (by omega) keep hk
end Go.Proofs.Ytniopcfjekpnjaa
