/- Numbers that came in; LinkOrders where there are too many. -/
import Derived.Test.YtpmbkncakbcmbaaLkV
namespace Go.Proofs.Ytpmbkncakbcmbaa
set_option linter.unusedVariables false
open Go.RowKit
set_option linter.unusedVariables false

def Ns (w : World) (v : Value) (l : List Int) : Prop := ∃ A C, v = .slice A l.length C ∧ (∀ x ∈ l, i64 x) ∧ ∀ j (h : j < l.length), ∃ g o, A = some ⟨g, o, none⟩ ∧ w.cell? ⟨g, o + j, none⟩ = some (.int .i64 (l[j]'h))
set_option maxRecDepth 100000 in
theorem orders_long {w : World} {A : Option Addr} {C K : Nat} (hl : 300 < K) :
    Calls Try.prog 5 #[.slice A K C] w fun e w' => e = .returned (.bool true) ∧ Below w.heap.size w w' := by
  have hl2 : (300 : Int) < (K : Int) := by omega
  go_enter Try.func5, Try.ntmps5
  go_wp2_with fail
  refine (awake_any _).mono ?_
  rintro e w1 ⟨rfl, hb⟩
  have HB1 : Hid (Below w.heap.size w w1) := hb
  clear hb
  go_wp2_with fail
  go_ret
  exact ⟨rfl, HB1.out⟩
end Go.Proofs.Ytpmbkncakbcmbaa
