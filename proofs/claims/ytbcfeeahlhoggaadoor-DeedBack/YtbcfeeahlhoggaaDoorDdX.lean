/- The walks of the document's zxids, and of DeedZxids and DeedOrder. -/
import Derived.Test.YtbcfeeahlhoggaaDoorDdAw
namespace Go.Proofs.YtbcfeeahlhoggaaDoor.DD
open Go.RowKit
set_option linter.unusedVariables false

set_option maxRecDepth 100000 in
theorem rmake_any (e c : Int) (he : I64 e) (hc : I64 c) (w : World) : Calls Tryd.prog 7 #[.int .i64 e, .int .i64 c] w fun x w' => x = .returned (.int .i64 (if 0 ≤ e ∧ e ≤ 1073741824 ∧ 0 ≤ c ∧ c < 4294967296 then e * 4294967296 + c else 0)) ∧ w' = w := by
  unfold I64 at he hc
  by_cases h1 : e < 0
  · rw [if_neg (by omega)]
    go_enter Tryd.func7, Tryd.ntmps7
    go_wp2
    go_ret
    exact ⟨rfl, rfl⟩
  by_cases h2 : 1073741824 < e
  · rw [if_neg (by omega)]
    go_enter Tryd.func7, Tryd.ntmps7
    go_wp2
    go_ret
    exact ⟨rfl, rfl⟩
  by_cases h3 : c < 0
  · rw [if_neg (by omega)]
    go_enter Tryd.func7, Tryd.ntmps7
    go_wp2
    go_ret
    exact ⟨rfl, rfl⟩
  by_cases h4 : 4294967295 < c
  · rw [if_neg (by omega)]
    go_enter Tryd.func7, Tryd.ntmps7
    go_wp2
    go_ret
    exact ⟨rfl, rfl⟩
  rw [if_pos (by omega)]
  go_enter Tryd.func7, Tryd.ntmps7
  go_wp2
  go_ret
  exact ⟨rfl, rfl⟩
set_option maxRecDepth 100000 in
theorem rmay_any (z : Int) (hz : I64 z) (w : World) : Calls Tryd.prog 22 #[.int .i64 z] w fun x w' => x = .returned (.bool (decide (0 ≤ z) && decide (z / 4294967296 ≤ 1073741824))) ∧ w' = w := by
  unfold I64 at hz
  by_cases h : 0 ≤ z
  · rw [decide_eq_true h, Bool.true_and]
    go_enter Tryd.func22, Tryd.ntmps22
    go_wp2
    go_ret
    exact ⟨rfl, rfl⟩
  · rw [decide_eq_false h, Bool.false_and]
    go_enter Tryd.func22, Tryd.ntmps22
    go_wp2
    go_ret
    exact ⟨rfl, rfl⟩
set_option maxRecDepth 100000 in
theorem repoch_any (z : Int) (hz : I64 z) (w : World) : Calls Tryd.prog 9 #[.int .i64 z] w fun x w' => x = .returned (.int .i64 (epochI z)) ∧ w' = w := by
  have hm := rmay_any z hz w
  unfold I64 at hz
  unfold epochI
  by_cases h : 0 ≤ z ∧ z / 4294967296 ≤ 1073741824
  · rw [if_pos h]
    rw [decide_eq_true h.1, decide_eq_true h.2] at hm
    go_enter Tryd.func9, Tryd.ntmps9
    go_wp2_with fail
    refine hm.mono ?_
    rintro e w' ⟨rfl, rfl⟩
    go_wp2
    go_ret
    exact ⟨rfl, rfl⟩
  · rw [if_neg h]
    have hb : (decide (0 ≤ z) && decide (z / 4294967296 ≤ 1073741824)) = false := by simp; omega
    rw [hb] at hm
    go_enter Tryd.func9, Tryd.ntmps9
    go_wp2_with fail
    refine hm.mono ?_
    rintro e w' ⟨rfl, rfl⟩
    go_wp2
    go_ret
    exact ⟨rfl, rfl⟩
theorem and_low (z : Int) (h : 0 ≤ z) (h2 : z < 9223372036854775808) : bits BinOp.and IntKind.i64 z 4294967295 = z % 4294967296 := by
  obtain ⟨n, rfl⟩ : ∃ n : Nat, z = (n : Int) := ⟨z.toNat, by omega⟩
  have e1 : n &&& 4294967295 = n % 4294967296 := by
    have := Nat.and_two_pow_sub_one_eq_mod n 32
    simpa using this
  show IntKind.i64.wrap ((BitVec.ofInt 64 (n : Int) &&& BitVec.ofInt 64 4294967295).toNat : Int) = _
  have h3 : (BitVec.ofInt 64 (n : Int)).toNat = n := by
    rw [BitVec.toNat_ofInt]; omega
  have h4 : (BitVec.ofInt 64 4294967295).toNat = 4294967295 := by decide
  rw [BitVec.toNat_and, h3, h4, e1]
  simp [IntKind.wrap, IntKind.bits, IntKind.signed]
  omega
set_option maxRecDepth 100000 in
theorem rcounter_any (z : Int) (hz : I64 z) (w : World) : Calls Tryd.prog 11 #[.int .i64 z] w fun x w' => x = .returned (.int .i64 (counterI z)) ∧ w' = w := by
  have hm := rmay_any z hz w
  unfold I64 at hz
  unfold counterI
  by_cases h : 0 ≤ z ∧ z / 4294967296 ≤ 1073741824
  · rw [if_pos h]
    rw [decide_eq_true h.1, decide_eq_true h.2] at hm
    have hq := and_low z h.1 hz.2
    go_enter Tryd.func11, Tryd.ntmps11
    go_wp2_with fail
    refine hm.mono ?_
    rintro e w' ⟨rfl, rfl⟩
    go_wp2
    go_ret
    exact ⟨rfl, rfl⟩
  · rw [if_neg h]
    have hb : (decide (0 ≤ z) && decide (z / 4294967296 ≤ 1073741824)) = false := by simp; omega
    rw [hb] at hm
    go_enter Tryd.func11, Tryd.ntmps11
    go_wp2_with fail
    refine hm.mono ?_
    rintro e w' ⟨rfl, rfl⟩
    go_wp2
    go_ret
    exact ⟨rfl, rfl⟩
set_option maxRecDepth 100000 in
set_option maxHeartbeats 2000000 in
theorem zxids_any (e c z : Int) (he : I64 e) (hc : I64 c) (hz : I64 z) (w : World) (hL : PA.Laid w) : Calls Tryd.prog 3 #[.int .i64 e, .int .i64 c, .int .i64 z] w fun x w' => x = .returned (.bool true) ∧ Below w.heap.size w w' := by
  have m1 := make_any e c he hc w
  have m2 := rmake_any e c he hc w
  have e1 := epoch_any z hz w
  have e2 := repoch_any z hz w
  have c1 := counter_any z hz w
  have c2 := rcounter_any z hz w
  have ha := awake_any w hL
  generalize (if 0 ≤ e ∧ e ≤ 1073741824 ∧ 0 ≤ c ∧ c < 4294967296 then e * 4294967296 + c else 0) = M at m1 m2
  generalize epochI z = E at e1 e2
  generalize counterI z = CC at c1 c2
  go_enter Tryd.func3, Tryd.ntmps3
  go_wp2_with (first | (go_at_call 6; refine m1.mono ?_; rintro e w' ⟨rfl, rfl⟩) | (go_at_call 7; refine m2.mono ?_; rintro e w' ⟨rfl, rfl⟩) | (go_at_call 8; refine e1.mono ?_; rintro e w' ⟨rfl, rfl⟩) | (go_at_call 9; refine e2.mono ?_; rintro e w' ⟨rfl, rfl⟩) | (go_at_call 10; refine c1.mono ?_; rintro e w' ⟨rfl, rfl⟩) | (go_at_call 11; refine c2.mono ?_; rintro e w' ⟨rfl, rfl⟩) | (go_at_call 12; refine ha.mono ?_; rintro e w' ⟨rfl, hB⟩))
  go_ret
  exact ⟨rfl, hB⟩
end Go.Proofs.YtbcfeeahlhoggaaDoor.DD
