/- The walk of SpinAdds. -/
import Derived.Test.YtkjdhnomehhijaaWalksC
namespace Go.Proofs.Ytkjdhnomehhijaa
open Go.RowKit

theorem adds_sum (z : Int × Int) (i j : Int) (hi : 0 ≤ i) (hj : 0 ≤ j) : red (gmul (red (gpow z i.toNat)) (red (gpow z j.toNat))) = red (gpow z (i + j).toNat) := by
  rw [red_mul, ← gpow_add, Int.toNat_add hi hj]
theorem adds_mul (z : Int × Int) (i j : Int) (hi : 0 ≤ i) (hj : 0 ≤ j) : red (gpow (red (gpow z i.toNat)) j.toNat) = red (gpow z (i * j).toNat) := by
  rw [red_pow, ← gpow_mul, Int.toNat_mul hi hj]
theorem pick_mul (i j : Int) (hi : 0 ≤ i) (hj : 0 ≤ j) (hi' : i < 1048576) (hj' : j < 1048576) : 0 ≤ i * j ∧ i * j < 1099511627776 := by
  refine ⟨Int.mul_nonneg hi hj, ?_⟩
  have h1 : i * j ≤ 1048575 * j := Int.mul_le_mul_of_nonneg_right (by omega) hj
  omega

set_option maxHeartbeats 1000000 in
theorem adds_walk (a b m n : Int) (w : World) :
    Calls Try.prog 6 #[.int .i64 a, .int .i64 b, .int .i64 m, .int .i64 n] w fun e w' => e = .returned (.bool true) ∧ Grown w w' := by
  have hi : 0 ≤ m % 1048576 := Int.emod_nonneg _ (by decide)
  have hi' : m % 1048576 < 1048576 := Int.emod_lt_of_pos _ (by decide)
  have hj : 0 ≤ n % 1048576 := Int.emod_nonneg _ (by decide)
  have hj' : n % 1048576 < 1048576 := Int.emod_lt_of_pos _ (by decide)
  obtain ⟨hm, hm'⟩ := pick_mul _ _ hi hj hi' hj'
  have e1 := eqC_of _ _ (rt_red _) (rt_red _) (adds_sum (red (a, b)) _ _ hi hj)
  have e2 := eqC_of _ _ (rt_red _) (rt_red _) (adds_mul (red (a, b)) _ _ hi hj)
  have e3 := eqGuardC
  go_enter Try.func6, Try.ntmps6
  go_wp2_with (first | (go_at_call 8; refine (awake_any _).mono ?_; rintro e w1 ⟨rfl, hg, hb⟩) | (go_at_call 19; refine (madeC _ _ _).mono ?_; rintro e w' ⟨rfl, rfl⟩) | (go_at_call 24; refine (pick_any _ _ _ (by decide) (by decide)).mono ?_; rintro e w' ⟨rfl, rfl⟩) | (go_at_call 23; refine (powerC _ _ _ (rt_red _) (by omega) (by omega)).mono ?_; rintro e w' ⟨rfl, rfl⟩) | (go_at_call 20; refine (timesC _ _ _ (rt_red _) (rt_red _)).mono ?_; rintro e w' ⟨rfl, rfl⟩))
  go_ret
  exact ⟨rfl, hg⟩
end Go.Proofs.Ytkjdhnomehhijaa
