/- The walk of SpinField. -/
import Derived.Test.YtkjdhnomehhijaaWalksC
import Derived.Test.YtkjdhnomehhijaaPrime
import Derived.Deep.RegionWith
namespace Go.Proofs.Ytkjdhnomehhijaa
open Go.RowKit

theorem rt_one : Rt (1, 0) := ⟨by decide, by decide, by decide, by decide⟩
theorem rt_zero : Rt (0, 0) := ⟨by decide, by decide, by decide, by decide⟩
theorem C_one : C (1, 0) = .complex .f64 4607182418800017408 0 := by unfold C; rw [F_1, F_zero]
theorem C_zero : C (0, 0) = .complex .f64 0 0 := by unfold C; rw [F_zero]

theorem f_comm (x y : Int × Int) : red (gmul x y) = red (gmul y x) := by rw [gmul_comm]
theorem f_assoc (x y z : Int × Int) : red (gmul (red (gmul x y)) z) = red (gmul x (red (gmul y z))) := by
  rw [red_mul_left, red_mul_right, gmul_assoc]
theorem f_acomm (x y : Int × Int) : red (gadd x y) = red (gadd y x) := by rw [gadd_comm]
theorem f_dist (x y z : Int × Int) : red (gmul x (red (gadd y z))) = red (gadd (red (gmul x y)) (red (gmul x z))) := by
  rw [red_mul_right, red_add, gmul_add]
theorem f_inv (x : Int × Int) (hx : Rt x) : (red (gmul x (red (gpow x (274876858367 : Int).toNat))) = (1, 0)) ↔ x ≠ (0, 0) := by
  have e : gmul x (gpow x (274876858367 : Int).toNat) = gpow x 274876858368 := by
    rw [gmul_comm]; exact (rfl : gmul (gpow x 274876858367) x = gpow x (274876858367 + 1))
  rw [red_mul_right, e]
  constructor
  · intro h hz
    subst hz
    rw [pow_zero_pair _ (by decide)] at h
    revert h; decide
  · intro h
    exact pow_units x (red_rt hx) h
theorem rt_real {x : Int × Int} (hx : Rt x) : Rt (x.1, 0) := ⟨hx.lo1, hx.hi1, Int.le_refl 0, (by decide : (0 : Int) < 524287)⟩
theorem rt_conj {x : Int × Int} (hx : Rt x) (h : ¬ x.2 = 0) : Rt (x.1, 524287 - x.2) := by
  have l1 := hx.lo2
  have l2 := hx.hi2
  exact ⟨hx.lo1, hx.hi1, (by omega : 0 ≤ 524287 - x.2), (by omega : 524287 - x.2 < 524287)⟩
theorem f_conj0 (x : Int × Int) (hx : Rt x) (h : x.2 = 0) : red (gpow x (524287 : Int).toNat) = (x.1, 0) := by
  have := pow_M x
  rw [h] at this
  exact this.trans (red_rt (rt_real hx))
theorem f_conj (x : Int × Int) (hx : Rt x) (h : ¬ x.2 = 0) : red (gpow x (524287 : Int).toNat) = (x.1, 524287 - x.2) := by
  have := pow_M x
  have l1 := hx.lo2
  have l2 := hx.hi2
  refine this.trans ?_
  unfold red
  ext
  · exact Int.emod_eq_of_lt hx.lo1 hx.hi1
  · show -x.2 % 524287 = 524287 - x.2
    omega

/-- The two powers that the law asks for, behind names. -/
def pwE (x : Int × Int) : Int × Int := red (gpow x (274876858367 : Int).toNat)
def pwM (x : Int × Int) : Int × Int := red (gpow x (524287 : Int).toNat)
theorem rt_pwE (x : Int × Int) : Rt (pwE x) := rt_red _
theorem rt_pwM (x : Int × Int) : Rt (pwM x) := rt_red _
theorem powE (x : Int × Int) (w : World) (hx : Rt x) : Calls Try.prog 23 #[C x, .int .i64 274876858367] w fun e w' => e = .returned (.tuple #[C (pwE x), .bool true]) ∧ w' = w := powerC x 274876858367 w hx (by decide) (by decide)
theorem powM (x : Int × Int) (w : World) (hx : Rt x) : Calls Try.prog 23 #[C x, .int .i64 524287] w fun e w' => e = .returned (.tuple #[C (pwM x), .bool true]) ∧ w' = w := powerC x 524287 w hx (by decide) (by decide)
theorem inv_pwE (x : Int × Int) (hx : Rt x) : (red (gmul x (pwE x)) = (1, 0)) ↔ x ≠ (0, 0) := f_inv x hx
theorem conj_pwM0 (x : Int × Int) (hx : Rt x) (h : x.2 = 0) : pwM x = (x.1, 0) := f_conj0 x hx h
theorem conj_pwM (x : Int × Int) (hx : Rt x) (h : ¬ x.2 = 0) : pwM x = (x.1, 524287 - x.2) := f_conj x hx h

theorem eqGuardK (op : BinOp) (t : TypeId) (l r : Operand) (x : Int × Int) (a b : Nat) (w : World) : (eqGuard op t l r (C x) (.complex .f64 a b)).run Try.prog w = .ok () w := by
  unfold C eqGuard
  cases op <;> rfl
theorem realC (x : Int × Int) (ts : Array TypeId) (t : TypeId) (w : World) : (Builtin.real_ ts t #[C x]).run Try.prog w = .ok (.float .f64 (F x.1)) w := rfl
theorem imagC (x : Int × Int) (ts : Array TypeId) (t : TypeId) (w : World) : (Builtin.imag_ ts t #[C x]).run Try.prog w = .ok (.float .f64 (F x.2)) w := rfl

set_option maxRecDepth 100000 in
set_option maxHeartbeats 1000000 in
theorem field_walk0 (a b c d e f : Int) (w : World) (hz : (red (a, b)).2 = 0) :
    Calls Try.prog 5 #[.int .i64 a, .int .i64 b, .int .i64 c, .int .i64 d, .int .i64 e, .int .i64 f] w fun e w' => e = .returned (.bool true) ∧ Grown w w' := by
  have n1 := neC_of _ _ (rt_red _) (rt_red _) (f_comm (red (a, b)) (red (c, d)))
  have n2 := neC_of _ _ (rt_red _) (rt_red _) (f_assoc (red (a, b)) (red (c, d)) (red (e, f)))
  have n3 := neC_of _ _ (rt_red _) (rt_red _) (f_acomm (red (c, d)) (red (e, f)))
  have n4 := neC_of _ _ (rt_red _) (rt_red _) (f_dist (red (a, b)) (red (c, d)) (red (e, f)))
  have g1 := eqGuardC
  have g2 := eqGuardK
  have b1 := realC
  have b2 := imagC
  obtain ⟨B, hB⟩ : ∃ B : Bool, B = !decide (red (a, b) = (0, 0)) := ⟨_, rfl⟩
  have k1 : ∀ t w, (binOp .eql t (C (red (gmul (red (a, b)) (pwE (red (a, b)))))) (.complex .f64 4607182418800017408 0)).run Try.prog w = .ok (.bool B) w := by
    intro t w
    rw [← C_one, eqC _ _ (rt_red _) rt_one]
    congr 2
    rw [hB, Bool.eq_iff_iff]
    simpa using inv_pwE (red (a, b)) (rt_red _)
  have k2 : ∀ t w, (binOp .neq t (C (red (a, b))) (.complex .f64 0 0)).run Try.prog w = .ok (.bool B) w := by
    intro t w
    rw [← C_zero, neC _ _ (rt_red _) rt_zero, hB]
  clear hB
  have o1 : FloatKind.f64.format.order (F (red (a, b)).2) 0 = some .eq := by rw [hz, F_zero]; decide +kernel
  have k3 : ∀ t w, (binOp .eql t (C (pwM (red (a, b)))) (.complex .f64 (F (red (a, b)).1) 0)).run Try.prog w = .ok (.bool true) w := by
    intro t w
    have e1 : Value.complex .f64 (F (red (a, b)).1) 0 = C ((red (a, b)).1, 0) := by unfold C; rw [F_zero]
    have hr := rt_red (a, b)
    rw [e1]
    exact eqC_of (pwM (red (a, b))) ((red (a, b)).1, 0) (rt_pwM _) (rt_real hr) (conj_pwM0 (red (a, b)) hr hz) t w
  clear hz
  go_enter Try.func5, Try.ntmps5
  go_wp2_with (first | (go_at_call 8; refine (awake_any _).mono ?_; rintro e w1 ⟨rfl, hg, hb⟩) | (go_at_call 19; refine (madeC _ _ _).mono ?_; rintro e w' ⟨rfl, rfl⟩) | (go_at_call 22; refine (rightC _ _ (rt_red _)).mono ?_; rintro e w' ⟨rfl, rfl⟩) | (go_at_call_of 23 (Value.int .i64 274876858367); refine (powE _ _ (rt_red _)).mono ?_; rintro e w' ⟨rfl, rfl⟩) | (go_at_call_of 23 (Value.int .i64 524287); refine (powM _ _ (rt_red _)).mono ?_; rintro e w' ⟨rfl, rfl⟩) | (go_at_call 20; refine (timesC _ _ _ (rt_red _) (by first | exact rt_red _ | exact rt_pwE _)).mono ?_; rintro e w' ⟨rfl, rfl⟩) | (go_at_call 21; refine (plusC _ _ _ (rt_red _) (rt_red _)).mono ?_; rintro e w' ⟨rfl, rfl⟩))
  go_ret
  exact ⟨rfl, hg⟩

set_option maxRecDepth 100000 in
set_option maxHeartbeats 1000000 in
theorem field_walk1 (a b c d e f : Int) (w : World) (hz : ¬ (red (a, b)).2 = 0) :
    Calls Try.prog 5 #[.int .i64 a, .int .i64 b, .int .i64 c, .int .i64 d, .int .i64 e, .int .i64 f] w fun e w' => e = .returned (.bool true) ∧ Grown w w' := by
  have n1 := neC_of _ _ (rt_red _) (rt_red _) (f_comm (red (a, b)) (red (c, d)))
  have n2 := neC_of _ _ (rt_red _) (rt_red _) (f_assoc (red (a, b)) (red (c, d)) (red (e, f)))
  have n3 := neC_of _ _ (rt_red _) (rt_red _) (f_acomm (red (c, d)) (red (e, f)))
  have n4 := neC_of _ _ (rt_red _) (rt_red _) (f_dist (red (a, b)) (red (c, d)) (red (e, f)))
  have g1 := eqGuardC
  have g2 := eqGuardK
  have b1 := realC
  have b2 := imagC
  obtain ⟨B, hB⟩ : ∃ B : Bool, B = !decide (red (a, b) = (0, 0)) := ⟨_, rfl⟩
  have k1 : ∀ t w, (binOp .eql t (C (red (gmul (red (a, b)) (pwE (red (a, b)))))) (.complex .f64 4607182418800017408 0)).run Try.prog w = .ok (.bool B) w := by
    intro t w
    rw [← C_one, eqC _ _ (rt_red _) rt_one]
    congr 2
    rw [hB, Bool.eq_iff_iff]
    simpa using inv_pwE (red (a, b)) (rt_red _)
  have k2 : ∀ t w, (binOp .neq t (C (red (a, b))) (.complex .f64 0 0)).run Try.prog w = .ok (.bool B) w := by
    intro t w
    rw [← C_zero, neC _ _ (rt_red _) rt_zero, hB]
  clear hB
  have hr := rt_red (a, b)
  have r1 := hr.lo2
  have r2 := hr.hi2
  have o1 : FloatKind.f64.format.order (F (red (a, b)).2) 0 = some .gt := by
    have := order_f64 (red (a, b)).2 0 (by omega) (by decide)
    rw [F_zero] at this
    rw [this]
    congr 1
    simp only [compare, compareOfLessAndEq]; rw [if_neg (by omega), if_neg hz]
  have s1 : ∀ t w, (binOp .sub t (.float .f64 4692750794540187648) (.float .f64 (F (red (a, b)).2))).run Try.prog w = .ok (.float .f64 (F (524287 - (red (a, b)).2))) w := by
    intro t w
    have := run_float_arith (P := Try.prog) w .sub t .f64 _ _ _ (bits_sub 524287 (red (a, b)).2 (by omega) (by omega) (by omega))
    rw [F_M] at this
    exact this
  have k3 : ∀ t w, (binOp .eql t (C (pwM (red (a, b)))) (.complex .f64 (F (red (a, b)).1) (F (524287 - (red (a, b)).2)))).run Try.prog w = .ok (.bool true) w := by
    intro t w
    have e1 : Value.complex .f64 (F (red (a, b)).1) (F (524287 - (red (a, b)).2)) = C ((red (a, b)).1, 524287 - (red (a, b)).2) := rfl
    rw [e1]
    exact eqC_of (pwM (red (a, b))) ((red (a, b)).1, 524287 - (red (a, b)).2) (rt_pwM _) (rt_conj hr hz) (conj_pwM (red (a, b)) hr hz) t w
  clear hr r1 r2
  clear hz
  go_enter Try.func5, Try.ntmps5
  go_wp2_with (first | (go_at_call 8; refine (awake_any _).mono ?_; rintro e w1 ⟨rfl, hg, hb⟩) | (go_at_call 19; refine (madeC _ _ _).mono ?_; rintro e w' ⟨rfl, rfl⟩) | (go_at_call 22; refine (rightC _ _ (rt_red _)).mono ?_; rintro e w' ⟨rfl, rfl⟩) | (go_at_call_of 23 (Value.int .i64 274876858367); refine (powE _ _ (rt_red _)).mono ?_; rintro e w' ⟨rfl, rfl⟩) | (go_at_call_of 23 (Value.int .i64 524287); refine (powM _ _ (rt_red _)).mono ?_; rintro e w' ⟨rfl, rfl⟩) | (go_at_call 20; refine (timesC _ _ _ (rt_red _) (by first | exact rt_red _ | exact rt_pwE _)).mono ?_; rintro e w' ⟨rfl, rfl⟩) | (go_at_call 21; refine (plusC _ _ _ (rt_red _) (rt_red _)).mono ?_; rintro e w' ⟨rfl, rfl⟩))
  go_ret
  exact ⟨rfl, hg⟩

theorem field_walk (a b c d e f : Int) (w : World) :
    Calls Try.prog 5 #[.int .i64 a, .int .i64 b, .int .i64 c, .int .i64 d, .int .i64 e, .int .i64 f] w fun e w' => e = .returned (.bool true) ∧ Grown w w' := by
  by_cases hz : (red (a, b)).2 = 0
  · exact field_walk0 a b c d e f w hz
  · exact field_walk1 a b c d e f w hz
end Go.Proofs.Ytkjdhnomehhijaa
