/- Contracts of Pick and made: a right number out of two whole ones. -/
import Derived.Test.YtkjdhnomehhijaaWalksB
namespace Go.Proofs.Ytkjdhnomehhijaa
open Go.RowKit

theorem tmod_range (n k : Int) (hk : 0 < k) : -k < n.tmod k ∧ n.tmod k < k := by
  have h4 := Int.lt_tmod_of_pos n hk
  have h5 := Int.tmod_lt_of_pos n hk
  omega
theorem tmod_plus (n k : Int) (hk : 0 < k) (h : n.tmod k < 0) : n.tmod k + k = n % k := by
  have h0 := tmod_range n k hk
  have h3 := Int.tmod_add_mul_tdiv n k
  have e : n = (n.tmod k + k) + k * (n.tdiv k - 1) := by rw [Int.mul_sub]; omega
  conv => rhs; rw [e]
  rw [Int.add_mul_emod_self_left, Int.emod_eq_of_lt (by omega) (by omega)]
theorem tmod_same (n k : Int) (hk : 0 < k) (h : 0 ≤ n.tmod k) : n.tmod k = n % k := by
  have h0 := tmod_range n k hk
  have h3 := Int.tmod_add_mul_tdiv n k
  conv => rhs; rw [← h3]
  rw [Int.add_mul_emod_self_left, Int.emod_eq_of_lt (by omega) (by omega)]
theorem ret_i64 {a b : Int} (h : a = b) : Ending.returned (.int .i64 a) = .returned (.int .i64 b) := by rw [h]

set_option maxHeartbeats 400000 in
theorem pick_any (n k : Int) (w : World) (hk : 1 ≤ k) (hk' : k < 4611686018427387904) :
    Calls Try.prog 24 #[.int .i64 n, .int .i64 k] w fun e w' => e = .returned (.int .i64 (n % k)) ∧ w' = w := by
  obtain ⟨b1, b2⟩ := tmod_range n k (by omega)
  go_enter Try.func24, Try.ntmps24
  by_cases h : n.tmod k < 0
  · go_wp2
    go_ret
    exact ⟨ret_i64 (tmod_plus n k (by omega) h), rfl⟩
  · go_wp2
    go_ret
    exact ⟨ret_i64 (tmod_same n k (by omega) (by omega)), rfl⟩

set_option maxHeartbeats 400000 in
theorem made_any (a b : Int) (w : World) :
    Calls Try.prog 19 #[.int .i64 a, .int .i64 b] w fun e w' => e = .returned (.complex .f64 (F (a % 524287)) (F (b % 524287))) ∧ w' = w := by
  have c2 : ∀ m w, (convert 3 42 (.int .i64 m)).run Try.prog w = .ok (.float .f64 (F m)) w := fun m w => run_convert_int_float w 3 42 .i64 .f64 m (by rw [Try.underlying3]; rfl) Try.underlying42
  go_enter Try.func19, Try.ntmps19
  go_wp2_with (go_at_call 24; refine (pick_any _ _ _ (by decide) (by decide)).mono ?_; rintro e w' ⟨rfl, rfl⟩)
  go_ret
  exact ⟨rfl, rfl⟩

/-! The same contracts over pairs: 'C x' is the complex number of the pair x. -/
def C (x : Int × Int) : Value := .complex .f64 (F x.1) (F x.2)
structure Rt (x : Int × Int) : Prop where
  lo1 : 0 ≤ x.1
  hi1 : x.1 < 524287
  lo2 : 0 ≤ x.2
  hi2 : x.2 < 524287
theorem rt_red (x : Int × Int) : Rt (red x) := ⟨(red_bounds x).1, (red_bounds x).2.1, (red_bounds x).2.2.1, (red_bounds x).2.2.2⟩
theorem red_rt {x : Int × Int} (h : Rt x) : red x = x := red_of x h.lo1 h.hi1 h.lo2 h.hi2

theorem timesC (x y : Int × Int) (w : World) (hx : Rt x) (hy : Rt y) : Calls Try.prog 20 #[C x, C y] w fun e w' => e = .returned (.tuple #[C (red (gmul x y)), .bool true]) ∧ w' = w :=
  times_any x.1 x.2 y.1 y.2 w hx.lo1 hx.hi1 hx.lo2 hx.hi2 hy.lo1 hy.hi1 hy.lo2 hy.hi2
theorem plusC (x y : Int × Int) (w : World) (hx : Rt x) (hy : Rt y) : Calls Try.prog 21 #[C x, C y] w fun e w' => e = .returned (.tuple #[C (red (gadd x y)), .bool true]) ∧ w' = w :=
  plus_any x.1 x.2 y.1 y.2 w hx.lo1 hx.hi1 hx.lo2 hx.hi2 hy.lo1 hy.hi1 hy.lo2 hy.hi2
theorem powerC (x : Int × Int) (n : Int) (w : World) (hx : Rt x) (hn : 0 ≤ n) (hn' : n < 4611686018427387904) : Calls Try.prog 23 #[C x, .int .i64 n] w fun e w' => e = .returned (.tuple #[C (red (gpow x n.toNat)), .bool true]) ∧ w' = w :=
  power_any x.1 x.2 n w hx.lo1 hx.hi1 hx.lo2 hx.hi2 hn hn'
theorem rightC (x : Int × Int) (w : World) (hx : Rt x) : Calls Try.prog 22 #[C x] w fun e w' => e = .returned (.bool true) ∧ w' = w :=
  right_any x.1 x.2 w hx.lo1 hx.hi1 hx.lo2 hx.hi2
theorem madeC (a b : Int) (w : World) : Calls Try.prog 19 #[.int .i64 a, .int .i64 b] w fun e w' => e = .returned (C (red (a, b))) ∧ w' = w := made_any a b w

theorem ord_eq (a b : Int) (ha : 0 ≤ a) (ha' : a < 524287) (hb : 0 ≤ b) (hb' : b < 524287) : (FloatKind.f64.format.order (F a) (F b) == some .eq) = decide (a = b) := by
  rw [order_f64 a b (by omega) (by omega)]
  by_cases h : a = b
  · subst h
    simp [compare, compareOfLessAndEq]
  · rw [decide_eq_false h]
    simp only [compare, compareOfLessAndEq]
    split
    · rfl
    · rfl
theorem eqC (x y : Int × Int) (hx : Rt x) (hy : Rt y) (t : TypeId) (w : World) : (binOp .eql t (C x) (C y)).run Try.prog w = .ok (.bool (decide (x = y))) w := by
  unfold C
  rw [run_eql_complex, ord_eq _ _ hx.lo1 hx.hi1 hy.lo1 hy.hi1, ord_eq _ _ hx.lo2 hx.hi2 hy.lo2 hy.hi2]
  congr 2
  rw [Bool.eq_iff_iff]
  simp [Prod.ext_iff]
theorem neC (x y : Int × Int) (hx : Rt x) (hy : Rt y) (t : TypeId) (w : World) : (binOp .neq t (C x) (C y)).run Try.prog w = .ok (.bool !(decide (x = y))) w := by
  unfold C
  rw [run_neq_complex, ord_eq _ _ hx.lo1 hx.hi1 hy.lo1 hy.hi1, ord_eq _ _ hx.lo2 hx.hi2 hy.lo2 hy.hi2]
  congr 3
  rw [Bool.eq_iff_iff]
  simp [Prod.ext_iff]
theorem eqGuardC (op : BinOp) (t : TypeId) (l r : Operand) (x y : Int × Int) (w : World) : (eqGuard op t l r (C x) (C y)).run Try.prog w = .ok () w := by
  unfold C eqGuard
  cases op <;> rfl
theorem eqC_of (x y : Int × Int) (hx : Rt x) (hy : Rt y) (h : x = y) (t : TypeId) (w : World) : (binOp .eql t (C x) (C y)).run Try.prog w = .ok (.bool true) w := by
  rw [eqC x y hx hy, decide_eq_true h]
theorem neC_of (x y : Int × Int) (hx : Rt x) (hy : Rt y) (h : x = y) (t : TypeId) (w : World) : (binOp .neq t (C x) (C y)).run Try.prog w = .ok (.bool false) w := by
  rw [neC x y hx hy, decide_eq_true h]; rfl
end Go.Proofs.Ytkjdhnomehhijaa
