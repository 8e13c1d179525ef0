/- Contracts of spins: what New, Next, Copy and there do. -/
import Derived.Test.YtkjdhnomehhijaaWalksA
import Derived.Below
import Derived.Deep.QuietTactic
import Derived.BigQuiet
namespace Go.Proofs.Ytkjdhnomehhijaa
open Go.RowKit

set_option maxHeartbeats 400000 in
theorem there_yes (blk : Nat) (w : World) (h1 : w.cell? ⟨blk, 1, none⟩ = some (.bool true)) :
    Calls Try.prog 29 #[.pointer (some ⟨blk, 0, none⟩)] w fun e w' => e = .returned (.bool true) ∧ w' = w := by
  go_enter Try.func29, Try.ntmps29
  go_wp2
  go_ret
  exact ⟨rfl, rfl⟩

set_option maxHeartbeats 400000 in
theorem next_any (x y n : Int) (blk : Nat) (w : World) (hx : 0 ≤ x) (hx' : x < 524287) (hy : 0 ≤ y) (hy' : y < 524287)
    (h0 : w.cell? ⟨blk, 0, none⟩ = some (.complex .f64 (F x) (F y))) (h1 : w.cell? ⟨blk, 1, none⟩ = some (.bool true)) (hf : w.frozen? ⟨blk, 0, none⟩ = false) (hn : 1 ≤ n) :
    Calls Try.prog 11 #[.pointer (some ⟨blk, 0, none⟩), .int .i64 n] w fun e w' => e = .returned (.int .i64 (((x * 3 - y * 2 + 1) % 524287 + (x * 2 + y * 3) % 524287) % n)) ∧ ∃ k, w' = (w.setCell ⟨blk, 0, none⟩ (.complex .f64 (F ((x * 3 - y * 2 + 1) % 524287)) (F ((x * 2 + y * 3) % 524287)))).drewN k := by
  have m1 := fun t w => run_complex_mul (P := Try.prog) w t (F x) (F y) (F 3) (F 2) _ _ (mul_bits x y 3 2 hx hy (by decide) (by decide) (by omega) (by omega) (by decide) (by decide))
  have s1 : ∀ t w, (binOp .add t (.complex .f64 (F (x * 3 - y * 2)) (F (x * 2 + y * 3))) (.complex .f64 (F 1) (F 0))).run Try.prog w = .ok (.complex .f64 (F (x * 3 - y * 2 + 1)) (F (x * 2 + y * 3))) w := by
    intro t w
    have := run_complex_sum (P := Try.prog) w .add (.inl rfl) t .f64 (F (x * 3 - y * 2)) (F (x * 2 + y * 3)) (F 1) (F 0) _ _ (sum_bits (x * 3 - y * 2) (x * 2 + y * 3) 1 0 (by omega) (by omega) (by omega) (by omega) (by omega) (by omega))
    rwa [Int.add_zero] at this
  rw [F_3, F_2] at m1
  rw [F_1, F_zero] at s1
  have q1 : (x * 3 - y * 2 + 1).natAbs < 9007199254740992 := by omega
  have q2 : (x * 2 + y * 3).natAbs < 9007199254740992 := by omega
  have r1 := mod_lo (x * 3 - y * 2 + 1)
  have r2 := mod_hi (x * 3 - y * 2 + 1)
  have r3 := mod_lo (x * 2 + y * 3)
  have r4 := mod_hi (x * 2 + y * 3)
  have a1 : ∀ t w, (binOp .add t (.float .f64 (F ((x * 3 - y * 2 + 1) % 524287))) (.float .f64 (F ((x * 2 + y * 3) % 524287)))).run Try.prog w = .ok (.float .f64 (F ((x * 3 - y * 2 + 1) % 524287 + (x * 2 + y * 3) % 524287))) w := fun t w => run_float_arith w .add t .f64 _ _ _ (bits_add _ _ (by omega) (by omega) (by omega))
  have c1 : ∀ w, (convert 42 3 (.float .f64 (F ((x * 3 - y * 2 + 1) % 524287 + (x * 2 + y * 3) % 524287)))).run Try.prog w = .ok (.int .i64 ((x * 3 - y * 2 + 1) % 524287 + (x * 2 + y * 3) % 524287)) w := fun w => run_convert_float_int w 42 3 .f64 .i64 _ _ (by rw [Try.underlying42]; rfl) Try.underlying3 (toInt_val _ (by omega))
  have hst : ∀ w a x y m, (store a (.complex .f64 x y) m).run Try.prog w = stored Try.prog w a (.complex .f64 x y) m := fun w a x y m => run_store _ w a _ m rfl
  go_enter Try.func11, Try.ntmps11
  go_wp2_with (first | (go_at_call 29; refine (there_yes _ _ (by assumption)).mono ?_; rintro e w' ⟨rfl, rfl⟩) | (go_at_call 30; refine (reduce_any _ _ _ (by assumption) (by assumption)).mono ?_; rintro e w' ⟨rfl, rfl⟩))
  go_quiet (fail)
  go_wp2
  go_ret
  exact ⟨rfl, nq, rfl⟩

set_option maxHeartbeats 400000 in
theorem next_low (x y n : Int) (blk : Nat) (w : World) (hx : 0 ≤ x) (hx' : x < 524287) (hy : 0 ≤ y) (hy' : y < 524287)
    (h0 : w.cell? ⟨blk, 0, none⟩ = some (.complex .f64 (F x) (F y))) (h1 : w.cell? ⟨blk, 1, none⟩ = some (.bool true)) (hf : w.frozen? ⟨blk, 0, none⟩ = false) (hn : n < 1) :
    Calls Try.prog 11 #[.pointer (some ⟨blk, 0, none⟩), .int .i64 n] w fun e w' => e = .returned (.int .i64 0) ∧ w' = w.setCell ⟨blk, 0, none⟩ (.complex .f64 (F ((x * 3 - y * 2 + 1) % 524287)) (F ((x * 2 + y * 3) % 524287))) := by
  have m1 := fun t w => run_complex_mul (P := Try.prog) w t (F x) (F y) (F 3) (F 2) _ _ (mul_bits x y 3 2 hx hy (by decide) (by decide) (by omega) (by omega) (by decide) (by decide))
  have s1 : ∀ t w, (binOp .add t (.complex .f64 (F (x * 3 - y * 2)) (F (x * 2 + y * 3))) (.complex .f64 (F 1) (F 0))).run Try.prog w = .ok (.complex .f64 (F (x * 3 - y * 2 + 1)) (F (x * 2 + y * 3))) w := by
    intro t w
    have := run_complex_sum (P := Try.prog) w .add (.inl rfl) t .f64 (F (x * 3 - y * 2)) (F (x * 2 + y * 3)) (F 1) (F 0) _ _ (sum_bits (x * 3 - y * 2) (x * 2 + y * 3) 1 0 (by omega) (by omega) (by omega) (by omega) (by omega) (by omega))
    rwa [Int.add_zero] at this
  rw [F_3, F_2] at m1
  rw [F_1, F_zero] at s1
  have q1 : (x * 3 - y * 2 + 1).natAbs < 9007199254740992 := by omega
  have q2 : (x * 2 + y * 3).natAbs < 9007199254740992 := by omega
  have hst : ∀ w a x y m, (store a (.complex .f64 x y) m).run Try.prog w = stored Try.prog w a (.complex .f64 x y) m := fun w a x y m => run_store _ w a _ m rfl
  go_enter Try.func11, Try.ntmps11
  go_wp2_with (first | (go_at_call 29; refine (there_yes _ _ (by assumption)).mono ?_; rintro e w' ⟨rfl, rfl⟩) | (go_at_call 30; refine (reduce_any _ _ _ (by assumption) (by assumption)).mono ?_; rintro e w' ⟨rfl, rfl⟩))
  go_ret
  exact ⟨rfl, rfl⟩

set_option maxHeartbeats 400000 in
theorem new_any (seed : Int) (w : World) :
    Calls Try.prog 9 #[.int .i64 seed] w fun e w' => e = .returned (.pointer (some ⟨w.heap.size, 0, none⟩)) ∧ w' = w.alloc (.cells #[.complex .f64 (F (seed % 524287)) 4607182418800017408, .bool true] 35) := by
  go_enter Try.func9, Try.ntmps9
  go_wp2_with (first | (go_at_call 27; refine (residue_any _ _).mono ?_; rintro e w' ⟨rfl, rfl⟩))
  go_ret
  exact ⟨rfl, rfl⟩

theorem new_zero (w : World) :
    Calls Try.prog 9 #[.int .i64 0] w fun e w' => e = .returned (.pointer (some ⟨w.heap.size, 0, none⟩)) ∧ w' = w.alloc (.cells #[.complex .f64 (F 0) (F 1), .bool true] 35) := by
  have := new_any 0 w
  rw [← F_1] at this
  exact this

theorem next_ten (blk : Nat) (w : World) (h0 : w.cell? ⟨blk, 0, none⟩ = some (.complex .f64 (F 0) (F 1))) (h1 : w.cell? ⟨blk, 1, none⟩ = some (.bool true)) (hf : w.frozen? ⟨blk, 0, none⟩ = false) :
    Calls Try.prog 11 #[.pointer (some ⟨blk, 0, none⟩), .int .i64 10] w fun e w' => e = .returned (.int .i64 9) ∧ ∃ k v, w' = (w.setCell ⟨blk, 0, none⟩ v).drewN k := by
  refine (next_any 0 1 10 blk w (by decide) (by decide) (by decide) (by decide) h0 h1 hf (by decide)).mono ?_
  rintro e w' ⟨rfl, k, rfl⟩
  exact ⟨rfl, k, _, rfl⟩

theorem times_test (w : World) :
    Calls Try.prog 20 #[.complex .f64 4607182418800017408 4611686018427387904, .complex .f64 4613937818241073152 4616189618054758400] w fun e w' => e = .returned (.tuple #[.complex .f64 4692750708640841728 4621819117588971520, .bool true]) ∧ w' = w := by
  have := times_any 1 2 3 4 w (by decide) (by decide) (by decide) (by decide) (by decide) (by decide) (by decide) (by decide)
  rw [F_1, F_2, F_3, F_4, show ((1 : Int) * 3 - 2 * 4) % 524287 = 524282 from rfl, show ((1 : Int) * 4 + 2 * 3) % 524287 = 10 from rfl, F_M5, F_10] at this
  exact this

theorem grown_drewN {W w' : World} (h : Grown W w') (k : Nat) : Grown W (w'.drewN k) := by
  induction k with
  | zero => exact h
  | succ k ih => exact ih.drew

set_option maxHeartbeats 400000 in
theorem awake_any (w : World) :
    Calls Try.prog 8 #[] w fun e w' => e = .returned (.bool true) ∧ Grown w w' ∧ Below w.heap.size w w' := by
  have o1 : FloatKind.f64.format.order 4692750708640841728 4692750708640841728 = some .eq := by decide +kernel
  have o2 : FloatKind.f64.format.order 4621819117588971520 4621819117588971520 = some .eq := by decide +kernel
  go_enter Try.func8, Try.ntmps8
  go_wp2_with (first | (go_at_call 20; refine (times_test _).mono ?_; rintro e w' ⟨rfl, rfl⟩) | (go_at_call 9; refine (new_zero _).mono ?_; rintro e w' ⟨rfl, rfl⟩) | (go_at_call 11; refine (next_ten _ _ (by go_simp) (by go_simp) (by go_simp)).mono ?_; rintro e w'' ⟨rfl, k, v, rfl⟩))
  go_ret
  exact ⟨rfl, grown_drewN ((Grown.refl _).alloc _ _) _, below_drewN ((Below.refl _ _).alloc (Nat.le_refl _) _) _⟩

/-! Spins that aren't there: nil, and one that no call made. -/
set_option maxHeartbeats 400000 in
theorem there_nil (w : World) : Calls Try.prog 29 #[.pointer none] w fun e w' => e = .returned (.bool false) ∧ w' = w := by
  go_enter Try.func29, Try.ntmps29
  go_wp2
  go_ret
  exact ⟨rfl, rfl⟩
set_option maxHeartbeats 400000 in
theorem there_no (blk : Nat) (w : World) (h1 : w.cell? ⟨blk, 1, none⟩ = some (.bool false)) :
    Calls Try.prog 29 #[.pointer (some ⟨blk, 0, none⟩)] w fun e w' => e = .returned (.bool false) ∧ w' = w := by
  go_enter Try.func29, Try.ntmps29
  go_wp2
  go_ret
  exact ⟨rfl, rfl⟩
/-- What 'there' answers no of. -/
structure NoSpin (p : Option Addr) (w : World) : Prop where
  no : Calls Try.prog 29 #[.pointer p] w fun e w' => e = .returned (.bool false) ∧ w' = w
theorem noSpin_nil (w : World) : NoSpin none w := ⟨there_nil w⟩
theorem noSpin_no (blk : Nat) (w : World) (h1 : w.cell? ⟨blk, 1, none⟩ = some (.bool false)) : NoSpin (some ⟨blk, 0, none⟩) w := ⟨there_no blk w h1⟩
set_option maxHeartbeats 400000 in
theorem next_none (p : Option Addr) (n : Int) (w : World) (h : NoSpin p w) : Calls Try.prog 11 #[.pointer p, .int .i64 n] w fun e w' => e = .returned (.int .i64 0) ∧ w' = w := by
  have H : Hid (NoSpin p w) := h
  clear h
  go_enter Try.func11, Try.ntmps11
  go_wp2_with (go_at_call 29; refine H.out.no.mono ?_; rintro e w' ⟨rfl, rfl⟩)
  go_ret
  exact ⟨rfl, rfl⟩
set_option maxHeartbeats 400000 in
theorem copy_none (p : Option Addr) (w : World) (h : NoSpin p w) : Calls Try.prog 14 #[.pointer p] w fun e w' => e = .returned (.pointer none) ∧ w' = w := by
  have H : Hid (NoSpin p w) := h
  clear h
  go_enter Try.func14, Try.ntmps14
  go_wp2_with (go_at_call 29; refine H.out.no.mono ?_; rintro e w' ⟨rfl, rfl⟩)
  go_ret
  exact ⟨rfl, rfl⟩
set_option maxHeartbeats 400000 in
theorem shuffle_none (p : Option Addr) (v : Value) (w : World) (h : NoSpin p w) : Calls Try.prog 15 #[.pointer p, v] w fun e w' => e = .returned (.slice none 0 0) ∧ w' = w := by
  have H : Hid (NoSpin p w) := h
  clear h
  go_enter Try.func15, Try.ntmps15
  go_wp2_with (go_at_call 29; refine H.out.no.mono ?_; rintro e w' ⟨rfl, rfl⟩)
  go_ret
  exact ⟨rfl, rfl⟩
end Go.Proofs.Ytkjdhnomehhijaa
