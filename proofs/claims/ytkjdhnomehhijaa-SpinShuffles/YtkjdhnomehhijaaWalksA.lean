/- Contracts of the functions of package spin over right numbers: parts are whole, from 0 to 524286. -/
import Derived.Test.YtkjdhnomehhijaaFloats
import Derived.Test.YtkjdhnomehhijaaField
import Derived.Test.YtkjdhnomehhijaaRows
import Derived.WalkKit
import Derived.WalkSpells
import Derived.WalkLawsBesides
import Derived.ScopeJumps
namespace Go.Proofs.Ytkjdhnomehhijaa
open Go.RowKit

theorem ord_zero (n : Int) (h0 : 0 ≤ n) (h : n < 524287) : (FloatKind.f64.format.order (F n) 0 == some .gt || FloatKind.f64.format.order (F n) 0 == some .eq) = true := by
  have := order_f64 n 0 (by omega) (by decide)
  rw [F_zero] at this
  rw [this]
  by_cases e : n = 0
  · subst e; decide
  · have : compare n 0 = .gt := by simp only [compare, compareOfLessAndEq]; rw [if_neg (by omega), if_neg e]
    rw [this]; decide

theorem ord_M (n : Int) (h0 : 0 ≤ n) (h : n < 524287) : FloatKind.f64.format.order (F n) 4692750794540187648 = some .lt := by
  have := order_f64 n 524287 (by omega) (by decide)
  rw [F_M] at this
  rw [this]
  congr 1
  simp only [compare, compareOfLessAndEq]; rw [if_pos h]

theorem ord_self (n : Int) (h0 : n.natAbs < 9007199254740992) : FloatKind.f64.format.order (F n) (F n) = some .eq := by
  rw [order_f64 n n h0 h0]
  congr 1
  simp [compare, compareOfLessAndEq]

set_option maxHeartbeats 400000 in
theorem rightPart_any (n : Int) (w : World) (h0 : 0 ≤ n) (h : n < 524287) :
    Calls Try.prog 34 #[.float .f64 (F n)] w fun e w' => e = .returned (.bool true) ∧ w' = w := by
  have o1 := ord_zero n h0 h
  have o2 := ord_M n h0 h
  have o3 := ord_self n (by omega)
  have c1 : ∀ w, (convert 42 2 (.float .f64 (F n))).run Try.prog w = .ok (.int .i64 n) w := fun w => run_convert_float_int w 42 2 .f64 .i64 (F n) n (by rw [Try.underlying42]; rfl) Try.underlying2 (toInt_val n (by omega))
  have c2 : ∀ w, (convert 2 42 (.int .i64 n)).run Try.prog w = .ok (.float .f64 (F n)) w := fun w => run_convert_int_float w 2 42 .i64 .f64 n (by rw [Try.underlying2]; rfl) Try.underlying42
  go_enter Try.func34, Try.ntmps34
  go_wp2
  go_ret
  exact ⟨rfl, rfl⟩

set_option maxHeartbeats 400000 in
theorem right_any (a b : Int) (w : World) (ha : 0 ≤ a) (ha' : a < 524287) (hb : 0 ≤ b) (hb' : b < 524287) :
    Calls Try.prog 22 #[.complex .f64 (F a) (F b)] w fun e w' => e = .returned (.bool true) ∧ w' = w := by
  go_enter Try.func22, Try.ntmps22
  go_wp2_with (go_at_call 34; refine (rightPart_any _ _ (by assumption) (by assumption)).mono ?_; rintro e w' ⟨rfl, rfl⟩)
  go_ret
  exact ⟨rfl, rfl⟩

theorem tmod_pos (n : Int) (h : ¬ n.tmod 524287 < 0) : n.tmod 524287 = n % 524287 := by
  have h1 := Int.emod_nonneg n (show (524287 : Int) ≠ 0 by decide)
  have h2 := Int.emod_lt_of_pos n (show (0 : Int) < 524287 by decide)
  have h3 := Int.tmod_add_mul_tdiv n 524287
  have h4 := Int.emod_add_mul_ediv n 524287
  have h5 := Int.tmod_lt_of_pos n (show (0 : Int) < 524287 by decide)
  omega
theorem tmod_neg (n : Int) (h : n.tmod 524287 < 0) : n.tmod 524287 + 524287 = n % 524287 := by
  have h1 := Int.emod_nonneg n (show (524287 : Int) ≠ 0 by decide)
  have h2 := Int.emod_lt_of_pos n (show (0 : Int) < 524287 by decide)
  have h3 := Int.tmod_add_mul_tdiv n 524287
  have h4 := Int.emod_add_mul_ediv n 524287
  have h5 : -524287 < n.tmod 524287 := by
    have := Int.lt_tmod_of_pos n (show (0 : Int) < 524287 by decide)
    omega
  omega

theorem ret_F {a b : Int} (h : a = b) : Ending.returned (.float .f64 (F a)) = .returned (.float .f64 (F b)) := by rw [h]

theorem tmod_bounds (n : Int) : -524287 < n.tmod 524287 ∧ n.tmod 524287 < 524287 := by
  have h4 := Int.lt_tmod_of_pos n (show (0 : Int) < 524287 by decide)
  have h5 := Int.tmod_lt_of_pos n (show (0 : Int) < 524287 by decide)
  omega

set_option maxHeartbeats 400000 in
theorem residue_any (n : Int) (w : World) :
    Calls Try.prog 27 #[.int .i64 n] w fun e w' => e = .returned (.float .f64 (F (n % 524287))) ∧ w' = w := by
  have c2 : ∀ m w, (convert 2 42 (.int .i64 m)).run Try.prog w = .ok (.float .f64 (F m)) w := fun m w => run_convert_int_float w 2 42 .i64 .f64 m (by rw [Try.underlying2]; rfl) Try.underlying42
  obtain ⟨b1, b2⟩ := tmod_bounds n
  go_enter Try.func27, Try.ntmps27
  go_wp2
  · go_ret
    exact ⟨ret_F (tmod_neg n (by assumption)), rfl⟩
  · go_ret
    exact ⟨ret_F (tmod_pos n (by omega)), rfl⟩

set_option maxHeartbeats 400000 in
theorem reduce_any (a b : Int) (w : World) (ha : a.natAbs < 9007199254740992) (hb : b.natAbs < 9007199254740992) :
    Calls Try.prog 30 #[.complex .f64 (F a) (F b)] w fun e w' => e = .returned (.complex .f64 (F (a % 524287)) (F (b % 524287))) ∧ w' = w := by
  have c1 : ∀ w, (convert 42 2 (.float .f64 (F a))).run Try.prog w = .ok (.int .i64 a) w := fun w => run_convert_float_int w 42 2 .f64 .i64 (F a) a (by rw [Try.underlying42]; rfl) Try.underlying2 (toInt_val a ha)
  have c2 : ∀ w, (convert 42 2 (.float .f64 (F b))).run Try.prog w = .ok (.int .i64 b) w := fun w => run_convert_float_int w 42 2 .f64 .i64 (F b) b (by rw [Try.underlying42]; rfl) Try.underlying2 (toInt_val b hb)
  go_enter Try.func30, Try.ntmps30
  go_wp2_with (go_at_call 27; refine (residue_any _ _).mono ?_; rintro e w' ⟨rfl, rfl⟩)
  go_ret
  exact ⟨rfl, rfl⟩

theorem prod_bounds (x y : Int) (hx : 0 ≤ x) (hy : 0 ≤ y) (hx' : x < 524287) (hy' : y < 524287) : 0 ≤ x * y ∧ x * y < 1099511627776 := by
  refine ⟨Int.mul_nonneg hx hy, ?_⟩
  have h1 : x * y ≤ 1048575 * y := Int.mul_le_mul_of_nonneg_right (by omega) hy
  omega

set_option maxHeartbeats 400000 in
theorem times_any (a b c d : Int) (w : World) (ha : 0 ≤ a) (ha' : a < 524287) (hb : 0 ≤ b) (hb' : b < 524287) (hc : 0 ≤ c) (hc' : c < 524287) (hd : 0 ≤ d) (hd' : d < 524287) :
    Calls Try.prog 20 #[.complex .f64 (F a) (F b), .complex .f64 (F c) (F d)] w fun e w' => e = .returned (.tuple #[.complex .f64 (F ((a * c - b * d) % 524287)) (F ((a * d + b * c) % 524287)), .bool true]) ∧ w' = w := by
  have p1 := prod_bounds a c ha hc ha' hc'
  have p2 := prod_bounds b d hb hd hb' hd'
  have p3 := prod_bounds a d ha hd ha' hd'
  have p4 := prod_bounds b c hb hc hb' hc'
  have q1 : (a * c - b * d).natAbs < 9007199254740992 := by omega
  have q2 : (a * d + b * c).natAbs < 9007199254740992 := by omega
  have hop := fun t w => run_complex_mul (P := Try.prog) w t (F a) (F b) (F c) (F d) _ _ (mul_bits a b c d ha hb hc hd (by omega) (by omega) (by omega) (by omega))
  clear p1 p2 p3 p4
  go_enter Try.func20, Try.ntmps20
  go_wp2_with (first | (go_at_call 22; refine (right_any _ _ _ (by assumption) (by assumption) (by assumption) (by assumption)).mono ?_; rintro e w' ⟨rfl, rfl⟩) | (go_at_call 30; refine (reduce_any _ _ _ (by assumption) (by assumption)).mono ?_; rintro e w' ⟨rfl, rfl⟩))
  go_ret2
  exact ⟨rfl, rfl⟩

set_option maxHeartbeats 400000 in
theorem plus_any (a b c d : Int) (w : World) (ha : 0 ≤ a) (ha' : a < 524287) (hb : 0 ≤ b) (hb' : b < 524287) (hc : 0 ≤ c) (hc' : c < 524287) (hd : 0 ≤ d) (hd' : d < 524287) :
    Calls Try.prog 21 #[.complex .f64 (F a) (F b), .complex .f64 (F c) (F d)] w fun e w' => e = .returned (.tuple #[.complex .f64 (F ((a + c) % 524287)) (F ((b + d) % 524287)), .bool true]) ∧ w' = w := by
  have q1 : (a + c).natAbs < 9007199254740992 := by omega
  have q2 : (b + d).natAbs < 9007199254740992 := by omega
  have hop := fun t w => run_complex_sum (P := Try.prog) w .add (.inl rfl) t .f64 (F a) (F b) (F c) (F d) _ _ (sum_bits a b c d (by omega) (by omega) (by omega) (by omega) (by omega) (by omega))
  go_enter Try.func21, Try.ntmps21
  go_wp2_with (first | (go_at_call 22; refine (right_any _ _ _ (by assumption) (by assumption) (by assumption) (by assumption)).mono ?_; rintro e w' ⟨rfl, rfl⟩) | (go_at_call 30; refine (reduce_any _ _ _ (by assumption) (by assumption)).mono ?_; rintro e w' ⟨rfl, rfl⟩))
  go_ret2
  exact ⟨rfl, rfl⟩

def intAt : Value → Int | .int _ q => q | _ => 0

/-- What holds at the label 'square'. -/
def AtSquare (a b n : Int) (w : World) (A : Act) (W : World) : Prop :=
  W = w ∧ ∃ (m c d p q : Int) (u4 u5 u7 u8 u9 u10 u11 u12 u13 u14 u15 u16 u17 u18 u19 u20 u21 u22 u23 u24 u25 u26 u27 u28 u29 : Value), A = { tmps := #[.complex .f64 (F c) (F d), .int .i64 m, undef, undef, u4, u5, .complex .f64 (F p) (F q), u7, u8, u9, u10, u11, u12, u13, u14, u15, u16, u17, u18, u19, u20, u21, u22, u23, u24, u25, u26, u27, u28, u29], defers := [] } ∧
    0 ≤ m ∧ m ≤ n ∧ 0 ≤ c ∧ c < 524287 ∧ 0 ≤ d ∧ d < 524287 ∧ 0 ≤ p ∧ p < 524287 ∧ 0 ≤ q ∧ q < 524287 ∧ red (gmul (p, q) (gpow (c, d) m.toNat)) = red (gpow (a, b) n.toNat)

theorem fin_pair (p q : Int) (g : Int × Int) (hp : 0 ≤ p) (hp' : p < 524287) (hq : 0 ≤ q) (hq' : q < 524287) (z : Int × Int) (h : red (gmul (p, q) (gpow z (0 : Int).toNat)) = g) :
    Ending.returned (.tuple #[.complex .f64 (F p) (F q), .bool true]) = .returned (.tuple #[.complex .f64 (F g.1) (F g.2), .bool true]) := by
  have e : gpow z (0 : Int).toNat = (1, 0) := rfl
  rw [e, gmul_one, red_of (p, q) hp hp' hq hq'] at h
  rw [← h]
theorem odd_pair (p q c d m : Int) (g : Int × Int) (hm : 0 ≤ m) (ho : m % 2 = 1) (h : red (gmul (p, q) (gpow (c, d) m.toNat)) = g) :
    red (gmul ((p * c - q * d) % 524287, (p * d + q * c) % 524287) (gpow ((c * c - d * d) % 524287, (c * d + d * c) % 524287) (m / 2).toNat)) = g := by
  have := round_odd (p, q) (c, d) g m.toNat (by omega) h
  rw [show (m / 2).toNat = m.toNat / 2 by omega]
  exact this
theorem even_pair (p q c d m : Int) (g : Int × Int) (hm : 0 ≤ m) (ho : ¬ m % 2 = 1) (h : red (gmul (p, q) (gpow (c, d) m.toNat)) = g) :
    red (gmul (p, q) (gpow ((c * c - d * d) % 524287, (c * d + d * c) % 524287) (m / 2).toNat)) = g := by
  have := round_even (p, q) (c, d) g m.toNat (by omega) h
  rw [show (m / 2).toNat = m.toNat / 2 by omega]
  exact this
theorem mod_lo (x : Int) : 0 ≤ x % 524287 := Int.emod_nonneg _ (by decide)
theorem mod_hi (x : Int) : x % 524287 < 524287 := Int.emod_lt_of_pos _ (by decide)

set_option maxHeartbeats 400000 in
theorem power_any (a b n : Int) (w : World) (ha : 0 ≤ a) (ha' : a < 524287) (hb : 0 ≤ b) (hb' : b < 524287) (hn : 0 ≤ n) (hn' : n < 4611686018427387904) :
    Calls Try.prog 23 #[.complex .f64 (F a) (F b), .int .i64 n] w fun e w' => e = .returned (.tuple #[.complex .f64 (F (red (gpow (a, b) n.toNat)).1) (F (red (gpow (a, b) n.toNat)).2), .bool true]) ∧ w' = w := by
  go_enter Try.func23, Try.ntmps23
  go_wp2
  refine wp_scope_jumps 0 (AtSquare a b n w) (fun A _ => (intAt (A.tmps.getD 1 undef)).toNat) rfl ?_ ?_
  · go_wp2_with (first | (go_at_call 22; refine (right_any _ _ _ (by assumption) (by assumption) (by assumption) (by assumption)).mono ?_; rintro e w' ⟨rfl, rfl⟩))
    go_step3
    have e1 : Value.complex .f64 4607182418800017408 0 = .complex .f64 (F 1) (F 0) := by rw [F_1, F_zero]
    rw [e1]
    clear e1
    obtain ⟨p, hpe⟩ : ∃ p : Int, 1 = p := ⟨_, rfl⟩
    obtain ⟨q, hqe⟩ : ∃ q : Int, 0 = q := ⟨_, rfl⟩
    have hp : 0 ≤ p := by omega
    have hp' : p < 524287 := by omega
    have hq : 0 ≤ q := by omega
    have hq' : q < 524287 := by omega
    have hrel : red (gmul (p, q) (gpow (a, b) n.toNat)) = red (gpow (a, b) n.toNat) := by rw [← hpe, ← hqe, one_gmul]
    rw [show F 1 = F p by rw [hpe], show F 0 = F q by rw [hqe]]
    clear hpe hqe
    have HR : Hid (red (gmul (p, q) (gpow (a, b) n.toNat)) = red (gpow (a, b) n.toNat)) := hrel
    clear hrel
    have p1 := prod_bounds p a hp ha hp' ha'
    have p2 := prod_bounds q b hq hb hq' hb'
    have p3 := prod_bounds p b hp hb hp' hb'
    have p4 := prod_bounds q a hq ha hq' ha'
    have p5 := prod_bounds a a ha ha ha' ha'
    have p6 := prod_bounds b b hb hb hb' hb'
    have p7 := prod_bounds a b ha hb ha' hb'
    have p8 := prod_bounds b a hb ha hb' ha'
    have q1 : (p * a - q * b).natAbs < 9007199254740992 := by omega
    have q2 : (p * b + q * a).natAbs < 9007199254740992 := by omega
    have q3 : (a * a - b * b).natAbs < 9007199254740992 := by omega
    have q4 : (a * b + b * a).natAbs < 9007199254740992 := by omega
    clear p1 p2 p3 p4 p5 p6 p7 p8
    have hop := fun t w => run_complex_mul (P := Try.prog) w t (F p) (F q) (F a) (F b) _ _ (mul_bits p q a b hp hq ha hb (by omega) (by omega) (by omega) (by omega))
    have hsq := fun t w => run_complex_mul (P := Try.prog) w t (F a) (F b) (F a) (F b) _ _ (mul_bits a b a b ha hb ha hb (by omega) (by omega) (by omega) (by omega))
    by_cases h0 : n = 0
    · have hz : (n == 0) = true := by simpa using h0
      have H0 : Hid (n = 0) := h0
      clear h0
      go_wp2
      simp only [Exit.jump]
      go_ret2
      have hr := HR.out
      rw [H0.out] at hr ⊢
      exact ⟨fin_pair p q _ hp hp' hq hq' (a, b) hr, rfl⟩
    · have hz : (n == 0) = false := by simpa using h0
      by_cases ho : n % 2 = 1
      · have HO : Hid (n % 2 = 1) := ho
        have hodd : (n % 2 == 1) = true := by simpa using ho
        clear ho
        go_wp2_with (first | (go_at_call 30; refine (reduce_any _ _ _ (by assumption) (by assumption)).mono ?_; rintro e w' ⟨rfl, rfl⟩))
        go_step3
        exact ⟨rfl, ⟨rfl, n / 2, _, _, _, _, _, _, _, _, _, _, _, _, _, _, _, _, _, _, _, _, _, _, _, _, _, _, _, _, _, rfl, by omega, by omega, mod_lo _, mod_hi _, mod_lo _, mod_hi _, mod_lo _, mod_hi _, mod_lo _, mod_hi _, odd_pair _ _ _ _ _ _ hn HO.out HR.out⟩⟩
      · have hodd : (n % 2 == 1) = false := by simpa using ho
        have HO : Hid (¬ n % 2 = 1) := ho
        clear ho
        go_wp2_with (first | (go_at_call 30; refine (reduce_any _ _ _ (by assumption) (by assumption)).mono ?_; rintro e w' ⟨rfl, rfl⟩))
        go_step3
        exact ⟨rfl, ⟨rfl, n / 2, _, _, p, q, _, _, _, _, _, _, _, _, _, _, _, _, _, _, _, _, _, _, _, _, _, _, _, _, _, rfl, by omega, by omega, mod_lo _, mod_hi _, mod_lo _, mod_hi _, hp, hp', hq, hq', even_pair _ _ _ _ _ _ hn HO.out HR.out⟩⟩
  · rintro A W ⟨rfl, m, c, d, p, q, u4, u5, u7, u8, u9, u10, u11, u12, u13, u14, u15, u16, u17, u18, u19, u20, u21, u22, u23, u24, u25, u26, u27, u28, u29, rfl, hm, hmn, hc, hc', hd, hd', hp, hp', hq, hq', hrel⟩
    have HR : Hid (red (gmul (p, q) (gpow (c, d) m.toNat)) = red (gpow (a, b) n.toNat)) := hrel
    clear hrel
    have p1 := prod_bounds p c hp hc hp' hc'
    have p2 := prod_bounds q d hq hd hq' hd'
    have p3 := prod_bounds p d hp hd hp' hd'
    have p4 := prod_bounds q c hq hc hq' hc'
    have p5 := prod_bounds c c hc hc hc' hc'
    have p6 := prod_bounds d d hd hd hd' hd'
    have p7 := prod_bounds c d hc hd hc' hd'
    have p8 := prod_bounds d c hd hc hd' hc'
    have q1 : (p * c - q * d).natAbs < 9007199254740992 := by omega
    have q2 : (p * d + q * c).natAbs < 9007199254740992 := by omega
    have q3 : (c * c - d * d).natAbs < 9007199254740992 := by omega
    have q4 : (c * d + d * c).natAbs < 9007199254740992 := by omega
    clear p1 p2 p3 p4 p5 p6 p7 p8
    have hop := fun t w => run_complex_mul (P := Try.prog) w t (F p) (F q) (F c) (F d) _ _ (mul_bits p q c d hp hq hc hd (by omega) (by omega) (by omega) (by omega))
    have hsq := fun t w => run_complex_mul (P := Try.prog) w t (F c) (F d) (F c) (F d) _ _ (mul_bits c d c d hc hd hc hd (by omega) (by omega) (by omega) (by omega))
    by_cases h0 : m = 0
    · subst h0
      go_wp2
      simp only [Exit.jump]
      go_ret2
      exact ⟨fin_pair p q _ hp hp' hq hq' (c, d) HR.out, rfl⟩
    · have hz : (m == 0) = false := by simpa using h0
      by_cases ho : m % 2 = 1
      · have HO : Hid (m % 2 = 1) := ho
        have hodd : (m % 2 == 1) = true := by simpa using ho
        clear ho
        go_wp2_with (first | (go_at_call 30; refine (reduce_any _ _ _ (by assumption) (by assumption)).mono ?_; rintro e w' ⟨rfl, rfl⟩))
        go_step3
        refine ⟨rfl, ⟨rfl, m / 2, _, _, _, _, _, _, _, _, _, _, _, _, _, _, _, _, _, _, _, _, _, _, _, _, _, _, _, _, _, rfl, by omega, by omega, mod_lo _, mod_hi _, mod_lo _, mod_hi _, mod_lo _, mod_hi _, mod_lo _, mod_hi _, odd_pair _ _ _ _ _ _ hm HO.out HR.out⟩, ?_⟩
        simp [intAt]; omega
      · have hodd : (m % 2 == 1) = false := by simpa using ho
        have HO : Hid (¬ m % 2 = 1) := ho
        clear ho
        go_wp2_with (first | (go_at_call 30; refine (reduce_any _ _ _ (by assumption) (by assumption)).mono ?_; rintro e w' ⟨rfl, rfl⟩))
        go_step3
        refine ⟨rfl, ⟨rfl, m / 2, _, _, p, q, _, _, _, _, _, _, _, _, _, _, _, _, _, _, _, _, _, _, _, _, _, _, _, _, _, rfl, by omega, by omega, mod_lo _, mod_hi _, mod_lo _, mod_hi _, hp, hp', hq, hq', even_pair _ _ _ _ _ _ hm HO.out HR.out⟩, ?_⟩
        simp [intAt]; omega
end Go.Proofs.Ytkjdhnomehhijaa
