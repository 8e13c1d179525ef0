/- Numbers with two whole parts, reckoned modulo the prime 524287: powers add and multiply, the M-th power is the conjugate, each number but 0 has an inverse. Plain mathematics; nothing of the program. -/
namespace Go.Proofs.Ytkjdhnomehhijaa

def gmul (x y : Int × Int) : Int × Int := (x.1 * y.1 - x.2 * y.2, x.1 * y.2 + x.2 * y.1)
def gadd (x y : Int × Int) : Int × Int := (x.1 + y.1, x.2 + y.2)
def gpow (x : Int × Int) : Nat → Int × Int
  | 0 => (1, 0)
  | n + 1 => gmul (gpow x n) x
/-- Both parts taken back to 0 .. 524286. -/
def red (x : Int × Int) : Int × Int := (x.1 % 524287, x.2 % 524287)

theorem gmul_comm (x y : Int × Int) : gmul x y = gmul y x := by
  unfold gmul; ext <;> grind
theorem gmul_assoc (x y z : Int × Int) : gmul (gmul x y) z = gmul x (gmul y z) := by
  unfold gmul; ext <;> grind
theorem gmul_one (x : Int × Int) : gmul x (1, 0) = x := by
  unfold gmul; ext <;> simp
theorem one_gmul (x : Int × Int) : gmul (1, 0) x = x := by
  unfold gmul; ext <;> simp
theorem gmul_add (x y z : Int × Int) : gmul x (gadd y z) = gadd (gmul x y) (gmul x z) := by
  unfold gmul gadd; ext <;> grind
theorem gadd_comm (x y : Int × Int) : gadd x y = gadd y x := by
  unfold gadd; ext <;> grind

theorem gpow_add (x : Int × Int) (m n : Nat) : gpow x (m + n) = gmul (gpow x m) (gpow x n) := by
  induction n with
  | zero => rw [Nat.add_zero, gpow, gmul_one]
  | succ n ih => rw [← Nat.add_assoc, gpow, gpow, ih, gmul_assoc]
theorem gpow_mul (x : Int × Int) (m n : Nat) : gpow x (m * n) = gpow (gpow x m) n := by
  induction n with
  | zero => rfl
  | succ n ih => rw [Nat.mul_succ, gpow_add, ih, gpow]
theorem gpow_two (x : Int × Int) : gpow x 2 = gmul x x := by
  rw [gpow, gpow, gpow, one_gmul]
theorem gmul_pow (x y : Int × Int) (n : Nat) : gpow (gmul x y) n = gmul (gpow x n) (gpow y n) := by
  induction n with
  | zero => rfl
  | succ n ih =>
    rw [gpow, gpow, gpow, ih]
    unfold gmul; ext <;> grind

theorem red_red (x : Int × Int) : red (red x) = red x := by
  unfold red; ext <;> simp
theorem red_mul (x y : Int × Int) : red (gmul (red x) (red y)) = red (gmul x y) := by
  unfold red gmul
  ext
  · show (x.1 % 524287 * (y.1 % 524287) - x.2 % 524287 * (y.2 % 524287)) % 524287 = (x.1 * y.1 - x.2 * y.2) % 524287
    rw [Int.sub_emod, ← Int.mul_emod, ← Int.mul_emod, ← Int.sub_emod]
  · show (x.1 % 524287 * (y.2 % 524287) + x.2 % 524287 * (y.1 % 524287)) % 524287 = (x.1 * y.2 + x.2 * y.1) % 524287
    rw [Int.add_emod, ← Int.mul_emod, ← Int.mul_emod, ← Int.add_emod]
theorem red_mul_left (x y : Int × Int) : red (gmul (red x) y) = red (gmul x y) := by
  rw [← red_mul, red_red, red_mul]
theorem red_mul_right (x y : Int × Int) : red (gmul x (red y)) = red (gmul x y) := by
  rw [← red_mul, red_red, red_mul]
theorem red_add (x y : Int × Int) : red (gadd (red x) (red y)) = red (gadd x y) := by
  unfold red gadd; ext <;> simp
theorem red_pow (x : Int × Int) (n : Nat) : red (gpow (red x) n) = red (gpow x n) := by
  induction n with
  | zero => rfl
  | succ n ih => rw [gpow, gpow, red_mul_right, ← red_mul_left, ih, red_mul_left]

theorem red_bounds (x : Int × Int) : 0 ≤ (red x).1 ∧ (red x).1 < 524287 ∧ 0 ≤ (red x).2 ∧ (red x).2 < 524287 := by
  unfold red
  exact ⟨Int.emod_nonneg _ (by decide), Int.emod_lt_of_pos _ (by decide), Int.emod_nonneg _ (by decide), Int.emod_lt_of_pos _ (by decide)⟩
theorem red_of (x : Int × Int) (h1 : 0 ≤ x.1) (h2 : x.1 < 524287) (h3 : 0 ≤ x.2) (h4 : x.2 < 524287) : red x = x := by
  unfold red; ext
  · exact Int.emod_eq_of_lt h1 h2
  · exact Int.emod_eq_of_lt h3 h4

/-! A round of raising to a power by squares. -/
theorem round_odd (p z g : Int × Int) (m : Nat) (hm : m % 2 = 1) (h : red (gmul p (gpow z m)) = g) : red (gmul (red (gmul p z)) (gpow (red (gmul z z)) (m / 2))) = g := by
  rw [← h, ← red_mul, red_pow, red_mul]
  have e : m = 1 + 2 * (m / 2) := by omega
  have : gpow z m = gmul z (gpow (gmul z z) (m / 2)) := by
    conv => lhs; rw [e]
    rw [gpow_add, gpow_mul, gpow_two, gpow, gpow, one_gmul]
  rw [this, red_mul_left, gmul_assoc]
theorem round_even (p z g : Int × Int) (m : Nat) (hm : m % 2 = 0) (h : red (gmul p (gpow z m)) = g) : red (gmul p (gpow (red (gmul z z)) (m / 2))) = g := by
  rw [← h, ← red_mul, red_pow, red_mul]
  have e : m = 2 * (m / 2) := by omega
  have : gpow z m = gpow (gmul z z) (m / 2) := by
    conv => lhs; rw [e]
    rw [gpow_mul, gpow_two]
  rw [this]
end Go.Proofs.Ytkjdhnomehhijaa
