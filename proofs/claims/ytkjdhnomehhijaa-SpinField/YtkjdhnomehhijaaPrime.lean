/- Pairs of whole numbers modulo a prime p that is 3 modulo 4: the p-th power is the conjugate; each pair but 0 has the power p^2 - 1 equal to 1. Plain mathematics; nothing of the program. -/
import Derived.Test.YtkjdhnomehhijaaField
namespace Go.Proofs.Ytkjdhnomehhijaa

/-! Congruence of pairs. -/
def Cg (p : Int) (x y : Int × Int) : Prop := p ∣ (x.1 - y.1) ∧ p ∣ (x.2 - y.2)
theorem Cg.refl (p : Int) (x : Int × Int) : Cg p x x := ⟨by simp, by simp⟩
theorem Cg.symm {p : Int} {x y : Int × Int} (h : Cg p x y) : Cg p y x := by
  obtain ⟨⟨a, ha⟩, ⟨b, hb⟩⟩ := h
  exact ⟨⟨-a, by grind⟩, ⟨-b, by grind⟩⟩
theorem Cg.trans {p : Int} {x y z : Int × Int} (h : Cg p x y) (k : Cg p y z) : Cg p x z := by
  obtain ⟨⟨a, ha⟩, ⟨b, hb⟩⟩ := h
  obtain ⟨⟨c, hc⟩, ⟨d, hd⟩⟩ := k
  exact ⟨⟨a + c, by grind⟩, ⟨b + d, by grind⟩⟩
theorem Cg.add {p : Int} {x y z t : Int × Int} (h : Cg p x y) (k : Cg p z t) : Cg p (gadd x z) (gadd y t) := by
  obtain ⟨⟨a, ha⟩, ⟨b, hb⟩⟩ := h
  obtain ⟨⟨c, hc⟩, ⟨d, hd⟩⟩ := k
  unfold gadd
  exact ⟨⟨a + c, by grind⟩, ⟨b + d, by grind⟩⟩
theorem Cg.mul {p : Int} {x y z t : Int × Int} (h : Cg p x y) (k : Cg p z t) : Cg p (gmul x z) (gmul y t) := by
  obtain ⟨⟨a, ha⟩, ⟨b, hb⟩⟩ := h
  obtain ⟨⟨c, hc⟩, ⟨d, hd⟩⟩ := k
  unfold gmul
  have e1 : x.1 = y.1 + p * a := by grind
  have e2 : x.2 = y.2 + p * b := by grind
  have e3 : z.1 = t.1 + p * c := by grind
  have e4 : z.2 = t.2 + p * d := by grind
  refine ⟨⟨y.1 * c + a * t.1 + p * a * c - y.2 * d - b * t.2 - p * b * d, ?_⟩, ⟨y.1 * d + a * t.2 + p * a * d + y.2 * c + b * t.1 + p * b * c, ?_⟩⟩
  · simp only [e1, e2, e3, e4]; grind
  · simp only [e1, e2, e3, e4]; grind
theorem Cg.pow {p : Int} {x y : Int × Int} (h : Cg p x y) (n : Nat) : Cg p (gpow x n) (gpow y n) := by
  induction n with
  | zero => exact Cg.refl _ _
  | succ n ih => exact ih.mul h

/-! The binomial theorem. -/
def ch : Nat → Nat → Nat
  | _, 0 => 1
  | 0, _ + 1 => 0
  | n + 1, k + 1 => ch n k + ch n (k + 1)
theorem ch_zero (n : Nat) : ch n 0 = 1 := by cases n <;> rfl
theorem ch_gt (n : Nat) : ∀ k, n < k → ch n k = 0 := by
  induction n with
  | zero => intro k h; cases k with
    | zero => omega
    | succ k => rfl
  | succ n ih => intro k h; cases k with
    | zero => omega
    | succ k => rw [ch, ih k (by omega), ih (k + 1) (by omega)]
theorem ch_self (n : Nat) : ch n n = 1 := by
  induction n with
  | zero => rfl
  | succ n ih => rw [ch, ih, ch_gt n (n + 1) (by omega)]
theorem ch_mul (n : Nat) : ∀ k, (n + 1) * ch n k = ch (n + 1) (k + 1) * (k + 1) := by
  induction n with
  | zero => intro k; cases k with
    | zero => rfl
    | succ k => rw [ch, ch_gt 1 (k + 1 + 1) (by omega)]; simp
  | succ n ih => intro k; cases k with
    | zero =>
      have := ih 0
      rw [ch_zero] at this ⊢
      rw [ch, ch_zero]; omega
    | succ k =>
      have i1 := ih (k + 1)
      have i2 := ih k
      have e : ch (n + 1) (k + 1) = ch n k + ch n (k + 1) := by rw [ch]
      have e2 : ch (n + 1 + 1) (k + 1 + 1) = ch (n + 1) (k + 1) + ch (n + 1) (k + 1 + 1) := by rw [ch]
      rw [e2]
      generalize ch (n + 1) (k + 1) = A at *
      generalize ch (n + 1) (k + 1 + 1) = B at *
      generalize ch n k = c at *
      generalize ch n (k + 1) = d at *
      grind

/-- The sum of 'f k x^k y^(m - 1 - k)' over k below m. -/
def G (x y : Int × Int) (f : Nat → Int) : Nat → Int × Int
  | 0 => (0, 0)
  | m + 1 => gadd (gmul y (G x y f m)) (gmul (f m, 0) (gpow x m))
def shift (f : Nat → Int) : Nat → Int
  | 0 => 0
  | k + 1 => f k
theorem G_x (x y : Int × Int) (f : Nat → Int) (m : Nat) : gmul x (G x y f m) = G x y (shift f) (m + 1) := by
  induction m with
  | zero => simp [G, gmul, gadd, shift]
  | succ m ih =>
    rw [G, G, ← ih, gmul_add, shift, gpow]
    unfold gadd gmul; ext <;> grind
theorem G_y (x y : Int × Int) (f : Nat → Int) (m : Nat) (h : f m = 0) : gmul y (G x y f m) = G x y f (m + 1) := by
  rw [G, h]; unfold gadd gmul; simp
theorem G_add (x y : Int × Int) (f g h : Nat → Int) (e : ∀ k, h k = f k + g k) (m : Nat) : G x y h m = gadd (G x y f m) (G x y g m) := by
  induction m with
  | zero => simp [G, gadd]
  | succ m ih =>
    rw [G, G, G, ih, e]
    unfold gadd gmul; ext <;> grind
theorem binomial (x y : Int × Int) (n : Nat) : gpow (gadd x y) n = G x y (fun k => (ch n k : Int)) (n + 1) := by
  induction n with
  | zero => simp [G, gpow, gmul, gadd, ch]
  | succ n ih =>
    rw [gpow, ih, gmul_comm]
    have e : gmul (gadd x y) (G x y (fun k => (ch n k : Int)) (n + 1)) = gadd (gmul x (G x y (fun k => (ch n k : Int)) (n + 1))) (gmul y (G x y (fun k => (ch n k : Int)) (n + 1))) := by
      unfold gadd gmul; ext <;> grind
    rw [e, G_x, G_y _ _ _ _ (by simp [ch_gt n (n + 1) (by omega)])]
    rw [← G_add _ _ _ _ (fun k => (ch (n + 1) k : Int))]
    intro k
    cases k with
    | zero => simp [shift, ch_zero]
    | succ k => simp [shift, ch]

/-- A prime. -/
structure IsP (p : Nat) : Prop where
  one : 1 < p
  only : ∀ d, d ∣ p → d = 1 ∨ d = p
theorem IsP.coprime {p : Nat} (hp : IsP p) {k : Nat} (h : ¬ p ∣ k) : Nat.Coprime p k := by
  rcases hp.only (Nat.gcd p k) (Nat.gcd_dvd_left p k) with e | e
  · exact e
  · exact absurd (e ▸ Nat.gcd_dvd_right p k) h
theorem IsP.euclid {p : Nat} (hp : IsP p) {a b : Int} (h : (p : Int) ∣ a * b) : (p : Int) ∣ a ∨ (p : Int) ∣ b := by
  have h' : p ∣ a.natAbs * b.natAbs := by
    rw [← Int.natAbs_mul]; exact Int.ofNat_dvd_left.1 h
  by_cases ha : p ∣ a.natAbs
  · exact .inl (Int.ofNat_dvd_left.2 ha)
  · exact .inr (Int.ofNat_dvd_left.2 ((hp.coprime ha).dvd_of_dvd_mul_left h'))
theorem IsP.ch_dvd {p : Nat} (hp : IsP p) (k : Nat) (h0 : 0 < k) (h : k < p) : p ∣ ch p k := by
  obtain ⟨n, rfl⟩ : ∃ n, p = n + 1 := ⟨p - 1, by omega⟩
  obtain ⟨j, rfl⟩ : ∃ j, k = j + 1 := ⟨k - 1, by omega⟩
  have e := ch_mul n j
  have hc : Nat.Coprime (n + 1) (j + 1) := hp.coprime (fun hd => by have := Nat.le_of_dvd (by omega) hd; omega)
  exact hc.dvd_of_dvd_mul_right ⟨ch n j, e.symm⟩

theorem G_low {p : Nat} (hp : IsP p) (x y : Int × Int) (m : Nat) (h : m < p) : Cg p (G x y (fun k => (ch p k : Int)) (m + 1)) (gpow y m) := by
  induction m with
  | zero => simp only [G, gpow, ch_zero]; unfold gmul gadd; exact ⟨by simp, by simp⟩
  | succ m ih =>
    have eg : gpow y (m + 1) = gmul y (gpow y m) := by rw [gpow, gmul_comm]
    rw [G, eg]
    have h1 := (Cg.refl (p : Int) y).mul (ih (by omega))
    obtain ⟨c, hc⟩ := hp.ch_dvd (m + 1) (by omega) h
    have h2 : Cg p (gmul ((ch p (m + 1) : Nat), 0) (gpow x (m + 1))) (0, 0) := by
      rw [hc]; unfold gmul
      exact ⟨⟨(c : Int) * (gpow x (m + 1)).1, by grind⟩, ⟨(c : Int) * (gpow x (m + 1)).2, by grind⟩⟩
    have h3 := h1.add h2
    have e : gadd (gmul y (gpow y m)) (0, 0) = gmul y (gpow y m) := by unfold gadd; simp
    rwa [e] at h3

/-- The p-th power of a sum. -/
theorem frobenius {p : Nat} (hp : IsP p) (x y : Int × Int) : Cg p (gpow (gadd x y) p) (gadd (gpow x p) (gpow y p)) := by
  rw [binomial, G]
  obtain ⟨n, hn⟩ : ∃ n, p = n + 1 := ⟨p - 1, by have := hp.one; omega⟩
  have h1 := G_low hp x y n (by omega)
  rw [← hn] at h1
  have h2 := (Cg.refl (p : Int) y).mul h1
  have e1 : gmul y (gpow y n) = gpow y p := by rw [hn, gpow, gmul_comm]
  have e2 : gmul ((ch p p : Nat), 0) (gpow x p) = gpow x p := by rw [ch_self]; exact one_gmul _
  rw [e1] at h2
  have h3 := h2.add (Cg.refl (p : Int) (gpow x p))
  rw [gadd_comm (gpow x p) (gpow y p)]
  show Cg p (gadd _ (gmul ((ch p p : Nat), 0) (gpow x p))) _
  rw [e2]
  exact h3

/-! Fermat. -/
theorem gpow_real (a : Int) (n : Nat) : gpow (a, 0) n = (a ^ n, 0) := by
  induction n with
  | zero => simp [gpow]
  | succ n ih => rw [gpow, ih]; unfold gmul; simp [Int.pow_succ]
theorem fermat_nat {p : Nat} (hp : IsP p) (a : Nat) : Cg p (gpow ((a : Int), 0) p) ((a : Int), 0) := by
  induction a with
  | zero =>
    rw [gpow_real]
    have : ((0 : Nat) : Int) ^ p = 0 := by
      have := hp.one
      exact Int.zero_pow (by omega)
    rw [this]; exact Cg.refl _ _
  | succ a ih =>
    have e : (((a + 1 : Nat) : Int), (0 : Int)) = gadd ((a : Int), 0) (1, 0) := by unfold gadd; simp
    rw [e]
    have h := frobenius hp ((a : Int), 0) (1, 0)
    have e1 : gpow (1, 0) p = (1, 0) := by rw [gpow_real, Int.one_pow]
    rw [e1] at h
    exact h.trans (ih.add (Cg.refl _ _))
theorem fermat {p : Nat} (hp : IsP p) (a : Int) : (p : Int) ∣ a ^ p - a := by
  have h1 : Cg p (a, 0) (((a % p).toNat : Int), 0) := by
    have hpos : (0 : Int) < p := by have := hp.one; omega
    have : ((a % p).toNat : Int) = a % p := Int.toNat_of_nonneg (Int.emod_nonneg _ (by omega))
    rw [this]
    exact ⟨⟨a / p, by have := Int.emod_add_mul_ediv a p; simp only; omega⟩, by simp⟩
  have h2 := ((h1.pow p).trans (fermat_nat hp _)).trans h1.symm
  rw [gpow_real] at h2
  exact h2.1
theorem fermat_one {p : Nat} (hp : IsP p) (a : Int) (h : ¬ (p : Int) ∣ a) : (p : Int) ∣ a ^ (p - 1) - 1 := by
  have h1 := fermat hp a
  have e : a ^ p - a = a * (a ^ (p - 1) - 1) := by
    obtain ⟨n, hn⟩ : ∃ n, p = n + 1 := ⟨p - 1, by have := hp.one; omega⟩
    rw [hn, Nat.add_sub_cancel, Int.pow_succ]; grind
  rw [e] at h1
  exact (hp.euclid h1).resolve_left h

/-! The conjugate. -/
theorem i_pow (q : Nat) : gpow (0, 1) (4 * q + 3) = (0, -1) := by
  rw [gpow_add, gpow_mul]
  have e4 : gpow (0, 1) 4 = (1, 0) := by decide
  have e3 : gpow (0, 1) 3 = (0, -1) := by decide
  rw [e4, e3, gpow_real, Int.one_pow, one_gmul]
theorem conj_pow {p : Nat} (hp : IsP p) (q : Nat) (hq : p = 4 * q + 3) (a b : Int) : Cg p (gpow (a, b) p) (a, -b) := by
  have e : (a, b) = gadd (a, 0) (gmul (b, 0) (0, 1)) := by unfold gadd gmul; simp
  have h := frobenius hp (a, 0) (gmul (b, 0) (0, 1))
  rw [← e, gmul_pow] at h
  have ei : gpow (0, 1) p = (0, -1) := by rw [hq]; exact i_pow q
  rw [ei, gpow_real, gpow_real] at h
  refine h.trans ?_
  have fa := fermat hp a
  have fb := fermat hp b
  have c1 : Cg p (a ^ p, 0) (a, 0) := ⟨fa, by simp⟩
  have c2 : Cg p (b ^ p, 0) (b, 0) := ⟨fb, by simp⟩
  have c3 := c1.add (c2.mul (Cg.refl (p : Int) (0, -1)))
  have e2 : gadd (a, 0) (gmul (b, 0) (0, -1)) = (a, -b) := by unfold gadd gmul; simp
  rwa [e2] at c3

/-! No two squares add up to 0 but those of 0. -/
theorem pow_cong {p a b : Int} (h : p ∣ a - b) (n : Nat) : p ∣ a ^ n - b ^ n := by
  have c : Cg p (a, 0) (b, 0) := ⟨h, by simp⟩
  have := c.pow n
  rw [gpow_real, gpow_real] at this
  exact this.1
theorem odd_pow (b : Int) (k : Nat) : (-b) ^ (2 * k + 1) = -(b ^ (2 * k + 1)) := by
  rw [Int.pow_succ, Int.pow_succ, Int.pow_mul, Int.pow_mul]
  have : (-b) ^ 2 = b ^ 2 := by grind
  rw [this]; grind
theorem norm_zero {p : Nat} (hp : IsP p) (q : Nat) (hq : p = 4 * q + 3) (a b : Int) (h : (p : Int) ∣ a * a + b * b) : (p : Int) ∣ a ∧ (p : Int) ∣ b := by
  by_cases hb : (p : Int) ∣ b
  · refine ⟨?_, hb⟩
    obtain ⟨c, hc⟩ := hb
    obtain ⟨d, hd⟩ := h
    have : (p : Int) ∣ a * a := ⟨d - c * b, by grind⟩
    exact (hp.euclid this).elim id id
  · exfalso
    by_cases ha : (p : Int) ∣ a
    · obtain ⟨c, hc⟩ := ha
      obtain ⟨d, hd⟩ := h
      have : (p : Int) ∣ b * b := ⟨d - c * a, by grind⟩
      exact hb ((hp.euclid this).elim id id)
    · have h1 : (p : Int) ∣ a * a - -(b * b) := by
        have e : a * a - -(b * b) = a * a + b * b := by grind
        rwa [e]
      have h2 := pow_cong h1 (2 * q + 1)
      rw [odd_pow] at h2
      have ea : (a * a) ^ (2 * q + 1) = a ^ (p - 1) := by
        rw [hq, show 4 * q + 3 - 1 = 2 * (2 * q + 1) by omega, Int.pow_mul]; congr 1; grind
      have eb : (b * b) ^ (2 * q + 1) = b ^ (p - 1) := by
        rw [hq, show 4 * q + 3 - 1 = 2 * (2 * q + 1) by omega, Int.pow_mul]; congr 1; grind
      rw [ea, eb] at h2
      obtain ⟨c, hc⟩ := h2
      obtain ⟨d, hd⟩ := fermat_one hp a ha
      obtain ⟨f, hf⟩ := fermat_one hp b hb
      generalize a ^ (p - 1) = A at *
      generalize b ^ (p - 1) = B at *
      have : (p : Int) ∣ 2 := ⟨c - d - f, by grind⟩
      have := Int.le_of_dvd (by decide) this
      omega

/-- Each pair but 0, raised to p^2 - 1, is 1. -/
theorem unit_pow {p : Nat} (hp : IsP p) (q : Nat) (hq : p = 4 * q + 3) (a b : Int) (h : ¬ ((p : Int) ∣ a ∧ (p : Int) ∣ b)) : Cg p (gpow (a, b) ((p + 1) * (p - 1))) (1, 0) := by
  rw [gpow_mul]
  have h1 : Cg p (gpow (a, b) (p + 1)) (a * a + b * b, 0) := by
    have := (conj_pow hp q hq a b).mul (Cg.refl (p : Int) (a, b))
    have e : gmul (a, -b) (a, b) = (a * a + b * b, 0) := by unfold gmul; ext <;> grind
    rw [e] at this
    exact this
  have h2 := h1.pow (p - 1)
  rw [gpow_real (a * a + b * b)] at h2
  refine h2.trans ⟨fermat_one hp _ (fun hn => h (norm_zero hp q hq a b hn)), by simp⟩

/-! The prime of the document. -/
theorem no_divisor : ∀ d, d < 725 → 2 ≤ d → 524287 % d ≠ 0 := by decide +kernel
theorem prime_M : IsP 524287 := by
  refine ⟨by decide, fun d hd => ?_⟩
  obtain ⟨e, he⟩ := hd
  by_cases h1 : d = 1
  · exact .inl h1
  refine .inr ?_
  have hd0 : d ≠ 0 := by intro h; subst h; simp at he
  have hdl : ¬ d < 725 := fun h => no_divisor d h (by omega) (by rw [he]; exact Nat.mul_mod_right d e)
  have hel : e < 725 := by
    by_cases h : e < 725
    · exact h
    · have : 725 * 725 ≤ d * e := Nat.mul_le_mul (by omega) (by omega)
      omega
  by_cases he1 : e = 1
  · rw [he1] at he; omega
  · have he0 : e ≠ 0 := by intro h; subst h; simp at he
    exact absurd (show 524287 % e = 0 by rw [he]; exact Nat.mul_mod_left d e) (no_divisor e hel (by omega))

theorem red_of_cg {x y : Int × Int} (h : Cg ((524287 : Nat) : Int) x y) : red x = red y := by
  obtain ⟨h1, h2⟩ := h
  unfold red
  ext
  · exact Int.emod_eq_emod_iff_emod_sub_eq_zero.2 (Int.emod_eq_zero_of_dvd h1)
  · exact Int.emod_eq_emod_iff_emod_sub_eq_zero.2 (Int.emod_eq_zero_of_dvd h2)
theorem pow_M (x : Int × Int) : red (gpow x 524287) = red (x.1, -x.2) := red_of_cg (conj_pow prime_M 131071 (by decide) x.1 x.2)
theorem pow_units (x : Int × Int) (hx : red x = x) (h : x ≠ (0, 0)) : red (gpow x 274876858368) = (1, 0) := by
  have e : (1, 0) = red (1, 0) := by decide
  have := unit_pow prime_M 131071 (by decide) x.1 x.2 ?_
  · rw [show (524287 + 1) * (524287 - 1) = 274876858368 by decide] at this
    rw [e]; exact red_of_cg this
  · rintro ⟨h1, h2⟩
    refine h ?_
    rw [← hx]; unfold red
    ext
    · exact Int.emod_eq_zero_of_dvd h1
    · exact Int.emod_eq_zero_of_dvd h2
theorem pow_zero_pair (n : Nat) (h : 0 < n) : gpow (0, 0) n = (0, 0) := by
  rw [gpow_real, Int.zero_pow (by omega)]
end Go.Proofs.Ytkjdhnomehhijaa
