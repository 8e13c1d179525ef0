/- Whole numbers below 2^53 as 64-bit floats: sums, differences, products and comparisons of them are exact. Plain mathematics over the model's own float words; nothing of the program. -/
import Derived.Laws.ComplexArith
namespace Go.Proofs.Ytkjdhnomehhijaa
open Ieee

theorem log2_mul_pow (n k : Nat) (h : n ≠ 0) : (n * 2 ^ k).log2 = n.log2 + k := by
  have hp : 0 < 2 ^ k := Nat.two_pow_pos k
  rw [Nat.log2_eq_iff (Nat.mul_ne_zero h (by omega))]
  have h1 := Nat.log2_self_le h
  have h2 := @Nat.lt_log2_self n
  constructor
  · rw [Nat.pow_add]; exact Nat.mul_le_mul_right _ h1
  · rw [show n.log2 + k + 1 = (n.log2 + 1) + k by omega, Nat.pow_add]; exact Nat.mul_lt_mul_of_pos_right h2 hp

theorem cut_exact (way : Toward) (s : Bool) (n d : Nat) (hd : d ≤ (n * 2 ^ d).log2 + 2) : way.cut s (n * 2 ^ d) d = n := by
  unfold Toward.cut
  have e : min d ((n * 2 ^ d).log2 + 2) = d := Nat.min_eq_left hd
  have hp := Nat.two_pow_pos d
  simp only [e, Nat.one_shiftLeft, Nat.mul_div_cancel _ hp, Nat.mul_mod_left]
  cases way <;> simp

theorem fb : double.fractionBits = 52 := rfl
theorem lp : double.leastPlace = -1074 := by decide
theorem bi : double.binade = 4503599627370496 := by decide
theorem inr : double.infRung = 9218868437227405312 := by decide
theorem sw : double.signWeight = 9223372036854775808 := by decide

/-- The rung of a whole number from 1 to 2^53 - 1. -/
def rung (n : Nat) : Nat := (n.log2 + 1022) * 4503599627370496 + n * 2 ^ (52 - n.log2)

theorem kept_bounds (n : Nat) (h0 : n ≠ 0) (h : n < 9007199254740992) : n.log2 ≤ 52 ∧ 4503599627370496 ≤ n * 2 ^ (52 - n.log2) ∧ n * 2 ^ (52 - n.log2) < 9007199254740992 := by
  have hl : n.log2 < 53 := (Nat.log2_lt h0).2 (by simpa using h)
  have h1 := Nat.log2_self_le h0
  have h2 := @Nat.lt_log2_self n
  refine ⟨by omega, ?_, ?_⟩
  · have : 2 ^ n.log2 * 2 ^ (52 - n.log2) ≤ n * 2 ^ (52 - n.log2) := Nat.mul_le_mul_right _ h1
    rw [← Nat.pow_add, show n.log2 + (52 - n.log2) = 52 by omega] at this
    simpa using this
  · have : n * 2 ^ (52 - n.log2) < 2 ^ (n.log2 + 1) * 2 ^ (52 - n.log2) := Nat.mul_lt_mul_of_pos_right h2 (Nat.two_pow_pos _)
    rw [← Nat.pow_add, show n.log2 + 1 + (52 - n.log2) = 53 by omega] at this
    simpa using this

theorem rung_bounds (n : Nat) (h0 : n ≠ 0) (h : n < 9007199254740992) : 4503599627370496 ≤ rung n ∧ rung n < 9218868437227405312 := by
  obtain ⟨h1, h2, h3⟩ := kept_bounds n h0 h
  unfold rung
  generalize n * 2 ^ (52 - n.log2) = t at *
  omega

theorem nearest_eq (s : Bool) (n k : Nat) (h0 : n ≠ 0) (h : n < 9007199254740992) :
    double.nearest s (n * 2 ^ k) (-(k : Int)) = double.word s (rung n) := by
  obtain ⟨hl, _, _⟩ := kept_bounds n h0 h
  have hp : 0 < 2 ^ k := Nat.two_pow_pos k
  have hr := (rung_bounds n h0 h).2
  unfold Format.nearest
  rw [if_neg (Nat.mul_ne_zero h0 (by omega))]
  simp only [log2_mul_pow n k h0, fb, lp, bi, inr]
  have e3 : max (-(k : Int) + ((n.log2 + k : Nat) : Int) - ((52 : Nat) : Int)) (-1074) = (n.log2 : Int) - 52 := by omega
  rw [e3]
  have e4 : ((n.log2 : Int) - 52 - -1074).toNat = n.log2 + 1022 := by omega
  rw [e4]
  have e5 : Toward.even.cut s ((n * 2 ^ k) <<< (-(k : Int) - ((n.log2 : Int) - 52)).toNat) ((n.log2 : Int) - 52 - -(k : Int)).toNat = n * 2 ^ (52 - n.log2) := by
    by_cases hk : k ≤ 52 - n.log2
    · have a1 : (-(k : Int) - ((n.log2 : Int) - 52)).toNat = 52 - n.log2 - k := by omega
      have a2 : ((n.log2 : Int) - 52 - -(k : Int)).toNat = 0 := by omega
      rw [a1, a2, Nat.shiftLeft_eq, Nat.mul_assoc, ← Nat.pow_add, show k + (52 - n.log2 - k) = 52 - n.log2 by omega]
      have := cut_exact .even s (n * 2 ^ (52 - n.log2)) 0 (by omega)
      simpa using this
    · have a1 : (-(k : Int) - ((n.log2 : Int) - 52)).toNat = 0 := by omega
      have a2 : ((n.log2 : Int) - 52 - -(k : Int)).toNat = k - (52 - n.log2) := by omega
      rw [a1, a2, Nat.shiftLeft_zero]
      have e : n * 2 ^ k = n * 2 ^ (52 - n.log2) * 2 ^ (k - (52 - n.log2)) := by
        rw [Nat.mul_assoc, ← Nat.pow_add, show 52 - n.log2 + (k - (52 - n.log2)) = k by omega]
      rw [e]
      refine cut_exact .even s _ _ ?_
      rw [← e, log2_mul_pow n k h0]; omega
  rw [e5]
  have e6 : min ((n.log2 + 1022) * 4503599627370496 + n * 2 ^ (52 - n.log2)) 9218868437227405312 = rung n := by
    have : (n.log2 + 1022) * 4503599627370496 + n * 2 ^ (52 - n.log2) = rung n := rfl
    rw [this]; omega
  rw [e6]

theorem read_word (s : Bool) (n : Nat) (h0 : n ≠ 0) (h : n < 9007199254740992) :
    double.read (double.word s (rung n)) = .number s (n * 2 ^ (52 - n.log2)) ((n.log2 : Int) - 52) := by
  obtain ⟨hl, k1, k2⟩ := kept_bounds n h0 h
  obtain ⟨r1, r2⟩ := rung_bounds n h0 h
  have w1 : double.word s (rung n) / 9223372036854775808 % 2 = s.toNat := by
    unfold Format.word; rw [sw]; cases s <;> simp <;> omega
  have w2 : double.word s (rung n) % 9223372036854775808 = rung n := by
    unfold Format.word; rw [sw]; cases s <;> simp <;> omega
  unfold Format.read
  simp only [sw, bi, inr, lp, w1, w2]
  rw [if_neg (by omega), if_pos (by omega)]
  have d1 : rung n / 4503599627370496 = n.log2 + 1023 := by unfold rung; omega
  have d2 : rung n % 4503599627370496 = n * 2 ^ (52 - n.log2) - 4503599627370496 := by unfold rung; omega
  rw [d1, d2]
  have c1 : (s.toNat == 1) = s := by cases s <;> rfl
  rw [c1]
  have f1 : 4503599627370496 + (n * 2 ^ (52 - n.log2) - 4503599627370496) = n * 2 ^ (52 - n.log2) := by omega
  have f2 : (-1074 : Int) + ((n.log2 + 1023 - 1 : Nat) : Int) = (n.log2 : Int) - 52 := by omega
  rw [f1, f2]

theorem read_zero : double.read 0 = .number false 0 (-1074) := by
  unfold Format.read; simp only [sw, bi, inr, lp]; simp

/-- The float of a whole number. -/
def F (n : Int) : Nat := floatOfInt .f64 n

theorem F_def (n : Int) : F n = double.nearest (decide (n < 0)) n.natAbs 0 := rfl

theorem F_zero : F 0 = 0 := by
  rw [F_def]; unfold Format.nearest; simp [Format.word]

/-- What the float of a whole number is read as: some sign, magnitude and place that come to it exactly. -/
theorem read_F (n : Int) (h : n.natAbs < 9007199254740992) :
    ∃ k : Nat, double.read (F n) = .number (decide (n < 0)) (n.natAbs * 2 ^ k) (-(k : Int)) ∧ (n ≠ 0 → k ≤ 52) := by
  by_cases h0 : n = 0
  · subst h0
    exact ⟨1074, by rw [F_zero, read_zero]; simp only [Int.natAbs_zero, Nat.zero_mul]; rfl, fun h => absurd rfl h⟩
  · have h0' : n.natAbs ≠ 0 := by omega
    refine ⟨52 - n.natAbs.log2, ?_, fun _ => by omega⟩
    have := nearest_eq (decide (n < 0)) n.natAbs 0 h0' h
    simp only [Nat.pow_zero, Nat.mul_one] at this
    rw [show (-((0:Nat):Int)) = 0 from rfl] at this
    have hl := (kept_bounds n.natAbs h0' h).1
    rw [F_def, this, read_word _ _ h0' h]
    have f2 : (n.natAbs.log2 : Int) - 52 = -((52 - n.natAbs.log2 : Nat) : Int) := by omega
    rw [f2]

/-- Writing an exact multiple gives the float of the whole number. -/
theorem write_exact (s : Bool) (n : Int) (k : Nat) (h : n.natAbs < 9007199254740992) (hs : s = decide (n < 0)) :
    double.write (.number s (n.natAbs * 2 ^ k) (-(k : Int))) = F n := by
  by_cases h0 : n = 0
  · subst h0
    subst hs
    simp [Format.write, Format.nearest, F_zero, Format.word]
  · have h0' : n.natAbs ≠ 0 := by omega
    have a := nearest_eq s n.natAbs k h0' h
    have b := nearest_eq s n.natAbs 0 h0' h
    simp only [Nat.pow_zero, Nat.mul_one] at b
    rw [show (-((0:Nat):Int)) = 0 from rfl] at b
    show double.nearest s _ _ = _
    rw [a, F_def, ← hs, b]

theorem signed_eq (n : Int) (k K : Nat) (hK : k ≤ K) : signed (decide (n < 0)) (n.natAbs * 2 ^ k) (K - k) = n * 2 ^ K := by
  unfold signed
  rw [Nat.shiftLeft_eq, Nat.mul_assoc, ← Nat.pow_add, show k + (K - k) = K by omega]
  have e : ((n.natAbs * 2 ^ K : Nat) : Int) = (n.natAbs : Int) * 2 ^ K := by rw [Int.natCast_mul, Int.natCast_pow]; rfl
  by_cases h : n < 0
  · rw [if_pos (by simpa using h), e, show (n.natAbs : Int) = -n by omega, Int.neg_mul, Int.neg_neg]
  · rw [if_neg (by simpa using h), e, show (n.natAbs : Int) = n by omega]

theorem signed_not (s : Bool) (m k : Nat) : signed (!s) m k = -signed s m k := by
  unfold signed; cases s <;> simp

theorem pow_pos_int (K : Nat) : (0 : Int) < 2 ^ K := by
  have := Nat.two_pow_pos K
  have e : ((2 ^ K : Nat) : Int) = 2 ^ K := by rw [Int.natCast_pow]; rfl
  omega

theorem mul_pow_lt (a : Int) (K : Nat) : a * 2 ^ K < 0 ↔ a < 0 := by
  have := pow_pos_int K
  constructor
  · intro h
    by_cases h' : a < 0
    · exact h'
    · have : 0 ≤ a * 2 ^ K := Int.mul_nonneg (by omega) (by omega)
      omega
  · intro h; exact Int.mul_neg_of_neg_of_pos h this

theorem mul_pow_zero (a : Int) (K : Nat) : a * 2 ^ K = 0 ↔ a = 0 := by
  have := pow_pos_int K
  rw [Int.mul_eq_zero]; omega

theorem natAbs_mul_pow (a : Int) (K : Nat) : (a * 2 ^ K).natAbs = a.natAbs * 2 ^ K := by
  rw [Int.natAbs_mul, Int.natAbs_pow]; rfl

/-- The sum of two exact numbers, whatever the signs that they bear where they are nought. -/
theorem sum_exact (s t : Bool) (a b : Int) (k l : Nat) (hs : s = decide (a < 0)) (ht : t = decide (b < 0) ∨ b = 0) (hst : a + b = 0 → (s && t) = false) :
    (Datum.number s (a.natAbs * 2 ^ k) (-(k : Int))).sum (.number t (b.natAbs * 2 ^ l) (-(l : Int))) = some (.number (decide (a + b < 0)) ((a + b).natAbs * 2 ^ max k l) (-((max k l : Nat) : Int))) := by
  have hb : min (-(k : Int)) (-(l : Int)) = -((max k l : Nat) : Int) := by omega
  have h1 : (-(k : Int) - -((max k l : Nat) : Int)).toNat = max k l - k := by omega
  have h2 : (-(l : Int) - -((max k l : Nat) : Int)).toNat = max k l - l := by omega
  have t1 : signed s (a.natAbs * 2 ^ k) (max k l - k) = a * 2 ^ max k l := by rw [hs]; exact signed_eq a k _ (by omega)
  have t2 : signed t (b.natAbs * 2 ^ l) (max k l - l) = b * 2 ^ max k l := by
    rcases ht with ht | ht
    · rw [ht]; exact signed_eq b l _ (by omega)
    · subst ht; unfold signed; simp
  have tot : a * 2 ^ max k l + b * 2 ^ max k l = (a + b) * 2 ^ max k l := by rw [Int.add_mul]
  simp only [Datum.sum, hb, h1, h2, t1, t2, tot, natAbs_mul_pow]
  congr 2
  by_cases h0 : a + b = 0
  · rw [if_pos ((mul_pow_zero _ _).2 h0), hst h0, h0]; simp
  · rw [if_neg (fun h => h0 ((mul_pow_zero _ _).1 h))]
    rw [decide_eq_decide]; exact mul_pow_lt _ _

theorem add_F (a b : Int) (ha : a.natAbs < 9007199254740992) (hb : b.natAbs < 9007199254740992) (hab : (a + b).natAbs < 9007199254740992) : double.add (F a) (F b) = some (F (a + b)) := by
  obtain ⟨k, hk, _⟩ := read_F a ha
  obtain ⟨l, hl, _⟩ := read_F b hb
  unfold Format.add
  rw [hk, hl, sum_exact _ _ a b k l rfl (.inl rfl) (by intro h; simp; omega)]
  rw [Option.map_some, write_exact _ (a + b) _ hab rfl]

theorem sub_F (a b : Int) (ha : a.natAbs < 9007199254740992) (hb : b.natAbs < 9007199254740992) (hab : (a - b).natAbs < 9007199254740992) : double.sub (F a) (F b) = some (F (a - b)) := by
  obtain ⟨k, hk, _⟩ := read_F a ha
  obtain ⟨l, hl, _⟩ := read_F b hb
  unfold Format.sub
  rw [hk, hl]
  have e : (Datum.number (decide (b < 0)) (b.natAbs * 2 ^ l) (-(l : Int))).opposite = .number (!decide (b < 0)) ((-b).natAbs * 2 ^ l) (-(l : Int)) := by
    simp only [Datum.opposite, Int.natAbs_neg]
  rw [e, sum_exact _ _ a (-b) k l rfl ?_ ?_]
  · have e2 : a + -b = a - b := by omega
    rw [e2, Option.map_some, write_exact _ (a - b) _ hab rfl]
  · by_cases h0 : b = 0
    · exact .inr (by omega)
    · refine .inl ?_
      rw [Bool.eq_iff_iff]; simp; omega
  · intro h
    have : a = b := by omega
    subst this
    simp

theorem mul_F (a b : Int) (ha : 0 ≤ a) (hb : 0 ≤ b) (ha' : a.natAbs < 9007199254740992) (hb' : b.natAbs < 9007199254740992) (hab : (a * b).natAbs < 9007199254740992) : double.mul (F a) (F b) = some (F (a * b)) := by
  obtain ⟨k, hk, _⟩ := read_F a ha'
  obtain ⟨l, hl, _⟩ := read_F b hb'
  unfold Format.mul
  rw [hk, hl]
  have e1 : a.natAbs * 2 ^ k * (b.natAbs * 2 ^ l) = (a * b).natAbs * 2 ^ (k + l) := by
    rw [Int.natAbs_mul, Nat.pow_add]; simp only [Nat.mul_left_comm, Nat.mul_assoc]
  have e2 : -(k : Int) + -(l : Int) = -((k + l : Nat) : Int) := by omega
  simp only [Datum.product, e1, e2, Option.map_some]
  rw [write_exact _ (a * b) _ hab ?_]
  have h3 : 0 ≤ a * b := Int.mul_nonneg ha hb
  rw [show decide (a < 0) = false by simp; omega, show decide (b < 0) = false by simp; omega, show decide (a * b < 0) = false by simp; omega]
  rfl

theorem compare_mul_pow (a b : Int) (K : Nat) : compare (a * 2 ^ K) (b * 2 ^ K) = compare a b := by
  have hp := pow_pos_int K
  have e : b * 2 ^ K - a * 2 ^ K = (b - a) * 2 ^ K := by rw [Int.sub_mul]
  have h1 : (a * 2 ^ K < b * 2 ^ K) ↔ a < b := by
    have := mul_pow_lt (a - b) K
    rw [Int.sub_mul] at this
    omega
  have h2 : (a * 2 ^ K = b * 2 ^ K) ↔ a = b := by
    have := mul_pow_zero (a - b) K
    rw [Int.sub_mul] at this
    omega
  simp only [compare, compareOfLessAndEq, h1, h2]

theorem order_F (a b : Int) (ha : a.natAbs < 9007199254740992) (hb : b.natAbs < 9007199254740992) : double.order (F a) (F b) = some (compare a b) := by
  obtain ⟨k, hk, _⟩ := read_F a ha
  obtain ⟨l, hl, _⟩ := read_F b hb
  unfold Format.order
  rw [hk, hl]
  have hb : min (-(k : Int)) (-(l : Int)) = -((max k l : Nat) : Int) := by omega
  have h1 : (-(k : Int) - -((max k l : Nat) : Int)).toNat = max k l - k := by omega
  have h2 : (-(l : Int) - -((max k l : Nat) : Int)).toNat = max k l - l := by omega
  simp only [Datum.order, hb, h1, h2, signed_eq a k _ (Nat.le_max_left k l), signed_eq b l _ (Nat.le_max_right k l), compare_mul_pow]

theorem toInt_F (n : Int) (h : n.natAbs < 9007199254740992) : (double.read (F n)).toInt .zero = some n := by
  obtain ⟨k, hk, _⟩ := read_F n h
  rw [hk]
  have h1 : (-(k : Int)).toNat = 0 := by omega
  have h2 : (-(-(k : Int))).toNat = k := by omega
  simp only [Datum.toInt, Datum.integral, h1, h2, Nat.shiftLeft_zero]
  by_cases h0 : n = 0
  · subst h0
    simp [Toward.cut, signed]
  · rw [cut_exact .zero _ _ _ (by rw [log2_mul_pow _ _ (by omega)]; omega)]
    congr 1
    have := signed_eq n 0 0 (Nat.le_refl _)
    simpa using this

/-! The model's own words. -/
theorem bits_add (a b : Int) (ha : a.natAbs < 9007199254740992) (hb : b.natAbs < 9007199254740992) (hab : (a + b).natAbs < 9007199254740992) : floatBits .add .f64 (F a) (F b) = some (F (a + b)) := add_F a b ha hb hab
theorem bits_sub (a b : Int) (ha : a.natAbs < 9007199254740992) (hb : b.natAbs < 9007199254740992) (hab : (a - b).natAbs < 9007199254740992) : floatBits .sub .f64 (F a) (F b) = some (F (a - b)) := sub_F a b ha hb hab
theorem bits_mul (a b : Int) (ha : 0 ≤ a) (hb : 0 ≤ b) (ha' : a.natAbs < 9007199254740992) (hb' : b.natAbs < 9007199254740992) (hab : (a * b).natAbs < 9007199254740992) : floatBits .mul .f64 (F a) (F b) = some (F (a * b)) := mul_F a b ha hb ha' hb' hab
theorem order_f64 (a b : Int) (ha : a.natAbs < 9007199254740992) (hb : b.natAbs < 9007199254740992) : FloatKind.f64.format.order (F a) (F b) = some (compare a b) := order_F a b ha hb
theorem toInt_val (n : Int) (h : n.natAbs < 9007199254740992) : floatToIntVal .f64 (F n) .i64 = some n := by
  unfold floatToIntVal
  have : (FloatKind.f64.decode (F n)).toInt .zero = some n := toInt_F n h
  rw [this]
  have m1 : IntKind.i64.min = -9223372036854775808 := by decide
  have m2 : IntKind.i64.max = 9223372036854775807 := by decide
  have c : IntKind.i64.min ≤ n ∧ n ≤ IntKind.i64.max := by rw [m1, m2]; omega
  exact if_pos c

theorem sum_bits (a b c d : Int) (ha : a.natAbs < 9007199254740992) (hb : b.natAbs < 9007199254740992) (hc : c.natAbs < 9007199254740992) (hd : d.natAbs < 9007199254740992) (h1 : (a + c).natAbs < 9007199254740992) (h2 : (b + d).natAbs < 9007199254740992) :
    cSumBits .add .f64 (F a) (F b) (F c) (F d) = some (F (a + c), F (b + d)) := by
  unfold cSumBits
  rw [bits_add a c ha hc h1, bits_add b d hb hd h2]; rfl

/-- The product of two numbers with parts from 0 to 2^20 - 1. -/
theorem mul_bits (a b c d : Int) (ha : 0 ≤ a) (hb : 0 ≤ b) (hc : 0 ≤ c) (hd : 0 ≤ d) (ha' : a < 1048576) (hb' : b < 1048576) (hc' : c < 1048576) (hd' : d < 1048576) :
    cMulBits (F a) (F b) (F c) (F d) = some (F (a * c - b * d), F (a * d + b * c)) := by
  have p (x y : Int) (hx : 0 ≤ x) (hy : 0 ≤ y) (hx' : x < 1048576) (hy' : y < 1048576) : 0 ≤ x * y ∧ x * y < 1099511627776 := by
    refine ⟨Int.mul_nonneg hx hy, ?_⟩
    have h1 : x * y ≤ 1048575 * y := Int.mul_le_mul_of_nonneg_right (by omega) hy
    omega
  have p1 := p a c ha hc ha' hc'
  have p2 := p b d hb hd hb' hd'
  have p3 := p a d ha hd ha' hd'
  have p4 := p b c hb hc hb' hc'
  unfold cMulBits
  rw [bits_mul a c ha hc (by omega) (by omega) (by omega), bits_mul b d hb hd (by omega) (by omega) (by omega), bits_mul a d ha hd (by omega) (by omega) (by omega), bits_mul b c hb hc (by omega) (by omega) (by omega)]
  simp only [Option.bind_some]
  rw [bits_sub _ _ (by omega) (by omega) (by omega)]
  simp only [Option.bind_some]
  rw [bits_add _ _ (by omega) (by omega) (by omega)]
  rfl

/-! Constants of the program. -/
theorem F_1 : F 1 = 4607182418800017408 := by decide +kernel
theorem F_2 : F 2 = 4611686018427387904 := by decide +kernel
theorem F_3 : F 3 = 4613937818241073152 := by decide +kernel
theorem F_4 : F 4 = 4616189618054758400 := by decide +kernel
theorem F_10 : F 10 = 4621819117588971520 := by decide +kernel
theorem F_M : F 524287 = 4692750794540187648 := by decide +kernel
theorem F_M5 : F 524282 = 4692750708640841728 := by decide +kernel
end Go.Proofs.Ytkjdhnomehhijaa
