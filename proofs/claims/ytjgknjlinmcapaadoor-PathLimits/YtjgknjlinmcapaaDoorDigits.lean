/- Plain mathematics of numbers in ten digits: they are what the library's numeral makes with noughts ahead, and they rise as numbers do. -/
import Derived.Lib.ItoaNum
import Derived.Lib.Repeat
import Derived.Test.YtjgknjlinmcapaaDoorPaths
namespace Go.Proofs.YtjgknjlinmcapaaDoor

def dg : Nat → Nat → List UInt8
  | 0, _ => []
  | k + 1, n => dg k (n / 10) ++ [UInt8.ofNat (48 + n % 10)]
theorem dg_length (k n : Nat) : (dg k n).length = k := by
  induction k generalizing n with
  | zero => rfl
  | succ k ih => simp [dg, ih]
theorem repeat_replicate (k : Nat) : Lib.repeatL [48] k = List.replicate k 48 := by
  induction k with
  | zero => rfl
  | succ k ih => simp [Lib.repeatL, ih, List.replicate_succ]
theorem dg_zero (k : Nat) : dg k 0 = List.replicate k 48 := by
  induction k with
  | zero => rfl
  | succ k ih => simp [dg, ih, List.replicate_succ']
theorem dec_digits (k n : Nat) (h : n < 10 ^ (k + 1)) : (Lib.decDigits n).length ≤ k + 1 ∧ List.replicate (k + 1 - (Lib.decDigits n).length) 48 ++ Lib.decDigits n = dg (k + 1) n := by
  induction k generalizing n with
  | zero =>
    have h1 : n < 10 := by simpa using h
    unfold Lib.decDigits
    rw [dif_pos h1]
    have : n % 10 = n := by omega
    simp [dg, this]
  | succ k ih =>
    by_cases h1 : n < 10
    · unfold Lib.decDigits
      rw [dif_pos h1]
      have e1 : n % 10 = n := by omega
      have e2 : n / 10 = 0 := by omega
      rw [dg, e1, e2, dg_zero]
      simp
    · have hk : n / 10 < 10 ^ (k + 1) := by
        rw [Nat.pow_succ] at h
        omega
      obtain ⟨g1, g2⟩ := ih (n / 10) hk
      unfold Lib.decDigits
      rw [dif_neg h1, dg, ← g2]
      simp only [List.length_append, List.length_cons, List.length_nil]
      refine ⟨by omega, ?_⟩
      rw [show k + 1 + 1 - ((Lib.decDigits (n / 10)).length + (0 + 1)) = k + 1 - (Lib.decDigits (n / 10)).length by omega, List.append_assoc]
theorem itoa_ten (n : Int) (h0 : 0 ≤ n) (h1 : n ≤ 2147483647) : (Lib.itoa n).length ≤ 10 ∧ Lib.repeatL [48] (10 - (Lib.itoa n).length) ++ Lib.itoa n = dg 10 n.toNat := by
  have := dec_digits 9 n.toNat (by omega)
  rw [Lib.itoa, if_neg (by omega), repeat_replicate]
  exact this

theorem digit_lt {a b : Nat} (ha : a < 10) (hb : b < 10) : (UInt8.ofNat (48 + a) < UInt8.ofNat (48 + b)) ↔ a < b := by
  rw [UInt8.lt_iff_toNat_lt, UInt8.toNat_ofNat', UInt8.toNat_ofNat']
  omega
theorem digit_eq {a b : Nat} (ha : a < 10) (hb : b < 10) (h : UInt8.ofNat (48 + a) = UInt8.ofNat (48 + b)) : a = b := by
  have := congrArg UInt8.toNat h
  rw [UInt8.toNat_ofNat', UInt8.toNat_ofNat'] at this
  omega
theorem lt_snoc {u v : List UInt8} {x y : UInt8} (h : u.length = v.length) : (u ++ [x] < v ++ [y]) ↔ (u < v ∨ (u = v ∧ x < y)) := by
  induction u generalizing v with
  | nil =>
    cases v with
    | nil => simp only [List.nil_append, List.cons_lt_cons_iff]; simp
    | cons c v => simp at h
  | cons c u ih =>
    cases v with
    | nil => simp at h
    | cons d v =>
      simp only [List.length_cons, Nat.add_right_cancel_iff] at h
      simp only [List.cons_append, List.cons_lt_cons_iff, ih h, List.cons.injEq]
      constructor
      · rintro (g | ⟨rfl, g | ⟨rfl, g⟩⟩)
        · exact .inl (.inl g)
        · exact .inl (.inr ⟨rfl, g⟩)
        · exact .inr ⟨⟨rfl, rfl⟩, g⟩
      · rintro ((g | ⟨rfl, g⟩) | ⟨⟨rfl, rfl⟩, g⟩)
        · exact .inl g
        · exact .inr ⟨rfl, .inl g⟩
        · exact .inr ⟨rfl, .inr ⟨rfl, g⟩⟩
theorem dg_inj (k : Nat) {a b : Nat} (ha : a < 10 ^ k) (hb : b < 10 ^ k) (h : dg k a = dg k b) : a = b := by
  induction k generalizing a b with
  | zero => simp at ha hb; omega
  | succ k ih =>
    rw [Nat.pow_succ] at ha hb
    simp only [dg] at h
    obtain ⟨h1, h2⟩ := List.append_inj' h rfl
    simp only [List.cons.injEq, and_true] at h2
    have := ih (by omega) (by omega) h1
    have := digit_eq (by omega) (by omega) h2
    omega
theorem dg_lt (k : Nat) {a b : Nat} (ha : a < 10 ^ k) (hb : b < 10 ^ k) : (dg k a < dg k b) ↔ a < b := by
  induction k generalizing a b with
  | zero => simp [dg]; simp at ha hb; omega
  | succ k ih =>
    rw [Nat.pow_succ] at ha hb
    simp only [dg]
    rw [lt_snoc (by rw [dg_length, dg_length]), ih (by omega) (by omega), digit_lt (by omega) (by omega)]
    constructor
    · rintro (g | ⟨g1, g2⟩)
      · omega
      · have := dg_inj k (by omega) (by omega) g1
        omega
    · intro g
      by_cases e : a / 10 = b / 10
      · exact .inr ⟨by rw [e], by omega⟩
      · exact .inl (by omega)
theorem lt_front (p : List UInt8) (u v : List UInt8) : (p ++ u < p ++ v) ↔ u < v := by
  induction p with
  | nil => rfl
  | cons c p ih =>
    simp only [List.cons_append, List.cons_lt_cons_iff, ih]
    constructor
    · rintro (g | g)
      · exact absurd g (by simp)
      · exact g.2
    · exact fun g => .inr ⟨by trivial, g⟩

def numS (p : List UInt8) (n : Int) : List UInt8 × Bool := if p.length ≤ 200 ∧ 0 ≤ n ∧ n ≤ 2147483647 ∧ right (p ++ dg 10 n.toNat) = true then (p ++ dg 10 n.toNat, true) else ([], false)
end Go.Proofs.YtjgknjlinmcapaaDoor
