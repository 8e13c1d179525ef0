/- Plain mathematics of numbers as bytes, of what is put and what is read; no program in this text. -/
import Derived.Below
namespace Go.Proofs.YtbcfeeahlhoggaaDoor

/- The number that stands for a whole number, and back. -/
def zz (n : Int) : Nat := if 0 ≤ n then (2 * n).toNat else (-2 * n - 1).toNat
def unzz (u : Nat) : Int := if u % 2 = 1 then -((u / 2 : Nat) : Int) - 1 else ((u / 2 : Nat) : Int)
theorem unzz_zz (n : Int) : unzz (zz n) = n := by
  unfold unzz zz
  split <;> split <;> omega
theorem zz_unzz (u : Nat) : zz (unzz u) = u := by
  unfold unzz zz
  split <;> split <;> omega
theorem zz_lt (n : Int) (h1 : -9223372036854775808 ≤ n) (h2 : n < 9223372036854775808) : zz n < 18446744073709551616 := by
  unfold zz; split <;> omega
theorem unzz_range (u : Nat) (h : u < 18446744073709551616) : -9223372036854775808 ≤ unzz u ∧ unzz u < 9223372036854775808 := by
  unfold unzz; split <;> omega

/- The digits of a number, the lowest first. -/
def digs (u : Nat) : List UInt8 := if u < 128 then [UInt8.ofNat u] else UInt8.ofNat (u % 128 + 128) :: digs (u / 128)
termination_by u
decreasing_by omega
theorem digs_small {u : Nat} (h : u < 128) : digs u = [UInt8.ofNat u] := by rw [digs, if_pos h]
theorem digs_big {u : Nat} (h : ¬ u < 128) : digs u = UInt8.ofNat (u % 128 + 128) :: digs (u / 128) := by rw [digs, if_neg h]

/- What a row of bytes begins with, as the i-th digit and those behind it: the number, and how many digits. -/
def dec (i : Nat) : List UInt8 → Option (Nat × Nat)
  | [] => none
  | x :: l => if 10 ≤ i then none else if 128 ≤ x.toNat then (dec (i + 1) l).map (fun p => (x.toNat - 128 + 128 * p.1, p.2 + 1))
    else if (i = 9 ∧ x.toNat ≠ 1) ∨ (x.toNat = 0 ∧ 0 < i) then none else some (x.toNat, 1)

theorem ofNat_small {u : Nat} (h : u < 256) : (UInt8.ofNat u).toNat = u := by
  rw [UInt8.toNat_ofNat']; omega

/- How great a number of 10 - i digits may be. -/
def cap (i : Nat) : Nat := 18446744073709551616 / 128 ^ i
theorem cap_succ (i : Nat) : cap (i + 1) = cap i / 128 := by
  unfold cap; rw [Nat.pow_succ, Nat.div_div_eq_div_mul]
theorem cap_vals : cap 0 = 18446744073709551616 ∧ cap 9 = 2 ∧ cap 10 = 0 := by decide +kernel
theorem cap_mod : ∀ i, i < 9 → cap i % 128 = 0 := by decide +kernel
theorem cap_div {i u : Nat} (h : u < cap i) (hb : 128 ≤ u) (hi : i < 10) : u / 128 < cap (i + 1) := by
  rw [cap_succ]
  rcases Nat.lt_or_ge i 9 with h1 | h1
  · have := cap_mod i h1
    omega
  · have : i = 9 := by omega
    subst this
    have := cap_vals.2.1
    omega
theorem cap_small : ∀ i, 10 ≤ i → cap i = 0 := by
  intro i h
  induction i with
  | zero => omega
  | succ i ih =>
    rcases Nat.lt_or_ge i 10 with h1 | h1
    · have : i = 9 := by omega
      subst this; exact cap_vals.2.2
    · rw [cap_succ, ih h1]

theorem dec_digs (rest : List UInt8) : ∀ (u i : Nat), u < cap i → (0 < u ∨ i = 0) → dec i (digs u ++ rest) = some (u, (digs u).length) := by
  intro u
  induction u using Nat.strongRecOn with
  | _ u ih =>
    intro i hu hi
    have hi10 : ¬ 10 ≤ i := by
      intro h; rw [cap_small i h] at hu; omega
    by_cases h : u < 128
    · rw [digs_small h]
      simp only [List.singleton_append, dec, if_neg hi10, ofNat_small (show u < 256 by omega), List.length_singleton]
      rw [if_neg (by omega), if_neg]
      rintro (⟨rfl, h9⟩ | ⟨h0, h1⟩)
      · rw [cap_vals.2.1] at hu; omega
      · omega
    · rw [digs_big h]
      simp only [List.cons_append, dec, if_neg hi10, ofNat_small (show u % 128 + 128 < 256 by omega), List.length_cons]
      rw [if_pos (by omega), ih (u / 128) (by omega) (i + 1) (cap_div hu (by omega) (by omega)) (by omega)]
      simp; omega

theorem dec_short : ∀ (u i k : Nat), k < (digs u).length → dec i ((digs u).take k) = none := by
  intro u
  induction u using Nat.strongRecOn with
  | _ u ih =>
    intro i k hk
    cases k with
    | zero => simp [dec]
    | succ k =>
      by_cases h : u < 128
      · rw [digs_small h] at hk; simp at hk
      · rw [digs_big h] at hk ⊢
        simp only [List.length_cons, List.take_succ_cons, dec, ofNat_small (show u % 128 + 128 < 256 by omega)] at hk ⊢
        split
        · rfl
        · rw [if_pos (by omega), ih (u / 128) (by omega) (i + 1) k (by omega)]
          rfl

theorem dec_some : ∀ (l : List UInt8) (i u s : Nat), i ≤ 10 → dec i l = some (u, s) →
    u < cap i ∧ (0 < u ∨ i = 0) ∧ l.take s = digs u ∧ s = (digs u).length ∧ s ≤ l.length ∧ 0 < s ∧ i + s ≤ 10 := by
  intro l
  induction l with
  | nil => intro i u s _ h; cases h
  | cons x l ih =>
    intro i u s hi h
    rw [dec] at h
    have hx : x.toNat < 256 := x.toNat_lt
    split at h
    · cases h
    · split at h
      · next h10 h128 =>
        obtain ⟨⟨u', s'⟩, h1, h2⟩ := Option.map_eq_some_iff.1 h
        simp only [Prod.mk.injEq] at h2
        obtain ⟨rfl, rfl⟩ := h2
        obtain ⟨c1, c2, c3, c4, c5, c6, c7⟩ := ih (i + 1) u' s' (by omega) h1
        rw [cap_succ] at c1
        have hu' : 0 < u' := by omega
        have hbig : ¬ (x.toNat - 128 + 128 * u' < 128) := by omega
        have e1 : (x.toNat - 128 + 128 * u') % 128 + 128 = x.toNat := by omega
        have e2 : (x.toNat - 128 + 128 * u') / 128 = u' := by omega
        rw [digs_big hbig, e1, e2]
        refine ⟨by omega, by omega, ?_, by simp [← c4], by simp; omega, by omega, by omega⟩
        rw [List.take_succ_cons, c3, UInt8.ofNat_toNat]
      · split at h
        · cases h
        · next h10 h128 hn =>
          simp only [Option.some.injEq, Prod.mk.injEq] at h
          obtain ⟨rfl, rfl⟩ := h
          rw [digs_small (by omega)]
          refine ⟨?_, by omega, by simp, rfl, by simp, by omega, by omega⟩
          rcases Nat.lt_or_ge i 9 with h1 | h1
          · have : 128 ≤ cap i := by
              have : ∀ j, j < 9 → 128 ≤ cap j := by decide +kernel
              exact this i h1
            omega
          · have : i = 9 := by omega
            subst this
            rw [cap_vals.2.1]
            omega
theorem digs_pos (u : Nat) : 0 < (digs u).length := by
  by_cases h : u < 128
  · rw [digs_small h]; simp
  · rw [digs_big h]; simp

/- Numbers as they are put and read. -/
def numB (n : Int) : List UInt8 := digs (zz n)
theorem dec_num (n : Int) (h1 : -9223372036854775808 ≤ n) (h2 : n < 9223372036854775808) (rest : List UInt8) : dec 0 (numB n ++ rest) = some (zz n, (numB n).length) :=
  dec_digs rest _ 0 (by rw [cap_vals.1]; exact zz_lt n h1 h2) (.inr rfl)

/- A reader: what is left of a good one. -/
abbrev Rd := Option (List UInt8)
def rdByte : Rd → UInt8 × Rd
  | some (x :: l) => (x, some l)
  | _ => (0, none)
def rdInt : Rd → Int × Rd
  | some l => match dec 0 l with
    | some (u, s) => (unzz u, some (l.drop s))
    | none => (0, none)
  | none => (0, none)
def rdCount (r : Rd) (most : Int) : Int × Rd :=
  if (rdInt r).1 < 0 ∨ most < (rdInt r).1 then (0, none) else rdInt r
def rdTake (r : Rd) (n : Nat) : List UInt8 × Rd :=
  match r with
  | some l => if l.length < n then ([], none) else (l.take n, some (l.drop n))
  | none => ([], none)
def rdText (r : Rd) (most : Int) : List UInt8 × Rd := rdTake (rdCount r most).2 (rdCount r most).1.toNat

/- One thing that is put: a sort, a number, bytes. -/
structure Th where
  sort : Int
  n : Int
  b : List UInt8
def textB (l : List UInt8) : List UInt8 := numB l.length ++ l
def u8 (n : Int) : UInt8 := UInt8.ofNat (n % 256).toNat
/- What stands for one of k sorts. -/
def pick (k : Nat) (n : Int) : Nat := (n % k).toNat
def putB (x : Th) : List UInt8 := if pick 4 x.sort = 0 then [u8 x.n] else if pick 4 x.sort = 1 then numB x.n else textB x.b
def allB (l : List Th) : List UInt8 := (l.map putB).flatten

def Fits (x : Th) : Prop := -9223372036854775808 ≤ x.n ∧ x.n < 9223372036854775808 ∧ x.b.length < 4611686018427387904
theorem rdInt_num (n : Int) (h1 : -9223372036854775808 ≤ n) (h2 : n < 9223372036854775808) (rest : List UInt8) : rdInt (some (numB n ++ rest)) = (n, some rest) := by
  simp only [rdInt, dec_num n h1 h2, unzz_zz, List.drop_left]
theorem rdInt_short (n : Int) (k : Nat) (hk : k < (numB n).length) : rdInt (some ((numB n).take k)) = (0, none) := by
  simp only [rdInt]
  rw [show dec 0 ((numB n).take k) = none from dec_short _ 0 k hk]
theorem rdText_text (l : List UInt8) (h : l.length < 4611686018427387904) (most : Int) (hm : (l.length : Int) ≤ most) (rest : List UInt8) : rdText (some (textB l ++ rest)) most = (l, some rest) := by
  have e : rdCount (some (textB l ++ rest)) most = ((l.length : Int), some (l ++ rest)) := by
    unfold rdCount
    rw [textB, List.append_assoc, rdInt_num _ (by omega) (by omega)]
    rw [if_neg (by simp; omega)]
  unfold rdText
  rw [e]
  simp only [rdTake, Int.toNat_natCast]
  rw [if_neg (by simp)]
  simp
theorem rdText_short (l : List UInt8) (h : l.length < 4611686018427387904) (most : Int) (hm : (l.length : Int) ≤ most) (k : Nat) (hk : k < (textB l).length) : rdText (some ((textB l).take k)) most = ([], none) := by
  by_cases hn : k < (numB l.length).length
  · have e : rdCount (some ((textB l).take k)) most = (0, none) := by
      unfold rdCount
      rw [textB, List.take_append_of_le_length (by omega), rdInt_short _ k hn]
      simp
    unfold rdText
    rw [e]; rfl
  · have e : rdCount (some ((textB l).take k)) most = ((l.length : Int), some (l.take (k - (numB l.length).length))) := by
      unfold rdCount
      rw [textB, List.take_append, List.take_of_length_le (by omega), rdInt_num _ (by omega) (by omega)]
      rw [if_neg (by simp; omega)]
    unfold rdText
    rw [e]
    simp only [rdTake, Int.toNat_natCast]
    rw [if_pos]
    simp only [textB, List.length_append] at hk
    simp; omega
end Go.Proofs.YtbcfeeahlhoggaaDoor
