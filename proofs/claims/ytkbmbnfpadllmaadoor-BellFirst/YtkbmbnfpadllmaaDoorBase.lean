/- Plain mathematics of numbers as bytes, of what is put and what is read; no program in this text. -/
import Derived.Below
import Derived.WalkKit
import Derived.Maps.AppendAt
import Derived.Laws.OwnMore
import Derived.Laws.IdiomStrings
import Derived.BigQuiet
import Derived.Deep.QuietTactic
import Derived.Test.YtkbmbnfpadllmaaDoorProg
namespace Go.Proofs.YtkbmbnfpadllmaaDoor

/- The number that stands for a whole number, and back. -/
def zz (n : Int) : Nat := if 0 ≤ n then (2 * n).toNat else (-2 * n - 1).toNat
def unzz (u : Nat) : Int := if u % 2 = 1 then -((u / 2 : Nat) : Int) - 1 else ((u / 2 : Nat) : Int)
theorem unzz_zz (n : Int) : unzz (zz n) = n := by
  unfold unzz zz
  split <;> split <;> omega
theorem zz_unzz (u : Nat) : zz (unzz u) = u := by
  unfold unzz zz
  split <;> split <;> omega
theorem zz_lt (n : Int) (h1 : -9223372036854775808 ≤ n) (h2 : n < 9223372036854775808) : zz n < 18446744073709551616 := by
  unfold zz; split <;> omega
theorem unzz_range (u : Nat) (h : u < 18446744073709551616) : -9223372036854775808 ≤ unzz u ∧ unzz u < 9223372036854775808 := by
  unfold unzz; split <;> omega

/- The digits of a number, the lowest first. -/
def digs (u : Nat) : List UInt8 := if u < 128 then [UInt8.ofNat u] else UInt8.ofNat (u % 128 + 128) :: digs (u / 128)
termination_by u
decreasing_by omega
theorem digs_small {u : Nat} (h : u < 128) : digs u = [UInt8.ofNat u] := by rw [digs, if_pos h]
theorem digs_big {u : Nat} (h : ¬ u < 128) : digs u = UInt8.ofNat (u % 128 + 128) :: digs (u / 128) := by rw [digs, if_neg h]

/- What a row of bytes begins with, as the i-th digit and those behind it: the number, and how many digits. -/
def dec (i : Nat) : List UInt8 → Option (Nat × Nat)
  | [] => none
  | x :: l => if 10 ≤ i then none else if 128 ≤ x.toNat then (dec (i + 1) l).map (fun p => (x.toNat - 128 + 128 * p.1, p.2 + 1))
    else if (i = 9 ∧ x.toNat ≠ 1) ∨ (x.toNat = 0 ∧ 0 < i) then none else some (x.toNat, 1)

theorem ofNat_small {u : Nat} (h : u < 256) : (UInt8.ofNat u).toNat = u := by
  rw [UInt8.toNat_ofNat']; omega

/- How great a number of 10 - i digits may be. -/
def cap (i : Nat) : Nat := 18446744073709551616 / 128 ^ i
theorem cap_succ (i : Nat) : cap (i + 1) = cap i / 128 := by
  unfold cap; rw [Nat.pow_succ, Nat.div_div_eq_div_mul]
theorem cap_vals : cap 0 = 18446744073709551616 ∧ cap 9 = 2 ∧ cap 10 = 0 := by decide +kernel
theorem cap_mod : ∀ i, i < 9 → cap i % 128 = 0 := by decide +kernel
theorem cap_div {i u : Nat} (h : u < cap i) (hb : 128 ≤ u) (hi : i < 10) : u / 128 < cap (i + 1) := by
  rw [cap_succ]
  rcases Nat.lt_or_ge i 9 with h1 | h1
  · have := cap_mod i h1
    omega
  · have : i = 9 := by omega
    subst this
    have := cap_vals.2.1
    omega
theorem cap_small : ∀ i, 10 ≤ i → cap i = 0 := by
  intro i h
  induction i with
  | zero => omega
  | succ i ih =>
    rcases Nat.lt_or_ge i 10 with h1 | h1
    · have : i = 9 := by omega
      subst this; exact cap_vals.2.2
    · rw [cap_succ, ih h1]

theorem dec_digs (rest : List UInt8) : ∀ (u i : Nat), u < cap i → (0 < u ∨ i = 0) → dec i (digs u ++ rest) = some (u, (digs u).length) := by
  intro u
  induction u using Nat.strongRecOn with
  | _ u ih =>
    intro i hu hi
    have hi10 : ¬ 10 ≤ i := by
      intro h; rw [cap_small i h] at hu; omega
    by_cases h : u < 128
    · rw [digs_small h]
      simp only [List.singleton_append, dec, if_neg hi10, ofNat_small (show u < 256 by omega), List.length_singleton]
      rw [if_neg (by omega), if_neg]
      rintro (⟨rfl, h9⟩ | ⟨h0, h1⟩)
      · rw [cap_vals.2.1] at hu; omega
      · omega
    · rw [digs_big h]
      simp only [List.cons_append, dec, if_neg hi10, ofNat_small (show u % 128 + 128 < 256 by omega), List.length_cons]
      rw [if_pos (by omega), ih (u / 128) (by omega) (i + 1) (cap_div hu (by omega) (by omega)) (by omega)]
      simp; omega

theorem dec_short : ∀ (u i k : Nat), k < (digs u).length → dec i ((digs u).take k) = none := by
  intro u
  induction u using Nat.strongRecOn with
  | _ u ih =>
    intro i k hk
    cases k with
    | zero => simp [dec]
    | succ k =>
      by_cases h : u < 128
      · rw [digs_small h] at hk; simp at hk
      · rw [digs_big h] at hk ⊢
        simp only [List.length_cons, List.take_succ_cons, dec, ofNat_small (show u % 128 + 128 < 256 by omega)] at hk ⊢
        split
        · rfl
        · rw [if_pos (by omega), ih (u / 128) (by omega) (i + 1) k (by omega)]
          rfl

theorem dec_some : ∀ (l : List UInt8) (i u s : Nat), i ≤ 10 → dec i l = some (u, s) →
    u < cap i ∧ (0 < u ∨ i = 0) ∧ l.take s = digs u ∧ s = (digs u).length ∧ s ≤ l.length ∧ 0 < s ∧ i + s ≤ 10 := by
  intro l
  induction l with
  | nil => intro i u s _ h; cases h
  | cons x l ih =>
    intro i u s hi h
    rw [dec] at h
    have hx : x.toNat < 256 := x.toNat_lt
    split at h
    · cases h
    · split at h
      · next h10 h128 =>
        obtain ⟨⟨u', s'⟩, h1, h2⟩ := Option.map_eq_some_iff.1 h
        simp only [Prod.mk.injEq] at h2
        obtain ⟨rfl, rfl⟩ := h2
        obtain ⟨c1, c2, c3, c4, c5, c6, c7⟩ := ih (i + 1) u' s' (by omega) h1
        rw [cap_succ] at c1
        have hu' : 0 < u' := by omega
        have hbig : ¬ (x.toNat - 128 + 128 * u' < 128) := by omega
        have e1 : (x.toNat - 128 + 128 * u') % 128 + 128 = x.toNat := by omega
        have e2 : (x.toNat - 128 + 128 * u') / 128 = u' := by omega
        rw [digs_big hbig, e1, e2]
        refine ⟨by omega, by omega, ?_, by simp [← c4], by simp; omega, by omega, by omega⟩
        rw [List.take_succ_cons, c3, UInt8.ofNat_toNat]
      · split at h
        · cases h
        · next h10 h128 hn =>
          simp only [Option.some.injEq, Prod.mk.injEq] at h
          obtain ⟨rfl, rfl⟩ := h
          rw [digs_small (by omega)]
          refine ⟨?_, by omega, by simp, rfl, by simp, by omega, by omega⟩
          rcases Nat.lt_or_ge i 9 with h1 | h1
          · have : 128 ≤ cap i := by
              have : ∀ j, j < 9 → 128 ≤ cap j := by decide +kernel
              exact this i h1
            omega
          · have : i = 9 := by omega
            subst this
            rw [cap_vals.2.1]
            omega
theorem digs_pos (u : Nat) : 0 < (digs u).length := by
  by_cases h : u < 128
  · rw [digs_small h]; simp
  · rw [digs_big h]; simp

/- Numbers as they are put and read. -/
def numB (n : Int) : List UInt8 := digs (zz n)
theorem dec_num (n : Int) (h1 : -9223372036854775808 ≤ n) (h2 : n < 9223372036854775808) (rest : List UInt8) : dec 0 (numB n ++ rest) = some (zz n, (numB n).length) :=
  dec_digs rest _ 0 (by rw [cap_vals.1]; exact zz_lt n h1 h2) (.inr rfl)

/- A reader: what is left of a good one. -/
abbrev Rd := Option (List UInt8)
def rdByte : Rd → UInt8 × Rd
  | some (x :: l) => (x, some l)
  | _ => (0, none)
def rdInt : Rd → Int × Rd
  | some l => match dec 0 l with
    | some (u, s) => (unzz u, some (l.drop s))
    | none => (0, none)
  | none => (0, none)
def rdCount (r : Rd) (most : Int) : Int × Rd :=
  if (rdInt r).1 < 0 ∨ most < (rdInt r).1 then (0, none) else rdInt r
def rdTake (r : Rd) (n : Nat) : List UInt8 × Rd :=
  match r with
  | some l => if l.length < n then ([], none) else (l.take n, some (l.drop n))
  | none => ([], none)
def rdText (r : Rd) (most : Int) : List UInt8 × Rd := rdTake (rdCount r most).2 (rdCount r most).1.toNat

/- One thing that is put: a sort, a number, bytes. -/
structure Th where
  sort : Int
  n : Int
  b : List UInt8
def textB (l : List UInt8) : List UInt8 := numB l.length ++ l
def u8 (n : Int) : UInt8 := UInt8.ofNat (n % 256).toNat
/- What stands for one of k sorts. -/
def pick (k : Nat) (n : Int) : Nat := (n % k).toNat
def putB (x : Th) : List UInt8 := if pick 4 x.sort = 0 then [u8 x.n] else if pick 4 x.sort = 1 then numB x.n else textB x.b
def allB (l : List Th) : List UInt8 := (l.map putB).flatten

def Fits (x : Th) : Prop := -9223372036854775808 ≤ x.n ∧ x.n < 9223372036854775808 ∧ x.b.length < 4611686018427387904
theorem rdInt_num (n : Int) (h1 : -9223372036854775808 ≤ n) (h2 : n < 9223372036854775808) (rest : List UInt8) : rdInt (some (numB n ++ rest)) = (n, some rest) := by
  simp only [rdInt, dec_num n h1 h2, unzz_zz, List.drop_left]
theorem rdInt_short (n : Int) (k : Nat) (hk : k < (numB n).length) : rdInt (some ((numB n).take k)) = (0, none) := by
  simp only [rdInt]
  rw [show dec 0 ((numB n).take k) = none from dec_short _ 0 k hk]
theorem rdText_text (l : List UInt8) (h : l.length < 4611686018427387904) (most : Int) (hm : (l.length : Int) ≤ most) (rest : List UInt8) : rdText (some (textB l ++ rest)) most = (l, some rest) := by
  have e : rdCount (some (textB l ++ rest)) most = ((l.length : Int), some (l ++ rest)) := by
    unfold rdCount
    rw [textB, List.append_assoc, rdInt_num _ (by omega) (by omega)]
    rw [if_neg (by simp; omega)]
  unfold rdText
  rw [e]
  simp only [rdTake, Int.toNat_natCast]
  rw [if_neg (by simp)]
  simp
theorem rdText_short (l : List UInt8) (h : l.length < 4611686018427387904) (most : Int) (hm : (l.length : Int) ≤ most) (k : Nat) (hk : k < (textB l).length) : rdText (some ((textB l).take k)) most = ([], none) := by
  by_cases hn : k < (numB l.length).length
  · have e : rdCount (some ((textB l).take k)) most = (0, none) := by
      unfold rdCount
      rw [textB, List.take_append_of_le_length (by omega), rdInt_short _ k hn]
      simp
    unfold rdText
    rw [e]; rfl
  · have e : rdCount (some ((textB l).take k)) most = ((l.length : Int), some (l.take (k - (numB l.length).length))) := by
      unfold rdCount
      rw [textB, List.take_append, List.take_of_length_le (by omega), rdInt_num _ (by omega) (by omega)]
      rw [if_neg (by simp; omega)]
    unfold rdText
    rw [e]
    simp only [rdTake, Int.toNat_natCast]
    rw [if_pos]
    simp only [textB, List.length_append] at hk
    simp; omega
end Go.Proofs.YtkbmbnfpadllmaaDoor
/- Plain mathematics of the sum of a row of bytes (CRC-32), of frames, and of what one turned bit does; no program in this text. -/
namespace Go.Proofs.YtkbmbnfpadllmaaDoor

def bit1 (c : Nat) : Nat := (c / 2) ^^^ ((c % 2) * 3988292384)
def bitN : Nat → Nat → Nat
  | 0, c => c
  | n + 1, c => bitN n (bit1 c)
def crcByte (c : Nat) (x : UInt8) : Nat := bitN 8 (c ^^^ x.toNat)
def crcOn (c : Nat) (l : List UInt8) : Nat := l.foldl crcByte c
def sumOf (l : List UInt8) : Nat := 4294967295 - crcOn 4294967295 l

theorem xor_lt {a b : Nat} (h1 : a < 4294967296) (h2 : b < 4294967296) : a ^^^ b < 4294967296 := Nat.xor_lt_two_pow (n := 32) h1 h2
theorem bit1_lt {c : Nat} (h : c < 4294967296) : bit1 c < 4294967296 := by
  unfold bit1
  refine xor_lt (by omega) ?_
  have := Nat.mod_lt c (show 2 > 0 by omega)
  omega
theorem bitN_lt : ∀ (n : Nat) {c : Nat}, c < 4294967296 → bitN n c < 4294967296
  | 0, _, h => h
  | n + 1, _, h => bitN_lt n (bit1_lt h)
theorem crcByte_lt {c : Nat} (h : c < 4294967296) (x : UInt8) : crcByte c x < 4294967296 :=
  bitN_lt 8 (xor_lt h (by have := x.toNat_lt; omega))
theorem crcOn_lt (l : List UInt8) : ∀ {c : Nat}, c < 4294967296 → crcOn c l < 4294967296 := by
  induction l with
  | nil => intro c h; exact h
  | cons x l ih => intro c h; exact ih (crcByte_lt h x)
theorem sumOf_lt (l : List UInt8) : sumOf l < 4294967296 := by unfold sumOf; omega

theorem xor_div2 (a b : Nat) : (a ^^^ b) / 2 = (a / 2) ^^^ (b / 2) := by
  have := Nat.shiftRight_xor_distrib (a := a) (b := b) (i := 1)
  simpa [Nat.shiftRight_succ] using this
theorem xor_mod2 (a b : Nat) : (a ^^^ b) % 2 = (a % 2) ^^^ (b % 2) := by
  have := Nat.xor_mod_two_pow (a := a) (b := b) (n := 1)
  simpa using this
theorem bit1_xor (a b : Nat) : bit1 (a ^^^ b) = bit1 a ^^^ bit1 b := by
  unfold bit1
  rw [xor_div2, xor_mod2]
  have e : (a % 2 ^^^ b % 2) * 3988292384 = (a % 2 * 3988292384) ^^^ (b % 2 * 3988292384) := by
    rcases Nat.mod_two_eq_zero_or_one a with ha | ha <;> rcases Nat.mod_two_eq_zero_or_one b with hb | hb <;> rw [ha, hb] <;> simp
  rw [e]
  ac_rfl
theorem bitN_xor : ∀ (n a b : Nat), bitN n (a ^^^ b) = bitN n a ^^^ bitN n b
  | 0, _, _ => rfl
  | n + 1, a, b => by rw [bitN, bit1_xor, bitN_xor n]; rfl
theorem bit1_zero {d : Nat} (h : d < 4294967296) (e : bit1 d = 0) : d = 0 := by
  unfold bit1 at e
  have h1 : d / 2 = d % 2 * 3988292384 := by
    have := congrArg (· ^^^ (d % 2 * 3988292384)) e
    simpa [Nat.xor_assoc] using this
  rcases Nat.mod_two_eq_zero_or_one d with h2 | h2 <;> rw [h2] at h1 <;> omega
theorem bitN_zero : ∀ (n : Nat) {d : Nat}, d < 4294967296 → bitN n d = 0 → d = 0
  | 0, _, _, e => e
  | n + 1, _, h, e => bit1_zero h (bitN_zero n (bit1_lt h) e)
theorem xor_eq_zero {a b : Nat} (h : a ^^^ b = 0) : a = b := by
  have := congrArg (· ^^^ b) h
  simpa [Nat.xor_assoc] using this
theorem bitN_inj (n : Nat) {a b : Nat} (ha : a < 4294967296) (hb : b < 4294967296) (h : bitN n a = bitN n b) : a = b := by
  refine xor_eq_zero (bitN_zero n (xor_lt ha hb) ?_)
  rw [bitN_xor, h, Nat.xor_self]
theorem bitN_add : ∀ (m n c : Nat), bitN n (bitN m c) = bitN (m + n) c
  | 0, n, c => by rw [Nat.zero_add]; rfl
  | m + 1, n, c => by
    rw [show m + 1 + n = (m + n) + 1 by omega]
    exact bitN_add m n (bit1 c)
theorem bit1_even (z : Nat) : bit1 (2 * z) = z := by
  unfold bit1
  rw [Nat.mul_mod_right, Nat.mul_div_cancel_left z (by omega)]
  simp
theorem bitN_even (z : Nat) : bitN 8 (256 * z) = z := by
  have h : 256 * z = 2 * (2 * (2 * (2 * (2 * (2 * (2 * (2 * z))))))) := by omega
  rw [h]
  simp only [bitN, bit1_even]

/- The bytes of a row as one number. -/
def wordOf : List UInt8 → Nat
  | [] => 0
  | x :: e => x.toNat ^^^ (256 * wordOf e)
theorem crcOn_word : ∀ (e : List UInt8) (c : Nat), crcOn c e = bitN (8 * e.length) (c ^^^ wordOf e) := by
  intro e
  induction e with
  | nil => intro c; simp [crcOn, wordOf, bitN]
  | cons x e ih =>
    intro c
    have h1 : crcOn c (x :: e) = crcOn (crcByte c x) e := rfl
    rw [h1, ih, crcByte, wordOf, List.length_cons, show 8 * (e.length + 1) = 8 + 8 * e.length by omega, ← bitN_add, ← Nat.xor_assoc, bitN_xor 8 (c ^^^ x.toNat), bitN_even]
theorem xor_div256 (x w : Nat) (h : x < 256) : (x ^^^ (256 * w)) / 256 = w := by
  have := Nat.shiftRight_xor_distrib (a := x) (b := 256 * w) (i := 8)
  simp only [Nat.shiftRight_eq_div_pow] at this
  rw [show (2 : Nat) ^ 8 = 256 from rfl] at this
  rw [this, Nat.div_eq_of_lt h]
  simp
theorem xor_mod256 (x w : Nat) (h : x < 256) : (x ^^^ (256 * w)) % 256 = x := by
  have := Nat.xor_mod_two_pow (a := x) (b := 256 * w) (n := 8)
  rw [show (2 : Nat) ^ 8 = 256 from rfl] at this
  rw [this, Nat.mod_eq_of_lt h]
  simp
theorem wordOf_inj : ∀ (a b : List UInt8), a.length = b.length → wordOf a = wordOf b → a = b := by
  intro a
  induction a with
  | nil => intro b h _; cases b with
    | nil => rfl
    | cons => simp at h
  | cons x a ih =>
    intro b hl h
    cases b with
    | nil => simp at hl
    | cons y b =>
      rw [wordOf, wordOf] at h
      have h1 := congrArg (· / 256) h
      have h2 := congrArg (· % 256) h
      simp only [xor_div256 _ _ x.toNat_lt, xor_div256 _ _ y.toNat_lt] at h1
      simp only [xor_mod256 _ _ x.toNat_lt, xor_mod256 _ _ y.toNat_lt] at h2
      rw [ih b (by simpa using hl) h1, UInt8.toNat.inj h2]
theorem wordOf_lt : ∀ (a : List UInt8), a.length ≤ 4 → wordOf a < 4294967296 := by
  have h : ∀ (a : List UInt8), wordOf a < 2 ^ (8 * a.length) := by
    intro a
    induction a with
    | nil => simp [wordOf]
    | cons x a ih =>
      rw [wordOf, List.length_cons, show 8 * (a.length + 1) = 8 * a.length + 8 by omega]
      refine Nat.xor_lt_two_pow ?_ ?_
      · have h1 := x.toNat_lt
        have : 2 ^ 8 ≤ 2 ^ (8 * a.length + 8) := Nat.pow_le_pow_right (by omega) (by omega)
        omega
      · rw [Nat.pow_add]
        have : (2 : Nat) ^ 8 = 256 := rfl
        omega
  intro a ha
  refine Nat.lt_of_lt_of_le (h a) ?_
  have : 2 ^ (8 * a.length) ≤ 2 ^ 32 := Nat.pow_le_pow_right (by omega) (by omega)
  exact this
theorem crcOn_append (c : Nat) (a b : List UInt8) : crcOn c (a ++ b) = crcOn (crcOn c a) b := by simp [crcOn]
theorem crcOn_inj (l : List UInt8) : ∀ {a b : Nat}, a < 4294967296 → b < 4294967296 → crcOn a l = crcOn b l → a = b := by
  induction l with
  | nil => intro a b _ _ h; exact h
  | cons x l ih =>
    intro a b ha hb h
    have h1 : crcByte a x = crcByte b x := ih (crcByte_lt ha x) (crcByte_lt hb x) h
    have hx : x.toNat < 4294967296 := by have := x.toNat_lt; omega
    have h2 := bitN_inj 8 (xor_lt ha hx) (xor_lt hb hx) h1
    have := congrArg (· ^^^ x.toNat) h2
    simpa [Nat.xor_assoc] using this
/- Two rows that differ in up to four bytes side by side have other sums. -/
theorem sumOf_ne (p x y q : List UInt8) (hl : x.length = y.length) (h4 : x.length ≤ 4) (hne : x ≠ y) : sumOf (p ++ x ++ q) ≠ sumOf (p ++ y ++ q) := by
  intro h
  have b1 : crcOn 4294967295 (p ++ x ++ q) < 4294967296 := crcOn_lt _ (by omega)
  have b2 : crcOn 4294967295 (p ++ y ++ q) < 4294967296 := crcOn_lt _ (by omega)
  have h1 : crcOn 4294967295 (p ++ x ++ q) = crcOn 4294967295 (p ++ y ++ q) := by unfold sumOf at h; omega
  rw [crcOn_append, crcOn_append, crcOn_append _ (p ++ y), crcOn_append _ p y] at h1
  have b3 : crcOn 4294967295 p < 4294967296 := crcOn_lt _ (by omega)
  have h2 := crcOn_inj q (crcOn_lt _ b3) (crcOn_lt _ b3) h1
  rw [crcOn_word x, crcOn_word y, hl] at h2
  have h3 := bitN_inj _ (xor_lt b3 (wordOf_lt x h4)) (xor_lt b3 (wordOf_lt y (by omega))) h2
  have h4 := congrArg (crcOn 4294967295 p ^^^ ·) h3
  simp only [← Nat.xor_assoc, Nat.xor_self, Nat.zero_xor] at h4
  exact hne (wordOf_inj x y hl h4)

/- Four bytes of a number, the lowest first; frames. -/
def four (n : Nat) : List UInt8 := [UInt8.ofNat (n % 256), UInt8.ofNat (n / 256 % 256), UInt8.ofNat (n / 65536 % 256), UInt8.ofNat (n / 16777216 % 256)]
def numOf (l : List UInt8) : Nat := (l.getD 0 0).toNat + 256 * (l.getD 1 0).toNat + 65536 * (l.getD 2 0).toNat + 16777216 * (l.getD 3 0).toNat
theorem numOf_four (n : Nat) (h : n < 4294967296) (rest : List UInt8) : numOf (four n ++ rest) = n := by
  simp [numOf, four, UInt8.toNat_ofNat']
  omega
theorem numOf_lt (l : List UInt8) : numOf l < 4294967296 := by
  unfold numOf
  have h0 := (l.getD 0 0).toNat_lt
  have h1 := (l.getD 1 0).toNat_lt
  have h2 := (l.getD 2 0).toNat_lt
  have h3 := (l.getD 3 0).toNat_lt
  omega
theorem four_len (n : Nat) : (four n).length = 4 := rfl
def frameOf (l : List UInt8) : List UInt8 := four l.length ++ four (sumOf l) ++ l
theorem frameOf_len (l : List UInt8) : (frameOf l).length = 8 + l.length := by simp [frameOf, four_len]; omega
/- What a row of bytes begins with: what a frame of it holds. -/
def unframe (l : List UInt8) : Option (List UInt8) :=
  if l.length < 8 ∨ 1048576 < numOf l ∨ l.length - 8 < numOf l ∨ sumOf ((l.drop 8).take (numOf l)) ≠ numOf (l.drop 4) then none else some ((l.drop 8).take (numOf l))
theorem frame_drop8 (l rest : List UInt8) : (frameOf l ++ rest).drop 8 = l ++ rest := by
  rw [frameOf, List.append_assoc, List.append_assoc, ← List.append_assoc]
  exact List.drop_left' rfl
theorem frame_drop4 (l rest : List UInt8) : (frameOf l ++ rest).drop 4 = four (sumOf l) ++ (l ++ rest) := by
  rw [frameOf, List.append_assoc, List.append_assoc]
  exact List.drop_left' rfl
theorem frame_num (l rest : List UInt8) (h : l.length ≤ 1048576) : numOf (frameOf l ++ rest) = l.length := by
  rw [frameOf, List.append_assoc, List.append_assoc]
  exact numOf_four _ (by omega) _
theorem unframe_frame (l rest : List UInt8) (h : l.length ≤ 1048576) : unframe (frameOf l ++ rest) = some l := by
  unfold unframe
  rw [frame_num l rest h, frame_drop8, frame_drop4, numOf_four _ (sumOf_lt l), List.take_left, if_neg]
  rw [List.length_append, frameOf_len]
  simp; omega
theorem unframe_some {l x : List UInt8} (h : unframe l = some x) : x.length = numOf l ∧ x.length + 8 ≤ l.length ∧ x = (l.drop 8).take (numOf l) ∧ sumOf x = numOf (l.drop 4) ∧ x.length ≤ 1048576 := by
  unfold unframe at h
  split at h
  · cases h
  · next hn =>
    simp only [Option.some.injEq] at h
    have hl : x.length = numOf l := by rw [← h]; simp; omega
    refine ⟨hl, by omega, h.symm, ?_, by omega⟩
    rw [← h]
    exact Classical.not_not.1 fun e => hn (.inr (.inr (.inr e)))
theorem unframe_cut (l : List UInt8) (h : l.length ≤ 1048576) (k : Nat) (hk : k < (frameOf l).length) : unframe ((frameOf l).take k) = none := by
  cases hu : unframe ((frameOf l).take k) with
  | none => rfl
  | some x =>
    exfalso
    obtain ⟨h1, h2, _⟩ := unframe_some hu
    rw [frameOf_len] at hk
    rw [List.length_take, frameOf_len] at h2
    have h3 : numOf ((frameOf l).take k) = l.length := by
      have h4 : (frameOf l).take k = four l.length ++ ((frameOf l).take k).drop 4 := by
        have : four l.length = ((frameOf l).take k).take 4 := by
          rw [List.take_take, Nat.min_eq_left (by omega), frameOf, List.append_assoc]
          exact (List.take_left' rfl).symm
        rw [this, List.take_append_drop]
      rw [h4]
      exact numOf_four _ (by omega) _
    omega
end Go.Proofs.YtkbmbnfpadllmaaDoor
/- Plain mathematics of configs and quorums; no program in this text. -/
namespace Go.Proofs.YtkbmbnfpadllmaaDoor

structure Mem where
  id : Int
  role : Int
  weight : Int
  group : Int
deriving DecidableEq

def fitRole (m : Mem) : Bool :=
  if m.role = 1 then decide (0 ≤ m.weight) && decide (m.weight ≤ 1000) && decide (0 ≤ m.group) && decide (m.group < 7)
  else if m.role = 2 then decide (m.weight = 0) && decide (m.group = 0) else false
def fitOne (last : Int) (m : Mem) : Bool := decide (last < m.id) && decide (m.id ≤ 7) && fitRole m
def fitAll : Int → List Mem → Bool
  | _, [] => true
  | last, m :: l => fitOne last m && fitAll m.id l
def heavy (l : List Mem) : Bool := l.any fun m => decide (0 < m.weight)
def mayB (ver : Int) (l : List Mem) : Bool := decide (0 ≤ ver) && decide (ver ≤ 4611686018427387904) && (fitAll 0 l && heavy l)
def chk (ver : Int) (l : List Mem) : Int := if 7 < l.length then 3 else if mayB ver l = true then 0 else 140

/- Weights. -/
def wsum (p : Mem → Bool) : List Mem → Int
  | [] => 0
  | m :: l => (if p m then m.weight else 0) + wsum p l
def whole (l : List Mem) (g : Nat) : Int := wsum (fun m => decide (m.group = (g : Int))) l
def part (ids : List Int) (l : List Mem) (g : Nat) : Int := wsum (fun m => decide (m.group = (g : Int)) && ids.contains m.id) l
def cnt (p : Nat → Bool) : Nat → Nat
  | 0 => 0
  | n + 1 => cnt p n + if p n then 1 else 0
def winsB (wh pt : Nat → Int) : Bool := decide (cnt (fun g => decide (0 < wh g)) 7 < 2 * cnt (fun g => decide (wh g < 2 * pt g)) 7)
def quoB (ver : Int) (l : List Mem) (ids : List Int) : Bool := decide (chk ver l = 0) && winsB (whole l) (part ids l)

theorem cnt_le (p : Nat → Bool) : ∀ n, cnt p n ≤ n
  | 0 => Nat.le_refl _
  | n + 1 => by have := cnt_le p n; simp only [cnt]; split <;> omega
theorem cnt_mono {p q : Nat → Bool} (h : ∀ i, p i = true → q i = true) : ∀ n, cnt p n ≤ cnt q n
  | 0 => Nat.le_refl _
  | n + 1 => by
    have := cnt_mono h n
    simp only [cnt]
    by_cases hp : p n = true
    · rw [if_pos hp, if_pos (h n hp)]; omega
    · rw [if_neg hp]; split <;> omega
/- Two that each hold more than half of some have one in common. -/
theorem cnt_meet {p q r : Nat → Bool} (h1 : ∀ i, p i = true → r i = true) (h2 : ∀ i, q i = true → r i = true) : ∀ n, cnt r n < cnt p n + cnt q n → ∃ i, i < n ∧ p i = true ∧ q i = true
  | 0, h => by simp [cnt] at h
  | n + 1, h => by
    by_cases hb : p n = true ∧ q n = true
    · exact ⟨n, by omega, hb.1, hb.2⟩
    · have hlt : cnt r n < cnt p n + cnt q n := by
        simp only [cnt] at h
        by_cases hp : p n = true
        · have hq : ¬ q n = true := fun e => hb ⟨hp, e⟩
          rw [if_pos hp, if_neg hq, if_pos (h1 n hp)] at h; omega
        · rw [if_neg hp] at h
          by_cases hq : q n = true
          · rw [if_pos hq, if_pos (h2 n hq)] at h; omega
          · rw [if_neg hq] at h; split at h <;> omega
      obtain ⟨i, hi, h3⟩ := cnt_meet h1 h2 n hlt
      exact ⟨i, by omega, h3⟩
theorem wsum_nonneg (p : Mem → Bool) : ∀ (l : List Mem), (∀ m ∈ l, 0 ≤ m.weight) → 0 ≤ wsum p l
  | [], _ => Int.le_refl _
  | m :: l, h => by
    have := wsum_nonneg p l (fun x hx => h x (List.mem_cons_of_mem _ hx))
    have := h m List.mem_cons_self
    simp only [wsum]; split <;> omega
theorem wsum_le {p q : Mem → Bool} (hpq : ∀ m, p m = true → q m = true) : ∀ (l : List Mem), (∀ m ∈ l, 0 ≤ m.weight) → wsum p l ≤ wsum q l
  | [], _ => Int.le_refl _
  | m :: l, h => by
    have h1 := wsum_le hpq l (fun x hx => h x (List.mem_cons_of_mem _ hx))
    have h2 := h m List.mem_cons_self
    simp only [wsum]
    by_cases hp : p m = true
    · rw [if_pos hp, if_pos (hpq m hp)]; omega
    · rw [if_neg hp]; split <;> omega
theorem wsum_meet {p q r : Mem → Bool} (h1 : ∀ m, p m = true → r m = true) (h2 : ∀ m, q m = true → r m = true) : ∀ (l : List Mem), (∀ m ∈ l, 0 ≤ m.weight) → wsum r l < wsum p l + wsum q l → ∃ m ∈ l, 0 < m.weight ∧ p m = true ∧ q m = true
  | [], _, h => by simp [wsum] at h
  | m :: l, hw, h => by
    by_cases hb : 0 < m.weight ∧ p m = true ∧ q m = true
    · exact ⟨m, List.mem_cons_self, hb⟩
    · have hm := hw m List.mem_cons_self
      have hlt : wsum r l < wsum p l + wsum q l := by
        simp only [wsum] at h
        by_cases hp : p m = true
        · rw [if_pos hp, if_pos (h1 m hp)] at h
          by_cases hq : q m = true
          · have : ¬ 0 < m.weight := fun e => hb ⟨e, hp, hq⟩
            rw [if_pos hq] at h; omega
          · rw [if_neg hq] at h; omega
        · rw [if_neg hp] at h
          by_cases hq : q m = true
          · rw [if_pos hq, if_pos (h2 m hq)] at h; omega
          · rw [if_neg hq] at h; split at h <;> omega
      obtain ⟨x, hx, h3⟩ := wsum_meet h1 h2 l (fun x hx => hw x (List.mem_cons_of_mem _ hx)) hlt
      exact ⟨x, List.mem_cons_of_mem _ hx, h3⟩
theorem fitRole_weight {m : Mem} (h : fitRole m = true) : 0 ≤ m.weight ∧ m.weight ≤ 1000 ∧ 0 ≤ m.group ∧ m.group < 7 ∧ (0 < m.weight → m.role = 1) ∧ (m.role = 1 ∨ m.role = 2) := by
  unfold fitRole at h
  split at h
  · next h1 => simp at h; exact ⟨h.1.1.1, h.1.1.2, h.1.2, h.2, fun _ => h1, .inl h1⟩
  · split at h
    · next h1 h2 => simp at h; refine ⟨by omega, by omega, by omega, by omega, fun h3 => by omega, .inr h2⟩
    · cases h
theorem fitAll_mem : ∀ {l : List Mem} {last : Int}, fitAll last l = true → ∀ m ∈ l, fitRole m = true ∧ last < m.id ∧ m.id ≤ 7
  | [], _, _, m, hm => by cases hm
  | x :: l, last, h, m, hm => by
    simp only [fitAll, fitOne, Bool.and_eq_true, decide_eq_true_eq] at h
    rcases List.mem_cons.1 hm with rfl | hm
    · exact ⟨h.1.2, h.1.1.1, h.1.1.2⟩
    · have := fitAll_mem h.2 m hm
      exact ⟨this.1, by omega, this.2.2⟩
theorem chk_ok {ver : Int} {l : List Mem} (h : chk ver l = 0) : l.length ≤ 7 ∧ 0 ≤ ver ∧ ver ≤ 4611686018427387904 ∧ fitAll 0 l = true ∧ heavy l = true := by
  unfold chk at h
  split at h
  · cases h
  · split at h
    · next h1 h2 =>
      simp only [mayB, Bool.and_eq_true, decide_eq_true_eq] at h2
      exact ⟨by omega, h2.1.1, h2.1.2, h2.2.1, h2.2.2⟩
    · cases h
theorem chk_vals (ver : Int) (l : List Mem) : chk ver l = 0 ∨ chk ver l = 3 ∨ chk ver l = 140 := by
  unfold chk; split
  · exact .inr (.inl rfl)
  · split
    · exact .inl rfl
    · exact .inr (.inr rfl)
theorem win_group {ids : List Int} {l : List Mem} (hw : ∀ m ∈ l, 0 ≤ m.weight) (g : Nat) (h : decide (whole l g < 2 * part ids l g) = true) : decide (0 < whole l g) = true := by
  have h1 := of_decide_eq_true h
  have h2 : part ids l g ≤ whole l g := wsum_le (fun m hm => by simp only [Bool.and_eq_true] at hm; exact hm.1) l hw
  have h3 : 0 ≤ whole l g := wsum_nonneg _ l hw
  exact decide_eq_true (by omega)
/- Any two quorums have a voter in common. -/
theorem quo_meet {ver : Int} {l : List Mem} {a b : List Int} (ha : quoB ver l a = true) (hb : quoB ver l b = true) : ∃ m ∈ l, m.role = 1 ∧ 0 < m.weight ∧ a.contains m.id = true ∧ b.contains m.id = true := by
  simp only [quoB, winsB, Bool.and_eq_true, decide_eq_true_eq] at ha hb
  obtain ⟨_, _, _, hf, _⟩ := chk_ok ha.1
  have hw : ∀ m ∈ l, 0 ≤ m.weight := fun m hm => (fitRole_weight (fitAll_mem hf m hm).1).1
  obtain ⟨g, hg, h1, h2⟩ := cnt_meet (win_group hw) (win_group hw) 7 (show cnt _ 7 < cnt (fun g => decide (whole l g < 2 * part a l g)) 7 + cnt (fun g => decide (whole l g < 2 * part b l g)) 7 by omega)
  have h1' := of_decide_eq_true h1
  have h2' := of_decide_eq_true h2
  obtain ⟨m, hm, hp, hq1, hq2⟩ := wsum_meet (p := fun m => decide (m.group = (g : Int)) && a.contains m.id) (q := fun m => decide (m.group = (g : Int)) && b.contains m.id) (r := fun m => decide (m.group = (g : Int)))
    (fun m hm => by simp only [Bool.and_eq_true] at hm; exact hm.1) (fun m hm => by simp only [Bool.and_eq_true] at hm; exact hm.1) l hw (by
      show whole l g < part a l g + part b l g
      omega)
  simp only [Bool.and_eq_true] at hq1 hq2
  exact ⟨m, hm, (fitRole_weight (fitAll_mem hf m hm).1).2.2.2.2.1 hp, hp, hq1.2, hq2.2⟩
theorem wsum_congr {p q : Mem → Bool} : ∀ {l : List Mem}, (∀ m ∈ l, 0 < m.weight → p m = q m) → (∀ m ∈ l, 0 ≤ m.weight) → wsum p l = wsum q l
  | [], _, _ => rfl
  | m :: l, h, hw => by
    have h1 := wsum_congr (l := l) (fun x hx => h x (List.mem_cons_of_mem _ hx)) (fun x hx => hw x (List.mem_cons_of_mem _ hx))
    have hm := hw m List.mem_cons_self
    simp only [wsum, h1]
    by_cases h0 : 0 < m.weight
    · rw [h m List.mem_cons_self h0]
    · have : m.weight = 0 := by omega
      rw [this]; simp
theorem winsB_congr {w1 w2 p1 p2 : Nat → Int} (h1 : ∀ g, w1 g = w2 g) (h2 : ∀ g, p1 g = p2 g) : winsB w1 p1 = winsB w2 p2 := by
  have e1 : w1 = w2 := funext h1
  have e2 : p1 = p2 := funext h2
  rw [e1, e2]
/- What follows of a quorum: with more servers it stays one. -/
theorem quo_more {ver : Int} {l : List Mem} {a b : List Int} (ha : quoB ver l a = true) (hab : ∀ i, a.contains i = true → b.contains i = true) : quoB ver l b = true := by
  simp only [quoB, winsB, Bool.and_eq_true, decide_eq_true_eq] at ha ⊢
  obtain ⟨_, _, _, hf, _⟩ := chk_ok ha.1
  have hw : ∀ m ∈ l, 0 ≤ m.weight := fun m hm => (fitRole_weight (fitAll_mem hf m hm).1).1
  refine ⟨ha.1, ?_⟩
  have := cnt_mono (p := fun g => decide (whole l g < 2 * part a l g)) (q := fun g => decide (whole l g < 2 * part b l g)) (fun g h => by
    have h1 := of_decide_eq_true h
    have h2 : part a l g ≤ part b l g := wsum_le (fun m hm => by simp only [Bool.and_eq_true] at hm ⊢; exact ⟨hm.1, hab _ hm.2⟩) l hw
    exact decide_eq_true (by omega)) 7
  omega
/- Servers that are the same among the voters are a quorum both or none. -/
theorem quo_same {ver : Int} {l : List Mem} {a b : List Int} (h : ∀ m ∈ l, m.role = 1 → a.contains m.id = b.contains m.id) : quoB ver l a = quoB ver l b := by
  by_cases hc : chk ver l = 0
  · obtain ⟨_, _, _, hf, _⟩ := chk_ok hc
    have hw : ∀ m ∈ l, 0 ≤ m.weight := fun m hm => (fitRole_weight (fitAll_mem hf m hm).1).1
    have e : part a l = part b l := funext fun g => wsum_congr (fun m hm h0 => by rw [h m hm ((fitRole_weight (fitAll_mem hf m hm).1).2.2.2.2.1 h0)]) hw
    unfold quoB
    rw [e]
  · unfold quoB
    rw [decide_eq_false hc]; rfl
theorem quo_none (ver : Int) (l : List Mem) : quoB ver l [] = false := by
  by_cases hc : chk ver l = 0
  · obtain ⟨_, _, _, hf, _⟩ := chk_ok hc
    have hw : ∀ m ∈ l, 0 ≤ m.weight := fun m hm => (fitRole_weight (fitAll_mem hf m hm).1).1
    unfold quoB
    rw [decide_eq_true hc, Bool.true_and, winsB]
    refine decide_eq_false ?_
    have h0 : ∀ g, part [] l g = 0 := by
      intro g
      unfold part
      have : ∀ l : List Mem, wsum (fun m => decide (m.group = (g : Int)) && ([] : List Int).contains m.id) l = 0 := by
        intro l
        induction l with
        | nil => rfl
        | cons m l ih => simp [wsum] at ih ⊢; exact ih
      exact this l
    have : cnt (fun g => decide (whole l g < 2 * part [] l g)) 7 = 0 := by
      have h1 : ∀ n, cnt (fun g => decide (whole l g < 2 * part [] l g)) n = 0 := by
        intro n
        induction n with
        | zero => rfl
        | succ n ih =>
          have hn : 0 ≤ whole l n := wsum_nonneg _ l hw
          rw [cnt, ih, h0, if_neg (by simp; omega)]
      exact h1 7
    omega
  · unfold quoB
    rw [decide_eq_false hc]; rfl
theorem heavy_mem {l : List Mem} (h : heavy l = true) : ∃ m ∈ l, 0 < m.weight := by
  unfold heavy at h
  obtain ⟨m, hm, h1⟩ := List.any_eq_true.1 h
  exact ⟨m, hm, of_decide_eq_true h1⟩
theorem wsum_pos {p : Mem → Bool} : ∀ {l : List Mem}, (∀ m ∈ l, 0 ≤ m.weight) → (∃ m ∈ l, 0 < m.weight ∧ p m = true) → 0 < wsum p l
  | [], _, ⟨_, h, _⟩ => by cases h
  | x :: l, hw, ⟨m, hm, h1, h2⟩ => by
    have h3 := wsum_nonneg p l (fun y hy => hw y (List.mem_cons_of_mem _ hy))
    have h4 := hw x List.mem_cons_self
    simp only [wsum]
    rcases List.mem_cons.1 hm with rfl | hm
    · rw [if_pos h2]; omega
    · have := wsum_pos (fun y hy => hw y (List.mem_cons_of_mem _ hy)) ⟨m, hm, h1, h2⟩
      split <;> omega
theorem cnt_pos {p : Nat → Bool} : ∀ {n : Nat} {i : Nat}, i < n → p i = true → 0 < cnt p n
  | 0, _, h, _ => by omega
  | n + 1, i, h, hp => by
    simp only [cnt]
    by_cases e : i = n
    · subst e; rw [if_pos hp]; omega
    · have := cnt_pos (n := n) (i := i) (by omega) hp
      omega
/- All voters together are a quorum. -/
theorem quo_all {ver : Int} {l : List Mem} {v : List Int} (h : ∀ m ∈ l, m.role = 1 → v.contains m.id = true) : quoB ver l v = decide (chk ver l = 0) := by
  by_cases hc : chk ver l = 0
  · obtain ⟨_, _, _, hf, hh⟩ := chk_ok hc
    have hw : ∀ m ∈ l, 0 ≤ m.weight := fun m hm => (fitRole_weight (fitAll_mem hf m hm).1).1
    unfold quoB
    rw [decide_eq_true hc, Bool.true_and, winsB]
    refine decide_eq_true ?_
    have hp : ∀ g, part v l g = whole l g := fun g => wsum_congr (fun m hm h0 => by rw [h m hm ((fitRole_weight (fitAll_mem hf m hm).1).2.2.2.2.1 h0), Bool.and_true]) hw
    have e : (fun g => decide (whole l g < 2 * part v l g)) = (fun g => decide (0 < whole l g)) := by
      funext g
      rw [hp g]
      by_cases h0 : 0 < whole l g
      · rw [decide_eq_true h0, decide_eq_true (by omega)]
      · rw [decide_eq_false h0, decide_eq_false (by omega)]
    rw [e]
    obtain ⟨m, hm, h0⟩ := heavy_mem hh
    have hr := fitRole_weight (fitAll_mem hf m hm).1
    have hg : 0 < whole l m.group.toNat := wsum_pos hw ⟨m, hm, h0, decide_eq_true (by omega)⟩
    have := cnt_pos (p := fun g => decide (0 < whole l g)) (n := 7) (i := m.group.toNat) (by omega) (decide_eq_true hg)
    omega
  · unfold quoB
    rw [decide_eq_false hc]; rfl
end Go.Proofs.YtkbmbnfpadllmaaDoor
/- Plain mathematics of a config's bytes; no program in this text. -/
namespace Go.Proofs.YtkbmbnfpadllmaaDoor

def memB (m : Mem) : List UInt8 := numB m.id ++ (numB m.role ++ (numB m.weight ++ numB m.group))
def memsB : List Mem → List UInt8
  | [] => []
  | m :: l => memB m ++ memsB l
def cfgB (ver : Int) (l : List Mem) : List UInt8 := numB ver ++ (numB l.length ++ memsB l)

/- As the program reads it. -/
def rdMem (r : Rd) : Mem × Rd :=
  (⟨(rdCount r 7).1, (rdCount (rdCount r 7).2 2).1, (rdCount (rdCount (rdCount r 7).2 2).2 1000).1, (rdCount (rdCount (rdCount (rdCount r 7).2 2).2 1000).2 6).1⟩,
    (rdCount (rdCount (rdCount (rdCount r 7).2 2).2 1000).2 6).2)
def rdMems : Nat → Rd → List Mem × Rd
  | 0, r => ([], r)
  | n + 1, r => ((rdMem r).1 :: (rdMems n (rdMem r).2).1, (rdMems n (rdMem r).2).2)
def cfgOf (b : List UInt8) : Option (Int × List Mem) :=
  let r1 := rdInt (some b)
  let r2 := rdCount r1.2 7
  let r3 := rdMems r2.1.toNat r2.2
  if r3.2 = some [] ∧ chk r1.1 r3.1 = 0 then some (r1.1, r3.1) else none
/- As the document reads it. -/
def rdSmall (r : Rd) (most : Int) : Int × Rd := (if (rdInt r).1 < 0 ∨ most < (rdInt r).1 then most + 1 else (rdInt r).1, (rdInt r).2)
def rfMem (r : Rd) : Mem × Rd :=
  (⟨(rdSmall r 7).1, (rdSmall (rdSmall r 7).2 2).1, (rdSmall (rdSmall (rdSmall r 7).2 2).2 1000).1, (rdSmall (rdSmall (rdSmall (rdSmall r 7).2 2).2 1000).2 7).1⟩,
    (rdSmall (rdSmall (rdSmall (rdSmall r 7).2 2).2 1000).2 7).2)
def rfMems : Nat → Rd → List Mem × Rd
  | 0, r => ([], r)
  | n + 1, r => ((rfMem r).1 :: (rfMems n (rfMem r).2).1, (rfMems n (rfMem r).2).2)
def cfgRf (b : List UInt8) : Option (Int × List Mem) :=
  let r1 := rdInt (some b)
  let r2 := rdCount r1.2 7
  let r3 := rfMems r2.1.toNat r2.2
  if r3.2 = some [] ∧ chk r1.1 r3.1 = 0 then some (r1.1, r3.1) else none

theorem rdInt_none : rdInt none = (0, none) := rfl
theorem rdInt_inv {r : Rd} {n : Int} {t : List UInt8} (h : rdInt r = (n, some t)) : r = some (numB n ++ t) ∧ -9223372036854775808 ≤ n ∧ n < 9223372036854775808 := by
  cases r with
  | none => rw [rdInt_none] at h; cases h
  | some l =>
    unfold rdInt at h
    dsimp only at h
    cases hd : dec 0 l with
    | none => rw [hd] at h; cases h
    | some p =>
      obtain ⟨u, s⟩ := p
      rw [hd] at h
      simp only [Prod.mk.injEq, Option.some.injEq] at h
      obtain ⟨rfl, rfl⟩ := h
      obtain ⟨d1, _, d3, _⟩ := dec_some l 0 u s (by omega) hd
      rw [cap_vals.1] at d1
      refine ⟨?_, unzz_range u d1⟩
      unfold numB
      rw [zz_unzz, ← d3, List.take_append_drop]
theorem rdCount_none (m : Int) : rdCount none m = (0, none) := by
  unfold rdCount
  rw [rdInt_none]
  split <;> rfl
theorem rdCount_inv {r : Rd} {n m : Int} {t : List UInt8} (h : rdCount r m = (n, some t)) : r = some (numB n ++ t) ∧ 0 ≤ n ∧ n ≤ m := by
  unfold rdCount at h
  split at h
  · cases h
  · next hn =>
    obtain ⟨h1, _⟩ := rdInt_inv h
    rw [h] at hn
    exact ⟨h1, by omega, by omega⟩
theorem rdCount_num (n m : Int) (h0 : 0 ≤ n) (h1 : n ≤ m) (h2 : n < 9223372036854775808) (t : List UInt8) : rdCount (some (numB n ++ t)) m = (n, some t) := by
  unfold rdCount
  rw [rdInt_num n (by omega) h2, if_neg (by simp; omega)]
theorem pair_some {α : Type} {p : α × Rd} {t : List UInt8} (h : p.2 = some t) : p = (p.1, some t) := by rw [← h]
theorem rdSmall_none (m : Int) : (rdSmall none m).2 = none := rfl
theorem rdMem_none : (rdMem none).2 = none := by
  unfold rdMem
  simp only [rdCount_none]
theorem rdMem_inv {r : Rd} {t : List UInt8} (h : (rdMem r).2 = some t) : r = some (memB (rdMem r).1 ++ t) := by
  have h4 : (rdCount (rdCount (rdCount (rdCount r 7).2 2).2 1000).2 6).2 = some t := h
  obtain ⟨e4, _⟩ := rdCount_inv (pair_some h4)
  obtain ⟨e3, _⟩ := rdCount_inv (pair_some e4)
  obtain ⟨e2, _⟩ := rdCount_inv (pair_some e3)
  obtain ⟨e1, _⟩ := rdCount_inv (pair_some e2)
  show r = some (memB (rdMem r).1 ++ t)
  rw [e1]
  congr 1
  rw [← e1]
  unfold memB rdMem
  simp only [List.append_assoc]
theorem rdMems_none : ∀ n, (rdMems n none).2 = none
  | 0 => rfl
  | n + 1 => by rw [rdMems, rdMem_none]; exact rdMems_none n
theorem rdMems_inv : ∀ (n : Nat) {r : Rd} {t : List UInt8}, (rdMems n r).2 = some t → r = some (memsB (rdMems n r).1 ++ t) ∧ (rdMems n r).1.length = n
  | 0, r, t, h => ⟨h, rfl⟩
  | n + 1, r, t, h => by
    have h1 : (rdMems n (rdMem r).2).2 = some t := h
    obtain ⟨e1, e2⟩ := rdMems_inv n h1
    have e3 := rdMem_inv e1
    refine ⟨?_, ?_⟩
    · rw [rdMems]
      show r = some (memB (rdMem r).1 ++ memsB (rdMems n (rdMem r).2).1 ++ t)
      rw [List.append_assoc]; exact e3
    · show ((rdMem r).1 :: (rdMems n (rdMem r).2).1).length = n + 1
      rw [List.length_cons, e2]
theorem rfMem_inv {r : Rd} {t : List UInt8} (h : (rfMem r).2 = some t) (hf : fitRole (rfMem r).1 = true) (hi : (rfMem r).1.id ≤ 7) : r = some (memB (rfMem r).1 ++ t) := by
  have hs : ∀ (r : Rd) (m : Int) (t : List UInt8), (rdSmall r m).2 = some t → (rdSmall r m).1 ≤ m → r = some (numB (rdSmall r m).1 ++ t) := by
    intro r m t h hm
    have h1 : (rdInt r).2 = some t := h
    obtain ⟨e, _⟩ := rdInt_inv (pair_some h1)
    have : (rdSmall r m).1 = (rdInt r).1 := by
      unfold rdSmall at hm ⊢
      dsimp only at hm ⊢
      split
      · next hh => rw [if_pos hh] at hm; omega
      · rfl
    rw [this]; exact e
  have hr := fitRole_weight hf
  have h4 : (rdSmall (rdSmall (rdSmall (rdSmall r 7).2 2).2 1000).2 7).2 = some t := h
  have g4 : (rdSmall (rdSmall (rdSmall (rdSmall r 7).2 2).2 1000).2 7).1 < 7 := hr.2.2.2.1
  have g3 : (rdSmall (rdSmall (rdSmall r 7).2 2).2 1000).1 ≤ 1000 := hr.2.1
  have g2 : (rdSmall (rdSmall r 7).2 2).1 ≤ 2 := by
    have : (rfMem r).1.role = 1 ∨ (rfMem r).1.role = 2 := hr.2.2.2.2.2
    have e : (rfMem r).1.role = (rdSmall (rdSmall r 7).2 2).1 := rfl
    omega
  have g1 : (rdSmall r 7).1 ≤ 7 := hi
  have e4 := hs _ _ _ h4 (by omega)
  have e3 := hs _ _ _ e4 g3
  have e2 := hs _ _ _ e3 g2
  have e1 := hs _ _ _ e2 g1
  rw [e1]
  congr 1
  rw [← e1]
  unfold memB rfMem
  simp only [List.append_assoc]
theorem rfMems_inv : ∀ (n : Nat) {r : Rd} {t : List UInt8}, (rfMems n r).2 = some t → (∀ m ∈ (rfMems n r).1, fitRole m = true ∧ m.id ≤ 7) → r = some (memsB (rfMems n r).1 ++ t) ∧ (rfMems n r).1.length = n
  | 0, r, t, h, _ => ⟨h, rfl⟩
  | n + 1, r, t, h, hf => by
    have h1 : (rfMems n (rfMem r).2).2 = some t := h
    have hf' : ∀ m ∈ (rfMem r).1 :: (rfMems n (rfMem r).2).1, fitRole m = true ∧ m.id ≤ 7 := hf
    obtain ⟨e1, e2⟩ := rfMems_inv n h1 (fun m hm => hf' m (List.mem_cons_of_mem _ hm))
    have e3 := rfMem_inv e1 (hf' _ List.mem_cons_self).1 (hf' _ List.mem_cons_self).2
    refine ⟨?_, ?_⟩
    · rw [rfMems]
      show r = some (memB (rfMem r).1 ++ memsB (rfMems n (rfMem r).2).1 ++ t)
      rw [List.append_assoc]; exact e3
    · show ((rfMem r).1 :: (rfMems n (rfMem r).2).1).length = n + 1
      rw [List.length_cons, e2]
theorem rdMem_put (m : Mem) (hf : fitRole m = true) (h0 : 0 < m.id) (h7 : m.id ≤ 7) (t : List UInt8) : rdMem (some (memB m ++ t)) = (m, some t) := by
  have hr := fitRole_weight hf
  have hrole : 0 ≤ m.role ∧ m.role ≤ 2 := by rcases hr.2.2.2.2.2 with h | h <;> omega
  have e1 : rdCount (some (memB m ++ t)) 7 = (m.id, some (numB m.role ++ (numB m.weight ++ numB m.group) ++ t)) := by
    unfold memB
    rw [List.append_assoc]
    exact rdCount_num _ _ (by omega) h7 (by omega) _
  have e2 : rdCount (some (numB m.role ++ (numB m.weight ++ numB m.group) ++ t)) 2 = (m.role, some (numB m.weight ++ numB m.group ++ t)) := by
    rw [List.append_assoc]
    exact rdCount_num _ _ hrole.1 hrole.2 (by omega) _
  have e3 : rdCount (some (numB m.weight ++ numB m.group ++ t)) 1000 = (m.weight, some (numB m.group ++ t)) := by
    rw [List.append_assoc]
    exact rdCount_num _ _ hr.1 hr.2.1 (by omega) _
  have e4 : rdCount (some (numB m.group ++ t)) 6 = (m.group, some t) := rdCount_num _ _ hr.2.2.1 (by omega) (by omega) _
  unfold rdMem
  simp only [e1, e2, e3, e4]
theorem rfMem_put (m : Mem) (hf : fitRole m = true) (h0 : 0 < m.id) (h7 : m.id ≤ 7) (t : List UInt8) : rfMem (some (memB m ++ t)) = (m, some t) := by
  have hr := fitRole_weight hf
  have hrole : 0 ≤ m.role ∧ m.role ≤ 2 := by rcases hr.2.2.2.2.2 with h | h <;> omega
  have hs : ∀ (n m : Int) (t : List UInt8), 0 ≤ n → n ≤ m → n < 9223372036854775808 → rdSmall (some (numB n ++ t)) m = (n, some t) := by
    intro n m t h0 h1 h2
    unfold rdSmall
    rw [rdInt_num n (by omega) h2]
    dsimp only
    rw [if_neg (by omega)]
  have e1 : rdSmall (some (memB m ++ t)) 7 = (m.id, some (numB m.role ++ (numB m.weight ++ numB m.group) ++ t)) := by
    unfold memB
    rw [List.append_assoc]
    exact hs _ _ _ (by omega) h7 (by omega)
  have e2 : rdSmall (some (numB m.role ++ (numB m.weight ++ numB m.group) ++ t)) 2 = (m.role, some (numB m.weight ++ numB m.group ++ t)) := by
    rw [List.append_assoc]
    exact hs _ _ _ hrole.1 hrole.2 (by omega)
  have e3 : rdSmall (some (numB m.weight ++ numB m.group ++ t)) 1000 = (m.weight, some (numB m.group ++ t)) := by
    rw [List.append_assoc]
    exact hs _ _ _ hr.1 hr.2.1 (by omega)
  have e4 : rdSmall (some (numB m.group ++ t)) 7 = (m.group, some t) := hs _ _ _ hr.2.2.1 (by omega) (by omega)
  unfold rfMem
  simp only [e1, e2, e3, e4]
theorem rdMems_put : ∀ (l : List Mem), (∀ m ∈ l, fitRole m = true ∧ 0 < m.id ∧ m.id ≤ 7) → ∀ t, rdMems l.length (some (memsB l ++ t)) = (l, some t)
  | [], _, t => rfl
  | m :: l, h, t => by
    have h1 := h m List.mem_cons_self
    rw [List.length_cons, rdMems, memsB, List.append_assoc, rdMem_put m h1.1 h1.2.1 h1.2.2]
    dsimp only
    rw [rdMems_put l (fun x hx => h x (List.mem_cons_of_mem _ hx)) t]
theorem rfMems_put : ∀ (l : List Mem), (∀ m ∈ l, fitRole m = true ∧ 0 < m.id ∧ m.id ≤ 7) → ∀ t, rfMems l.length (some (memsB l ++ t)) = (l, some t)
  | [], _, t => rfl
  | m :: l, h, t => by
    have h1 := h m List.mem_cons_self
    rw [List.length_cons, rfMems, memsB, List.append_assoc, rfMem_put m h1.1 h1.2.1 h1.2.2]
    dsimp only
    rw [rfMems_put l (fun x hx => h x (List.mem_cons_of_mem _ hx)) t]
/- A config is read of just its bytes. -/
theorem cfgOf_iff (b : List UInt8) (ver : Int) (l : List Mem) : cfgOf b = some (ver, l) ↔ b = cfgB ver l ∧ chk ver l = 0 := by
  constructor
  · intro h
    unfold cfgOf at h
    dsimp only at h
    split at h
    · next hh =>
      simp only [Option.some.injEq, Prod.mk.injEq] at h
      obtain ⟨e1, e2⟩ := rdMems_inv _ hh.1
      obtain ⟨e3, h0, h7⟩ := rdCount_inv (pair_some e1)
      obtain ⟨e4, _⟩ := rdInt_inv (pair_some e3)
      have hl : (rdCount (rdInt (some b)).2 7).1 = (((rdMems (rdCount (rdInt (some b)).2 7).1.toNat (rdCount (rdInt (some b)).2 7).2).1.length : Nat) : Int) := by rw [e2]; omega
      obtain ⟨rfl, rfl⟩ := h
      refine ⟨?_, hh.2⟩
      have e5 := Option.some.inj e4
      rw [List.append_nil] at e5
      unfold cfgB
      rw [← hl]
      exact e5
    · cases h
  · rintro ⟨rfl, hc⟩
    obtain ⟨h7, h0, hv, hf, _⟩ := chk_ok hc
    have e1 : rdInt (some (cfgB ver l)) = (ver, some (numB l.length ++ memsB l)) := rdInt_num ver (by omega) (by omega) _
    have e2 : rdCount (some (numB l.length ++ memsB l)) 7 = ((l.length : Int), some (memsB l)) := rdCount_num _ _ (by omega) (by omega) (by omega) _
    have e3 := rdMems_put l (fun m hm => ⟨(fitAll_mem hf m hm).1, (fitAll_mem hf m hm).2⟩) []
    rw [List.append_nil] at e3
    unfold cfgOf
    simp only [e1, e2, Int.toNat_natCast, e3, hc, and_self, if_true]
theorem cfgRf_iff (b : List UInt8) (ver : Int) (l : List Mem) : cfgRf b = some (ver, l) ↔ b = cfgB ver l ∧ chk ver l = 0 := by
  constructor
  · intro h
    unfold cfgRf at h
    dsimp only at h
    split at h
    · next hh =>
      simp only [Option.some.injEq, Prod.mk.injEq] at h
      obtain ⟨_, _, _, hf, _⟩ := chk_ok hh.2
      obtain ⟨e1, e2⟩ := rfMems_inv _ hh.1 (fun m hm => ⟨(fitAll_mem hf m hm).1, (fitAll_mem hf m hm).2.2⟩)
      obtain ⟨e3, h0, h7⟩ := rdCount_inv (pair_some e1)
      obtain ⟨e4, _⟩ := rdInt_inv (pair_some e3)
      have hl : (rdCount (rdInt (some b)).2 7).1 = (((rfMems (rdCount (rdInt (some b)).2 7).1.toNat (rdCount (rdInt (some b)).2 7).2).1.length : Nat) : Int) := by rw [e2]; omega
      obtain ⟨rfl, rfl⟩ := h
      refine ⟨?_, hh.2⟩
      have e5 := Option.some.inj e4
      rw [List.append_nil] at e5
      unfold cfgB
      rw [← hl]
      exact e5
    · cases h
  · rintro ⟨rfl, hc⟩
    obtain ⟨h7, h0, hv, hf, _⟩ := chk_ok hc
    have e1 : rdInt (some (cfgB ver l)) = (ver, some (numB l.length ++ memsB l)) := rdInt_num ver (by omega) (by omega) _
    have e2 : rdCount (some (numB l.length ++ memsB l)) 7 = ((l.length : Int), some (memsB l)) := rdCount_num _ _ (by omega) (by omega) (by omega) _
    have e3 := rfMems_put l (fun m hm => ⟨(fitAll_mem hf m hm).1, (fitAll_mem hf m hm).2⟩) []
    rw [List.append_nil] at e3
    unfold cfgRf
    simp only [e1, e2, Int.toNat_natCast, e3, hc, and_self, if_true]
theorem cfg_same (b : List UInt8) : cfgOf b = cfgRf b := by
  cases h : cfgOf b with
  | some p =>
    obtain ⟨ver, l⟩ := p
    exact ((cfgRf_iff b ver l).2 ((cfgOf_iff b ver l).1 h)).symm
  | none =>
    cases h2 : cfgRf b with
    | none => rfl
    | some p =>
      obtain ⟨ver, l⟩ := p
      rw [(cfgOf_iff b ver l).2 ((cfgRf_iff b ver l).1 h2)] at h
      cases h
end Go.Proofs.YtkbmbnfpadllmaaDoor
/- Rows of bytes in memory, what a call may have turned, and appending bytes to a row of one's own. -/
namespace Go.Proofs.YtkbmbnfpadllmaaDoor
open Go.RowKit

def mkS (l : List UInt8) : ByteArray := ⟨l.toArray⟩
def bv (l : List UInt8) : List Value := l.map fun x => .int .u8 x.toNat
theorem bv_len (l : List UInt8) : (bv l).length = l.length := by simp [bv]
theorem bv_app (a b : List UInt8) : bv (a ++ b) = bv a ++ bv b := by simp [bv]
theorem bv_one (l : List UInt8) : ∀ u ∈ bv l, u.oneCell' = true := by
  intro u hu
  obtain ⟨y, _, rfl⟩ := List.mem_map.1 hu
  rfl
/- The block of a slice. -/
abbrev blk (v : Value) : Option Nat := v.ownBlock
/- The block that a slice with elements lies in. -/
def bk : Value → Option Nat
  | .slice (some a) n _ => if n = 0 then none else some a.block
  | _ => none
theorem bk_blk {v : Value} {k : Nat} (h : bk v = some k) : blk v = some k := by
  unfold bk at h
  split at h
  · split at h
    · cases h
    · exact h
  · cases h
theorem bk_zero (A : Option Addr) (c k : Nat) : ¬ bk (.slice A 0 c) = some k := by
  intro h
  cases A <;> cases h
theorem bk_pos {a : Addr} {n c : Nat} (h : 0 < n) : bk (.slice (some a) n c) = some a.block := by
  show (if n = 0 then none else some a.block) = _
  rw [if_neg (by omega)]
/- The slice v holds the bytes l. -/
def Bs (w : World) (v : Value) (l : List UInt8) : Prop :=
  (v = .slice none 0 0 ∧ l = []) ∨ (∃ ad c, v = .slice (some ad) 0 c ∧ l = []) ∨ (0 < l.length ∧ ∃ b o c, v = .slice (some ⟨b, o, none⟩) l.length c ∧ l.length ≤ c ∧ b < w.heap.size ∧
    ∀ j (h : j < l.length), w.cell? ⟨b, o + j, none⟩ = some (.int .u8 ((l[j]'h).toNat : Int)))
/- What may have turned between two worlds: the blocks of S, and nothing else that was there. -/
structure Chg (S : Nat → Prop) (w w' : World) : Prop where
  os : w'.os = w.os
  tape : w'.tape = w.tape
  output : w'.output = w.output
  size : w.heap.size ≤ w'.heap.size
  block : ∀ k, k < w.heap.size → ¬ S k → w'.heap[k]? = w.heap[k]?
abbrev Non : Nat → Prop := fun _ => False
theorem Chg.refl (S : Nat → Prop) (w : World) : Chg S w w := ⟨rfl, rfl, rfl, Nat.le_refl _, fun _ _ _ => rfl⟩
theorem Chg.trans {S : Nat → Prop} {a b c : World} (h : Chg S a b) (k : Chg S b c) : Chg S a c :=
  ⟨k.os.trans h.os, k.tape.trans h.tape, k.output.trans h.output, Nat.le_trans h.size k.size, fun i hi hn => (k.block i (Nat.lt_of_lt_of_le hi h.size) hn).trans (h.block i hi hn)⟩
/- Blocks that are new since w do not count. -/
theorem Chg.weak {S S' : Nat → Prop} {w w' : World} (h : Chg S w w') (hs : ∀ k, k < w.heap.size → S k → S' k) : Chg S' w w' :=
  ⟨h.os, h.tape, h.output, h.size, fun k hk hn => h.block k hk fun e => hn (hs k hk e)⟩
theorem Chg.trans' {S S' : Nat → Prop} {a b c : World} (h : Chg S a b) (k : Chg S' b c) (hs : ∀ i, i < a.heap.size → S' i → S i) : Chg S a c :=
  ⟨k.os.trans h.os, k.tape.trans h.tape, k.output.trans h.output, Nat.le_trans h.size k.size, fun i hi hn => (k.block i (Nat.lt_of_lt_of_le hi h.size) fun e => hn (hs i hi e)).trans (h.block i hi hn)⟩
theorem Chg.below {S : Nat → Prop} {w w' : World} {B : Nat} (h : Chg S w w') (hs : ∀ k, S k → B ≤ k) (hB : B ≤ w.heap.size) : Below B w w' :=
  ⟨h.os, h.tape, h.output, h.size, fun k hk => h.block k (by omega) fun e => by have := hs k e; omega⟩
theorem Chg.of_below {w w' : World} (h : Below w.heap.size w w') : Chg Non w w' := ⟨h.os, h.tape, h.output, h.size, fun k hk _ => h.block k hk⟩
theorem Chg.of_grown {w w' : World} {r : Option Nat} (h : w.grownBy w' r) : Chg (fun k => r = some k) w w' := ⟨h.os, h.tape, h.output, h.size, fun k hk hn => h.block k hk fun e => hn e.symm⟩
theorem Chg.alloc (S : Nat → Prop) (w : World) (o : Obj) : Chg S w (w.alloc o) := ⟨rfl, rfl, rfl, by simp, fun k hk _ => Below.heap_alloc w o k hk⟩
theorem Chg.drew (S : Nat → Prop) (w : World) : Chg S w w.drew := ⟨rfl, rfl, rfl, Nat.le_refl _, fun _ _ _ => rfl⟩
theorem Chg.drewN (S : Nat → Prop) (w : World) (n : Nat) : Chg S w (w.drewN n) := ⟨rfl, rfl, rfl, by cases n <;> exact Nat.le_refl _, fun _ _ _ => by cases n <;> rfl⟩
theorem Chg.setCell {S : Nat → Prop} (w : World) (a : Addr) (u : Value) (h : S a.block) : Chg S w (w.setCell a u) :=
  ⟨rfl, rfl, rfl, by simp [World.setCell], fun k _ hn => Below.heap_setCell w a u k fun e => hn (e ▸ h)⟩
theorem Chg.lt_of {S : Nat → Prop} {w w' : World} (h : Chg S w w') {k : Nat} (hk : k < w.heap.size) : k < w'.heap.size := Nat.lt_of_lt_of_le hk h.size
theorem Chg.cell {S : Nat → Prop} {w w' : World} (h : Chg S w w') {a : Addr} (hl : a.block < w.heap.size) (hn : ¬ S a.block) : w'.cell? a = w.cell? a :=
  World.cell?_of_block (h.block _ hl hn)

theorem Bs.nil (w : World) : Bs w (.slice none 0 0) [] := .inl ⟨rfl, rfl⟩
theorem Bs.mk {w : World} {l : List UInt8} {n : Nat} (b o c : Nat) (hn : n = l.length) (h1 : l.length ≤ c) (h2 : b < w.heap.size) (h3 : ∀ j (h : j < l.length), w.cell? ⟨b, o + j, none⟩ = some (.int .u8 ((l[j]'h).toNat : Int))) :
    Bs w (.slice (some ⟨b, o, none⟩) n c) l := by
  subst hn
  by_cases h : 0 < l.length
  · exact .inr (.inr ⟨h, b, o, c, rfl, h1, h2, h3⟩)
  · have : l = [] := List.length_eq_zero_iff.1 (by omega)
    subst this
    exact .inr (.inl ⟨_, c, rfl, rfl⟩)
theorem Bs.keep {S : Nat → Prop} {w w' : World} {v : Value} {l : List UInt8} (h : Bs w v l) (hc : Chg S w w') (hn : ∀ k, bk v = some k → ¬ S k) : Bs w' v l := by
  rcases h with h | h | ⟨h0, b, o, c, rfl, h1, h2, h3⟩
  · exact .inl h
  · exact .inr (.inl h)
  · refine .inr (.inr ⟨h0, b, o, c, rfl, h1, hc.lt_of h2, fun j hj => ?_⟩)
    rw [hc.cell (a := ⟨b, o + j, none⟩) h2 (hn b (bk_pos h0))]
    exact h3 j hj
theorem Bs.lt {w : World} {v : Value} {l : List UInt8} (h : Bs w v l) {k : Nat} (hk : bk v = some k) : k < w.heap.size := by
  rcases h with ⟨rfl, _⟩ | ⟨ad, c, rfl, _⟩ | ⟨h0, b, o, c, rfl, _, h2, _⟩
  · exact absurd hk (bk_zero _ _ _)
  · exact absurd hk (bk_zero _ _ _)
  · rw [bk_pos h0] at hk; cases hk; exact h2
theorem Bs.alloc {w : World} {v : Value} {l : List UInt8} (h : Bs w v l) (o : Obj) : Bs (w.alloc o) v l := h.keep (Chg.alloc Non w o) (fun _ _ => id)
theorem Bs.drew {w : World} {v : Value} {l : List UInt8} (h : Bs w v l) : Bs w.drew v l := h.keep (Chg.drew Non w) (fun _ _ => id)
theorem Bs.setCell {w : World} {v : Value} {l : List UInt8} (h : Bs w v l) (a : Addr) (u : Value) (hn : bk v ≠ some a.block) : Bs (w.setCell a u) v l :=
  h.keep (Chg.setCell (S := fun k => k = a.block) w a u rfl) (fun k hk e => hn (by rw [hk, e]))
theorem Bs.of_owns {w : World} {base : Nat} {v : Value} {n : Nat} {l : List UInt8} (h : w.ownsRow base 5 1 v n (bv l)) : Bs w v l := by
  have hn : n = l.length := by have := h.1; rw [bv_len] at this; omega
  subst hn
  rcases h.2 with ⟨rfl, h0⟩ | ⟨g, cap, cur, rfl, hb, hg, hc, hm, hs, ht⟩
  · exact .inl ⟨rfl, List.length_eq_zero_iff.1 h0⟩
  · have hlt : g < w.heap.size := by
      rcases Nat.lt_or_ge g w.heap.size with hl | hl
      · exact hl
      · rw [Array.getElem?_eq_none hl] at hg; cases hg
    refine Bs.mk g 0 cap rfl hc hlt fun j hj => ?_
    have := h.cells (g := g) rfl j (.int .u8 ((l[j]'hj).toNat : Int)) (by simp [bv, hj])
    rw [show (⟨g, 0, none⟩ : Addr).add j = ⟨g, 0 + j, none⟩ by simp only [Addr.add]; split <;> simp_all] at this
    exact this
/- The bytes of a slice, as the law of append asks for them. -/
theorem Bs.news {w : World} {b o : Nat} {l : List UInt8} (h : ∀ j (h : j < l.length), w.cell? ⟨b, o + j, none⟩ = some (.int .u8 ((l[j]'h).toNat : Int))) :
    ∀ j u, (bv l)[j]? = some u → w.cell? ((⟨b, o, none⟩ : Addr).add j) = some u := by
  intro j u hu
  simp only [bv, List.getElem?_map] at hu
  obtain ⟨y, hy, rfl⟩ := Option.map_eq_some_iff.1 hu
  obtain ⟨hjl, rfl⟩ := List.getElem?_eq_some_iff.1 hy
  rw [show (⟨b, o, none⟩ : Addr).add j = ⟨b, o + j, none⟩ by simp only [Addr.add]; split <;> simp_all]
  exact h j hjl

theorem info5 : (Tryd.prog.info? 5).map (fun i => (i.zero, i.size, i.bytes)) = some (some (.int .u8 0), 1, 1) := by kernel_rfl

def Lim (n : Nat) : Prop := n ≤ 140737488355328
/- Bytes behind a row of one's own. -/
theorem app_bytes {w : World} {base : Nat} {v : Value} {l : List UInt8} {n : Nat} (ty : TypeId) (hown : w.ownsRow base 5 1 v n (bv l)) {x : Value} {news : List UInt8} (hx : Bs w x news)
    (hb : base ≤ w.heap.size) (hn : l.length + news.length ≤ 140737488355328) :
    ∃ v' w', (Builtin.append_ #[25, 25] ty #[v, x]).run Tryd.prog w = .ok v' w' ∧ w'.ownsRow base 5 1 v' (l ++ news).length (bv (l ++ news)) ∧ w.grownBy w' (blk v) ∧ (blk v' = blk v ∨ blk v' = some w.heap.size) ∧
      (v' = .slice none 0 0 ↔ v = .slice none 0 0 ∧ news = []) := by
  obtain ⟨i0, hi, hz0, hz1, hz2⟩ := info_parts info5
  have hn' : n = l.length := by have := hown.1; rw [bv_len] at this; omega
  subst hn'
  rcases hx with ⟨rfl, rfl⟩ | hx | ⟨_, b, o, c, rfl, h1, h2, h3⟩
  · refine ⟨v, w, run_append_owned_none (P := Tryd.prog) w base 25 ty 5 i0 1 Tryd.underlying25 hi v l.length (bv l) hown, ?_, ⟨rfl, rfl, rfl, Nat.le_refl _, fun _ _ _ => rfl⟩, .inl rfl, by simp⟩
    rw [List.append_nil]; exact hown
  · obtain ⟨ad, c, rfl, rfl⟩ := hx
    obtain ⟨v', w', hr, ho, hg, hn0, hl⟩ := run_append_own_at (P := Tryd.prog) w base 25 ty 5 i0 (.int .u8 0) 1 1 Tryd.underlying25 hi hz0 hz1 hz2 rfl (by decide) v l.length (bv l) hown ad 0 c (bv []) rfl (fun j u hu => by simp [bv] at hu) (bv_one [])
      (by unfold maxLen; omega) (by omega) hb
    refine ⟨v', w', hr, ?_, hg, hl, ?_⟩
    · rw [List.length_append, bv_app]; exact ho
    · rw [hn0]; simp
  · obtain ⟨v', w', hr, ho, hg, hn0, hl⟩ := run_append_own_at (P := Tryd.prog) w base 25 ty 5 i0 (.int .u8 0) 1 1 Tryd.underlying25 hi hz0 hz1 hz2 rfl (by decide) v l.length (bv l) hown ⟨b, o, none⟩ news.length c (bv news) (by rw [bv_len, Nat.mul_one]) (Bs.news h3) (bv_one news)
      (by unfold maxLen; omega) (by omega) hb
    refine ⟨v', w', hr, ?_, hg, hl, ?_⟩
    · rw [List.length_append, bv_app]; exact ho
    · rw [hn0, List.length_eq_zero_iff]
theorem owns_form {w : World} {base n : Nat} {v : Value} {xs : List Value} (h : w.ownsRow base 5 1 v n xs) : ∃ A C, v = .slice A n C := by
  rcases h.2 with ⟨rfl, rfl⟩ | ⟨g, cap, cur, rfl, _⟩
  · exact ⟨none, 0, rfl⟩
  · exact ⟨_, cap, rfl⟩
theorem wpList_app {w : World} {ops : Array Oper} {rest : List Oper} {o : Oper} {a : Act} {Q : Exit → Act → World → Prop} (hgd : o.guard = none) (s x : Operand)
    (ho : o.op = .call { callee := .builtin .append, args := #[s, x], argTypes := #[25, 25] })
    {base n : Nat} (v xv : Value) {l news : List UInt8} (hs : a.eval s = v) (hxe : a.eval x = xv) (hown : w.ownsRow base 5 1 v n (bv l)) (hx : Bs w xv news)
    (hb : base ≤ w.heap.size) (hn : l.length + news.length ≤ 140737488355328)
    (h : ∀ A C w', w'.ownsRow base 5 1 (.slice A (l.length + news.length) C) (l.length + news.length) (bv (l ++ news)) → w.grownBy w' (blk v) → (blk (.slice A (l.length + news.length) C) = blk v ∨ blk (.slice A (l.length + news.length) C) = some w.heap.size) → (Value.slice A (l.length + news.length) C = .slice none 0 0 ↔ v = .slice none 0 0 ∧ news = []) → wpList Tryd.prog ops Q rest (a.put o.dst (.slice A (l.length + news.length) C)) w') :
    wpList Tryd.prog ops Q (o :: rest) a w := by
  refine wpList_plain hgd fun K hK => ?_
  obtain ⟨v', w', hr, h2, h3, h4, h5⟩ := app_bytes o.type hown hx hb hn
  unfold Oper.wp execOp
  simp only [ho, resolve, invoke, builtin, Sem.run_bind, Sem.run_pure, Result.andThen_ok, List.map_toArray, List.map_cons, List.map_nil, hs, hxe, hr]
  rw [List.length_append] at h2
  obtain ⟨A, C, rfl⟩ := owns_form h2
  exact hK _ _ (h A C w' h2 h3 h4 h5)
end Go.Proofs.YtkbmbnfpadllmaaDoor
