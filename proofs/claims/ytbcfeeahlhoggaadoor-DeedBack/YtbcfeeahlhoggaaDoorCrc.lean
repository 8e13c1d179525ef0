/- Plain mathematics of the sum of a row of bytes (CRC-32), of frames, and of what one turned bit does; no program in this text. -/
import Derived.Below
namespace Go.Proofs.YtbcfeeahlhoggaaDoor

def bit1 (c : Nat) : Nat := (c / 2) ^^^ ((c % 2) * 3988292384)
def bitN : Nat → Nat → Nat
  | 0, c => c
  | n + 1, c => bitN n (bit1 c)
def crcByte (c : Nat) (x : UInt8) : Nat := bitN 8 (c ^^^ x.toNat)
def crcOn (c : Nat) (l : List UInt8) : Nat := l.foldl crcByte c
def sumOf (l : List UInt8) : Nat := 4294967295 - crcOn 4294967295 l

theorem xor_lt {a b : Nat} (h1 : a < 4294967296) (h2 : b < 4294967296) : a ^^^ b < 4294967296 := Nat.xor_lt_two_pow (n := 32) h1 h2
theorem bit1_lt {c : Nat} (h : c < 4294967296) : bit1 c < 4294967296 := by
  unfold bit1
  refine xor_lt (by omega) ?_
  have := Nat.mod_lt c (show 2 > 0 by omega)
  omega
theorem bitN_lt : ∀ (n : Nat) {c : Nat}, c < 4294967296 → bitN n c < 4294967296
  | 0, _, h => h
  | n + 1, _, h => bitN_lt n (bit1_lt h)
theorem crcByte_lt {c : Nat} (h : c < 4294967296) (x : UInt8) : crcByte c x < 4294967296 :=
  bitN_lt 8 (xor_lt h (by have := x.toNat_lt; omega))
theorem crcOn_lt (l : List UInt8) : ∀ {c : Nat}, c < 4294967296 → crcOn c l < 4294967296 := by
  induction l with
  | nil => intro c h; exact h
  | cons x l ih => intro c h; exact ih (crcByte_lt h x)
theorem sumOf_lt (l : List UInt8) : sumOf l < 4294967296 := by unfold sumOf; omega

theorem xor_div2 (a b : Nat) : (a ^^^ b) / 2 = (a / 2) ^^^ (b / 2) := by
  have := Nat.shiftRight_xor_distrib (a := a) (b := b) (i := 1)
  simpa [Nat.shiftRight_succ] using this
theorem xor_mod2 (a b : Nat) : (a ^^^ b) % 2 = (a % 2) ^^^ (b % 2) := by
  have := Nat.xor_mod_two_pow (a := a) (b := b) (n := 1)
  simpa using this
theorem bit1_xor (a b : Nat) : bit1 (a ^^^ b) = bit1 a ^^^ bit1 b := by
  unfold bit1
  rw [xor_div2, xor_mod2]
  have e : (a % 2 ^^^ b % 2) * 3988292384 = (a % 2 * 3988292384) ^^^ (b % 2 * 3988292384) := by
    rcases Nat.mod_two_eq_zero_or_one a with ha | ha <;> rcases Nat.mod_two_eq_zero_or_one b with hb | hb <;> rw [ha, hb] <;> simp
  rw [e]
  ac_rfl
theorem bitN_xor : ∀ (n a b : Nat), bitN n (a ^^^ b) = bitN n a ^^^ bitN n b
  | 0, _, _ => rfl
  | n + 1, a, b => by rw [bitN, bit1_xor, bitN_xor n]; rfl
theorem bit1_zero {d : Nat} (h : d < 4294967296) (e : bit1 d = 0) : d = 0 := by
  unfold bit1 at e
  have h1 : d / 2 = d % 2 * 3988292384 := by
    have := congrArg (· ^^^ (d % 2 * 3988292384)) e
    simpa [Nat.xor_assoc] using this
  rcases Nat.mod_two_eq_zero_or_one d with h2 | h2 <;> rw [h2] at h1 <;> omega
theorem bitN_zero : ∀ (n : Nat) {d : Nat}, d < 4294967296 → bitN n d = 0 → d = 0
  | 0, _, _, e => e
  | n + 1, _, h, e => bit1_zero h (bitN_zero n (bit1_lt h) e)
theorem xor_eq_zero {a b : Nat} (h : a ^^^ b = 0) : a = b := by
  have := congrArg (· ^^^ b) h
  simpa [Nat.xor_assoc] using this
theorem bitN_inj (n : Nat) {a b : Nat} (ha : a < 4294967296) (hb : b < 4294967296) (h : bitN n a = bitN n b) : a = b := by
  refine xor_eq_zero (bitN_zero n (xor_lt ha hb) ?_)
  rw [bitN_xor, h, Nat.xor_self]
theorem bitN_add : ∀ (m n c : Nat), bitN n (bitN m c) = bitN (m + n) c
  | 0, n, c => by rw [Nat.zero_add]; rfl
  | m + 1, n, c => by
    rw [show m + 1 + n = (m + n) + 1 by omega]
    exact bitN_add m n (bit1 c)
theorem bit1_even (z : Nat) : bit1 (2 * z) = z := by
  unfold bit1
  rw [Nat.mul_mod_right, Nat.mul_div_cancel_left z (by omega)]
  simp
theorem bitN_even (z : Nat) : bitN 8 (256 * z) = z := by
  have h : 256 * z = 2 * (2 * (2 * (2 * (2 * (2 * (2 * (2 * z))))))) := by omega
  rw [h]
  simp only [bitN, bit1_even]

/- The bytes of a row as one number. -/
def wordOf : List UInt8 → Nat
  | [] => 0
  | x :: e => x.toNat ^^^ (256 * wordOf e)
theorem crcOn_word : ∀ (e : List UInt8) (c : Nat), crcOn c e = bitN (8 * e.length) (c ^^^ wordOf e) := by
  intro e
  induction e with
  | nil => intro c; simp [crcOn, wordOf, bitN]
  | cons x e ih =>
    intro c
    have h1 : crcOn c (x :: e) = crcOn (crcByte c x) e := rfl
    rw [h1, ih, crcByte, wordOf, List.length_cons, show 8 * (e.length + 1) = 8 + 8 * e.length by omega, ← bitN_add, ← Nat.xor_assoc, bitN_xor 8 (c ^^^ x.toNat), bitN_even]
theorem xor_div256 (x w : Nat) (h : x < 256) : (x ^^^ (256 * w)) / 256 = w := by
  have := Nat.shiftRight_xor_distrib (a := x) (b := 256 * w) (i := 8)
  simp only [Nat.shiftRight_eq_div_pow] at this
  rw [show (2 : Nat) ^ 8 = 256 from rfl] at this
  rw [this, Nat.div_eq_of_lt h]
  simp
theorem xor_mod256 (x w : Nat) (h : x < 256) : (x ^^^ (256 * w)) % 256 = x := by
  have := Nat.xor_mod_two_pow (a := x) (b := 256 * w) (n := 8)
  rw [show (2 : Nat) ^ 8 = 256 from rfl] at this
  rw [this, Nat.mod_eq_of_lt h]
  simp
theorem wordOf_inj : ∀ (a b : List UInt8), a.length = b.length → wordOf a = wordOf b → a = b := by
  intro a
  induction a with
  | nil => intro b h _; cases b with
    | nil => rfl
    | cons => simp at h
  | cons x a ih =>
    intro b hl h
    cases b with
    | nil => simp at hl
    | cons y b =>
      rw [wordOf, wordOf] at h
      have h1 := congrArg (· / 256) h
      have h2 := congrArg (· % 256) h
      simp only [xor_div256 _ _ x.toNat_lt, xor_div256 _ _ y.toNat_lt] at h1
      simp only [xor_mod256 _ _ x.toNat_lt, xor_mod256 _ _ y.toNat_lt] at h2
      rw [ih b (by simpa using hl) h1, UInt8.toNat.inj h2]
theorem wordOf_lt : ∀ (a : List UInt8), a.length ≤ 4 → wordOf a < 4294967296 := by
  have h : ∀ (a : List UInt8), wordOf a < 2 ^ (8 * a.length) := by
    intro a
    induction a with
    | nil => simp [wordOf]
    | cons x a ih =>
      rw [wordOf, List.length_cons, show 8 * (a.length + 1) = 8 * a.length + 8 by omega]
      refine Nat.xor_lt_two_pow ?_ ?_
      · have h1 := x.toNat_lt
        have : 2 ^ 8 ≤ 2 ^ (8 * a.length + 8) := Nat.pow_le_pow_right (by omega) (by omega)
        omega
      · rw [Nat.pow_add]
        have : (2 : Nat) ^ 8 = 256 := rfl
        omega
  intro a ha
  refine Nat.lt_of_lt_of_le (h a) ?_
  have : 2 ^ (8 * a.length) ≤ 2 ^ 32 := Nat.pow_le_pow_right (by omega) (by omega)
  exact this
theorem crcOn_append (c : Nat) (a b : List UInt8) : crcOn c (a ++ b) = crcOn (crcOn c a) b := by simp [crcOn]
theorem crcOn_inj (l : List UInt8) : ∀ {a b : Nat}, a < 4294967296 → b < 4294967296 → crcOn a l = crcOn b l → a = b := by
  induction l with
  | nil => intro a b _ _ h; exact h
  | cons x l ih =>
    intro a b ha hb h
    have h1 : crcByte a x = crcByte b x := ih (crcByte_lt ha x) (crcByte_lt hb x) h
    have hx : x.toNat < 4294967296 := by have := x.toNat_lt; omega
    have h2 := bitN_inj 8 (xor_lt ha hx) (xor_lt hb hx) h1
    have := congrArg (· ^^^ x.toNat) h2
    simpa [Nat.xor_assoc] using this
/- Two rows that differ in up to four bytes side by side have other sums. -/
theorem sumOf_ne (p x y q : List UInt8) (hl : x.length = y.length) (h4 : x.length ≤ 4) (hne : x ≠ y) : sumOf (p ++ x ++ q) ≠ sumOf (p ++ y ++ q) := by
  intro h
  have b1 : crcOn 4294967295 (p ++ x ++ q) < 4294967296 := crcOn_lt _ (by omega)
  have b2 : crcOn 4294967295 (p ++ y ++ q) < 4294967296 := crcOn_lt _ (by omega)
  have h1 : crcOn 4294967295 (p ++ x ++ q) = crcOn 4294967295 (p ++ y ++ q) := by unfold sumOf at h; omega
  rw [crcOn_append, crcOn_append, crcOn_append _ (p ++ y), crcOn_append _ p y] at h1
  have b3 : crcOn 4294967295 p < 4294967296 := crcOn_lt _ (by omega)
  have h2 := crcOn_inj q (crcOn_lt _ b3) (crcOn_lt _ b3) h1
  rw [crcOn_word x, crcOn_word y, hl] at h2
  have h3 := bitN_inj _ (xor_lt b3 (wordOf_lt x h4)) (xor_lt b3 (wordOf_lt y (by omega))) h2
  have h4 := congrArg (crcOn 4294967295 p ^^^ ·) h3
  simp only [← Nat.xor_assoc, Nat.xor_self, Nat.zero_xor] at h4
  exact hne (wordOf_inj x y hl h4)

/- Four bytes of a number, the lowest first; frames. -/
def four (n : Nat) : List UInt8 := [UInt8.ofNat (n % 256), UInt8.ofNat (n / 256 % 256), UInt8.ofNat (n / 65536 % 256), UInt8.ofNat (n / 16777216 % 256)]
def numOf (l : List UInt8) : Nat := (l.getD 0 0).toNat + 256 * (l.getD 1 0).toNat + 65536 * (l.getD 2 0).toNat + 16777216 * (l.getD 3 0).toNat
theorem numOf_four (n : Nat) (h : n < 4294967296) (rest : List UInt8) : numOf (four n ++ rest) = n := by
  simp [numOf, four, UInt8.toNat_ofNat']
  omega
theorem numOf_lt (l : List UInt8) : numOf l < 4294967296 := by
  unfold numOf
  have h0 := (l.getD 0 0).toNat_lt
  have h1 := (l.getD 1 0).toNat_lt
  have h2 := (l.getD 2 0).toNat_lt
  have h3 := (l.getD 3 0).toNat_lt
  omega
theorem four_len (n : Nat) : (four n).length = 4 := rfl
def frameOf (l : List UInt8) : List UInt8 := four l.length ++ four (sumOf l) ++ l
theorem frameOf_len (l : List UInt8) : (frameOf l).length = 8 + l.length := by simp [frameOf, four_len]; omega
/- What a row of bytes begins with: what a frame of it holds. -/
def unframe (l : List UInt8) : Option (List UInt8) :=
  if l.length < 8 ∨ 1048576 < numOf l ∨ l.length - 8 < numOf l ∨ sumOf ((l.drop 8).take (numOf l)) ≠ numOf (l.drop 4) then none else some ((l.drop 8).take (numOf l))
theorem frame_drop8 (l rest : List UInt8) : (frameOf l ++ rest).drop 8 = l ++ rest := by
  rw [frameOf, List.append_assoc, List.append_assoc, ← List.append_assoc]
  exact List.drop_left' rfl
theorem frame_drop4 (l rest : List UInt8) : (frameOf l ++ rest).drop 4 = four (sumOf l) ++ (l ++ rest) := by
  rw [frameOf, List.append_assoc, List.append_assoc]
  exact List.drop_left' rfl
theorem frame_num (l rest : List UInt8) (h : l.length ≤ 1048576) : numOf (frameOf l ++ rest) = l.length := by
  rw [frameOf, List.append_assoc, List.append_assoc]
  exact numOf_four _ (by omega) _
theorem unframe_frame (l rest : List UInt8) (h : l.length ≤ 1048576) : unframe (frameOf l ++ rest) = some l := by
  unfold unframe
  rw [frame_num l rest h, frame_drop8, frame_drop4, numOf_four _ (sumOf_lt l), List.take_left, if_neg]
  rw [List.length_append, frameOf_len]
  simp; omega
theorem unframe_some {l x : List UInt8} (h : unframe l = some x) : x.length = numOf l ∧ x.length + 8 ≤ l.length ∧ x = (l.drop 8).take (numOf l) ∧ sumOf x = numOf (l.drop 4) ∧ x.length ≤ 1048576 := by
  unfold unframe at h
  split at h
  · cases h
  · next hn =>
    simp only [Option.some.injEq] at h
    have hl : x.length = numOf l := by rw [← h]; simp; omega
    refine ⟨hl, by omega, h.symm, ?_, by omega⟩
    rw [← h]
    exact Classical.not_not.1 fun e => hn (.inr (.inr (.inr e)))
theorem unframe_cut (l : List UInt8) (h : l.length ≤ 1048576) (k : Nat) (hk : k < (frameOf l).length) : unframe ((frameOf l).take k) = none := by
  cases hu : unframe ((frameOf l).take k) with
  | none => rfl
  | some x =>
    exfalso
    obtain ⟨h1, h2, _⟩ := unframe_some hu
    rw [frameOf_len] at hk
    rw [List.length_take, frameOf_len] at h2
    have h3 : numOf ((frameOf l).take k) = l.length := by
      have h4 : (frameOf l).take k = four l.length ++ ((frameOf l).take k).drop 4 := by
        have : four l.length = ((frameOf l).take k).take 4 := by
          rw [List.take_take, Nat.min_eq_left (by omega), frameOf, List.append_assoc]
          exact (List.take_left' rfl).symm
        rw [this, List.take_append_drop]
      rw [h4]
      exact numOf_four _ (by omega) _
    omega
end Go.Proofs.YtbcfeeahlhoggaaDoor
