/- The walks of the digits that a row of bytes begins with. -/
import Derived.Laws.Bits64b
import Derived.Test.YtaeoafedfgbcaaaGreatDoorWalksC
import Derived.Laws.BitsAllLaws
namespace Go.Proofs.YtaeoafedfgbcaaaGreatDoor
open Go.RowKit

theorem lastDigit_any (x i : Nat) (hx : x < 128) (hi : i < 10) (w : World) :
    Calls Tryz.prog 79 #[.int .u8 x, .int .i64 i] w fun e w' => e = .returned (.bool (!decide ((i = 9 ∧ x ≠ 1) ∨ (x = 0 ∧ 0 < i)))) ∧ w' = w := by
  by_cases h9 : i = 9
  · subst h9
    go_enter Tryz.func79, Tryz.ntmps79
    go_wp2
    go_ret
    refine ⟨?_, rfl⟩
    by_cases h1 : x = 1
    · subst h1; rfl
    · have : ¬ ((x : Int) = 1) := by omega
      simp [h1, this]
  · have h9' : ¬ ((i : Int) = 9) := by omega
    by_cases h0 : 0 < x
    · have h0' : (0 : Int) < x := by omega
      go_enter Tryz.func79, Tryz.ntmps79
      go_wp2
      go_ret
      refine ⟨?_, rfl⟩
      have : x ≠ 0 := by omega
      simp [h9, this]
    · have h0' : ¬ ((0 : Int) < x) := by omega
      go_enter Tryz.func79, Tryz.ntmps79
      go_wp2
      go_ret
      refine ⟨?_, rfl⟩
      have : x = 0 := by omega
      subst this
      by_cases hi0 : i = 0
      · subst hi0; rfl
      · have h2 : ¬ ((i : Int) = 0) := by omega
        have h3 : 0 < i := by omega
        rw [show ((i : Int) == 0) = false from beq_eq_false_iff_ne.2 h2]
        simp [h3]

theorem dec_end {l : List UInt8} {k : Nat} (h : l.length ≤ k ∨ 10 ≤ k) : dec k (l.drop k) = none := by
  rcases h with h | h
  · rw [List.drop_eq_nil_of_le h]; rfl
  · cases l.drop k with
    | nil => rfl
    | cons x t => rw [dec, if_pos h]
theorem dec_more {l : List UInt8} {k : Nat} (h : k < l.length) (hk : k < 10) (hx : 128 ≤ (l[k]'h).toNat) :
    dec k (l.drop k) = (dec (k + 1) (l.drop (k + 1))).map (fun p => ((l[k]'h).toNat - 128 + 128 * p.1, p.2 + 1)) := by
  rw [List.drop_eq_getElem_cons h, dec, if_neg (by omega), if_pos hx]
theorem dec_last {l : List UInt8} {k : Nat} (h : k < l.length) (hk : k < 10) (hx : (l[k]'h).toNat < 128) :
    dec k (l.drop k) = if (k = 9 ∧ (l[k]'h).toNat ≠ 1) ∨ ((l[k]'h).toNat = 0 ∧ 0 < k) then none else some ((l[k]'h).toNat, 1) := by
  rw [List.drop_eq_getElem_cons h, dec, if_neg (by omega), if_neg (by omega)]

theorem pow128 (k : Nat) : (2 : Nat) ^ (7 * k) = 128 ^ k := by rw [Nat.pow_mul]
theorem pow_le9 {k : Nat} (h : k < 9) : 128 ^ k * 128 ≤ 9223372036854775808 := by
  have : ∀ j, j < 9 → 128 ^ j * 128 ≤ 9223372036854775808 := by decide +kernel
  exact this k h
theorem mul_small {a b c : Nat} (h : b < c) (h2 : c * a ≤ 18446744073709551616) (ha : 0 < a) : b * a < 18446744073709551616 :=
  Nat.lt_of_lt_of_le ((Nat.mul_lt_mul_right ha).2 h) h2
theorem or_dig (x d k : Nat) (hk : k < 10) (hx : x < 128 ^ k) (hd : k = 9 → d % 128 < 2) :
    bits BinOp.or IntKind.u64 (x : Int) (IntKind.u64.wrap ((d : Int) % 128 * 2 ^ (7 * k))) = ((x + 128 ^ k * (d % 128) : Nat) : Int) ∧ x + 128 ^ k * (d % 128) < 18446744073709551616 := by
  have h9 : 128 ^ 9 = 9223372036854775808 := by decide +kernel
  have hpos : 0 < 128 ^ k := Nat.pow_pos (by omega)
  have hsm : d % 128 * 128 ^ k + 128 ^ k ≤ 18446744073709551616 := by
    rcases Nat.lt_or_ge k 9 with h | h
    · have h1 := pow_le9 h
      have h2 : d % 128 * 128 ^ k ≤ 127 * 128 ^ k := Nat.mul_le_mul_right _ (by omega)
      omega
    · have : k = 9 := by omega
      subst this
      have := hd rfl
      rw [h9]
      omega
  have e1 : ((d : Int) % 128 * 2 ^ (7 * k)) = ((d % 128 * 128 ^ k : Nat) : Int) := by
    rw [← pow128]; simp
  rw [e1, IntKind.wrap_u64]
  have e2 : (((d % 128 * 128 ^ k : Nat) : Int) % 18446744073709551616) = ((d % 128 * 128 ^ k : Nat) : Int) := Int.emod_eq_of_lt (by omega) (by omega)
  rw [e2, bits_or_u64_nat _ _ (by omega) (by omega)]
  have e3 : x ||| d % 128 * 128 ^ k = x + 128 ^ k * (d % 128) := by
    have := Nat.two_pow_add_eq_or_of_lt (i := 7 * k) (b := x) (by rw [pow128]; exact hx) (d % 128)
    rw [pow128] at this
    rw [Nat.or_comm, Nat.mul_comm (d % 128), ← this, Nat.add_comm]
  rw [e3]
  refine ⟨rfl, ?_⟩
  rw [Nat.mul_comm (128 ^ k)]
  omega
theorem or_any (x y : Nat) (hx : x < 18446744073709551616) (hy : y < 18446744073709551616) : x ||| y < 18446744073709551616 := Nat.or_lt_two_pow (n := 64) hx hy
theorem or_some (x d k : Nat) (hx : x < 18446744073709551616) : ∃ y : Nat, bits BinOp.or IntKind.u64 (x : Int) (IntKind.u64.wrap ((d : Int) % 128 * 2 ^ (7 * k))) = (y : Int) ∧ y < 18446744073709551616 := by
  rw [IntKind.wrap_u64]
  obtain ⟨m, hm⟩ := Int.eq_ofNat_of_zero_le (Int.emod_nonneg ((d : Int) % 128 * 2 ^ (7 * k)) (show (18446744073709551616 : Int) ≠ 0 by decide))
  have hlt := Int.emod_lt_of_pos ((d : Int) % 128 * 2 ^ (7 * k)) (show (0 : Int) < 18446744073709551616 by decide)
  rw [hm] at hlt ⊢
  have : m < 18446744073709551616 := by omega
  exact ⟨x ||| m, bits_or_u64_nat _ _ hx this, or_any _ _ hx this⟩
/- The rounds of the walk, in plain numbers. -/
theorem round_more {l : List UInt8} {D : Option (Nat × Nat)} {k x : Nat} (h : k < l.length) (hk : k < 10) (h128 : 128 ≤ (l[k]'h).toNat) (hx1 : x < 18446744073709551616) (hx2 : k < 10 → x < 128 ^ k)
    (hd : k < 10 → D = (dec k (l.drop k)).map (fun p => (x + 128 ^ k * p.1, p.2 + k))) :
    ∃ y : Nat, bits BinOp.or IntKind.u64 (x : Int) (IntKind.u64.wrap (((l[k]'h).toNat : Int) % 128 * 2 ^ (7 * k))) = (y : Int) ∧ y < 18446744073709551616 ∧ (k + 1 < 10 → y < 128 ^ (k + 1)) ∧
      (k + 1 < 10 → D = (dec (k + 1) (l.drop (k + 1))).map (fun p => (y + 128 ^ (k + 1) * p.1, p.2 + (k + 1)))) ∧ (k + 1 = 10 → D = none) := by
  have hd' := hd hk
  rw [dec_more h hk h128] at hd'
  rcases Nat.lt_or_ge k 9 with h9 | h9
  · obtain ⟨e1, e2⟩ := or_dig x (l[k]'h).toNat k hk (hx2 hk) (by omega)
    have hb := (l[k]'h).toNat_lt
    have hm : (l[k]'h).toNat % 128 = (l[k]'h).toNat - 128 := by omega
    refine ⟨_, e1, e2, fun _ => ?_, fun _ => ?_, fun e => by omega⟩
    · have h1 : 128 ^ k * ((l[k]'h).toNat % 128) ≤ 128 ^ k * 127 := Nat.mul_le_mul_left _ (by omega)
      have := hx2 hk
      rw [Nat.pow_succ]; omega
    · rw [hd', Option.map_map]
      congr 1
      funext p
      simp only [Function.comp, Prod.mk.injEq]
      refine ⟨?_, by omega⟩
      rw [hm, Nat.pow_succ, Nat.mul_add, Nat.mul_assoc]
      omega
  · have : k = 9 := by omega
    subst this
    obtain ⟨y, e1, e2⟩ := or_some x (l[9]'h).toNat 9 hx1
    refine ⟨y, e1, e2, fun e => by omega, fun e => by omega, fun _ => ?_⟩
    rw [hd', dec_end (.inr (by omega))]
    rfl
theorem round_bad {l : List UInt8} {D : Option (Nat × Nat)} {k x : Nat} (h : k < l.length) (hk : k < 10) (h128 : (l[k]'h).toNat < 128)
    (hd : k < 10 → D = (dec k (l.drop k)).map (fun p => (x + 128 ^ k * p.1, p.2 + k))) (hb : (k = 9 ∧ (l[k]'h).toNat ≠ 1) ∨ ((l[k]'h).toNat = 0 ∧ 0 < k)) : D = none := by
  rw [hd hk, dec_last h hk h128, if_pos hb]; rfl
theorem round_good {l : List UInt8} {D : Option (Nat × Nat)} {k x : Nat} (h : k < l.length) (hk : k < 10) (h128 : (l[k]'h).toNat < 128) (hx2 : k < 10 → x < 128 ^ k)
    (hd : k < 10 → D = (dec k (l.drop k)).map (fun p => (x + 128 ^ k * p.1, p.2 + k))) (hb : ¬ ((k = 9 ∧ (l[k]'h).toNat ≠ 1) ∨ ((l[k]'h).toNat = 0 ∧ 0 < k))) :
    ∃ y : Nat, bits BinOp.or IntKind.u64 (x : Int) (IntKind.u64.wrap (((l[k]'h).toNat : Int) % 128 * 2 ^ (7 * k))) = (y : Int) ∧ D = some (y, k + 1) := by
  have hd' := hd hk
  rw [dec_last h hk h128, if_neg hb] at hd'
  obtain ⟨e1, _⟩ := or_dig x (l[k]'h).toNat k hk (hx2 hk) (by omega)
  refine ⟨_, e1, ?_⟩
  rw [hd', show (l[k]'h).toNat % 128 = (l[k]'h).toNat by omega]
  simp; omega

set_option maxRecDepth 100000 in
theorem digits_row {w : World} {b o c : Nat} {l : List UInt8} (hc : l.length ≤ c) (hcm : l.length ≤ 140737488355328) (hx : ∀ j (h : j < l.length), w.cell? ⟨b, o + j, none⟩ = some (.int .u8 ((l[j]'h).toNat : Int))) :
    Calls Tryz.prog 54 #[.slice (some ⟨b, o, none⟩) l.length c] w fun e w' => e = .returned (.tuple #[.int .u64 (((dec 0 l).getD (0, 0)).1 : Nat), .int .i64 (((dec 0 l).getD (0, 0)).2 : Nat)]) ∧ w' = w := by
  generalize hP : dec 0 l = D
  have HP : Hid (dec 0 l = D) := hP
  clear hP
  rcases Nat.lt_or_ge 10 l.length with hL | hL
  · go_enter Tryz.func54, Tryz.ntmps54
    go_wp2_with fail
    go_loop [2, 12] (fun u i => ∃ (k x : Nat), i = .int .i64 k ∧ u = .int .u64 x ∧ k ≤ 10 ∧ x < 18446744073709551616 ∧ (k < 10 → x < 128 ^ k) ∧ (k < 10 → D = (dec k (l.drop k)).map (fun p => (x + 128 ^ k * p.1, p.2 + k))) ∧ (k = 10 → D = none))
      (fun _ i => 10 - (intOf i).toNat)
    case atStart => exact ⟨0, 0, rfl, rfl, by omega, by omega, fun _ => by omega, fun _ => by rw [← HP.out]; simp, fun h => by omega⟩
    case round =>
      obtain ⟨k, x, rfl, rfl, hk, hx1, hx2, hd, hd2⟩ := hrel
      have HD : Hid (k < 10 → D = (dec k (l.drop k)).map (fun p => (x + 128 ^ k * p.1, p.2 + k))) := hd
      have HD2 : Hid (k = 10 → D = none) := hd2
      clear hd hd2
      by_cases hkM : k < 10
      · have hkl : k < l.length := by omega
        have hb := hx k hkl
        by_cases h128 : 128 ≤ (l[k]'hkl).toNat
        · go_wp2_with fail
          obtain ⟨y, e1, e2, e3, e4, e5⟩ := round_more hkl (by omega) h128 hx1 hx2 HD.out
          refine ⟨⟨k + 1, y, by go_num, by rw [e1], by omega, e2, e3, e4, e5⟩, by simp [intOf]; omega⟩
        · by_cases hbad : (k = 9 ∧ (l[k]'hkl).toNat ≠ 1) ∨ ((l[k]'hkl).toNat = 0 ∧ 0 < k)
          · have hlast := lastDigit_any (l[k]'hkl).toNat k (by omega) (by omega)
            rw [show decide ((k = 9 ∧ (l[k]'hkl).toNat ≠ 1) ∨ ((l[k]'hkl).toNat = 0 ∧ 0 < k)) = true from decide_eq_true hbad] at hlast
            have hD := round_bad hkl (by omega) (by omega) HD.out hbad
            have HB : Hid (D = none) := hD
            have HL : Hid (∀ w, Calls Tryz.prog 79 #[.int .u8 ((l[k]'hkl).toNat : Nat), .int .i64 k] w fun e w' => e = .returned (.bool (!true)) ∧ w' = w) := hlast
            clear hD hlast hbad
            go_wp2_with fail
            refine (HL.out _).mono ?_
            rintro e w1 ⟨rfl, rfl⟩
            go_wp2
            go_ret2
            rw [HB.out]
            exact ⟨rfl, rfl⟩
          · have hlast := lastDigit_any (l[k]'hkl).toNat k (by omega) (by omega)
            rw [show decide ((k = 9 ∧ (l[k]'hkl).toNat ≠ 1) ∨ ((l[k]'hkl).toNat = 0 ∧ 0 < k)) = false from decide_eq_false hbad] at hlast
            obtain ⟨y, e1, e2⟩ := round_good hkl (by omega) (by omega) hx2 HD.out hbad
            have HB : Hid (D = some (y, k + 1)) := e2
            have HL : Hid (∀ w, Calls Tryz.prog 79 #[.int .u8 ((l[k]'hkl).toNat : Nat), .int .i64 k] w fun e w' => e = .returned (.bool (!false)) ∧ w' = w) := hlast
            clear e2 hlast hbad
            go_wp2_with fail
            refine (HL.out _).mono ?_
            rintro e w1 ⟨rfl, rfl⟩
            go_wp2
            go_ret2
            rw [HB.out]
            exact ⟨rfl, rfl⟩
      · go_wp2
        go_ret2
        have : D = none := by
          by_cases h10 : k < 10
          · rw [HD.out h10, dec_end (.inl (by omega))]; rfl
          · exact HD2.out (by omega)
        rw [this]
        exact ⟨rfl, rfl⟩
  · go_enter Tryz.func54, Tryz.ntmps54
    go_wp2_with fail
    go_loop [2, 12] (fun u i => ∃ (k x : Nat), i = .int .i64 k ∧ u = .int .u64 x ∧ k ≤ l.length ∧ x < 18446744073709551616 ∧ (k < 10 → x < 128 ^ k) ∧ (k < 10 → D = (dec k (l.drop k)).map (fun p => (x + 128 ^ k * p.1, p.2 + k))) ∧ (k = 10 → D = none))
      (fun _ i => l.length - (intOf i).toNat)
    case atStart => exact ⟨0, 0, rfl, rfl, by omega, by omega, fun _ => by omega, fun _ => by rw [← HP.out]; simp, fun h => by omega⟩
    case round =>
      obtain ⟨k, x, rfl, rfl, hk, hx1, hx2, hd, hd2⟩ := hrel
      have HD : Hid (k < 10 → D = (dec k (l.drop k)).map (fun p => (x + 128 ^ k * p.1, p.2 + k))) := hd
      have HD2 : Hid (k = 10 → D = none) := hd2
      clear hd hd2
      by_cases hkM : k < l.length
      · have hkl : k < l.length := by omega
        have hb := hx k hkl
        by_cases h128 : 128 ≤ (l[k]'hkl).toNat
        · go_wp2_with fail
          obtain ⟨y, e1, e2, e3, e4, e5⟩ := round_more hkl (by omega) h128 hx1 hx2 HD.out
          refine ⟨⟨k + 1, y, by go_num, by rw [e1], by omega, e2, e3, e4, e5⟩, by simp [intOf]; omega⟩
        · by_cases hbad : (k = 9 ∧ (l[k]'hkl).toNat ≠ 1) ∨ ((l[k]'hkl).toNat = 0 ∧ 0 < k)
          · have hlast := lastDigit_any (l[k]'hkl).toNat k (by omega) (by omega)
            rw [show decide ((k = 9 ∧ (l[k]'hkl).toNat ≠ 1) ∨ ((l[k]'hkl).toNat = 0 ∧ 0 < k)) = true from decide_eq_true hbad] at hlast
            have hD := round_bad hkl (by omega) (by omega) HD.out hbad
            have HB : Hid (D = none) := hD
            have HL : Hid (∀ w, Calls Tryz.prog 79 #[.int .u8 ((l[k]'hkl).toNat : Nat), .int .i64 k] w fun e w' => e = .returned (.bool (!true)) ∧ w' = w) := hlast
            clear hD hlast hbad
            go_wp2_with fail
            refine (HL.out _).mono ?_
            rintro e w1 ⟨rfl, rfl⟩
            go_wp2
            go_ret2
            rw [HB.out]
            exact ⟨rfl, rfl⟩
          · have hlast := lastDigit_any (l[k]'hkl).toNat k (by omega) (by omega)
            rw [show decide ((k = 9 ∧ (l[k]'hkl).toNat ≠ 1) ∨ ((l[k]'hkl).toNat = 0 ∧ 0 < k)) = false from decide_eq_false hbad] at hlast
            obtain ⟨y, e1, e2⟩ := round_good hkl (by omega) (by omega) hx2 HD.out hbad
            have HB : Hid (D = some (y, k + 1)) := e2
            have HL : Hid (∀ w, Calls Tryz.prog 79 #[.int .u8 ((l[k]'hkl).toNat : Nat), .int .i64 k] w fun e w' => e = .returned (.bool (!false)) ∧ w' = w) := hlast
            clear e2 hlast hbad
            go_wp2_with fail
            refine (HL.out _).mono ?_
            rintro e w1 ⟨rfl, rfl⟩
            go_wp2
            go_ret2
            rw [HB.out]
            exact ⟨rfl, rfl⟩
      · go_wp2
        go_ret2
        have : D = none := by
          by_cases h10 : k < 10
          · rw [HD.out h10, dec_end (.inl (by omega))]; rfl
          · exact HD2.out (by omega)
        rw [this]
        exact ⟨rfl, rfl⟩
end Go.Proofs.YtaeoafedfgbcaaaGreatDoor
/- The walks of a reader. -/
namespace Go.Proofs.YtaeoafedfgbcaaaGreatDoor
open Go.RowKit

theorem digits_any {w : World} {x : Value} {l : List UInt8} (hx : Bs w x l) (hl : l.length ≤ 140737488355328) :
    Calls Tryz.prog 54 #[x] w fun e w' => e = .returned (.tuple #[.int .u64 (((dec 0 l).getD (0, 0)).1 : Nat), .int .i64 (((dec 0 l).getD (0, 0)).2 : Nat)]) ∧ w' = w := by
  rcases hx with ⟨rfl, rfl⟩ | ⟨ad, c, rfl, rfl⟩ | ⟨_, b, o, c, rfl, h1, h2, h3⟩
  · go_enter Tryz.func54, Tryz.ntmps54
    go_wp2_with fail
    refine wp_loop_rounds 1 ?_
    rw [rounds_succ]
    go_wp2
    go_ret2
    exact ⟨rfl, rfl⟩
  · go_enter Tryz.func54, Tryz.ntmps54
    go_wp2_with fail
    refine wp_loop_rounds 1 ?_
    rw [rounds_succ]
    go_wp2
    go_ret2
    exact ⟨rfl, rfl⟩
  · exact digits_row h1 hl h3

/- A reader at block g: what is left of it (l), whether it is good, and the block that its bytes lie in. -/
def RdAt (w : World) (g T : Nat) (fl : Bool) (q : Option Nat) (l : List UInt8) : Prop :=
  ∃ v, w.heap[g]? = some (.cells #[v, .bool fl] T (0, 0)) ∧ Bs w v l ∧ (∀ k, bk v = some k → q = some k) ∧ q ≠ some g ∧ l.length ≤ 140737488355328
theorem RdAt.lt {w : World} {g T : Nat} {fl : Bool} {q : Option Nat} {l : List UInt8} (h : RdAt w g T fl q l) : g < w.heap.size := by
  obtain ⟨v, h1, _⟩ := h; exact heap_lt h1
theorem RdAt.keep {S : Nat → Prop} {w w' : World} {g T : Nat} {fl : Bool} {q : Option Nat} {l : List UInt8} (h : RdAt w g T fl q l) (hc : Chg S w w') (hg : ¬ S g) (hq : ∀ k, q = some k → ¬ S k) : RdAt w' g T fl q l := by
  have hl := h.lt
  obtain ⟨v, h1, h2, h3, h4, h5⟩ := h
  exact ⟨v, by rw [hc.block g hl hg]; exact h1, h2.keep hc (fun k hk => hq k (h3 k hk)), h3, h4, h5⟩
/- A reader of the program: r is what is left of a good one. -/
abbrev Rdr (w : World) (g : Nat) (q : Option Nat) (r : Rd) : Prop := RdAt w g 87 r.isSome q (r.getD [])
abbrev One (g : Nat) : Nat → Prop := fun k => k = g

theorem good_any {w : World} {g : Nat} {q : Option Nat} {r : Rd} (h : Rdr w g q r) :
    Calls Tryz.prog 52 #[.pointer (some ⟨g, 0, none⟩)] w fun e w' => e = .returned (.bool r.isSome) ∧ w' = w := by
  obtain ⟨v, h1, _⟩ := h
  have hc := cell_at h1 1
  rw [show #[v, Value.bool r.isSome][1]? = some (.bool r.isSome) from rfl] at hc
  clear h1
  go_enter Tryz.func52, Tryz.ntmps52
  go_wp2
  go_ret
  exact ⟨rfl, rfl⟩
theorem good_nil (w : World) : Calls Tryz.prog 52 #[.pointer none] w fun e w' => e = .returned (.bool false) ∧ w' = w := by
  go_enter Tryz.func52, Tryz.ntmps52
  go_wp2
  go_ret
  exact ⟨rfl, rfl⟩
theorem whole_any {w : World} {g : Nat} {q : Option Nat} {r : Rd} (h : Rdr w g q r) :
    Calls Tryz.prog 28 #[.pointer (some ⟨g, 0, none⟩)] w fun e w' => e = .returned (.bool (decide (r = some []))) ∧ w' = w := by
  have HH : Hid (Rdr w g q r) := h
  obtain ⟨v, h1, h2, _⟩ := h
  have hc := cell_at h1 0
  rw [show #[v, Value.bool r.isSome][0]? = some v from rfl] at hc
  obtain ⟨A, C, rfl⟩ := bs_form h2
  clear h1 h2
  cases r with
  | none =>
    go_enter Tryz.func28, Tryz.ntmps28
    go_wp2_with fail
    refine (good_any HH.out).mono ?_
    rintro e w1 ⟨rfl, rfl⟩
    go_wp2
    go_ret
    exact ⟨rfl, rfl⟩
  | some l =>
    go_enter Tryz.func28, Tryz.ntmps28
    go_wp2_with fail
    refine (good_any HH.out).mono ?_
    rintro e w1 ⟨rfl, rfl⟩
    go_wp2
    go_ret
    refine ⟨?_, rfl⟩
    cases l with
    | nil => rfl
    | cons x t => 
      simp
      omega
theorem whole_nil (w : World) : Calls Tryz.prog 28 #[.pointer none] w fun e w' => e = .returned (.bool false) ∧ w' = w := by
  go_enter Tryz.func28, Tryz.ntmps28
  go_wp2_with fail
  refine (good_nil _).mono ?_
  rintro e w1 ⟨rfl, rfl⟩
  go_wp2
  go_ret
  exact ⟨rfl, rfl⟩
/- A reader whose cells are laid anew. -/
theorem RdAt.turn2 {w : World} {g T : Nat} {fl : Bool} {q : Option Nat} {l : List UInt8} (h : RdAt w g T fl q l) (v' : Value) (fl' : Bool) (l' : List UInt8) (hb : Bs w v' l') (hq : ∀ k, bk v' = some k → q = some k) (hl : l'.length ≤ 140737488355328) :
    RdAt ((w.setCell ⟨g, 0, none⟩ v').setCell ⟨g, 1, none⟩ (.bool fl')) g T fl' q l' ∧ Chg (One g) w ((w.setCell ⟨g, 0, none⟩ v').setCell ⟨g, 1, none⟩ (.bool fl')) := by
  obtain ⟨v, h1, h2, h3, h4, h5⟩ := h
  have hc : Chg (One g) w ((w.setCell ⟨g, 0, none⟩ v').setCell ⟨g, 1, none⟩ (.bool fl')) := (Chg.setCell (S := One g) w ⟨g, 0, none⟩ v' rfl).trans (Chg.setCell (S := One g) _ ⟨g, 1, none⟩ _ rfl)
  refine ⟨⟨v', ?_, hb.keep hc (fun k hk e => h4 (by rw [hq k hk, e])), hq, h4, hl⟩, hc⟩
  rw [heap_set (heap_set h1 0 v') 1]
  rfl
theorem RdAt.turn1 {w : World} {g T : Nat} {fl : Bool} {q : Option Nat} {l : List UInt8} (h : RdAt w g T fl q l) (v' : Value) (l' : List UInt8) (hb : Bs w v' l') (hq : ∀ k, bk v' = some k → q = some k) (hl : l'.length ≤ 140737488355328) :
    RdAt (w.setCell ⟨g, 0, none⟩ v') g T fl q l' ∧ Chg (One g) w (w.setCell ⟨g, 0, none⟩ v') := by
  obtain ⟨v, h1, h2, h3, h4, h5⟩ := h
  have hc : Chg (One g) w (w.setCell ⟨g, 0, none⟩ v') := Chg.setCell w ⟨g, 0, none⟩ v' rfl
  refine ⟨⟨v', ?_, hb.keep hc (fun k hk e => h4 (by rw [hq k hk, e])), hq, h4, hl⟩, hc⟩
  rw [heap_set h1 0 v']
  rfl
theorem fail_any {w : World} {g : Nat} {q : Option Nat} {r : Rd} (h : Rdr w g q r) :
    Calls Tryz.prog 55 #[.pointer (some ⟨g, 0, none⟩)] w fun e w' => e = .returned (.tuple #[]) ∧ Rdr w' g q none ∧ Chg (One g) w w' := by
  have HH : Hid (Rdr w g q r) := h
  obtain ⟨v, h1, _⟩ := h
  have hc0 := cell_at h1 0
  have hc1 := cell_at h1 1
  have hf0 := frozen_at h1 0
  have hf1 := frozen_at h1 1
  rw [show #[v, Value.bool r.isSome][0]? = some v from rfl] at hc0
  rw [show #[v, Value.bool r.isSome][1]? = some (.bool r.isSome) from rfl] at hc1
  clear h1
  go_enter Tryz.func55, Tryz.ntmps55
  go_wp2
  go_end0
  have := HH.out.turn2 (.slice none 0 0) false [] (Bs.nil w) (fun k hk => absurd hk (bk_zero _ _ _)) (by simp)
  exact ⟨rfl, this.1, this.2⟩
theorem newReader_any {w : World} {x : Value} {l : List UInt8} (hx : Bs w x l) (hl : l.length ≤ 140737488355328) :
    Calls Tryz.prog 22 #[x] w fun e w' => ∃ g q, e = .returned (.pointer (some ⟨g, 0, none⟩)) ∧ Rdr w' g q (some l) ∧ Below w.heap.size w w' ∧ w.heap.size ≤ g ∧ (∀ k, q = some k → w.heap.size ≤ k ∧ k < w'.heap.size) := by
  go_enter Tryz.func22, Tryz.ntmps22
  go_wp2_with fail
  refine (clone_any hx hl).mono ?_
  rintro e w1 ⟨v, rfl, hv⟩
  obtain ⟨A, C, rfl⟩ := bs_form hv.bs
  go_wp2
  go_ret
  refine ⟨w1.heap.size, bk (.slice A l.length C), rfl, ⟨_, heap_alloc_new w1 _, hv.bs.alloc _, fun k hk => hk, fun e => ?_, hl⟩, hv.below.alloc hv.below.size _, hv.below.size, fun k hk => ⟨(hv.at k hk).1, by have := (hv.at k hk).2; simp; omega⟩⟩
  have := (hv.at _ e).2
  omega
end Go.Proofs.YtaeoafedfgbcaaaGreatDoor
