/- The walks of the digits that a row of bytes begins with. -/
import Derived.Laws.Bits64b
import Derived.Test.YtkbmbnfpadllmaaDoorWalksC
import Derived.Laws.BitsAllLaws
namespace Go.Proofs.YtkbmbnfpadllmaaDoor
open Go.RowKit

theorem dec_end {l : List UInt8} {k : Nat} (h : l.length ≤ k ∨ 10 ≤ k) : dec k (l.drop k) = none := by
  rcases h with h | h
  · rw [List.drop_eq_nil_of_le h]; rfl
  · cases l.drop k with
    | nil => rfl
    | cons x t => rw [dec, if_pos h]
theorem dec_more {l : List UInt8} {k : Nat} (h : k < l.length) (hk : k < 10) (hx : 128 ≤ (l[k]'h).toNat) :
    dec k (l.drop k) = (dec (k + 1) (l.drop (k + 1))).map (fun p => ((l[k]'h).toNat - 128 + 128 * p.1, p.2 + 1)) := by
  rw [List.drop_eq_getElem_cons h, dec, if_neg (by omega), if_pos hx]
theorem dec_last {l : List UInt8} {k : Nat} (h : k < l.length) (hk : k < 10) (hx : (l[k]'h).toNat < 128) :
    dec k (l.drop k) = if (k = 9 ∧ (l[k]'h).toNat ≠ 1) ∨ ((l[k]'h).toNat = 0 ∧ 0 < k) then none else some ((l[k]'h).toNat, 1) := by
  rw [List.drop_eq_getElem_cons h, dec, if_neg (by omega), if_neg (by omega)]

theorem pow128 (k : Nat) : (2 : Nat) ^ (7 * k) = 128 ^ k := by rw [Nat.pow_mul]
theorem pow_le9 {k : Nat} (h : k < 9) : 128 ^ k * 128 ≤ 9223372036854775808 := by
  have : ∀ j, j < 9 → 128 ^ j * 128 ≤ 9223372036854775808 := by decide +kernel
  exact this k h
theorem mul_small {a b c : Nat} (h : b < c) (h2 : c * a ≤ 18446744073709551616) (ha : 0 < a) : b * a < 18446744073709551616 :=
  Nat.lt_of_lt_of_le ((Nat.mul_lt_mul_right ha).2 h) h2
theorem or_dig (x d k : Nat) (hk : k < 10) (hx : x < 128 ^ k) (hd : k = 9 → d % 128 < 2) :
    bits BinOp.or IntKind.u64 (x : Int) (IntKind.u64.wrap ((d : Int) % 128 * 2 ^ (7 * k))) = ((x + 128 ^ k * (d % 128) : Nat) : Int) ∧ x + 128 ^ k * (d % 128) < 18446744073709551616 := by
  have h9 : 128 ^ 9 = 9223372036854775808 := by decide +kernel
  have hpos : 0 < 128 ^ k := Nat.pow_pos (by omega)
  have hsm : d % 128 * 128 ^ k + 128 ^ k ≤ 18446744073709551616 := by
    rcases Nat.lt_or_ge k 9 with h | h
    · have h1 := pow_le9 h
      have h2 : d % 128 * 128 ^ k ≤ 127 * 128 ^ k := Nat.mul_le_mul_right _ (by omega)
      omega
    · have : k = 9 := by omega
      subst this
      have := hd rfl
      rw [h9]
      omega
  have e1 : ((d : Int) % 128 * 2 ^ (7 * k)) = ((d % 128 * 128 ^ k : Nat) : Int) := by
    rw [← pow128]; simp
  rw [e1, IntKind.wrap_u64]
  have e2 : (((d % 128 * 128 ^ k : Nat) : Int) % 18446744073709551616) = ((d % 128 * 128 ^ k : Nat) : Int) := Int.emod_eq_of_lt (by omega) (by omega)
  rw [e2, bits_or_u64_nat _ _ (by omega) (by omega)]
  have e3 : x ||| d % 128 * 128 ^ k = x + 128 ^ k * (d % 128) := by
    have := Nat.two_pow_add_eq_or_of_lt (i := 7 * k) (b := x) (by rw [pow128]; exact hx) (d % 128)
    rw [pow128] at this
    rw [Nat.or_comm, Nat.mul_comm (d % 128), ← this, Nat.add_comm]
  rw [e3]
  refine ⟨rfl, ?_⟩
  rw [Nat.mul_comm (128 ^ k)]
  omega
theorem or_any (x y : Nat) (hx : x < 18446744073709551616) (hy : y < 18446744073709551616) : x ||| y < 18446744073709551616 := Nat.or_lt_two_pow (n := 64) hx hy
theorem or_some (x d k : Nat) (hx : x < 18446744073709551616) : ∃ y : Nat, bits BinOp.or IntKind.u64 (x : Int) (IntKind.u64.wrap ((d : Int) % 128 * 2 ^ (7 * k))) = (y : Int) ∧ y < 18446744073709551616 := by
  rw [IntKind.wrap_u64]
  obtain ⟨m, hm⟩ := Int.eq_ofNat_of_zero_le (Int.emod_nonneg ((d : Int) % 128 * 2 ^ (7 * k)) (show (18446744073709551616 : Int) ≠ 0 by decide))
  have hlt := Int.emod_lt_of_pos ((d : Int) % 128 * 2 ^ (7 * k)) (show (0 : Int) < 18446744073709551616 by decide)
  rw [hm] at hlt ⊢
  have : m < 18446744073709551616 := by omega
  exact ⟨x ||| m, bits_or_u64_nat _ _ hx this, or_any _ _ hx this⟩
/- The rounds of the walk, in plain numbers. -/
theorem round_more {l : List UInt8} {D : Option (Nat × Nat)} {k x : Nat} (h : k < l.length) (hk : k < 10) (h128 : 128 ≤ (l[k]'h).toNat) (hx1 : x < 18446744073709551616) (hx2 : k < 10 → x < 128 ^ k)
    (hd : k < 10 → D = (dec k (l.drop k)).map (fun p => (x + 128 ^ k * p.1, p.2 + k))) :
    ∃ y : Nat, bits BinOp.or IntKind.u64 (x : Int) (IntKind.u64.wrap (((l[k]'h).toNat : Int) % 128 * 2 ^ (7 * k))) = (y : Int) ∧ y < 18446744073709551616 ∧ (k + 1 < 10 → y < 128 ^ (k + 1)) ∧
      (k + 1 < 10 → D = (dec (k + 1) (l.drop (k + 1))).map (fun p => (y + 128 ^ (k + 1) * p.1, p.2 + (k + 1)))) ∧ (k + 1 = 10 → D = none) := by
  have hd' := hd hk
  rw [dec_more h hk h128] at hd'
  rcases Nat.lt_or_ge k 9 with h9 | h9
  · obtain ⟨e1, e2⟩ := or_dig x (l[k]'h).toNat k hk (hx2 hk) (by omega)
    have hb := (l[k]'h).toNat_lt
    have hm : (l[k]'h).toNat % 128 = (l[k]'h).toNat - 128 := by omega
    refine ⟨_, e1, e2, fun _ => ?_, fun _ => ?_, fun e => by omega⟩
    · have h1 : 128 ^ k * ((l[k]'h).toNat % 128) ≤ 128 ^ k * 127 := Nat.mul_le_mul_left _ (by omega)
      have := hx2 hk
      rw [Nat.pow_succ]; omega
    · rw [hd', Option.map_map]
      congr 1
      funext p
      simp only [Function.comp, Prod.mk.injEq]
      refine ⟨?_, by omega⟩
      rw [hm, Nat.pow_succ, Nat.mul_add, Nat.mul_assoc]
      omega
  · have : k = 9 := by omega
    subst this
    obtain ⟨y, e1, e2⟩ := or_some x (l[9]'h).toNat 9 hx1
    refine ⟨y, e1, e2, fun e => by omega, fun e => by omega, fun _ => ?_⟩
    rw [hd', dec_end (.inr (by omega))]
    rfl
theorem round_bad {l : List UInt8} {D : Option (Nat × Nat)} {k x : Nat} (h : k < l.length) (hk : k < 10) (h128 : (l[k]'h).toNat < 128)
    (hd : k < 10 → D = (dec k (l.drop k)).map (fun p => (x + 128 ^ k * p.1, p.2 + k))) (hb : (k = 9 ∧ (l[k]'h).toNat ≠ 1) ∨ ((l[k]'h).toNat = 0 ∧ 0 < k)) : D = none := by
  rw [hd hk, dec_last h hk h128, if_pos hb]; rfl
theorem round_good {l : List UInt8} {D : Option (Nat × Nat)} {k x : Nat} (h : k < l.length) (hk : k < 10) (h128 : (l[k]'h).toNat < 128) (hx2 : k < 10 → x < 128 ^ k)
    (hd : k < 10 → D = (dec k (l.drop k)).map (fun p => (x + 128 ^ k * p.1, p.2 + k))) (hb : ¬ ((k = 9 ∧ (l[k]'h).toNat ≠ 1) ∨ ((l[k]'h).toNat = 0 ∧ 0 < k))) :
    ∃ y : Nat, bits BinOp.or IntKind.u64 (x : Int) (IntKind.u64.wrap (((l[k]'h).toNat : Int) % 128 * 2 ^ (7 * k))) = (y : Int) ∧ D = some (y, k + 1) := by
  have hd' := hd hk
  rw [dec_last h hk h128, if_neg hb] at hd'
  obtain ⟨e1, _⟩ := or_dig x (l[k]'h).toNat k hk (hx2 hk) (by omega)
  refine ⟨_, e1, ?_⟩
  rw [hd', show (l[k]'h).toNat % 128 = (l[k]'h).toNat by omega]
  simp; omega

end Go.Proofs.YtkbmbnfpadllmaaDoor
/- The walks of a reader. -/
namespace Go.Proofs.YtkbmbnfpadllmaaDoor
open Go.RowKit

/- A reader at block g: what is left of it (l), whether it is good, and the block that its bytes lie in. -/
def RdAt (w : World) (g T : Nat) (fl : Bool) (q : Option Nat) (l : List UInt8) : Prop :=
  ∃ v, w.heap[g]? = some (.cells #[v, .bool fl] T (0, 0)) ∧ Bs w v l ∧ (∀ k, bk v = some k → q = some k) ∧ q ≠ some g ∧ l.length ≤ 140737488355328
theorem RdAt.lt {w : World} {g T : Nat} {fl : Bool} {q : Option Nat} {l : List UInt8} (h : RdAt w g T fl q l) : g < w.heap.size := by
  obtain ⟨v, h1, _⟩ := h; exact heap_lt h1
theorem RdAt.keep {S : Nat → Prop} {w w' : World} {g T : Nat} {fl : Bool} {q : Option Nat} {l : List UInt8} (h : RdAt w g T fl q l) (hc : Chg S w w') (hg : ¬ S g) (hq : ∀ k, q = some k → ¬ S k) : RdAt w' g T fl q l := by
  have hl := h.lt
  obtain ⟨v, h1, h2, h3, h4, h5⟩ := h
  exact ⟨v, by rw [hc.block g hl hg]; exact h1, h2.keep hc (fun k hk => hq k (h3 k hk)), h3, h4, h5⟩
abbrev One (g : Nat) : Nat → Prop := fun k => k = g

/- A reader whose cells are laid anew. -/
theorem RdAt.turn2 {w : World} {g T : Nat} {fl : Bool} {q : Option Nat} {l : List UInt8} (h : RdAt w g T fl q l) (v' : Value) (fl' : Bool) (l' : List UInt8) (hb : Bs w v' l') (hq : ∀ k, bk v' = some k → q = some k) (hl : l'.length ≤ 140737488355328) :
    RdAt ((w.setCell ⟨g, 0, none⟩ v').setCell ⟨g, 1, none⟩ (.bool fl')) g T fl' q l' ∧ Chg (One g) w ((w.setCell ⟨g, 0, none⟩ v').setCell ⟨g, 1, none⟩ (.bool fl')) := by
  obtain ⟨v, h1, h2, h3, h4, h5⟩ := h
  have hc : Chg (One g) w ((w.setCell ⟨g, 0, none⟩ v').setCell ⟨g, 1, none⟩ (.bool fl')) := (Chg.setCell (S := One g) w ⟨g, 0, none⟩ v' rfl).trans (Chg.setCell (S := One g) _ ⟨g, 1, none⟩ _ rfl)
  refine ⟨⟨v', ?_, hb.keep hc (fun k hk e => h4 (by rw [hq k hk, e])), hq, h4, hl⟩, hc⟩
  rw [heap_set (heap_set h1 0 v') 1]
  rfl
theorem RdAt.turn1 {w : World} {g T : Nat} {fl : Bool} {q : Option Nat} {l : List UInt8} (h : RdAt w g T fl q l) (v' : Value) (l' : List UInt8) (hb : Bs w v' l') (hq : ∀ k, bk v' = some k → q = some k) (hl : l'.length ≤ 140737488355328) :
    RdAt (w.setCell ⟨g, 0, none⟩ v') g T fl q l' ∧ Chg (One g) w (w.setCell ⟨g, 0, none⟩ v') := by
  obtain ⟨v, h1, h2, h3, h4, h5⟩ := h
  have hc : Chg (One g) w (w.setCell ⟨g, 0, none⟩ v') := Chg.setCell w ⟨g, 0, none⟩ v' rfl
  refine ⟨⟨v', ?_, hb.keep hc (fun k hk e => h4 (by rw [hq k hk, e])), hq, h4, hl⟩, hc⟩
  rw [heap_set h1 0 v']
  rfl
end Go.Proofs.YtkbmbnfpadllmaaDoor
