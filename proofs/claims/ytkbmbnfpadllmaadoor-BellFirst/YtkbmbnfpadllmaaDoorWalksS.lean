/- The walk of beadlekit's comparing of bytes. -/
import Derived.Test.YtkbmbnfpadllmaaDoorWalksG
namespace Go.Proofs.YtkbmbnfpadllmaaDoor
open Go.RowKit

theorem take_step {α : Type} (k : Nat) (a b : List α) {ha : k < a.length} {hb : k < b.length} (h : a.take k = b.take k) (he : a[k]'ha = b[k]'hb) : a.take (k + 1) = b.take (k + 1) := by
  rw [List.take_succ_eq_append_getElem ha, List.take_succ_eq_append_getElem hb, h, he]
theorem ne_at {α : Type} (k : Nat) (a b : List α) {ha : k < a.length} {hb : k < b.length} (he : ¬ a[k]'ha = b[k]'hb) : a ≠ b := by
  rintro rfl; exact he rfl
theorem eq_of_take {α : Type} {a b : List α} (hl : a.length = b.length) (k : Nat) (hk : a.length ≤ k) (h : a.take k = b.take k) : a = b := by
  rw [List.take_of_length_le hk, List.take_of_length_le (by omega)] at h
  exact h
theorem ret_bool {a b : Bool} (h : a = b) : Ending.returned (.bool a) = .returned (.bool b) := by rw [h]
theorem Bs.at' {w : World} {A : Option Addr} {n C : Nat} {l : List UInt8} (h : Bs w (.slice A n C) l) (k : Nat) (hk : k < l.length) : ∃ b o, A = some ⟨b, o, none⟩ ∧ w.cell? ⟨b, o + k, none⟩ = some (.int .u8 ((l[k]'hk).toNat : Int)) := by
  rcases h with ⟨_, rfl⟩ | ⟨_, _, _, rfl⟩ | ⟨_, b, o, c, he, _, _, h3⟩
  · simp at hk
  · simp at hk
  · cases he
    exact ⟨b, o, rfl, h3 k hk⟩
theorem u8_inj {x y : UInt8} (h : (x.toNat : Int) = (y.toNat : Int)) : x = y := UInt8.toNat.inj (by omega)
theorem Bs_lit (w : World) (l : List UInt8) : Bs (w.alloc (.cells (bv l).toArray 5)) (.slice (some ⟨w.heap.size, 0, none⟩) l.length l.length) l :=
  Bs_new w l _ _ _ (Nat.le_refl _) (fun j hj => by simp [bv, hj])
theorem Bs.drewN {w : World} {v : Value} {l : List UInt8} (h : Bs w v l) (n : Nat) : Bs (w.drewN n) v l := h.keep (Chg.drewN Non w n) (fun _ _ => id)
theorem below_drewN {B : Nat} {a w : World} (h : Below B a w) (n : Nat) : Below B a (w.drewN n) := ⟨h.os, h.tape, h.output, by cases n <;> exact h.size, by cases n <;> exact h.block⟩
theorem num65 : numB (-65) = [129, 1] := by
  unfold numB
  rw [show zz (-65) = 129 by decide, digs_big (by omega), digs_small (by omega)]
  rfl
theorem text_ab : textB [97, 98] = [4, 97, 98] := by
  unfold textB numB
  rw [show zz ([97, 98] : List UInt8).length = 4 by decide, digs_small (by omega)]
  rfl
theorem Bs.below {w w' : World} {B : Nat} {v : Value} {l : List UInt8} (h : Bs w v l) (hb : Below B w w') (hk : ∀ k, bk v = some k → k < B) : Bs w' v l := by
  rcases h with h | h | ⟨h0, b, o, c, rfl, h1, h2, h3⟩
  · exact .inl h
  · exact .inr (.inl h)
  · refine .inr (.inr ⟨h0, b, o, c, rfl, h1, Nat.lt_of_lt_of_le h2 hb.size, fun j hj => ?_⟩)
    rw [hb.cell (p := ⟨b, o + j, none⟩) (hk b (bk_pos h0))]
    exact h3 j hj
theorem Put.far {w w' : World} {base g T : Nat} {tl : List Value} {q q' : Option Nat} {l : List UInt8} (h : RowAt w base g T tl q l) (hg : base ≤ g) (hp : Put g q w w' q') : Below base w w' := by
  refine hp.chg.below ?_ ?_
  · rintro k (rfl | e)
    · exact hg
    · exact (h.qlt k e).1
  · exact Nat.le_trans hg (Nat.le_of_lt h.lt)
theorem Below.chg {B : Nat} {w w' : World} (h : Below B w w') (hB : B = w.heap.size) : Chg Non w w' := Chg.of_below (hB ▸ h)
theorem Chg.none_to {S : Nat → Prop} {w w' : World} (h : Chg Non w w') : Chg S w w' := h.weak (fun _ _ e => e.elim)
end Go.Proofs.YtkbmbnfpadllmaaDoor
