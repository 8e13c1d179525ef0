/- The bag: lists put into it. -/
import Derived.Test.YtbehainbggdpeaaGreatBgI
import Derived.Test.YtbehainbggdpeaaGreatBgL
namespace Go.Proofs.YtbehainbggdpeaaGreat
namespace AN
open Go.RowKit

def nl : Value := .slice none 0 0
/-- A bag that holds the lists of numbers V, and nothing else. -/
def BagAt (w : World) (b : Nat) (V : Value) : Prop := w.heap[b]? = some (.cells #[.slice none 0 0, .slice none 0 0, V, .slice none 0 0, .slice none 0 0, .slice none 0 0, .slice none 0 0, .slice none 0 0, .slice none 0 0, .slice none 0 0, .slice none 0 0, .slice none 0 0, .slice none 0 0, .slice none 0 0, .slice none 0 0, .slice none 0 0, .slice none 0 0, .slice none 0 0, .slice none 0 0, .slice none 0 0] 77 (0, 0))
theorem BagAt.lt {w : World} {b : Nat} {V : Value} (h : BagAt w b V) : b < w.heap.size := by
  rcases Nat.lt_or_ge b w.heap.size with h1 | h1
  · exact h1
  · unfold BagAt at h; rw [Array.getElem?_eq_none h1] at h; cases h
theorem BagAt.keep {w w' : World} {b : Nat} {V : Value} {r : Option Nat} (h : BagAt w b V) (g : w.grownBy w' r) (hr : r ≠ some b) : BagAt w' b V := by
  have hl := h.lt
  unfold BagAt at *
  rw [g.block b hl (fun e => hr e.symm)]; exact h
theorem BagAt.field {w : World} {b : Nat} {V : Value} (h : BagAt w b V) : w.cell? ⟨b, 2, none⟩ = some V := by
  rw [cell_of_row w b 2 _ _ _ h]; rfl
theorem BagAt.other {w : World} {b : Nat} {V : Value} (h : BagAt w b V) (i : Nat) (h1 : i ≠ 2) (h2 : i < 20) : w.cell? ⟨b, i, none⟩ = some (.slice none 0 0) := by
  rw [cell_of_row w b i _ _ _ h]
  match i, h1, h2 with
  | 0, _, _ | 1, _, _ | 3, _, _ | 4, _, _ | 5, _, _ | 6, _, _ | 7, _, _ | 8, _, _ | 9, _, _ | 10, _, _ | 11, _, _ | 12, _, _ | 13, _, _ | 14, _, _ | 15, _, _ | 16, _, _ | 17, _, _ | 18, _, _ | 19, _, _ => rfl
  | x + 20, _, h => exact absurd h (by omega)
theorem BagAt.thaw {w : World} {b : Nat} {V : Value} (h : BagAt w b V) (i : Nat) : w.frozen? ⟨b, i, none⟩ = false := frozen_of_row w b i _ _ h
theorem BagAt.set {w : World} {b : Nat} {V : Value} (h : BagAt w b V) (V' : Value) : BagAt (w.setCell ⟨b, 2, none⟩ V') b V' := heap_setCell_same w b 2 _ _ V' h

theorem infoEL2 : (Tryz.prog.info? 31).map (fun i => (i.zero, i.size, i.bytes)) = some (some (.slice none 0 0), 1, 24) := by kernel_rfl

theorem own_slice {w1 : World} {base n : Nat} {v1 : Value} {xs : List Value} (h : w1.ownsRow base 31 1 v1 n xs) : ∃ a c, v1 = .slice a n c := by
  rcases h.2 with ⟨h0, h1⟩ | ⟨g, cap, cur, hv, _⟩
  · exact ⟨none, 0, by rw [h0, h1]⟩
  · exact ⟨_, _, hv⟩

theorem own_ne_bag {w : World} {H b n : Nat} {a : Option Addr} {c : Nat} {xs : List Value} {V : Value} (h : w.ownsRow H 31 1 (.slice a n c) n xs) (hb : BagAt w b V) : ∀ x, a = some x → x.block ≠ b := by
  intro x hx e
  rcases h.2 with ⟨h0, _⟩ | ⟨g, cap, cur, hv, _, hg, _⟩
  · cases h0; cases hx
  · cases hv; cases hx
    subst e
    unfold BagAt at hb
    rw [hb] at hg
    simp at hg
theorem ownBlock_ne {a : Option Addr} {n c b : Nat} (h : ∀ x, a = some x → x.block ≠ b) : (Value.slice a n c).ownBlock ≠ some b := by
  cases a with
  | none => simp [Value.ownBlock]
  | some x => simpa [Value.ownBlock] using h x rfl
theorem ownBlock_ge {w : World} {H n c : Nat} {a : Option Addr} {xs : List Value} (h : w.ownsRow H 31 1 (.slice a n c) n xs) : ∀ q, (Value.slice a n c).ownBlock = some q → H ≤ q := fun q hq => (h.lt q hq).1

theorem put_facts {w w1 : World} {H b k : Nat} {a0 : Option Addr} {c0 : Nat} {vs : List Value} {o : Obj} (hb : BagAt w b (.slice a0 k c0)) (ho : w.ownsRow H 31 1 (.slice a0 k c0) k vs) (hH : H ≤ w.heap.size) (hne : ∀ x, a0 = some x → x.block ≠ b)
    (hg : (w.alloc o).grownBy w1 (Value.slice a0 k c0).ownBlock) : BagAt w1 b (.slice a0 k c0) ∧ Below H w w1 := by
  refine ⟨(hb.keep (World.grownBy_alloc w o none) (by simp)).keep hg (ownBlock_ne hne), ?_⟩
  have h1 : Below H w (w.alloc o) := (Below.refl H w).alloc hH o
  exact h1.grown hg (Nat.le_trans hH h1.size) (ownBlock_ge ho)

set_option maxRecDepth 100000 in
set_option maxHeartbeats 1000000 in
theorem putLongs_any (H b k : Nat) (a0 : Option Addr) (c0 : Nat) (vs : List Value) (A : Option Addr) (N C : Nat) (w : World) (hb : BagAt w b (.slice a0 k c0)) (ho : w.ownsRow H 31 1 (.slice a0 k c0) k vs) (hH : H ≤ w.heap.size) (hbH : H ≤ b) (hne : ∀ x, a0 = some x → x.block ≠ b) (hk : k ≤ 1000) :
    Calls Tryz.prog 24 #[.pointer (some ⟨b, 0, none⟩), .slice A N C] w fun e w' => e = .returned (.tuple #[]) ∧ ∃ a1 c1, BagAt w' b (.slice a1 (k + 1) c1) ∧ w'.ownsRow H 31 1 (.slice a1 (k + 1) c1) (k + 1) (vs ++ [.slice A N C]) ∧ (∀ x, a1 = some x → x.block ≠ b) ∧ Below H w w' := by
  obtain ⟨j0, hj, hj0, hj1, hj2⟩ := info_parts infoEL2
  have HB : Hid (BagAt w b (.slice a0 k c0)) := hb
  have HO : Hid (w.ownsRow H 31 1 (.slice a0 k c0) k vs) := ho
  have HN : Hid (∀ x, a0 = some x → x.block ≠ b) := hne
  have x1 := hb.field
  have x2 := hb.thaw 2
  clear hb ho hne
  go_enter Tryz.func24, Tryz.ntmps24
  go_wp2_with (first | (at_builtin; refine wpList_append_own _ rfl (.tmp 8) (.tmp 10) 34 rfl H 31 j0 (.slice none 0 0) 1 24 Tryz.underlying34 hj hj0 hj1 hj2 rfl (by decide) (.slice a0 k c0) k vs rfl (HO.out.alloc _) ⟨_, 0, none⟩ 1 1 [.slice A N C] rfl rfl (cell_one_new _ _ _) (one_new _ rfl) (by unfold maxLen; omega) (by omega) (by simp; omega) ?_; intro v1 w1 hown1 hgrow1 _; obtain ⟨a1, c1, rfl⟩ := own_slice hown1; have Z := put_facts HB.out HO.out hH HN.out hgrow1; have y1 := Z.1.field; have y2 := Z.1.thaw 2; have HB1 : Hid (BagAt w1 b (.slice a0 k c0)) := Z.1; have HO1 : Hid (w1.ownsRow H 31 1 (.slice a1 (k + 1) c1) (k + 1) (vs ++ [.slice A N C])) := hown1; have HW1 : Hid (Below H w w1) := Z.2; clear hown1 hgrow1 Z))
  go_end0
  have hne1 := own_ne_bag HO1.out HB1.out
  refine ⟨rfl, a1, c1, HB1.out.set _, ?_, hne1, HW1.out.setCell hbH _⟩
  exact HO1.out.kept (grownBy_set w1 b 2 _) (.inr (ownBlock_ne hne1))
end AN
end Go.Proofs.YtbehainbggdpeaaGreat
