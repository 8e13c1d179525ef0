/- Contracts of beadlekit's functions on bytes that are lent. -/
import Derived.Test.YtbbodplmfebaaaaLkG
import Derived.Deep.DeepAppendRoom
import Derived.Laws.AppendOwnNone
import Derived.Deep.DrawnRows
import Derived.BigQuiet
namespace Go.Proofs.Ytbbodplmfebaaaa
open Go.RowKit

namespace LB
theorem addP (b o j : Nat) : (⟨b, o, none⟩ : Addr).add j = ⟨b, o + j, none⟩ := by simp only [Addr.add]; split <;> simp_all
theorem mark_any (k i : Int) (w : World) (hk : 0 ≤ k) (hk' : k < 1000000) (hi : 0 ≤ i) (hi' : i < 1000000000000) :
    Calls Try.prog 41 #[.int .i64 k, .int .i64 i] w fun e w' => e = .returned (.int .i64 (1000003 * (k + 7) + i)) ∧ w' = w := by
  go_enter Try.func41, Try.ntmps41
  go_wp2
  go_ret
  exact ⟨rfl, rfl⟩
/- A mark's byte. -/
def mb (x : Int) : Int := IntKind.u64.wrap (IntKind.u64.wrap x * 11400714819323198485) / 72057594037927936 % 256
def mbu (i : Nat) : UInt8 := UInt8.ofNat (mb (8000024 + (i : Int))).toNat
theorem mbu_val (i : Nat) : ((mbu i).toNat : Int) = mb (8000024 + (i : Int)) := by
  have h' : 0 ≤ mb (8000024 + (i : Int)) ∧ mb (8000024 + (i : Int)) < 256 := by unfold mb; omega
  unfold mbu
  generalize mb (8000024 + (i : Int)) = z at h' ⊢
  simp only [UInt8.toNat_ofNat']
  omega
theorem markB_any (i : Int) (w : World) (hi : 0 ≤ i) (hi' : i < 1000000000000) :
    Calls Try.prog 43 #[.int .i64 1, .int .i64 i] w fun e w' => e = .returned (.int .u8 (mb (8000024 + i))) ∧ w' = w := by
  have hm := mark_any 1 i w (by decide) (by decide) hi hi'
  rw [show (1000003 : Int) * (1 + 7) + i = 8000024 + i by omega] at hm
  unfold mb
  generalize 8000024 + i = x at hm ⊢
  go_enter Try.func43, Try.ntmps43
  go_wp2_with fail
  refine hm.mono ?_
  rintro e w' ⟨rfl, rfl⟩
  go_wp2
  go_ret
  exact ⟨rfl, rfl⟩
/- The marks behind bytes that are lent. -/
def marks (k : Nat) : List UInt8 := (List.range k).map mbu
theorem marks_len (k : Nat) : (marks k).length = k := by simp [marks]
theorem marks_succ (k : Nat) : marks (k + 1) = marks k ++ [mbu k] := by simp [marks, List.range_succ]
theorem marks_map (l : List UInt8) (k : Nat) : bv (l ++ marks k) ++ [.int .u8 (mb (8000024 + (k : Int)))] = bv (l ++ marks (k + 1)) := by
  rw [marks_succ, ← List.append_assoc, bv_app (l ++ marks k)]; simp only [bv, List.map_cons, List.map_nil, mbu_val]
theorem grown_none {a b c : World} {g : Nat} (h : a.grownBy b none) (k : b.grownBy c (some g)) (hg : a.heap.size ≤ g) : a.grownBy c none :=
  ⟨k.os.trans h.os, k.tape.trans h.tape, k.output.trans h.output, Nat.le_trans h.size k.size, fun x hx _ => (k.block x (Nat.lt_of_lt_of_le hx h.size) (by simp; omega)).trans (h.block x hx (by simp))⟩
theorem below_of_grown {a b : World} (h : a.grownBy b none) : Below a.heap.size a b := ⟨h.os, h.tape, h.output, h.size, fun k hk => h.block k hk (by simp)⟩
theorem grown_trans {a b c : World} (h : a.grownBy b none) (k : Below b.heap.size b c) : a.grownBy c none :=
  ⟨k.os.trans h.os, k.tape.trans h.tape, k.output.trans h.output, Nat.le_trans h.size k.size, fun x hx _ => (k.block x (Nat.lt_of_lt_of_le hx h.size)).trans (h.block x hx (by simp))⟩

/- What is lent: the bytes, with twelve marks behind their end. -/
def Lent (w : World) (g : Nat) (l : List UInt8) : Prop := w.heap[g]? = some (.cells (bv (l ++ marks 12)).toArray 5 (0, 0))
theorem lent_of {w : World} {base g n : Nat} {l : List UInt8} (_hn : l.length = n) (h : w.ownsRow base 5 1 (.slice (some ⟨g, 0, none⟩) (n + 12) (n + 12)) (n + 12) (bv (l ++ marks 12))) : Lent w g l := by
  rcases h.2 with ⟨h0, _⟩ | ⟨g', cap, cur, hv, hb, hg, hnc, hcm, hcs, ht⟩
  · cases h0
  · cases hv
    rw [List.take_of_length_le (by simp; omega)] at ht
    unfold Lent
    rw [← ht, hg]
theorem Lent.below {w w' : World} {g : Nat} {l : List UInt8} (h : Lent w g l) (hb : Below w.heap.size w w') : Lent w' g l := by
  unfold Lent at *
  rw [hb.block g (heap_lt h)]; exact h
theorem bv_at (l : List UInt8) (j : Nat) (h : j < l.length) : (bv l)[j]? = some (.int .u8 ((l[j]'h).toNat : Int)) := by simp [bv, h]
theorem Lent.cell {w : World} {g : Nat} {l : List UInt8} (h : Lent w g l) (j : Nat) (hj : j < (l ++ marks 12).length) : w.cell? ⟨g, j, none⟩ = some (.int .u8 (((l ++ marks 12)[j]'hj).toNat : Int)) := by
  rw [cell_at h, List.getElem?_toArray]; exact bv_at _ j hj
theorem Lent.bs {w : World} {g : Nat} {l : List UInt8} (h : Lent w g l) : Bs w (.slice (some ⟨g, 0, none⟩) l.length (l.length + 12)) l := by
  refine Bs.mk g 0 _ rfl (by omega) (heap_lt h) (fun j hj => ?_)
  have hj' : j < (l ++ marks 12).length := by rw [List.length_append]; omega
  have := h.cell j hj'
  rw [List.getElem_append_left hj] at this
  rw [Nat.zero_add]
  exact this
end LB
end Go.Proofs.Ytbbodplmfebaaaa
