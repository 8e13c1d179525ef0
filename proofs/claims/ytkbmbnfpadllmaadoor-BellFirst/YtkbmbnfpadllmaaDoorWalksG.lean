/- The walks of what is taken off a reader. -/
import Derived.Test.YtkbmbnfpadllmaaDoorWalksE
import Derived.Laws.DeepNot64
namespace Go.Proofs.YtkbmbnfpadllmaaDoor
open Go.RowKit

theorem Bs.head {w : World} {b o c : Nat} {l : List UInt8} (h : ∀ j (h : j < l.length), w.cell? ⟨b, o + j, none⟩ = some (.int .u8 ((l[j]'h).toNat : Int))) (hb : b < w.heap.size) (n : Nat) (hn : n ≤ l.length) (hc : n ≤ c) : Bs w (.slice (some ⟨b, o, none⟩) n c) (l.take n) := by
  refine Bs.mk b o c (by rw [List.length_take, Nat.min_eq_left hn]) (by rw [List.length_take]; omega) hb fun j hj => ?_
  have hj' : j < l.length := by rw [List.length_take] at hj; omega
  rw [h j hj', List.getElem_take]
theorem Bs.tail {w : World} {b o c m : Nat} {l : List UInt8} (h : ∀ j (h : j < l.length), w.cell? ⟨b, o + j, none⟩ = some (.int .u8 ((l[j]'h).toNat : Int))) (hb : b < w.heap.size) (n : Nat) (hm : m = l.length - n) (hc : m ≤ c) : Bs w (.slice (some ⟨b, o + n, none⟩) m c) (l.drop n) := by
  subst hm
  refine Bs.mk b (o + n) c (by rw [List.length_drop]) (by rw [List.length_drop]; exact hc) hb fun j hj => ?_
  rw [List.length_drop] at hj
  rw [show o + n + j = o + (n + j) by omega, h (n + j) (by omega), List.getElem_drop]
theorem Bs.none' {w : World} {ad : Addr} {c : Nat} : Bs w (.slice (some ad) 0 c) [] := .inr (.inl ⟨_, c, rfl, rfl⟩)
end Go.Proofs.YtkbmbnfpadllmaaDoor
/- The walks of a reader's numbers, texts and rows of bytes. -/
namespace Go.Proofs.YtkbmbnfpadllmaaDoor
open Go.RowKit

theorem i64_xor_zero (a : Nat) (ha : a < 9223372036854775808) : bits .xor .i64 (a : Int) 0 = (a : Int) := by
  show IntKind.i64.wrap ((BitVec.ofInt 64 (a : Int) ^^^ BitVec.ofInt 64 0).toNat : Int) = _
  have h1 : BitVec.ofInt 64 0 = 0#64 := by decide
  rw [h1, BitVec.xor_zero, ofInt_u64 a (by omega)]
  simp [IntKind.wrap, IntKind.bits, IntKind.signed]
  omega
theorem i64_xor_ones (a : Nat) (ha : a < 9223372036854775808) : bits .xor .i64 (a : Int) (-1) = -1 - (a : Int) := by
  rw [← i64_not a ha]
  show IntKind.i64.wrap ((BitVec.ofInt 64 (a : Int) ^^^ BitVec.ofInt 64 (-1)).toNat : Int) = IntKind.i64.wrap ((BitVec.ofInt 64 (-1) ^^^ BitVec.ofInt 64 (a : Int)).toNat : Int)
  rw [BitVec.xor_comm]
theorem unzz_bits (u : Nat) (h : u < 18446744073709551616) : bits BinOp.xor IntKind.i64 ((u : Int) / 2) (wrap64 (-wrap64 (bits BinOp.and IntKind.u64 (u : Int) 1))) = unzz u := by
  have e1 : bits BinOp.and IntKind.u64 (u : Int) 1 = ((u % 2 : Nat) : Int) := by
    have := bits_and_u64_nat u 1 h (by omega)
    rw [Nat.and_one_is_mod] at this
    exact this
  rw [e1, show ((u : Int) / 2) = ((u / 2 : Nat) : Int) by omega]
  unfold unzz
  rcases Nat.mod_two_eq_zero_or_one u with e | e <;> rw [e]
  · rw [show wrap64 (-wrap64 ((0 : Nat) : Int)) = 0 by decide +kernel, i64_xor_zero _ (by omega), if_neg (by omega)]
  · rw [show wrap64 (-wrap64 ((1 : Nat) : Int)) = -1 by decide +kernel, i64_xor_ones _ (by omega), if_pos rfl]
    omega
theorem rdInt_range (r : Rd) : -9223372036854775808 ≤ (rdInt r).1 ∧ (rdInt r).1 < 9223372036854775808 := by
  cases r with
  | none => simp [rdInt]
  | some l =>
    cases hd : dec 0 l with
    | none => simp [rdInt, hd]
    | some p =>
      obtain ⟨u, s⟩ := p
      obtain ⟨d1, -⟩ := dec_some l 0 u s (by omega) hd
      rw [cap_vals.1] at d1
      simp only [rdInt, hd]
      exact unzz_range u d1
theorem rdCount_pos (r : Rd) (most : Int) : 0 ≤ (rdCount r most).1 := by
  unfold rdCount
  split
  · simp
  · omega
theorem convert_bytes {w : World} {x : Value} {l : List UInt8} (h : Bs w x l) : (convert 25 9 x).run Tryd.prog w = .ok (.string (mkS l)) w := by
  rcases h with ⟨rfl, rfl⟩ | ⟨ad, c, rfl, rfl⟩ | ⟨_, b, o, c, rfl, _, _, h3⟩
  · rw [run_convert_bytes_string w 25 9 5 none 0 0 Tryd.underlying25 Tryd.underlying5 Tryd.underlying9]
    rfl
  · exact run_convert_bytes_back w 25 9 5 ad c [] Tryd.underlying25 Tryd.underlying5 Tryd.underlying9 (fun j hj => by simp at hj)
  · refine run_convert_bytes_back w 25 9 5 ⟨b, o, none⟩ c l Tryd.underlying25 Tryd.underlying5 Tryd.underlying9 (fun j hj => ?_)
    rw [show (⟨b, o, none⟩ : Addr).add j = ⟨b, o + j, none⟩ by simp only [Addr.add]; split <;> simp_all]
    exact h3 j hj
theorem rdTake_len (r : Rd) (n : Nat) {b : Nat} (h : (r.getD []).length ≤ b) : (rdTake r n).1.length ≤ b := by
  cases r with
  | none => simp [rdTake]
  | some l =>
    unfold rdTake
    dsimp only at h ⊢
    split
    · simp
    · simp [List.length_take] at h ⊢; omega
end Go.Proofs.YtkbmbnfpadllmaaDoor
