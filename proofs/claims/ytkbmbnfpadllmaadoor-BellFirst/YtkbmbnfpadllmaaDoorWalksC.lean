/- The walks of what is written to: a row of bytes behind a pointer, and a writer. -/
import Derived.Test.YtkbmbnfpadllmaaDoorBase
import Derived.Laws.Bits64
import Derived.Lib.LazyBuf
namespace Go.Proofs.YtkbmbnfpadllmaaDoor
open Go.RowKit

/- The bytes l, in a row of one's own behind the pointer to block g (of type T, with the cells tl behind it). -/
def RowAt (w : World) (base g T : Nat) (tl : List Value) (q : Option Nat) (l : List UInt8) : Prop :=
  ∃ v, w.heap[g]? = some (.cells (v :: tl).toArray T (0, 0)) ∧ w.ownsRow base 5 1 v l.length (bv l) ∧ blk v = q ∧ q ≠ some g ∧ base ≤ w.heap.size
/- What a putting call leaves: only block g and the row's own block have turned; the row lies where it lay, or in a new block. -/
structure Put (g : Nat) (q : Option Nat) (w w' : World) (q' : Option Nat) : Prop where
  chg : Chg (fun k => k = g ∨ q = some k) w w'
  lies : q' = q ∨ ∃ k, q' = some k ∧ w.heap.size ≤ k
theorem Put.refl (g : Nat) (q : Option Nat) (w : World) : Put g q w w q := ⟨Chg.refl _ _, .inl rfl⟩
theorem Put.trans {g : Nat} {q q' q'' : Option Nat} {a b c : World} (h : Put g q a b q') (k : Put g q' b c q'') : Put g q a c q'' := by
  refine ⟨h.chg.trans' k.chg ?_, ?_⟩
  · rintro i hi (rfl | e)
    · exact .inl rfl
    · rcases h.lies with rfl | ⟨m, hm, hle⟩
      · exact .inr e
      · rw [hm] at e; cases e; omega
  · rcases k.lies with rfl | ⟨m, hm, hle⟩
    · exact h.lies
    · exact .inr ⟨m, hm, Nat.le_trans h.chg.size hle⟩
theorem heap_lt {w : World} {g : Nat} {o : Obj} (h : w.heap[g]? = some o) : g < w.heap.size := (Array.getElem?_eq_some_iff.1 h).1
theorem RowAt.lt {w : World} {base g T : Nat} {tl : List Value} {q : Option Nat} {l : List UInt8} (h : RowAt w base g T tl q l) : g < w.heap.size := by
  obtain ⟨v, h1, _⟩ := h; exact heap_lt h1
theorem RowAt.qlt {w : World} {base g T : Nat} {tl : List Value} {q : Option Nat} {l : List UInt8} (h : RowAt w base g T tl q l) : ∀ k, q = some k → base ≤ k ∧ k < w.heap.size := by
  obtain ⟨v, _, h2, rfl, _⟩ := h; exact fun k hk => h2.lt k hk
theorem RowAt.keep {S : Nat → Prop} {w w' : World} {base g T : Nat} {tl : List Value} {q : Option Nat} {l : List UInt8} (h : RowAt w base g T tl q l) (hc : Chg S w w') (hg : ¬ S g) (hq : ∀ k, q = some k → ¬ S k) : RowAt w' base g T tl q l := by
  have hl := h.lt
  have hql := h.qlt
  obtain ⟨v, h1, h2, h3, h4, h5⟩ := h
  refine ⟨v, by rw [hc.block g hl hg]; exact h1, ?_, h3, h4, Nat.le_trans h5 hc.size⟩
  refine ⟨h2.1, ?_⟩
  rcases h2.2 with h | ⟨b, cap, cur, hv, hb, hb2, hr⟩
  · exact .inl h
  · have hbq : q = some b := by rw [← h3, hv]; rfl
    exact .inr ⟨b, cap, cur, hv, hb, by rw [hc.block b (hql b hbq).2 (hq b hbq)]; exact hb2, hr⟩
theorem cell_at {w : World} {g T : Nat} {cs : Array Value} {fr : Nat × Nat} (h : w.heap[g]? = some (.cells cs T fr)) (i : Nat) : w.cell? ⟨g, i, none⟩ = cs[i]? := by
  simp [World.cell?, h]
theorem frozen_at {w : World} {g T : Nat} {cs : Array Value} (h : w.heap[g]? = some (.cells cs T (0, 0))) (i : Nat) : w.frozen? ⟨g, i, none⟩ = false := by
  simp [World.frozen?, h]
theorem heap_set {w : World} {g T : Nat} {cs : Array Value} {fr : Nat × Nat} (h : w.heap[g]? = some (.cells cs T fr)) (i : Nat) (v : Value) : (w.setCell ⟨g, i, none⟩ v).heap[g]? = some (.cells (cs.setIfInBounds i v) T fr) := by
  simp [World.setCell, Array.getElem?_modify, h]
/- A row whose slice is turned to v', which is its own. -/
theorem RowAt.turn {w w1 : World} {base g T : Nat} {tl : List Value} {v v' : Value} {l' : List UInt8} (h1 : w.heap[g]? = some (.cells (v :: tl).toArray T (0, 0))) (hb : base ≤ w.heap.size) (hne : blk v ≠ some g)
    (hg : w.grownBy w1 (blk v)) {n : Nat} (ho : w1.ownsRow base 5 1 v' n (bv l')) (hat : blk v' = blk v ∨ blk v' = some w.heap.size) :
    RowAt (w1.setCell ⟨g, 0, none⟩ v') base g T tl (blk v') l' ∧ Put g (blk v) w (w1.setCell ⟨g, 0, none⟩ v') (blk v') := by
  have hn : n = l'.length := by have := ho.1; rw [bv_len] at this; omega
  subst hn
  have hlt := heap_lt h1
  have h1' : w1.heap[g]? = some (.cells (v :: tl).toArray T (0, 0)) := by rw [hg.block g hlt (fun e => hne e.symm)]; exact h1
  have hne' : blk v' ≠ some g := by
    rcases hat with e | e <;> rw [e]
    · exact hne
    · simp; omega
  have hs := heap_set h1' 0 v'
  have hch : Chg (fun k => k = g) w1 (w1.setCell ⟨g, 0, none⟩ v') := Chg.setCell w1 ⟨g, 0, none⟩ v' rfl
  refine ⟨⟨v', by rw [hs]; simp, ?_, rfl, hne', Nat.le_trans hb (Nat.le_trans hg.size hch.size)⟩, ⟨?_, ?_⟩⟩
  · refine ⟨ho.1, ?_⟩
    rcases ho.2 with h | ⟨b, cap, cur, rfl, hb, hb2, hr⟩
    · exact .inl h
    · refine .inr ⟨b, cap, cur, rfl, hb, ?_, hr⟩
      rw [hch.block b (heap_lt hb2) (fun e => hne' (by subst e; rfl))]; exact hb2
  · refine ((Chg.of_grown hg).weak (fun k _ e => .inr e)).trans' hch ?_
    intro i _ e; exact .inl e
  · rcases hat with e | e
    · exact .inl e
    · exact .inr ⟨_, e, Nat.le_refl _⟩

end Go.Proofs.YtkbmbnfpadllmaaDoor
/- The walks of a number's bytes, of four bytes, and of a writer. -/
namespace Go.Proofs.YtkbmbnfpadllmaaDoor
open Go.RowKit

theorem Put.alloc (g : Nat) (q : Option Nat) (w : World) (o : Obj) : Put g q w (w.alloc o) q := ⟨Chg.alloc _ w o, .inl rfl⟩
theorem RowAt.alloc {w : World} {base g T : Nat} {tl : List Value} {q : Option Nat} {l : List UInt8} (h : RowAt w base g T tl q l) (o : Obj) : RowAt (w.alloc o) base g T tl q l :=
  h.keep (Chg.alloc Non w o) id (fun _ _ => id)
theorem Bs_new (w : World) (l : List UInt8) (cs : Array Value) (fr : Nat × Nat) (c : Nat) (hc : l.length ≤ c) (h : ∀ j (h : j < l.length), cs[j]? = some (.int .u8 ((l[j]'h).toNat : Int))) :
    Bs (w.alloc (.cells cs 5 fr)) (.slice (some ⟨w.heap.size, 0, none⟩) l.length c) l := by
  refine Bs.mk _ _ c rfl hc (by simp) fun j hj => ?_
  rw [cell_at (heap_alloc_new w _), Nat.zero_add]
  exact h j hj
theorem Bs_one (w : World) (z : Int) (x : UInt8) (hz : z = (x.toNat : Int)) : Bs (w.alloc (.cells #[.int .u8 z] 5)) (.slice (some ⟨w.heap.size, 0, none⟩) 1 1) [x] := by
  refine Bs_new w [x] _ _ 1 (by simp) (fun j hj => ?_)
  have : j = 0 := by simpa using hj
  subst this; subst hz; rfl

theorem zz_pos (n : Int) (h0 : 0 ≤ n) (h2 : n < 9223372036854775808) : bits BinOp.xor IntKind.u64 (n * 2) (n / 9223372036854775808) = (zz n : Int) := by
  obtain ⟨m, rfl⟩ := Int.eq_ofNat_of_zero_le h0
  rw [show ((m : Int) / 9223372036854775808) = ((0 : Nat) : Int) by omega, show ((m : Int) * 2) = ((m * 2 : Nat) : Int) by omega, bits_xor_u64_nat _ _ (by omega) (by omega), Nat.xor_zero]
  unfold zz
  rw [if_pos h0]
  omega
theorem xor_ones (a : Nat) (h : a < 18446744073709551616) : a ^^^ 18446744073709551615 = 18446744073709551615 - a := by
  have h1 := BitVec.toNat_not (x := BitVec.ofNat 64 a)
  have h2 := BitVec.xor_allOnes (x := BitVec.ofNat 64 a)
  have h3 := congrArg BitVec.toNat h2
  rw [BitVec.toNat_xor, h1] at h3
  simp only [BitVec.toNat_ofNat, BitVec.toNat_allOnes] at h3
  rw [Nat.mod_eq_of_lt (by omega)] at h3
  have e : (2 : Nat) ^ 64 - 1 = 18446744073709551615 := rfl
  rw [e] at h3
  rw [h3]
theorem zz_neg (n : Int) (h0 : n < 0) (h1 : -9223372036854775808 ≤ n) : bits BinOp.xor IntKind.u64 (IntKind.u64.wrap (IntKind.u64.wrap n * 2)) (IntKind.u64.wrap (n / 9223372036854775808)) = (zz n : Int) := by
  simp only [IntKind.wrap_u64]
  rw [show (n / 9223372036854775808) % 18446744073709551616 = ((18446744073709551615 : Nat) : Int) by omega,
    show (n % 18446744073709551616 * 2) % 18446744073709551616 = (((2 * n + 18446744073709551616).toNat : Nat) : Int) by omega, bits_xor_u64_nat _ _ (by omega) (by omega), xor_ones _ (by omega)]
  unfold zz
  rw [if_neg (by omega)]
  omega

theorem Bs_four (w : World) (n : Nat) (a b c d : Int) (ha : a = ((n % 256 : Nat) : Int)) (hb : b = ((n / 256 % 256 : Nat) : Int)) (hc : c = ((n / 65536 % 256 : Nat) : Int)) (hd : d = ((n / 16777216 % 256 : Nat) : Int)) :
    Bs (w.alloc (.cells #[.int .u8 a, .int .u8 b, .int .u8 c, .int .u8 d] 5)) (.slice (some ⟨w.heap.size, 0, none⟩) 4 4) (four n) := by
  subst ha; subst hb; subst hc; subst hd
  refine Bs_new w (four n) _ _ 4 (by simp [four]) (fun j hj => ?_)
  have h4 : j < 4 := hj
  have hh : j = 0 ∨ j = 1 ∨ j = 2 ∨ j = 3 := by omega
  rcases hh with rfl | rfl | rfl | rfl <;> simp [four, UInt8.toNat_ofNat'] <;> omega
theorem bs_form {w : World} {x : Value} {l : List UInt8} (h : Bs w x l) : ∃ A C, x = .slice A l.length C := by
  rcases h with ⟨rfl, rfl⟩ | ⟨ad, c, rfl, rfl⟩ | ⟨_, b, o, c, rfl, _⟩
  · exact ⟨none, 0, rfl⟩
  · exact ⟨_, _, rfl⟩
  · exact ⟨_, _, rfl⟩
end Go.Proofs.YtkbmbnfpadllmaaDoor
/- The walks of a writer's texts, of what a writer tells, and of the copy of a row of bytes. -/
namespace Go.Proofs.YtkbmbnfpadllmaaDoor
open Go.RowKit

theorem mkS_size (l : List UInt8) : (mkS l).size = l.length := by simp [mkS, ByteArray.size]
theorem Bs_row (w : World) (l : List UInt8) (c : Nat) (fr : Nat × Nat) (hc : l.length ≤ c) : Bs (w.drew.alloc (.cells (bytesRow (mkS l) c) 5 fr)) (.slice (some ⟨w.heap.size, 0, none⟩) l.length c) l := by
  refine Bs_new w.drew l _ fr c hc (fun j hj => ?_)
  unfold bytesRow mkS
  rw [Array.getElem?_append_left (by simpa using hj)]
  simp [hj]
/- A row of bytes of one's own, new since w. -/
structure New (w w' : World) (v : Value) (l : List UInt8) : Prop where
  owns : w'.ownsRow w.heap.size 5 1 v l.length (bv l)
  below : Below w.heap.size w w'
theorem New.bs {w w' : World} {v : Value} {l : List UInt8} (h : New w w' v l) : Bs w' v l := Bs.of_owns h.owns
theorem New.own {w w' : World} {v : Value} {l : List UInt8} (h : New w w' v l) : ∀ k, blk v = some k → w.heap.size ≤ k ∧ k < w'.heap.size := fun k hk => h.owns.lt k hk
theorem New.at {w w' : World} {v : Value} {l : List UInt8} (h : New w w' v l) : ∀ k, bk v = some k → w.heap.size ≤ k ∧ k < w'.heap.size := fun k hk => h.owns.lt k (bk_blk hk)
theorem owns_empty (w : World) : (w.alloc (.cells #[] 5)).ownsRow w.heap.size 5 1 (.slice (some ⟨w.heap.size, 0, none⟩) 0 0) 0 (bv []) :=
  ⟨rfl, .inr ⟨w.heap.size, 0, #[], rfl, Nat.le_refl _, heap_alloc_new w _, Nat.le_refl _, by decide, rfl, rfl⟩⟩
end Go.Proofs.YtkbmbnfpadllmaaDoor
