/- The walk of WireKeeps. -/
import Derived.Test.YtegcchakfabpiaaGreatOverB
import Derived.Test.YtegcchakfabpiaaGreatApartB
import Derived.Test.YtegcchakfabpiaaGreatRefW
import Derived.Test.YtegcchakfabpiaaGreatRefS
import Derived.Test.YtegcchakfabpiaaGreatRefU
namespace Go.Proofs.YtegcchakfabpiaaGreat
open Go.RowKit

theorem numB_len (n : Int) (h1 : -9223372036854775808 ≤ n) (h2 : n < 9223372036854775808) : (numB n).length ≤ 10 := by
  have := dec_num n h1 h2 []
  rw [List.append_nil] at this
  have := dec_some _ 0 _ _ (by omega) this
  omega
theorem textB_len (l : List UInt8) (h : l.length ≤ 4000) : (textB l).length ≤ 4010 := by
  unfold textB
  rw [List.length_append]
  have := numB_len (l.length : Int) (by omega) (by omega)
  omega
theorem rdText_len (r : Rd) (most : Int) (hm : 0 ≤ most) : ((rdText r most).1.length : Int) ≤ most := by
  rcases rdText_cases r most with ⟨_, h⟩ | ⟨h1, h2, _⟩
  · rw [h]; simpa using hm
  · rw [h2, List.length_take]; omega
theorem rdInt_rest (l : List UInt8) : ((rdInt (some l)).2.getD []).length ≤ l.length := by
  cases h : dec 0 l with
  | none => simp [rdInt, h]
  | some p => simp [rdInt, h]
theorem rdText_small (l : List UInt8) (most : Int) : (rdText (some l) most).1.length ≤ l.length := by
  rcases rdText_cases (some l) most with ⟨_, h⟩ | ⟨h1, h2, _⟩
  · rw [h]; simp
  · rw [h2, List.length_take]; have := rdInt_rest l; omega
def pay (l : List UInt8) : List UInt8 := (unframe l).getD []
theorem pay_len (l : List UInt8) (h : l.length ≤ 4000) : (pay l).length ≤ 4000 := by
  unfold pay
  cases hu : unframe l with
  | none => simp
  | some x => have := (unframe_some hu).2.1; simp; omega
/- A row of one's own between two marks of the memory. -/
structure Row (W : World) (v : Value) (l : List UInt8) (lo hi : Nat) : Prop where
  own : W.ownsRow 0 5 1 v l.length (bv l)
  rng : ∀ k, blk v = some k → lo ≤ k ∧ k < hi
theorem own_keep {S : Nat → Prop} {w w' : World} {base e size n : Nat} {v : Value} {xs : List Value} (h : w.ownsRow base e size v n xs) (hc : Chg S w w') (hn : ∀ k, v.ownBlock = some k → ¬ S k) : w'.ownsRow base e size v n xs := by
  refine ⟨h.1, ?_⟩
  rcases h.2 with h2 | ⟨b, cap, cur, rfl, hb, hb2, hr⟩
  · exact .inl h2
  · exact .inr ⟨b, cap, cur, rfl, hb, by rw [hc.block b (heap_lt hb2) (hn b rfl)]; exact hb2, hr⟩
theorem Row.keep {S : Nat → Prop} {W W' : World} {v : Value} {l : List UInt8} {lo hi : Nat} (h : Row W v l lo hi) (hc : Chg S W W') (hS : ∀ k, S k → ¬ (lo ≤ k ∧ k < hi)) : Row W' v l lo hi :=
  ⟨own_keep h.own hc (fun k hk e => hS k e (h.rng k hk)), h.rng⟩
theorem Row.bs {W : World} {v : Value} {l : List UInt8} {lo hi : Nat} (h : Row W v l lo hi) : Bs W v l := Bs.of_owns h.own
theorem Row.of_new {w1 w w' : World} {v : Value} {l : List UInt8} (h : New w1 w' v l) (hs : w.heap.size ≤ w1.heap.size) : Row w' v l w.heap.size w'.heap.size :=
  ⟨AB.owns_weak h.owns, fun k hk => ⟨Nat.le_trans hs (h.own k hk).1, (h.own k hk).2⟩⟩
theorem Row.nil (W : World) (lo hi : Nat) : Row W (.slice none 0 0) [] lo hi := ⟨World.ownsRow_nil _ _ _ _, fun k hk => by cases hk⟩
structure RR where
  v : Value
  l : List UInt8
  lo : Nat
  hi : Nat
/- What holds of all rows that were handed out. -/
structure Inv (w : World) (rs : List RR) (W : World) : Prop where
  bel : Below w.heap.size w W
  rows : ∀ r ∈ rs, Row W r.v r.l r.lo r.hi
theorem Inv.chg {S : Nat → Prop} {w : World} {rs : List RR} {W W' : World} (h : Inv w rs W) (hc : Chg S W W') (h1 : ∀ k, S k → w.heap.size ≤ k) (h2 : ∀ k, S k → ∀ r ∈ rs, ¬ (r.lo ≤ k ∧ k < r.hi)) : Inv w rs W' :=
  ⟨h.bel.trans (hc.below h1 h.bel.size), fun r hr => (h.rows r hr).keep hc (fun k hk => h2 k hk r hr)⟩
theorem Inv.below {w : World} {rs : List RR} {W W' : World} (h : Inv w rs W) (hb : Below W.heap.size W W') : Inv w rs W' := h.chg (Chg.of_below hb) (fun _ e => e.elim) (fun _ e => e.elim)
theorem Inv.add {w : World} {rs : List RR} {W : World} (h : Inv w rs W) {v : Value} {l : List UInt8} {lo hi : Nat} (hr : Row W v l lo hi) : Inv w (⟨v, l, lo, hi⟩ :: rs) W :=
  ⟨h.bel, fun r hm => by
    rcases List.mem_cons.1 hm with rfl | hm
    · exact hr
    · exact h.rows r hm⟩
theorem Inv.row {w : World} {rs : List RR} {W : World} (h : Inv w rs W) {v : Value} {l : List UInt8} {lo hi : Nat} (hm : (⟨v, l, lo, hi⟩ : RR) ∈ rs) : Row W v l lo hi := h.rows _ hm
theorem below_two {a b c : World} (h : Below a.heap.size a b) (g : Below b.heap.size b c) : Below a.heap.size a c := h.trans (g.mono h.size)
theorem below_dN (w : World) (n : Nat) : Below w.heap.size w (w.drewN n) := (Chg.drewN Non w n).below (fun _ h => h.elim) (Nat.le_refl _)
theorem Bs.below' {w w' : World} {v : Value} {l : List UInt8} (h : Bs w v l) (hb : Below w.heap.size w w') : Bs w' v l := h.below hb (fun _ hk => h.lt hk)
theorem unf_row {w w' : World} {e : Ending} {l : List UInt8} (h : Unf w w' e (unframe l)) : ∃ A C a b, e = .returned (.tuple #[.slice A (pay l).length C, .int .i64 a, .int .i64 b]) ∧ Row w' (.slice A (pay l).length C) (pay l) w.heap.size w'.heap.size ∧ Below w.heap.size w w' := by
  unfold pay
  cases hu : unframe l with
  | none =>
    rw [hu] at h
    obtain ⟨rfl, hb⟩ := h
    exact ⟨none, 0, _, _, rfl, Row.nil _ _ _, hb⟩
  | some x =>
    rw [hu] at h
    obtain ⟨v, w1, rfl, hn, hb, hs⟩ := h
    obtain ⟨A, C, rfl⟩ := bs_form hn.bs
    exact ⟨A, C, _, _, rfl, Row.of_new hn hs, hb⟩
theorem bv_ints (l : List UInt8) : bv l = AB.ints (l.map fun x => (x.toNat : Int)) := by simp [bv, AB.ints]

def pick7 {α : Type} (a0 a1 a2 a3 a4 a5 a6 : α) (j : Nat) : α := match j with | 0 => a0 | 1 => a1 | 2 => a2 | 3 => a3 | 4 => a4 | 5 => a5 | _ => a6
theorem eqs7 {j : Nat} (h : j < 7) : j = 0 ∨ j = 1 ∨ j = 2 ∨ j = 3 ∨ j = 4 ∨ j = 5 ∨ j = 6 := by omega
set_option maxRecDepth 100000 in
set_option maxHeartbeats 2000000 in
theorem apart_seven {w0 w : World} {A0 : Option Addr} {C0 : Nat} {l0 : List UInt8} {o0 i0 : Nat} {A1 : Option Addr} {C1 : Nat} {l1 : List UInt8} {o1 i1 : Nat} {A2 : Option Addr} {C2 : Nat} {l2 : List UInt8} {o2 i2 : Nat} {A3 : Option Addr} {C3 : Nat} {l3 : List UInt8} {o3 i3 : Nat} {A4 : Option Addr} {C4 : Nat} {l4 : List UInt8} {o4 i4 : Nat} {A5 : Option Addr} {C5 : Nat} {l5 : List UInt8} {o5 i5 : Nat} {A6 : Option Addr} {C6 : Nat} {l6 : List UInt8} {o6 i6 : Nat} (hb0 : Below w0.heap.size w0 w) (r0 : Row w (.slice A0 l0.length C0) l0 o0 i0) (r1 : Row w (.slice A1 l1.length C1) l1 o1 i1) (r2 : Row w (.slice A2 l2.length C2) l2 o2 i2) (r3 : Row w (.slice A3 l3.length C3) l3 o3 i3) (r4 : Row w (.slice A4 l4.length C4) l4 o4 i4) (r5 : Row w (.slice A5 l5.length C5) l5 o5 i5) (r6 : Row w (.slice A6 l6.length C6) l6 o6 i6) (e0 : o0 ≤ i0) (e1 : o1 ≤ i1) (e3 : o3 ≤ i3) (e4 : o4 ≤ i4) (e5 : o5 ≤ i5) (d0 : i2 ≤ o3) (d1 : i3 ≤ o4) (d2 : i4 ≤ o5) (d3 : i5 ≤ o0) (d4 : i0 ≤ o1) (d5 : i1 ≤ o6) (n0 : l0.length ≤ 1000000) (n1 : l1.length ≤ 1000000) (n2 : l2.length ≤ 1000000) (n3 : l3.length ≤ 1000000) (n4 : l4.length ≤ 1000000) (n5 : l5.length ≤ 1000000) (n6 : l6.length ≤ 1000000) (b0 : w0.heap.size ≤ o0) (b1 : w0.heap.size ≤ o1) (b2 : w0.heap.size ≤ o2) (b3 : w0.heap.size ≤ o3) (b4 : w0.heap.size ≤ o4) (b5 : w0.heap.size ≤ o5) (b6 : w0.heap.size ≤ o6) :
    Calls Tryz.prog 25 #[.slice (some ⟨w.heap.size, 0, none⟩) 7 7] (w.alloc (.cells #[.slice A0 l0.length C0, .slice A1 l1.length C1, .slice A2 l2.length C2, .slice A3 l3.length C3, .slice A4 l4.length C4, .slice A5 l5.length C5, .slice A6 l6.length C6] 22)) fun e w' => e = .returned (.bool true) ∧ Below w0.heap.size w0 w' := by
  have hal : Below w.heap.size w (w.alloc (.cells #[.slice A0 l0.length C0, .slice A1 l1.length C1, .slice A2 l2.length C2, .slice A3 l3.length C3, .slice A4 l4.length C4, .slice A5 l5.length C5, .slice A6 l6.length C6] 22)) := (Below.refl _ _).alloc (Nat.le_refl _) _
  have hn := heap_alloc_new w (.cells #[.slice A0 l0.length C0, .slice A1 l1.length C1, .slice A2 l2.length C2, .slice A3 l3.length C3, .slice A4 l4.length C4, .slice A5 l5.length C5, .slice A6 l6.length C6] 22 (0, 0))
  have hrow : ∀ j, j < 7 → ∃ l, AB.R (w.alloc (.cells #[.slice A0 l0.length C0, .slice A1 l1.length C1, .slice A2 l2.length C2, .slice A3 l3.length C3, .slice A4 l4.length C4, .slice A5 l5.length C5, .slice A6 l6.length C6] 22)) ((pick7 A0 A1 A2 A3 A4 A5 A6) j) ((pick7 (l0.length) (l1.length) (l2.length) (l3.length) (l4.length) (l5.length) (l6.length)) j) ((pick7 C0 C1 C2 C3 C4 C5 C6) j) l := by
    intro j hj
    rcases eqs7 hj with rfl | rfl | rfl | rfl | rfl | rfl | rfl
    · exact ⟨l0.map fun x => (x.toNat : Int), by unfold AB.R; rw [← bv_ints]; exact own_keep r0.own (Chg.of_below hal) (fun _ _ => id)⟩
    · exact ⟨l1.map fun x => (x.toNat : Int), by unfold AB.R; rw [← bv_ints]; exact own_keep r1.own (Chg.of_below hal) (fun _ _ => id)⟩
    · exact ⟨l2.map fun x => (x.toNat : Int), by unfold AB.R; rw [← bv_ints]; exact own_keep r2.own (Chg.of_below hal) (fun _ _ => id)⟩
    · exact ⟨l3.map fun x => (x.toNat : Int), by unfold AB.R; rw [← bv_ints]; exact own_keep r3.own (Chg.of_below hal) (fun _ _ => id)⟩
    · exact ⟨l4.map fun x => (x.toNat : Int), by unfold AB.R; rw [← bv_ints]; exact own_keep r4.own (Chg.of_below hal) (fun _ _ => id)⟩
    · exact ⟨l5.map fun x => (x.toNat : Int), by unfold AB.R; rw [← bv_ints]; exact own_keep r5.own (Chg.of_below hal) (fun _ _ => id)⟩
    · exact ⟨l6.map fun x => (x.toNat : Int), by unfold AB.R; rw [← bv_ints]; exact own_keep r6.own (Chg.of_below hal) (fun _ _ => id)⟩
  have hrng : ∀ j g, j < 7 → (pick7 A0 A1 A2 A3 A4 A5 A6) j = some ⟨g, 0, none⟩ → (pick7 o0 o1 o2 o3 o4 o5 o6) j ≤ g ∧ g < (pick7 i0 i1 i2 i3 i4 i5 i6) j := by
    intro j g hj he
    rcases eqs7 hj with rfl | rfl | rfl | rfl | rfl | rfl | rfl
    · exact r0.rng g (by rw [show A0 = _ from he]; rfl)
    · exact r1.rng g (by rw [show A1 = _ from he]; rfl)
    · exact r2.rng g (by rw [show A2 = _ from he]; rfl)
    · exact r3.rng g (by rw [show A3 = _ from he]; rfl)
    · exact r4.rng g (by rw [show A4 = _ from he]; rfl)
    · exact r5.rng g (by rw [show A5 = _ from he]; rfl)
    · exact r6.rng g (by rw [show A6 = _ from he]; rfl)
  have hdis : ∀ j k, j < 7 → k < 7 → j ≠ k → (pick7 i0 i1 i2 i3 i4 i5 i6) j ≤ (pick7 o0 o1 o2 o3 o4 o5 o6) k ∨ (pick7 i0 i1 i2 i3 i4 i5 i6) k ≤ (pick7 o0 o1 o2 o3 o4 o5 o6) j := by
    intro j k hj hk hjk
    rcases eqs7 hj with rfl | rfl | rfl | rfl | rfl | rfl | rfl <;> rcases eqs7 hk with rfl | rfl | rfl | rfl | rfl | rfl | rfl <;> (simp only [pick7]; omega)
  have hlen : ∀ k, k < 7 → (pick7 (l0.length) (l1.length) (l2.length) (l3.length) (l4.length) (l5.length) (l6.length)) k ≤ 1000000 := by
    intro j hj
    rcases eqs7 hj with rfl | rfl | rfl | rfl | rfl | rfl | rfl <;> assumption
  have hlo : ∀ k, k < 7 → w0.heap.size ≤ (pick7 o0 o1 o2 o3 o4 o5 o6) k := by
    intro j hj
    rcases eqs7 hj with rfl | rfl | rfl | rfl | rfl | rfl | rfl <;> assumption
  have h := AB.apartBytes_any w.heap.size 7 7 (pick7 A0 A1 A2 A3 A4 A5 A6) (pick7 (l0.length) (l1.length) (l2.length) (l3.length) (l4.length) (l5.length) (l6.length)) (pick7 C0 C1 C2 C3 C4 C5 C6) (w.alloc (.cells #[.slice A0 l0.length C0, .slice A1 l1.length C1, .slice A2 l2.length C2, .slice A3 l3.length C3, .slice A4 l4.length C4, .slice A5 l5.length C5, .slice A6 l6.length C6] 22)) (by omega) (by omega) hlen ?_ ?_ (by simp) hrow
  · refine h.mono ?_
    rintro e w' ⟨rfl, hc⟩
    refine ⟨rfl, ?_⟩
    have hw := below_two hb0 hal
    refine hw.trans ⟨hc.os, hc.tape, hc.output, hc.size, ?_⟩
    intro k hk
    refine hc.block k (Nat.lt_of_lt_of_le hk hw.size) ?_
    intro j hj e
    have := (hrng j k hj e).1
    have := hlo j hj
    omega
  · intro j k g hj hk hjk h1 h2
    have a1 := hrng j g hj h1
    have a2 := hrng k g hk h2
    rcases hdis j k hj hk hjk with h | h <;> omega
  · intro k hk
    rcases eqs7 hk with rfl | rfl | rfl | rfl | rfl | rfl | rfl <;> (rw [cell_at hn]; rfl)
end Go.Proofs.YtegcchakfabpiaaGreat
