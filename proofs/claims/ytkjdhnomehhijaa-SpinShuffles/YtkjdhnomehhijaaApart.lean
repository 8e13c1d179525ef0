/- The contract of apart, and of ApartInts: lists that lie apart are told to be so. -/
import Derived.Test.YtkjdhnomehhijaaBag
import Derived.Test.YtkjdhnomehhijaaFlatWalk
namespace Go.Proofs.Ytkjdhnomehhijaa
open Go.RowKit

theorem Lay.up {H H' G m : Nat} {a : Nat → Option Addr} {n c : Nat → Nat} (h : Lay H G m a n c) (hH : H ≤ H') : Lay H' G m a n c :=
  ⟨h.hm, h.hn, Nat.lt_of_lt_of_le h.hG hH, fun k g hk ha => ⟨Nat.lt_of_lt_of_le (h.lt k g hk ha).1 hH, (h.lt k g hk ha).2⟩, h.ne⟩
theorem row_ne_bag {w : World} {A : Option Addr} {N C b : Nat} {l : List Int} {V : Value} (h : R w A N C l) (hb : BagAt w b V) : A ≠ some ⟨b, 0, none⟩ := by
  intro e
  subst e
  rcases h.2 with ⟨h0, _⟩ | ⟨g, cap, cur, hv, _, hg, _⟩
  · cases h0
  · cases hv
    unfold BagAt at hb
    rw [hb] at hg
    simp at hg
theorem Chg.trans' {m : Nat} {a : Nat → Option Addr} {w w1 w2 : World} (h : w.grownBy w1 Option.none) (k : Chg m a w1 w2) : Chg m a w w2 :=
  ⟨k.os.trans h.os, k.tape.trans h.tape, k.output.trans h.output, Nat.le_trans h.size k.size, fun b hb hj => (k.block b (Nat.lt_of_lt_of_le hb h.size) hj).trans (h.block b hb (by simp))⟩

set_option maxRecDepth 100000 in
set_option maxHeartbeats 4000000 in
theorem apart_any (G m cV b : Nat) (a : Nat → Option Addr) (n c : Nat → Nat) (w : World) (L : Lay w.heap.size G m a n c) (hb : BagAt w b (.slice (some ⟨G, 0, none⟩) m cV)) (ho : Outer G m a n c w) (hr : ∀ j, j < m → ∃ l, R w (a j) (n j) (c j) l) :
    Calls Try.prog 36 #[.pointer (some ⟨b, 0, none⟩)] w fun e w' => e = .returned (.bool true) ∧ Chg m a w w' := by
  have hx := hb.other
  have HB0 : Hid (BagAt w b (.slice (some ⟨G, 0, none⟩) m cV)) := hb
  have HL : Hid (Lay w.heap.size G m a n c) := L
  have HO : Hid (Outer G m a n c w) := ho
  have HR : Hid (∀ j, j < m → ∃ l, R w (a j) (n j) (c j) l) := hr
  clear hb L ho hr
  go_enter Try.func36, Try.ntmps36
  go_wp2_with fail
  refine (flat38 _).mono ?_
  rintro e W1 ⟨rfl, g1⟩
  have hB1 := HB0.out.keep g1 (by simp)
  have hr1 : ∀ j, j < m → ∃ l, R W1 (a j) (n j) (c j) l := fun j hj => by
    obtain ⟨l, hl⟩ := HR.out j hj
    exact ⟨l, hl.kept g1 (by simp)⟩
  have H1 : Hid (BagAt W1 b (.slice (some ⟨G, 0, none⟩) m cV) ∧ Lay W1.heap.size G m a n c ∧ Outer G m a n c W1 ∧ (∀ j, j < m → ∃ l, R W1 (a j) (n j) (c j) l) ∧ w.grownBy W1 none) :=
    ⟨hB1, HL.out.up g1.size, HO.out.keep g1 (by simp), hr1, g1⟩
  clear hx g1 hr1 hB1 HB0 HL HO HR
  have f1 := H1.out.1.field
  go_wp2_with fail
  refine (flatInts_any W1.heap.size G m cV a n c W1 H1.out.2.1 rfl H1.out.2.2.1 H1.out.2.2.2.1).mono ?_
  rintro e W2 ⟨rfl, c2⟩
  have hB2 : BagAt W2 b (.slice (some ⟨G, 0, none⟩) m cV) := by
    have hb := H1.out.1
    have hlt := hb.lt
    have e := c2.block b hlt (fun k hk => by
      obtain ⟨l, hl⟩ := H1.out.2.2.2.1 k hk
      exact row_ne_bag hl hb)
    unfold BagAt at *
    rw [e]; exact hb
  have HB : Hid (BagAt W2 b (.slice (some ⟨G, 0, none⟩) m cV) ∧ Chg m a w W2) := ⟨hB2, Chg.trans' H1.out.2.2.2.2 c2⟩
  clear c2 hB2 H1 f1
  have hx := HB.out.1.other
  go_wp2_with (first | (go_at_call 40; refine (flat40 _).mono ?_; rintro e W ⟨rfl, hg⟩; have HZ : Hid (BagAt W b (.slice (some ⟨G, 0, none⟩) m cV) ∧ Chg m a w W) := ⟨HB.out.1.keep hg (by simp), HB.out.2.none hg⟩; clear hx HB hg; have HB := HZ; clear HZ; have hx := HB.out.1.other) | (go_at_call 41; refine (flat41 _).mono ?_; rintro e W ⟨rfl, hg⟩; have HZ : Hid (BagAt W b (.slice (some ⟨G, 0, none⟩) m cV) ∧ Chg m a w W) := ⟨HB.out.1.keep hg (by simp), HB.out.2.none hg⟩; clear hx HB hg; have HB := HZ; clear HZ; have hx := HB.out.1.other) | (go_at_call 42; refine (flat42 _).mono ?_; rintro e W ⟨rfl, hg⟩; have HZ : Hid (BagAt W b (.slice (some ⟨G, 0, none⟩) m cV) ∧ Chg m a w W) := ⟨HB.out.1.keep hg (by simp), HB.out.2.none hg⟩; clear hx HB hg; have HB := HZ; clear HZ; have hx := HB.out.1.other) | (go_at_call 43; refine (flat43 _).mono ?_; rintro e W ⟨rfl, hg⟩; have HZ : Hid (BagAt W b (.slice (some ⟨G, 0, none⟩) m cV) ∧ Chg m a w W) := ⟨HB.out.1.keep hg (by simp), HB.out.2.none hg⟩; clear hx HB hg; have HB := HZ; clear HZ; have hx := HB.out.1.other) | (go_at_call 44; refine (flat44 _).mono ?_; rintro e W ⟨rfl, hg⟩; have HZ : Hid (BagAt W b (.slice (some ⟨G, 0, none⟩) m cV) ∧ Chg m a w W) := ⟨HB.out.1.keep hg (by simp), HB.out.2.none hg⟩; clear hx HB hg; have HB := HZ; clear HZ; have hx := HB.out.1.other) | (go_at_call 45; refine (flat45 _).mono ?_; rintro e W ⟨rfl, hg⟩; have HZ : Hid (BagAt W b (.slice (some ⟨G, 0, none⟩) m cV) ∧ Chg m a w W) := ⟨HB.out.1.keep hg (by simp), HB.out.2.none hg⟩; clear hx HB hg; have HB := HZ; clear HZ; have hx := HB.out.1.other) | (go_at_call 46; refine (flat46 _).mono ?_; rintro e W ⟨rfl, hg⟩; have HZ : Hid (BagAt W b (.slice (some ⟨G, 0, none⟩) m cV) ∧ Chg m a w W) := ⟨HB.out.1.keep hg (by simp), HB.out.2.none hg⟩; clear hx HB hg; have HB := HZ; clear HZ; have hx := HB.out.1.other) | (go_at_call 47; refine (flat47 _).mono ?_; rintro e W ⟨rfl, hg⟩; have HZ : Hid (BagAt W b (.slice (some ⟨G, 0, none⟩) m cV) ∧ Chg m a w W) := ⟨HB.out.1.keep hg (by simp), HB.out.2.none hg⟩; clear hx HB hg; have HB := HZ; clear HZ; have hx := HB.out.1.other) | (go_at_call 48; refine (flat48 _).mono ?_; rintro e W ⟨rfl, hg⟩; have HZ : Hid (BagAt W b (.slice (some ⟨G, 0, none⟩) m cV) ∧ Chg m a w W) := ⟨HB.out.1.keep hg (by simp), HB.out.2.none hg⟩; clear hx HB hg; have HB := HZ; clear HZ; have hx := HB.out.1.other) | (go_at_call 49; refine (flat49 _).mono ?_; rintro e W ⟨rfl, hg⟩; have HZ : Hid (BagAt W b (.slice (some ⟨G, 0, none⟩) m cV) ∧ Chg m a w W) := ⟨HB.out.1.keep hg (by simp), HB.out.2.none hg⟩; clear hx HB hg; have HB := HZ; clear HZ; have hx := HB.out.1.other) | (go_at_call 50; refine (flat50 _).mono ?_; rintro e W ⟨rfl, hg⟩; have HZ : Hid (BagAt W b (.slice (some ⟨G, 0, none⟩) m cV) ∧ Chg m a w W) := ⟨HB.out.1.keep hg (by simp), HB.out.2.none hg⟩; clear hx HB hg; have HB := HZ; clear HZ; have hx := HB.out.1.other) | (go_at_call 51; refine (flat51 _).mono ?_; rintro e W ⟨rfl, hg⟩; have HZ : Hid (BagAt W b (.slice (some ⟨G, 0, none⟩) m cV) ∧ Chg m a w W) := ⟨HB.out.1.keep hg (by simp), HB.out.2.none hg⟩; clear hx HB hg; have HB := HZ; clear HZ; have hx := HB.out.1.other) | (go_at_call 52; refine (flat52 _).mono ?_; rintro e W ⟨rfl, hg⟩; have HZ : Hid (BagAt W b (.slice (some ⟨G, 0, none⟩) m cV) ∧ Chg m a w W) := ⟨HB.out.1.keep hg (by simp), HB.out.2.none hg⟩; clear hx HB hg; have HB := HZ; clear HZ; have hx := HB.out.1.other) | (go_at_call 53; refine (flat53 _).mono ?_; rintro e W ⟨rfl, hg⟩; have HZ : Hid (BagAt W b (.slice (some ⟨G, 0, none⟩) m cV) ∧ Chg m a w W) := ⟨HB.out.1.keep hg (by simp), HB.out.2.none hg⟩; clear hx HB hg; have HB := HZ; clear HZ; have hx := HB.out.1.other) | (go_at_call 54; refine (flat54 _).mono ?_; rintro e W ⟨rfl, hg⟩; have HZ : Hid (BagAt W b (.slice (some ⟨G, 0, none⟩) m cV) ∧ Chg m a w W) := ⟨HB.out.1.keep hg (by simp), HB.out.2.none hg⟩; clear hx HB hg; have HB := HZ; clear HZ; have hx := HB.out.1.other) | (go_at_call 55; refine (flat55 _).mono ?_; rintro e W ⟨rfl, hg⟩; have HZ : Hid (BagAt W b (.slice (some ⟨G, 0, none⟩) m cV) ∧ Chg m a w W) := ⟨HB.out.1.keep hg (by simp), HB.out.2.none hg⟩; clear hx HB hg; have HB := HZ; clear HZ; have hx := HB.out.1.other) | (go_at_call 56; refine (flat56 _).mono ?_; rintro e W ⟨rfl, hg⟩; have HZ : Hid (BagAt W b (.slice (some ⟨G, 0, none⟩) m cV) ∧ Chg m a w W) := ⟨HB.out.1.keep hg (by simp), HB.out.2.none hg⟩; clear hx HB hg; have HB := HZ; clear HZ; have hx := HB.out.1.other) | (go_at_call 57; refine (flat57 _).mono ?_; rintro e W ⟨rfl, hg⟩; have HZ : Hid (BagAt W b (.slice (some ⟨G, 0, none⟩) m cV) ∧ Chg m a w W) := ⟨HB.out.1.keep hg (by simp), HB.out.2.none hg⟩; clear hx HB hg; have HB := HZ; clear HZ; have hx := HB.out.1.other))
  go_ret
  exact ⟨rfl, HB.out.2⟩
end Go.Proofs.Ytkjdhnomehhijaa
