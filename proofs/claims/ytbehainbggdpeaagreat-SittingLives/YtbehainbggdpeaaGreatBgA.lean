/- The contract of apart: lists that lie apart are told to be so. -/
import Derived.Test.YtbehainbggdpeaaGreatBgG
import Derived.Test.YtbehainbggdpeaaGreatBgW
namespace Go.Proofs.YtbehainbggdpeaaGreat
namespace AN
open Go.RowKit


theorem Lay.up {H H' G m : Nat} {a : Nat → Option Addr} {n c : Nat → Nat} (h : Lay H G m a n c) (hH : H ≤ H') : Lay H' G m a n c :=
  ⟨h.hm, h.hn, Nat.lt_of_lt_of_le h.hG hH, fun k g hk ha => ⟨Nat.lt_of_lt_of_le (h.lt k g hk ha).1 hH, (h.lt k g hk ha).2⟩, h.ne⟩
theorem row_ne_bag {w : World} {A : Option Addr} {N C b : Nat} {l : List Int} {V : Value} (h : R w A N C l) (hb : BagAt w b V) : A ≠ some ⟨b, 0, none⟩ := by
  intro e
  subst e
  rcases h.2 with ⟨h0, _⟩ | ⟨g, cap, cur, hv, _, hg, _⟩
  · cases h0
  · cases hv
    unfold BagAt at hb
    rw [hb] at hg
    simp at hg
theorem grownBy_tr {a b c : World} (h : a.grownBy b none) (k : b.grownBy c none) : a.grownBy c none :=
  ⟨k.os.trans h.os, k.tape.trans h.tape, k.output.trans h.output, Nat.le_trans h.size k.size, fun x hx hr => (k.block x (Nat.lt_of_lt_of_le hx h.size) hr).trans (h.block x hx hr)⟩
theorem Chg.trans' {m : Nat} {a : Nat → Option Addr} {w w1 w2 : World} (h : w.grownBy w1 Option.none) (k : Chg m a w1 w2) : Chg m a w w2 :=
  ⟨k.os.trans h.os, k.tape.trans h.tape, k.output.trans h.output, Nat.le_trans h.size k.size, fun b hb hj => (k.block b (Nat.lt_of_lt_of_le hb h.size) hj).trans (h.block b hb (by simp))⟩

set_option maxRecDepth 100000 in
set_option maxHeartbeats 4000000 in
theorem apart_any (G m cV b : Nat) (a : Nat → Option Addr) (n c : Nat → Nat) (w : World) (L : Lay w.heap.size G m a n c) (hb : BagAt w b (.slice (some ⟨G, 0, none⟩) m cV)) (ho : Outer G m a n c w) (hr : ∀ j, j < m → ∃ l, R w (a j) (n j) (c j) l) :
    Calls Tryz.prog 25 #[.pointer (some ⟨b, 0, none⟩)] w fun e w' => e = .returned (.bool true) ∧ Chg m a w w' ∧ ∀ j, j < m → ∃ l, R w' (a j) (n j) (c j) l := by
  have hx := hb.other
  have HB0 : Hid (BagAt w b (.slice (some ⟨G, 0, none⟩) m cV) ∧ w.grownBy w none) := ⟨hb, ⟨rfl, rfl, rfl, Nat.le_refl _, fun _ _ _ => rfl⟩⟩
  have HL : Hid (Lay w.heap.size G m a n c) := L
  have HO : Hid (Outer G m a n c w) := ho
  have HR : Hid (∀ j, j < m → ∃ l, R w (a j) (n j) (c j) l) := hr
  clear hb L ho hr
  go_enter Tryz.func25, Tryz.ntmps25
  go_wp2_with fail
  refine (flatWords _).mono ?_
  rintro e V1 ⟨rfl, g1⟩
  have HB1 : Hid (BagAt V1 b (.slice (some ⟨G, 0, none⟩) m cV) ∧ w.grownBy V1 none) := ⟨HB0.out.1.keep g1 (by simp), grownBy_tr HB0.out.2 g1⟩
  clear hx g1 HB0
  have hx := HB1.out.1.other
  go_wp2_with fail
  refine (flatInts _).mono ?_
  rintro e V2 ⟨rfl, g1⟩
  have HB2 : Hid (BagAt V2 b (.slice (some ⟨G, 0, none⟩) m cV) ∧ w.grownBy V2 none) := ⟨HB1.out.1.keep g1 (by simp), grownBy_tr HB1.out.2 g1⟩
  clear hx g1 HB1
  have hx := HB2.out.1.other
  have g1 := HB2.out.2
  have hr1 : ∀ j, j < m → ∃ l, R V2 (a j) (n j) (c j) l := fun j hj => by
    obtain ⟨l, hl⟩ := HR.out j hj
    exact ⟨l, hl.kept g1 (by simp)⟩
  have H1 : Hid (BagAt V2 b (.slice (some ⟨G, 0, none⟩) m cV) ∧ Lay V2.heap.size G m a n c ∧ Outer G m a n c V2 ∧ (∀ j, j < m → ∃ l, R V2 (a j) (n j) (c j) l) ∧ w.grownBy V2 none) :=
    ⟨HB2.out.1, HL.out.up g1.size, HO.out.keep g1 (by simp), hr1, g1⟩
  clear hx g1 hr1 HB2 HL HO HR
  have f1 := H1.out.1.field
  go_wp2_with fail
  refine (flatLongs_any V2.heap.size G m cV a n c V2 H1.out.2.1 rfl H1.out.2.2.1 H1.out.2.2.2.1).mono ?_
  rintro e W2 ⟨rfl, c2, r2⟩
  have hB2 : BagAt W2 b (.slice (some ⟨G, 0, none⟩) m cV) := by
    have hb := H1.out.1
    have hlt := hb.lt
    have e := c2.block b hlt (fun k hk => by
      obtain ⟨l, hl⟩ := H1.out.2.2.2.1 k hk
      exact row_ne_bag hl hb)
    unfold BagAt at *
    rw [e]; exact hb
  have HB : Hid (BagAt W2 b (.slice (some ⟨G, 0, none⟩) m cV) ∧ Chg m a w W2 ∧ ∀ j, j < m → ∃ l, R W2 (a j) (n j) (c j) l) := ⟨hB2, Chg.trans' H1.out.2.2.2.2 c2, r2⟩
  clear c2 r2 hB2 H1 f1
  have hx := HB.out.1.other
  go_wp2_with (first | (go_at_call 36; refine (flatTexts _).mono ?_; rintro e W ⟨rfl, hg⟩; have HZ : Hid (BagAt W b (.slice (some ⟨G, 0, none⟩) m cV) ∧ Chg m a w W ∧ ∀ j, j < m → ∃ l, R W (a j) (n j) (c j) l) := ⟨HB.out.1.keep hg (by simp), HB.out.2.1.none hg, fun j hj => (HB.out.2.2 j hj).imp fun _ h => h.kept hg (by simp)⟩; clear hx HB hg; have HB := HZ; clear HZ; have hx := HB.out.1.other) | (go_at_call 37; refine (flatBytes _).mono ?_; rintro e W ⟨rfl, hg⟩; have HZ : Hid (BagAt W b (.slice (some ⟨G, 0, none⟩) m cV) ∧ Chg m a w W ∧ ∀ j, j < m → ∃ l, R W (a j) (n j) (c j) l) := ⟨HB.out.1.keep hg (by simp), HB.out.2.1.none hg, fun j hj => (HB.out.2.2 j hj).imp fun _ h => h.kept hg (by simp)⟩; clear hx HB hg; have HB := HZ; clear HZ; have hx := HB.out.1.other) | (go_at_call 38; refine (flatZxids _).mono ?_; rintro e W ⟨rfl, hg⟩; have HZ : Hid (BagAt W b (.slice (some ⟨G, 0, none⟩) m cV) ∧ Chg m a w W ∧ ∀ j, j < m → ∃ l, R W (a j) (n j) (c j) l) := ⟨HB.out.1.keep hg (by simp), HB.out.2.1.none hg, fun j hj => (HB.out.2.2 j hj).imp fun _ h => h.kept hg (by simp)⟩; clear hx HB hg; have HB := HZ; clear HZ; have hx := HB.out.1.other) | (go_at_call 39; refine (flatMembers _).mono ?_; rintro e W ⟨rfl, hg⟩; have HZ : Hid (BagAt W b (.slice (some ⟨G, 0, none⟩) m cV) ∧ Chg m a w W ∧ ∀ j, j < m → ∃ l, R W (a j) (n j) (c j) l) := ⟨HB.out.1.keep hg (by simp), HB.out.2.1.none hg, fun j hj => (HB.out.2.2 j hj).imp fun _ h => h.kept hg (by simp)⟩; clear hx HB hg; have HB := HZ; clear HZ; have hx := HB.out.1.other) | (go_at_call 40; refine (flatEnsembles _).mono ?_; rintro e W ⟨rfl, hg⟩; have HZ : Hid (BagAt W b (.slice (some ⟨G, 0, none⟩) m cV) ∧ Chg m a w W ∧ ∀ j, j < m → ∃ l, R W (a j) (n j) (c j) l) := ⟨HB.out.1.keep hg (by simp), HB.out.2.1.none hg, fun j hj => (HB.out.2.2 j hj).imp fun _ h => h.kept hg (by simp)⟩; clear hx HB hg; have HB := HZ; clear HZ; have hx := HB.out.1.other) | (go_at_call 41; refine (flatDeeds _).mono ?_; rintro e W ⟨rfl, hg⟩; have HZ : Hid (BagAt W b (.slice (some ⟨G, 0, none⟩) m cV) ∧ Chg m a w W ∧ ∀ j, j < m → ∃ l, R W (a j) (n j) (c j) l) := ⟨HB.out.1.keep hg (by simp), HB.out.2.1.none hg, fun j hj => (HB.out.2.2 j hj).imp fun _ h => h.kept hg (by simp)⟩; clear hx HB hg; have HB := HZ; clear HZ; have hx := HB.out.1.other) | (go_at_call 42; refine (flatNodes _).mono ?_; rintro e W ⟨rfl, hg⟩; have HZ : Hid (BagAt W b (.slice (some ⟨G, 0, none⟩) m cV) ∧ Chg m a w W ∧ ∀ j, j < m → ∃ l, R W (a j) (n j) (c j) l) := ⟨HB.out.1.keep hg (by simp), HB.out.2.1.none hg, fun j hj => (HB.out.2.2 j hj).imp fun _ h => h.kept hg (by simp)⟩; clear hx HB hg; have HB := HZ; clear HZ; have hx := HB.out.1.other) | (go_at_call 43; refine (flatSittings _).mono ?_; rintro e W ⟨rfl, hg⟩; have HZ : Hid (BagAt W b (.slice (some ⟨G, 0, none⟩) m cV) ∧ Chg m a w W ∧ ∀ j, j < m → ∃ l, R W (a j) (n j) (c j) l) := ⟨HB.out.1.keep hg (by simp), HB.out.2.1.none hg, fun j hj => (HB.out.2.2 j hj).imp fun _ h => h.kept hg (by simp)⟩; clear hx HB hg; have HB := HZ; clear HZ; have hx := HB.out.1.other) | (go_at_call 44; refine (flatAsks _).mono ?_; rintro e W ⟨rfl, hg⟩; have HZ : Hid (BagAt W b (.slice (some ⟨G, 0, none⟩) m cV) ∧ Chg m a w W ∧ ∀ j, j < m → ∃ l, R W (a j) (n j) (c j) l) := ⟨HB.out.1.keep hg (by simp), HB.out.2.1.none hg, fun j hj => (HB.out.2.2 j hj).imp fun _ h => h.kept hg (by simp)⟩; clear hx HB hg; have HB := HZ; clear HZ; have hx := HB.out.1.other) | (go_at_call 45; refine (flatReplies _).mono ?_; rintro e W ⟨rfl, hg⟩; have HZ : Hid (BagAt W b (.slice (some ⟨G, 0, none⟩) m cV) ∧ Chg m a w W ∧ ∀ j, j < m → ∃ l, R W (a j) (n j) (c j) l) := ⟨HB.out.1.keep hg (by simp), HB.out.2.1.none hg, fun j hj => (HB.out.2.2 j hj).imp fun _ h => h.kept hg (by simp)⟩; clear hx HB hg; have HB := HZ; clear HZ; have hx := HB.out.1.other) | (go_at_call 46; refine (flatEvents _).mono ?_; rintro e W ⟨rfl, hg⟩; have HZ : Hid (BagAt W b (.slice (some ⟨G, 0, none⟩) m cV) ∧ Chg m a w W ∧ ∀ j, j < m → ∃ l, R W (a j) (n j) (c j) l) := ⟨HB.out.1.keep hg (by simp), HB.out.2.1.none hg, fun j hj => (HB.out.2.2 j hj).imp fun _ h => h.kept hg (by simp)⟩; clear hx HB hg; have HB := HZ; clear HZ; have hx := HB.out.1.other) | (go_at_call 47; refine (flatLetters _).mono ?_; rintro e W ⟨rfl, hg⟩; have HZ : Hid (BagAt W b (.slice (some ⟨G, 0, none⟩) m cV) ∧ Chg m a w W ∧ ∀ j, j < m → ∃ l, R W (a j) (n j) (c j) l) := ⟨HB.out.1.keep hg (by simp), HB.out.2.1.none hg, fun j hj => (HB.out.2.2 j hj).imp fun _ h => h.kept hg (by simp)⟩; clear hx HB hg; have HB := HZ; clear HZ; have hx := HB.out.1.other) | (go_at_call 48; refine (flatPackets _).mono ?_; rintro e W ⟨rfl, hg⟩; have HZ : Hid (BagAt W b (.slice (some ⟨G, 0, none⟩) m cV) ∧ Chg m a w W ∧ ∀ j, j < m → ∃ l, R W (a j) (n j) (c j) l) := ⟨HB.out.1.keep hg (by simp), HB.out.2.1.none hg, fun j hj => (HB.out.2.2 j hj).imp fun _ h => h.kept hg (by simp)⟩; clear hx HB hg; have HB := HZ; clear HZ; have hx := HB.out.1.other) | (go_at_call 49; refine (flatMails _).mono ?_; rintro e W ⟨rfl, hg⟩; have HZ : Hid (BagAt W b (.slice (some ⟨G, 0, none⟩) m cV) ∧ Chg m a w W ∧ ∀ j, j < m → ∃ l, R W (a j) (n j) (c j) l) := ⟨HB.out.1.keep hg (by simp), HB.out.2.1.none hg, fun j hj => (HB.out.2.2 j hj).imp fun _ h => h.kept hg (by simp)⟩; clear hx HB hg; have HB := HZ; clear HZ; have hx := HB.out.1.other) | (go_at_call 50; refine (flatSteps _).mono ?_; rintro e W ⟨rfl, hg⟩; have HZ : Hid (BagAt W b (.slice (some ⟨G, 0, none⟩) m cV) ∧ Chg m a w W ∧ ∀ j, j < m → ∃ l, R W (a j) (n j) (c j) l) := ⟨HB.out.1.keep hg (by simp), HB.out.2.1.none hg, fun j hj => (HB.out.2.2 j hj).imp fun _ h => h.kept hg (by simp)⟩; clear hx HB hg; have HB := HZ; clear HZ; have hx := HB.out.1.other) | (go_at_call 51; refine (flatTales _).mono ?_; rintro e W ⟨rfl, hg⟩; have HZ : Hid (BagAt W b (.slice (some ⟨G, 0, none⟩) m cV) ∧ Chg m a w W ∧ ∀ j, j < m → ∃ l, R W (a j) (n j) (c j) l) := ⟨HB.out.1.keep hg (by simp), HB.out.2.1.none hg, fun j hj => (HB.out.2.2 j hj).imp fun _ h => h.kept hg (by simp)⟩; clear hx HB hg; have HB := HZ; clear HZ; have hx := HB.out.1.other) | (go_at_call 52; refine (flatCharters _).mono ?_; rintro e W ⟨rfl, hg⟩; have HZ : Hid (BagAt W b (.slice (some ⟨G, 0, none⟩) m cV) ∧ Chg m a w W ∧ ∀ j, j < m → ∃ l, R W (a j) (n j) (c j) l) := ⟨HB.out.1.keep hg (by simp), HB.out.2.1.none hg, fun j hj => (HB.out.2.2 j hj).imp fun _ h => h.kept hg (by simp)⟩; clear hx HB hg; have HB := HZ; clear HZ; have hx := HB.out.1.other))
  go_ret
  exact ⟨rfl, HB.out.2⟩
end AN
end Go.Proofs.YtbehainbggdpeaaGreat
