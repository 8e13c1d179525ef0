/- The walk of LinkKeeps. -/
import Derived.Test.YtbbodplmfebaaaaLkG
import Derived.Test.YtbbodplmfebaaaaDkAp
namespace Go.Proofs.Ytbbodplmfebaaaa
set_option linter.unusedVariables false
open Go.RowKit
set_option linter.unusedVariables false

theorem bv_ints (l : List UInt8) : bv l = AB.ints (l.map fun x => (x.toNat : Int)) := by simp [bv, AB.ints]
theorem row_of {w : World} {base : Nat} {A : Option Addr} {C n : Nat} {l : List UInt8} (h : w.ownsRow base 5 1 (.slice A n C) n (bv l)) : AB.R w A n C (l.map fun x => (x.toNat : Int)) := by
  rw [bv_ints] at h; exact AB.owns_weak h
/- Two links, and rows of bytes of one's own, all apart. -/
structure T3w (w W : World) (a b : Nat) (sa sb : St) (H : Hs) (A B : Nat → Prop) : Prop where
  tw : Tw w W a b sa sb [] A B
  own : ∀ x ∈ H, W.ownsRow 0 5 1 x.1 x.2.length (bv x.2)
  ap : ∀ x ∈ H, ∀ g, blk x.1 = some g → ¬ A g ∧ ¬ B g
  lo : ∀ x ∈ H, ∀ g, blk x.1 = some g → w.heap.size ≤ g
  pw : H.Pairwise fun x y => ∀ g, blk x.1 = some g → blk y.1 ≠ some g
def T3 (w W : World) (a b : Nat) (sa sb : St) (H : Hs) : Prop := ∃ A B, T3w w W a b sa sb H A B
theorem T3w.lt {w W : World} {a b : Nat} {sa sb : St} {H : Hs} {A B : Nat → Prop} (h : T3w w W a b sa sb H A B) : ∀ x ∈ H, ∀ g, blk x.1 = some g → g < W.heap.size := fun x hx g hg => by
  obtain ⟨_, q, _⟩ := owns_blockT (h.own x hx) hg; exact heap_lt q
theorem T3.swap {w W : World} {a b : Nat} {sa sb : St} {H : Hs} (h : T3 w W a b sa sb H) : T3 w W b a sb sa H := by
  obtain ⟨A, B, ⟨h1, h2, h3, h4, h5, h6⟩, k1, k2, k3, k4⟩ := h
  exact ⟨B, A, ⟨h2, h1, fun g hb ha => h3 g ha hb, fun g hg => h4 g hg.symm, h5, fun x hx => (by cases hx)⟩, k1, fun x hx g hg => (k2 x hx g hg).symm, k3, k4⟩
theorem T3.bel {w W : World} {a b : Nat} {sa sb : St} {H : Hs} (h : T3 w W a b sa sb H) : Below w.heap.size w W := by obtain ⟨A, B, h⟩ := h; exact h.tw.bel
theorem T3w.next {w W W' : World} {a b : Nat} {sa sb sa' : St} {H : Hs} {A B A' : Nat → Prop} (h : T3w w W a b sa sb H A B) (hl : Lo false W' a sa' A') (hc : Chg A W W') (hA : ∀ g, A' g → A g ∨ W.heap.size ≤ g) : T3w w W' a b sa' sb H A' B := by
  have hlt := h.lt
  obtain ⟨h1, k1, k2, k3, k4⟩ := h
  refine ⟨h1.next hl hc hA, fun x hx => owns_keepT (k1 x hx) hc (fun k hk => (k2 x hx k hk).1), fun x hx g hg => ⟨fun e => ?_, (k2 x hx g hg).2⟩, k3, k4⟩
  rcases hA g e with q | q
  · exact (k2 x hx g hg).1 q
  · have := hlt x hx g hg; omega
/- One row more, that is new. -/
theorem T3w.cons {w W W' : World} {a b : Nat} {sa sb : St} {H : Hs} {A B A' B' : Nat → Prop} (h : T3w w W a b sa sb H A B) {sa' sb' : St} (h' : T3w w W' a b sa' sb' H A' B') {v : Value} {l : List UInt8} (ho : W'.ownsRow W.heap.size 5 1 v l.length (bv l)) (hn : ∀ g, blk v = some g → ¬ A' g ∧ ¬ B' g) : T3w w W' a b sa' sb' ((v, l) :: H) A' B' := by
  have hlt := h.lt
  obtain ⟨h1, k1, k2, k3, k4⟩ := h'
  have hge : ∀ g, blk v = some g → W.heap.size ≤ g := fun g hg => by obtain ⟨_, _, q⟩ := owns_blockT ho hg; exact q
  refine ⟨h1, fun x hx => ?_, fun x hx => ?_, fun x hx => ?_, List.pairwise_cons.2 ⟨fun y hy g hg e => ?_, k4⟩⟩
  · rcases List.mem_cons.1 hx with rfl | hx
    · exact owns_lowT ho (Nat.zero_le _)
    · exact k1 x hx
  · rcases List.mem_cons.1 hx with rfl | hx
    · exact hn
    · exact k2 x hx
  · rcases List.mem_cons.1 hx with rfl | hx
    · exact fun g hg => Nat.le_trans h.tw.bel.size (hge g hg)
    · exact k3 x hx
  · have := hlt y hy g e; have := hge g hg; omega
theorem t3_send {w W : World} {a b : Nat} {sa sb : St} {H : Hs} (h : T3 w W a b sa sb H) {x : Value} {l : List UInt8} (hx : Bs W x l) {r : Int} {s' : St} (hr : sendE sa l = r) (hs : sendS sa l = s') :
    Calls Try.prog 7 #[.pointer (some ⟨a, 0, none⟩), x] W fun e W' => e = .returned (.int .i64 r) ∧ Hid (T3 w W' a b s' sb H) := by
  subst hr; subst hs
  obtain ⟨A, B, h⟩ := h
  refine (send_lo h.tw.la hx).mono ?_
  rintro e W' ⟨rfl, hl, hc⟩
  exact ⟨rfl, _, _, h.next hl hc (fun g hg => hg.elim .inl (fun e => .inr e.1))⟩
theorem t3_out {w W : World} {a b : Nat} {sa sb : St} {H : Hs} (h : T3 w W a b sa sb H) (ha : sa.acked < 4611686018427387904) {p : Pkt} (hp : outP sa = p) :
    Calls Try.prog 9 #[.pointer (some ⟨a, 0, none⟩)] W fun e W' => ∃ X C, e = .returned (pkV p X C) ∧ Hid (T3 w W' a b sa sb ((.slice X p.load.length C, p.load) :: H)) := by
  subst hp
  obtain ⟨A, B, h⟩ := h
  refine (out_lo h.tw.la ha).mono ?_
  rintro e W' ⟨X, C, rfl, ho, hB⟩
  have h' : T3w w W' a b sa sb H A B := ⟨⟨h.tw.la.below hB, h.tw.lb.below hB, h.tw.ap, h.tw.lo, h.tw.bel.trans (hB.mono h.tw.bel.size), fun x hx => (by cases hx)⟩, fun x hx => owns_keepT (h.own x hx) (Chg.of_below hB) (fun _ _ => id), h.ap, h.lo, h.pw⟩
  refine ⟨X, C, rfl, A, B, h.cons h' ho (fun g hg => ?_)⟩
  have hge : W.heap.size ≤ g := by obtain ⟨_, _, q⟩ := owns_blockT ho hg; exact q
  exact ⟨fun e => by have := h.tw.la.lt g e; omega, fun e => by have := h.tw.lb.lt g e; omega⟩
theorem t3_take {w W : World} {a b : Nat} {sa sb : St} {H : Hs} (h : T3 w W a b sa sb H) {p : Pkt} {X : Option Addr} {C : Nat} (hm : (.slice X p.load.length C, p.load) ∈ H) (hf : i64 p.fr) (hl : p.load.length ≤ 140737488355328) (ha : sa.acked < 4611686018427387904) (hg : sa.got < 4611686018427387904) {r : Tk} (hr : takeR sa p = r) :
    Calls Try.prog 8 #[.pointer (some ⟨a, 0, none⟩), pkV p X C] W fun e W' => ∃ X' C', e = .returned (tkV r X' C') ∧ Hid (T3 w W' a b r.st sb ((.slice X' r.load.length C', r.load) :: H)) := by
  subst hr
  obtain ⟨A, B, h⟩ := h
  refine (take_lo' h.tw.la p (Bs.of_owns (h.own _ hm)) (fun g hg => (h.ap _ hm g (bk_blk hg)).1) hf hl ha hg).mono ?_
  rintro e W' ⟨X', C', rfl, ho, hl', hc⟩
  have hn := h.next hl' hc (fun g hg => hg.elim .inl (fun e => .inr e.1.1))
  refine ⟨X', C', rfl, _, _, h.cons hn ho (fun g hg => ?_)⟩
  have hge : W.heap.size ≤ g := by obtain ⟨_, _, q⟩ := owns_blockT ho hg; exact q
  refine ⟨fun e => ?_, fun e => by have := h.tw.lb.lt g e; omega⟩
  rcases e with e | e
  · have := h.tw.la.lt g e; omega
  · exact e.2 hg
theorem T3.below {w W W' : World} {a b : Nat} {sa sb : St} {H : Hs} (h : T3 w W a b sa sb H) (hB : Below W.heap.size W W') : T3 w W' a b sa sb H := by
  obtain ⟨A, B, h⟩ := h
  exact ⟨A, B, ⟨h.tw.la.below hB, h.tw.lb.below hB, h.tw.ap, h.tw.lo, h.tw.bel.trans (hB.mono h.tw.bel.size), fun x hx => (by cases hx)⟩, fun x hx => owns_keepT (h.own x hx) (Chg.of_below hB) (fun _ _ => id), h.ap, h.lo, h.pw⟩
theorem T3.hold {w W : World} {a b : Nat} {sa sb : St} {H : Hs} (h : T3 w W a b sa sb H) {v : Value} {l : List UInt8} (hm : (v, l) ∈ H) : Bs W v l := by
  obtain ⟨A, B, h⟩ := h; exact Bs.of_owns (h.own _ hm)
/- A Take with blocks that were laid meanwhile: they stay. -/
theorem t3_take_over {w W0 W : World} {a b : Nat} {sa sb : St} {H : Hs} (h : T3 w W0 a b sa sb H) (hB : Below W0.heap.size W0 W) {p : Pkt} {X : Option Addr} {C : Nat} (hm : (.slice X p.load.length C, p.load) ∈ H) (hf : i64 p.fr) (hl : p.load.length ≤ 140737488355328) (ha : sa.acked < 4611686018427387904) (hg : sa.got < 4611686018427387904) {r : Tk} (hr : takeR sa p = r) :
    Calls Try.prog 8 #[.pointer (some ⟨a, 0, none⟩), pkV p X C] W fun e W' => ∃ X' C', e = .returned (tkV r X' C') ∧ Hid (T3 w W' a b r.st sb ((.slice X' r.load.length C', r.load) :: H)) ∧ Hid (∀ g, W0.heap.size ≤ g → g < W.heap.size → W'.heap[g]? = W.heap[g]?) := by
  subst hr
  obtain ⟨A, B, h0⟩ := h
  have h : T3w w W a b sa sb H A B := ⟨⟨h0.tw.la.below hB, h0.tw.lb.below hB, h0.tw.ap, h0.tw.lo, h0.tw.bel.trans (hB.mono h0.tw.bel.size), fun x hx => (by cases hx)⟩, fun x hx => owns_keepT (h0.own x hx) (Chg.of_below hB) (fun _ _ => id), h0.ap, h0.lo, h0.pw⟩
  refine (take_lo' h.tw.la p (Bs.of_owns (h.own _ hm)) (fun g hg => (h.ap _ hm g (bk_blk hg)).1) hf hl ha hg).mono ?_
  rintro e W' ⟨X', C', rfl, ho, hl', hc⟩
  have hn := h.next hl' hc (fun g hg => hg.elim .inl (fun e => .inr e.1.1))
  refine ⟨X', C', rfl, ⟨_, _, h.cons hn ho (fun g hg => ?_)⟩, fun g h1 h2 => hc.block g h2 (fun e => by have := h0.tw.la.lt g e; omega)⟩
  have hge : W.heap.size ≤ g := by obtain ⟨_, _, q⟩ := owns_blockT ho hg; exact q
  refine ⟨fun e => ?_, fun e => by have := h.tw.lb.lt g e; omega⟩
  rcases e with e | e
  · have := h.tw.la.lt g e; omega
  · exact e.2 hg
theorem send_new {l : List UInt8} (h : 0 < l.length ∧ l.length ≤ 1048476) : sendE (news 5) l = 0 ∧ sendS (news 5) l = ⟨5, 0, 0, 0, [l]⟩ := by
  have e : sendE (news 5) l = 0 := by
    unfold sendE
    rw [if_neg (by omega), if_neg (by omega), if_neg (by simp [news])]
  exact ⟨e, by unfold sendS; rw [if_pos e]; rfl⟩
theorem T3.start {w w0 w1 w2 : World} {a b : Nat} {sa sb : St} {v : Value} {l : List UInt8} (h0 : w0.ownsRow w.heap.size 5 1 v l.length (bv l)) (b0 : Below w.heap.size w w0) (h1 : Lo false w1 a sa (Nw w0 w1)) (b1 : Below w0.heap.size w0 w1) (h2 : Lo false w2 b sb (Nw w1 w2)) (b2 : Below w1.heap.size w1 w2) : T3 w w2 a b sa sb [(v, l)] := by
  have hlt : ∀ g, blk v = some g → g < w0.heap.size := fun g hg => by obtain ⟨_, q, _⟩ := owns_blockT h0 hg; exact heap_lt q
  have b02 : Below w0.heap.size w0 w2 := b1.trans (b2.mono b1.size)
  refine ⟨_, _, ⟨h1.below b2, h2, fun g ha hb => by have := ha.2; have := hb.1; omega, fun g hg => hg.elim (fun e => Nat.le_trans b0.size e.1) (fun e => Nat.le_trans b0.size (Nat.le_trans b1.size e.1)), b0.trans (b02.mono b0.size), fun x hx => (by cases hx)⟩, fun x hx => ?_, fun x hx g hg => ?_, fun x hx g hg => ?_, by simp⟩
  · simp at hx; subst hx
    exact owns_lowT (owns_keepT h0 (Chg.of_below b02) (fun _ _ => id)) (Nat.zero_le _)
  · simp at hx; subst hx
    have := hlt g hg
    exact ⟨fun e => by have := e.1; omega, fun e => by have := e.1; have := b1.size; omega⟩
  · simp at hx; subst hx
    obtain ⟨_, _, q⟩ := owns_blockT h0 hg; exact q
/- Four rows are told apart. -/
def ab4 {α : Type} (x y z u : α) (j : Nat) : α := if j = 0 then x else if j = 1 then y else if j = 2 then z else u
theorem lt4 {j : Nat} (h : j < 4) : j = 0 ∨ j = 1 ∨ j = 2 ∨ j = 3 := by omega
theorem blk_of {A : Option Addr} {n C : Nat} {g : Nat} (h : A = some ⟨g, 0, none⟩) : blk (.slice A n C) = some g := by subst h; rfl
theorem t3_apart {w W : World} {a b : Nat} {sa sb : St} {A0 A1 A2 A3 : Option Addr} {C0 C1 C2 C3 : Nat} {l : List UInt8} {H : Hs} (h : T3 w W a b sa sb H) (hl : l.length ≤ 1048476)
    (hs : List.Sublist [(Value.slice A3 l.length C3, l), (.slice A2 l.length C2, l), (.slice A1 l.length C1, l), (.slice A0 l.length C0, l)] H) :
    Calls Try.prog 11 #[.slice (some ⟨W.heap.size, 0, none⟩) 4 4] (W.alloc (.cells #[.slice A0 l.length C0, .slice A1 l.length C1, .slice A2 l.length C2, .slice A3 l.length C3] 22)) fun e w' => e = .returned (.bool true) ∧ Below w.heap.size w w' := by
  obtain ⟨P, Q, h⟩ := h
  have g := World.grownBy_alloc W (.cells #[.slice A0 l.length C0, .slice A1 l.length C1, .slice A2 l.length C2, .slice A3 l.length C3] 22) none
  have hpw := h.pw.sublist hs
  have hm : ∀ x ∈ [(Value.slice A3 l.length C3, l), (.slice A2 l.length C2, l), (.slice A1 l.length C1, l), (.slice A0 l.length C0, l)], x ∈ H := fun x hx => hs.subset hx
  have r0 := row_of (h.own _ (hm (.slice A0 l.length C0, l) (by simp)))
  have r1 := row_of (h.own _ (hm (.slice A1 l.length C1, l) (by simp)))
  have r2 := row_of (h.own _ (hm (.slice A2 l.length C2, l) (by simp)))
  have r3 := row_of (h.own _ (hm (.slice A3 l.length C3, l) (by simp)))
  have lo : ∀ j, j < 4 → ∀ k, (ab4 A0 A1 A2 A3) j = some ⟨k, 0, none⟩ → w.heap.size ≤ k := by
    intro j hj k hk
    rcases lt4 hj with rfl | rfl | rfl | rfl
    · exact h.lo _ (hm (.slice A0 l.length C0, l) (by simp)) k (blk_of hk)
    · exact h.lo _ (hm (.slice A1 l.length C1, l) (by simp)) k (blk_of hk)
    · exact h.lo _ (hm (.slice A2 l.length C2, l) (by simp)) k (blk_of hk)
    · exact h.lo _ (hm (.slice A3 l.length C3, l) (by simp)) k (blk_of hk)
  simp only [List.pairwise_cons, List.mem_cons, List.not_mem_nil, or_false] at hpw
  obtain ⟨p3, p2, p1, _⟩ := hpw
  refine (AB.apartBytes_any W.heap.size 4 4 (ab4 A0 A1 A2 A3) (ab4 l.length l.length l.length l.length) (ab4 C0 C1 C2 C3) _ (by omega) (by omega) ?_ ?_ ?_ (by simp) ?_).mono ?_
  · intro k hk; rcases lt4 hk with rfl | rfl | rfl | rfl <;> simp [ab4] <;> omega
  · intro j k x hj hk hjk e1 e2
    rcases lt4 hj with rfl | rfl | rfl | rfl <;> rcases lt4 hk with rfl | rfl | rfl | rfl
    all_goals first
      | exact hjk rfl
      | exact p3 _ (.inl rfl) x (blk_of e1) (blk_of e2)
      | exact p3 _ (.inr (.inl rfl)) x (blk_of e1) (blk_of e2)
      | exact p3 _ (.inr (.inr rfl)) x (blk_of e1) (blk_of e2)
      | exact p2 _ (.inl rfl) x (blk_of e1) (blk_of e2)
      | exact p2 _ (.inr rfl) x (blk_of e1) (blk_of e2)
      | exact p1 _ rfl x (blk_of e1) (blk_of e2)
      | exact p3 _ (.inl rfl) x (blk_of e2) (blk_of e1)
      | exact p3 _ (.inr (.inl rfl)) x (blk_of e2) (blk_of e1)
      | exact p3 _ (.inr (.inr rfl)) x (blk_of e2) (blk_of e1)
      | exact p2 _ (.inl rfl) x (blk_of e2) (blk_of e1)
      | exact p2 _ (.inr rfl) x (blk_of e2) (blk_of e1)
      | exact p1 _ rfl x (blk_of e2) (blk_of e1)
  · intro k hk
    rw [cell_of_row _ W.heap.size k _ _ _ (heap_alloc_new W _)]
    rcases lt4 hk with rfl | rfl | rfl | rfl <;> rfl
  · intro j hj
    rcases lt4 hj with rfl | rfl | rfl | rfl
    · exact ⟨_, r0.kept g (by simp)⟩
    · exact ⟨_, r1.kept g (by simp)⟩
    · exact ⟨_, r2.kept g (by simp)⟩
    · exact ⟨_, r3.kept g (by simp)⟩
  · rintro e w' ⟨rfl, hc, hr⟩
    refine ⟨rfl, (h.tw.bel.alloc h.tw.bel.size _).trans ⟨hc.os, hc.tape, hc.output, hc.size, fun k hk => hc.block k (by have := h.tw.bel.size; simp; omega) (fun j hj e => ?_)⟩⟩
    have := lo j hj k e
    omega
set_option maxRecDepth 100000 in
set_option maxHeartbeats 4000000 in
theorem keeps_any {w : World} {X : Option Addr} {cx : Nat} {l : List UInt8} (hb : Bs w (.slice X l.length cx) l) (hl : l.length ≤ 140737488355328) :
    Calls Try.prog 3 #[.slice X l.length cx] w fun e w' => e = .returned (.bool true) ∧ Below w.heap.size w w' := by
  have HBb : Hid (∀ W, Below w.heap.size w W → Bs W (.slice X l.length cx) l) := fun W hW => hb.below' hW
  clear hb
  go_enter Try.func3, Try.ntmps3
  go_wp2_with fail
  refine (awake_any w).mono ?_
  rintro e w1 ⟨rfl, b1⟩
  have HB1 : Hid (Below w.heap.size w w1) := b1
  have hc := copyB_any (HBb.out w1 b1) hl
  clear b1
  go_wp2_with fail
  refine hc.mono ?_
  rintro e w2 ⟨A0, C0, rfl, ho, hB⟩
  have HO : Hid (w2.ownsRow w1.heap.size 5 1 (.slice A0 l.length C0) l.length (bv l) ∧ Below w1.heap.size w1 w2) := ⟨ho, hB⟩
  clear hc ho hB
  go_wp2_with fail
  refine (new_lo 5 w2 (by decide)).mono ?_
  rintro e w3 ⟨a, rfl, h3, b3⟩
  have H3 : Hid (Lo false w3 a (news 5) (Nw w2 w3) ∧ Below w2.heap.size w2 w3) := ⟨h3, b3⟩
  clear h3 b3
  go_wp2_with fail
  refine (new_lo 9 w3 (by decide)).mono ?_
  rintro e w4 ⟨b, rfl, h4, b4⟩
  have HT : Hid (T3 w1 w4 a b (news 5) (news 9) [(.slice A0 l.length C0, l)]) := T3.start HO.out.1 HO.out.2 H3.out.1 H3.out.2 h4 b4
  have HX : Hid (Bs w4 (.slice A0 l.length C0) l) := by obtain ⟨A, B, q⟩ := HT.out; exact Bs.of_owns (q.own (.slice A0 l.length C0, l) (by simp))
  clear HO H3 h4 b4
  by_cases hE : 0 < l.length ∧ l.length ≤ 1048476
  · have hs := t3_send HT.out HX.out (r := 0) (s' := ⟨5, 0, 0, 0, [l]⟩) (send_new hE).1 (send_new hE).2
    have HE : Hid (0 < l.length ∧ l.length ≤ 1048476) := hE
    clear hE hl HT HX
    go_wp2_with fail
    refine hs.mono ?_
    rintro e w5 ⟨rfl, H5⟩
    clear hs
    have ho := t3_out H5.out (by show (0 : Int) < _; decide) (p := ⟨5, 0, 0, 0, []⟩) rfl
    unfold pkV at ho
    go_wp2_with fail
    refine ho.mono ?_
    rintro e w6 ⟨X6, C6, rfl, H6⟩
    have ht := t3_take H6.out.swap (p := ⟨5, 0, 0, 0, []⟩) (X := X6) (C := C6) (List.mem_cons_self ..) (by unfold i64; decide) (by simp) (by show (0 : Int) < _; decide) (by show (0 : Int) < _; decide) (r := ⟨[], false, false, ⟨9, 5, 0, 0, []⟩⟩) rfl
    unfold pkV tkV at ht
    clear ho H5 H6
    go_wp2_with fail
    refine ht.mono ?_
    rintro e w7 ⟨X7, C7, rfl, H7⟩
    clear ht
    have ho := t3_out H7.out (by show (0 : Int) < _; decide) (p := ⟨9, 5, 0, 0, []⟩) rfl
    unfold pkV at ho
    go_wp2_with fail
    refine ho.mono ?_
    rintro e w8 ⟨X8, C8, rfl, H8⟩
    have ht := t3_take H8.out.swap (p := ⟨9, 5, 0, 0, []⟩) (X := X8) (C := C8) (List.mem_cons_self ..) (by unfold i64; decide) (by simp) (by show (0 : Int) < _; decide) (by show (0 : Int) < _; decide) (r := ⟨[], false, false, ⟨5, 9, 0, 0, [l]⟩⟩) rfl
    unfold pkV tkV at ht
    clear ho H7 H8
    go_wp2_with fail
    refine ht.mono ?_
    rintro e w9 ⟨X9, C9, rfl, H9⟩
    clear ht
    have ho := t3_out H9.out (by show (0 : Int) < _; decide) (p := ⟨5, 9, 1, 0, l⟩) rfl
    unfold pkV at ho
    go_wp2_with fail
    refine ho.mono ?_
    rintro e w10 ⟨X10, C10, rfl, H10⟩
    clear ho H9
    have ho := t3_out H10.out (by show (0 : Int) < _; decide) (p := ⟨5, 9, 1, 0, l⟩) rfl
    unfold pkV at ho
    go_wp2_with fail
    refine ho.mono ?_
    rintro e w11 ⟨X11, C11, rfl, H11⟩
    clear ho H10
    obtain ⟨W, hW⟩ : ∃ W, W = (w11.alloc (.cells #[.int .i64 5, .int .i64 9, .int .i64 1, .int .i64 0, .slice X10 l.length C10] 32)).alloc (.cells #[.int .i64 5, .int .i64 9, .int .i64 1, .int .i64 0, .slice X11 l.length C11] 32) := ⟨_, rfl⟩
    have hBW : Below w11.heap.size w11 W := by rw [hW]; exact below2 _ _ _
    have hz : W.heap.size = w11.heap.size + 2 := by rw [hW]; simp
    have hP : W.heap[w11.heap.size]? = some (.cells #[.int .i64 5, .int .i64 9, .int .i64 1, .int .i64 0, .slice X10 l.length C10] 32 (0, 0)) := by
      rw [hW, Below.heap_alloc _ _ _ (by simp)]; exact heap_alloc_new w11 _
    have hQ : W.heap[w11.heap.size + 1]? = some (.cells #[.int .i64 5, .int .i64 9, .int .i64 1, .int .i64 0, .slice X11 l.length C11] 32 (0, 0)) := by
      have := heap_alloc_new (w11.alloc (.cells #[.int .i64 5, .int .i64 9, .int .i64 1, .int .i64 0, .slice X10 l.length C10] 32)) (.cells #[.int .i64 5, .int .i64 9, .int .i64 1, .int .i64 0, .slice X11 l.length C11] 32)
      rw [hW]; simpa using this
    have ht := t3_take_over H11.out.swap hBW (p := ⟨5, 9, 1, 0, l⟩) (X := X10) (C := C10) (by simp) (show i64 5 by unfold i64; decide) (by show l.length ≤ _; have := HE.out; omega) (by show (0 : Int) < _; decide) (by show (0 : Int) < _; decide) (r := ⟨l, true, false, ⟨9, 5, 0, 1, []⟩⟩) rfl
    unfold pkV tkV at ht
    rw [hW] at ht
    go_wp2_with fail
    refine ht.mono ?_
    rintro e w12 ⟨X12, C12, rfl, H12, HK⟩
    rw [← hW] at HK
    have HP12 : Hid (w12.heap[w11.heap.size]? = some (.cells #[.int .i64 5, .int .i64 9, .int .i64 1, .int .i64 0, .slice X10 l.length C10] 32 (0, 0))) := by unfold Hid; rw [HK.out _ (Nat.le_refl _) (by omega)]; exact hP
    have HQ12 : Hid (w12.heap[w11.heap.size + 1]? = some (.cells #[.int .i64 5, .int .i64 9, .int .i64 1, .int .i64 0, .slice X11 l.length C11] 32 (0, 0))) := by unfold Hid; rw [HK.out _ (by omega) (by omega)]; exact hQ
    obtain ⟨pb, hpb⟩ : ∃ pb, pb = w11.heap.size := ⟨_, rfl⟩
    obtain ⟨qb, hqb⟩ : ∃ qb, qb = w11.heap.size + 1 := ⟨_, rfl⟩
    rw [← hpb] at HP12
    rw [← hqb] at HQ12
    have hs1 := same_any (H12.out.hold (v := .slice X12 l.length C12) (l := l) (by simp)) (HBb.out w12 (HB1.out.trans (H12.out.bel.mono HB1.out.size))) (by have := HE.out; omega)
    rw [decide_eq_true rfl] at hs1
    rw [← hqb, ← hpb]
    clear ht HK hP hQ hz hBW hW hpb hqb H11
    go_wp2_with fail
    refine hs1.mono ?_
    rintro e w13 ⟨rfl, q13, hw13⟩
    have hB13 : Below w12.heap.size w12 w13 := by rw [hw13]; exact below_drewN (Below.refl _ _) _
    have H13 : Hid (T3 w1 w13 b a ⟨9, 5, 0, 1, []⟩ ⟨5, 9, 0, 0, [l]⟩ _) := H12.out.below hB13
    have HP13 : Hid (w13.heap[pb]? = some (.cells #[.int .i64 5, .int .i64 9, .int .i64 1, .int .i64 0, .slice X10 l.length C10] 32 (0, 0))) := by unfold Hid; rw [hB13.block pb (heap_lt HP12.out)]; exact HP12.out
    have HQ13 : Hid (w13.heap[qb]? = some (.cells #[.int .i64 5, .int .i64 9, .int .i64 1, .int .i64 0, .slice X11 l.length C11] 32 (0, 0))) := by unfold Hid; rw [hB13.block qb (heap_lt HQ12.out)]; exact HQ12.out
    clear hs1 hw13 hB13 H12 HP12 HQ12
    have e4 := cell_at HQ13.out 4
    simp at e4
    have hs2 := same_any (H13.out.hold (v := .slice X11 l.length C11) (l := l) (by simp)) (HBb.out w13 (HB1.out.trans (H13.out.bel.mono HB1.out.size))) (by have := HE.out; omega)
    rw [decide_eq_true rfl] at hs2
    go_wp2_with fail
    refine hs2.mono ?_
    rintro e w14 ⟨rfl, q14, hw14⟩
    have hB14 : Below w13.heap.size w13 w14 := by rw [hw14]; exact below_drewN (Below.refl _ _) _
    have H14 : Hid (T3 w1 w14 b a ⟨9, 5, 0, 1, []⟩ ⟨5, 9, 0, 0, [l]⟩ _) := H13.out.below hB14
    have HP14 : Hid (w14.heap[pb]? = some (.cells #[.int .i64 5, .int .i64 9, .int .i64 1, .int .i64 0, .slice X10 l.length C10] 32 (0, 0))) := by unfold Hid; rw [hB14.block pb (heap_lt HP13.out)]; exact HP13.out
    have HQ14 : Hid (w14.heap[qb]? = some (.cells #[.int .i64 5, .int .i64 9, .int .i64 1, .int .i64 0, .slice X11 l.length C11] 32 (0, 0))) := by unfold Hid; rw [hB14.block qb (heap_lt HQ13.out)]; exact HQ13.out
    clear hs2 hw14 hB14 H13 HP13 HQ13 e4
    have e4 := cell_at HQ14.out 4
    have e5 := cell_at HP14.out 4
    simp at e4 e5
    have hap := t3_apart (A0 := A0) (A1 := X10) (A2 := X11) (A3 := X12) (C0 := C0) (C1 := C10) (C2 := C11) (C3 := C12) (l := l) H14.out HE.out.2 (by
      refine .cons_cons _ (.cons_cons _ (.cons_cons _ (.cons _ (.cons _ (.cons _ (.cons _ (.cons_cons _ .slnil)))))))
    )
    go_wp2_with fail
    refine hap.mono ?_
    rintro e w15 ⟨rfl, hb15⟩
    have HB15 : Hid (Below w.heap.size w w15) := HB1.out.trans (hb15.mono HB1.out.size)
    clear hap hb15
    go_wp2_with fail
    go_ret
    exact ⟨rfl, HB15.out⟩
  · have HB4 : Hid (∀ W, T3 w1 W a b (news 5) (news 9) [(.slice A0 l.length C0, l)] → Below w.heap.size w W) := fun W h => HB1.out.trans (h.bel.mono HB1.out.size)
    by_cases h0 : l.length = 0
    · have hs := t3_send HT.out HX.out (r := 2) (s' := news 5) (by unfold sendE; rw [if_pos h0]) (by unfold sendS sendE; rw [if_pos h0]; rfl)
      clear hE HX HT
      rw [h0] at hs ⊢
      go_wp2_with fail
      refine hs.mono ?_
      rintro e w5 ⟨rfl, H5⟩
      clear hs
      go_wp2_with fail
      go_ret
      exact ⟨rfl, HB4.out _ (by rw [h0]; exact H5.out)⟩
    · have h1 : 1048476 < l.length := by omega
      have hs := t3_send HT.out HX.out (r := 3) (s' := news 5) (by unfold sendE; rw [if_neg h0, if_pos h1]) (by unfold sendS sendE; rw [if_neg h0, if_pos h1]; rfl)
      have h1' : (1048476 : Int) < (l.length : Int) := by omega
      clear hE HX HT
      go_wp2_with fail
      refine hs.mono ?_
      rintro e w5 ⟨rfl, H5⟩
      clear hs
      go_wp2_with fail
      go_ret
      exact ⟨rfl, HB4.out _ H5.out⟩
theorem keeps_bs {w : World} {v : Value} {l : List UInt8} (hb : Bs w v l) (hl : l.length ≤ 140737488355328) :
    Calls Try.prog 3 #[v] w fun e w' => e = .returned (.bool true) ∧ Below w.heap.size w w' := by
  obtain ⟨A, C, rfl⟩ := bs_form hb
  exact keeps_any hb hl
end Go.Proofs.Ytbbodplmfebaaaa
