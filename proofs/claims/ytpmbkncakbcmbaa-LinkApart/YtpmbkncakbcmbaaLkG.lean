/- Links by the blocks that are their own; what wakes the statements on links. -/
import Derived.Test.YtpmbkncakbcmbaaLkF
namespace Go.Proofs.Ytpmbkncakbcmbaa
set_option linter.unusedVariables false
open Go.RowKit
set_option linter.unusedVariables false

/- A link whose own blocks lie within O. -/
def Lo (D : Bool) (w : World) (n : Nat) (s : St) (O : Nat → Prop) : Prop := Lx D w n s (fun g => g < w.heap.size ∧ ¬ O g) ∧ O n ∧ ∀ g, O g → g < w.heap.size
/- What is new. -/
abbrev Nw (w w' : World) (g : Nat) : Prop := w.heap.size ≤ g ∧ g < w'.heap.size
theorem Lo.lx {D : Bool} {w : World} {n : Nat} {s : St} {O : Nat → Prop} (h : Lo D w n s O) : Lx D w n s (fun g => g < w.heap.size ∧ ¬ O g) := h.1
theorem Lo.lt {D : Bool} {w : World} {n : Nat} {s : St} {O : Nat → Prop} (h : Lo D w n s O) : ∀ g, O g → g < w.heap.size := h.2.2
theorem Lo.fit {D : Bool} {w : World} {n : Nat} {s : St} {O : Nat → Prop} (h : Lo D w n s O) : s.fit := h.1.fit
theorem Lo.keep {D : Bool} {S : Nat → Prop} {w w' : World} {n : Nat} {s : St} {O : Nat → Prop} (h : Lo D w n s O) (hc : Chg S w w') (hS : ∀ g, S g → ¬ O g) : Lo D w' n s O := by
  have hS' : Chg (fun g => S g ∧ g < w.heap.size) w w' := hc.weak fun g hg e => ⟨e, hg⟩
  refine ⟨(h.1.away hS' (fun g hg => .inl ⟨hg.2, hS g hg.1⟩)).fewer fun g hg => ?_, h.2.1, fun g hg => hc.lt_of (h.2.2 g hg)⟩
  rcases Nat.lt_or_ge g w.heap.size with q | q
  · exact .inl ⟨q, hg.2⟩
  · exact .inr ⟨q, hg.1⟩
theorem Lo.below {D : Bool} {w w' : World} {n : Nat} {s : St} {O : Nat → Prop} (h : Lo D w n s O) (hb : Below w.heap.size w w') : Lo D w' n s O := h.keep (Chg.of_below hb) (fun _ e => e.elim)
theorem Lo.drewN {D : Bool} {w : World} {n : Nat} {s : St} {O : Nat → Prop} (h : Lo D w n s O) (q : Nat) : Lo D (w.drewN q) n s O := h.below (below_drewN (Below.refl _ _) q)
theorem Lo.alloc {D : Bool} {w : World} {n : Nat} {s : St} {O : Nat → Prop} (h : Lo D w n s O) (o : Obj) : Lo D (w.alloc o) n s O := h.below (below1 w o)
theorem Lo.more {D : Bool} {w : World} {n : Nat} {s : St} {O O' : Nat → Prop} (h : Lo D w n s O) (hO : ∀ g, O g → O' g) (hl : ∀ g, O' g → g < w.heap.size) : Lo D w n s O' :=
  ⟨h.1.fewer fun g hg => ⟨hg.1, fun e => hg.2 (hO g e)⟩, hO n h.2.1, hl⟩
/- The end of a call in terms of what is not the link's, in terms of what is. -/
theorem Lo.of_next {D : Bool} {w w' : World} {n : Nat} {s s' : St} {O : Nat → Prop} (h : Lo D w n s O) (hl : Lx D w' n s' (fun g => g < w.heap.size ∧ ¬ O g)) (hk : Kp (fun g => g < w.heap.size ∧ ¬ O g) w w') : Lo D w' n s' (fun g => O g ∨ Nw w w' g) ∧ Chg O w w' := by
  refine ⟨⟨hl.fewer fun g hg => ?_, .inl h.2.1, fun g hg => ?_⟩, hk.weak fun g hg e => Classical.byContradiction fun f => e ⟨hg, f⟩⟩
  · refine ⟨?_, fun e => hg.2 (.inl e)⟩
    rcases Nat.lt_or_ge g w.heap.size with q | q
    · exact q
    · exact absurd (.inr ⟨q, hg.1⟩) hg.2
  · rcases hg with hg | hg
    · exact hk.lt_of (h.2.2 g hg)
    · exact hg.2
theorem new_lo (inc : Int) (w : World) (h : 1 ≤ inc ∧ inc ≤ 1099511627776) : Calls Try.prog 8 #[.int .i64 inc] w fun e w' => ∃ n, e = .returned (.pointer (some ⟨n, 0, none⟩)) ∧ Lo false w' n (news inc) (Nw w w') ∧ Below w.heap.size w w' := by
  refine (new_yes inc w h).mono ?_
  rintro e w' ⟨n, rfl, hn, hl, hb⟩
  refine ⟨n, rfl, ⟨hl.fewer fun g hg => ?_, ⟨hn, (by obtain ⟨v, L, q, _⟩ := hl; exact heap_lt q.cell)⟩, fun g hg => hg.2⟩, hb⟩
  rcases Nat.lt_or_ge g w.heap.size with q | q
  · exact q
  · exact absurd ⟨q, hg.1⟩ hg.2
theorem send_lo {w : World} {n : Nat} {s : St} {O : Nat → Prop} (h : Lo false w n s O) {x : Value} {b : List UInt8} (hx : Bs w x b) :
    Calls Try.prog 12 #[.pointer (some ⟨n, 0, none⟩), x] w fun e w' => e = .returned (.int .i64 (sendE s b)) ∧ Lo false w' n (sendS s b) (fun g => O g ∨ Nw w w' g) ∧ Chg O w w' := by
  refine (send_any h.1 hx).mono ?_
  rintro e w' ⟨rfl, hl, hk⟩
  exact ⟨rfl, h.of_next hl hk⟩
theorem reset_lo {w : World} {n : Nat} {s : St} {O : Nat → Prop} (h : Lo false w n s O) (inc : Int) :
    Calls Try.prog 21 #[.pointer (some ⟨n, 0, none⟩), .int .i64 inc] w fun e w' => e = .returned (.tuple #[]) ∧ Lo false w' n (resetS s inc) (fun g => O g ∨ Nw w w' g) ∧ Chg O w w' := by
  refine (reset_any h.1 inc).mono ?_
  rintro e w' ⟨rfl, hl, hk⟩
  exact ⟨rfl, h.of_next hl hk⟩
theorem out_lo {w : World} {n : Nat} {s : St} {O : Nat → Prop} (h : Lo false w n s O) (ha : s.acked < 4611686018427387904) :
    Calls Try.prog 24 #[.pointer (some ⟨n, 0, none⟩)] w fun e w' => ∃ A C, e = .returned (pkV (outP s) A C) ∧ w'.ownsRow w.heap.size 5 1 (.slice A (outP s).load.length C) (outP s).load.length (bv (outP s).load) ∧ Below w.heap.size w w' := out_any h.1 ha
theorem wait_lo {w : World} {n : Nat} {s : St} {O : Nat → Prop} (h : Lo false w n s O) : Calls Try.prog 26 #[.pointer (some ⟨n, 0, none⟩)] w fun e w' => e = .returned (.int .i64 s.loads.length) ∧ w' = w := wait_any h.1
theorem known_lo {w : World} {n : Nat} {s : St} {O : Nat → Prop} (h : Lo false w n s O) : Calls Try.prog 27 #[.pointer (some ⟨n, 0, none⟩)] w fun e w' => e = .returned (.bool (decide (0 < s.peer))) ∧ w' = w := known_any h.1
/- Take: the load lies in memory of its own. -/
theorem take_lo' {w : World} {n : Nat} {s : St} {O : Nat → Prop} (h : Lo false w n s O) (p : Pkt) {A : Option Addr} {C : Nat} (hx : Bs w (.slice A p.load.length C) p.load) (hT : ∀ g, bk (.slice A p.load.length C) = some g → ¬ O g)
    (hf : i64 p.fr) (hl : p.load.length ≤ 140737488355328) (ha : s.acked < 4611686018427387904) (hg : s.got < 4611686018427387904) :
    Calls Try.prog 17 #[.pointer (some ⟨n, 0, none⟩), pkV p A C] w fun e w' => ∃ A' C', e = .returned (tkV (takeR s p) A' C') ∧ w'.ownsRow w.heap.size 5 1 (.slice A' (takeR s p).load.length C') (takeR s p).load.length (bv (takeR s p).load) ∧
      Lo false w' n (takeR s p).st (fun g => O g ∨ (Nw w w' g ∧ blk (.slice A' (takeR s p).load.length C') ≠ some g)) ∧ Chg O w w' := by
  refine (take_any h.1 p hx (fun g hg => ⟨hx.lt hg, hT g hg⟩) hf hl ha hg).mono ?_
  rintro e w' ⟨A', C', rfl, ho, hn, hl, hk⟩
  have h2 := h.of_next (hl.fewer fun g hg => .inl hg) hk
  refine ⟨A', C', rfl, ho, ⟨hl.fewer fun g hg => ?_, .inl h.2.1, fun g hg => ?_⟩, h2.2⟩
  · by_cases e : blk (.slice A' (takeR s p).load.length C') = some g
    · exact .inr e
    · refine .inl ⟨?_, fun q => hg.2 (.inl q)⟩
      rcases Nat.lt_or_ge g w.heap.size with q | q
      · exact q
      · exact absurd (.inr ⟨⟨q, hg.1⟩, e⟩) hg.2
  · rcases hg with hg | hg
    · exact hk.lt_of (h.2.2 g hg)
    · exact hg.1.2
/- Two links beside one another, above the world w, and bytes that lie apart from them. -/
abbrev Hs := List (Value × List UInt8)
structure Tw (w W : World) (a b : Nat) (sa sb : St) (H : Hs) (A B : Nat → Prop) : Prop where
  la : Lo false W a sa A
  lb : Lo false W b sb B
  ap : ∀ g, A g → ¬ B g
  lo : ∀ g, A g ∨ B g → w.heap.size ≤ g
  bel : Below w.heap.size w W
  held : ∀ x ∈ H, Bs W x.1 x.2 ∧ ∀ g, bk x.1 = some g → ¬ A g ∧ ¬ B g
def T2 (w W : World) (a b : Nat) (sa sb : St) (H : Hs) : Prop := ∃ A B, Tw w W a b sa sb H A B
theorem T2.below {w W W' : World} {a b : Nat} {sa sb : St} {H : Hs} (h : T2 w W a b sa sb H) (hb : Below W.heap.size W W') : T2 w W' a b sa sb H := by
  obtain ⟨A, B, h1, h2, h3, h4, h5, h6⟩ := h
  exact ⟨A, B, h1.below hb, h2.below hb, h3, h4, h5.trans (hb.mono h5.size), fun x hx => ⟨(h6 x hx).1.below' hb, (h6 x hx).2⟩⟩
theorem T2.swap {w W : World} {a b : Nat} {sa sb : St} {H : Hs} (h : T2 w W a b sa sb H) : T2 w W b a sb sa H := by
  obtain ⟨A, B, h1, h2, h3, h4, h5, h6⟩ := h
  exact ⟨B, A, h2, h1, fun g hb ha => h3 g ha hb, fun g hg => h4 g hg.symm, h5, fun x hx => ⟨(h6 x hx).1, fun g hg => ((h6 x hx).2 g hg).symm⟩⟩
theorem T2.bel {w W : World} {a b : Nat} {sa sb : St} {H : Hs} (h : T2 w W a b sa sb H) : Below w.heap.size w W := by
  obtain ⟨A, B, h1, h2, h3, h4, h5, h6⟩ := h; exact h5
theorem T2.hold {w W : World} {a b : Nat} {sa sb : St} {H : Hs} (h : T2 w W a b sa sb H) {v : Value} {l : List UInt8} (hm : (v, l) ∈ H) : Bs W v l := by
  obtain ⟨A, B, h⟩ := h; exact (h.held _ hm).1
theorem T2.some {w W : World} {a b : Nat} {sa sb : St} {H H' : Hs} (h : T2 w W a b sa sb H) (hm : ∀ x ∈ H', x ∈ H) : T2 w W a b sa sb H' := by
  obtain ⟨A, B, h1, h2, h3, h4, h5, h6⟩ := h
  exact ⟨A, B, h1, h2, h3, h4, h5, fun x hx => h6 x (hm x hx)⟩
/- Bytes that lie below w. -/
theorem T2.old {w W : World} {a b : Nat} {sa sb : St} {H : Hs} (h : T2 w W a b sa sb H) {v : Value} {l : List UInt8} (hv : Bs w v l) : T2 w W a b sa sb ((v, l) :: H) := by
  obtain ⟨A, B, h1, h2, h3, h4, h5, h6⟩ := h
  refine ⟨A, B, h1, h2, h3, h4, h5, fun x hx => ?_⟩
  rcases List.mem_cons.1 hx with rfl | hx
  · exact ⟨hv.below' h5, fun g hg => ⟨fun e => by have := h4 g (.inl e); have := hv.lt hg; omega, fun e => by have := h4 g (.inr e); have := hv.lt hg; omega⟩⟩
  · exact h6 x hx
theorem Tw.next {w W W' : World} {a b : Nat} {sa sb sa' : St} {H : Hs} {A B A' : Nat → Prop} (h : Tw w W a b sa sb H A B) (hl : Lo false W' a sa' A') (hc : Chg A W W') (hA : ∀ g, A' g → A g ∨ W.heap.size ≤ g) : Tw w W' a b sa' sb H A' B := by
  obtain ⟨h1, h2, h3, h4, h5, h6⟩ := h
  refine ⟨hl, h2.keep hc h3, fun g ha hb => ?_, fun g hg => ?_, h5.trans (hc.below (fun k hk => h4 k (.inl hk)) h5.size), fun x hx => ⟨(h6 x hx).1.keep hc (fun k hk => ((h6 x hx).2 k hk).1), fun g hg => ⟨fun e => ?_, ((h6 x hx).2 g hg).2⟩⟩⟩
  · rcases hA g ha with q | q
    · exact h3 g q hb
    · have := h2.lt g hb; omega
  · rcases hg with hg | hg
    · rcases hA g hg with q | q
      · exact h4 g (.inl q)
      · exact Nat.le_trans h5.size q
    · exact h4 g (.inr hg)
  · rcases hA g e with q | q
    · exact ((h6 x hx).2 g hg).1 q
    · have := (h6 x hx).1.lt hg; omega
theorem t2_send {w W : World} {a b : Nat} {sa sb : St} {H : Hs} (h : T2 w W a b sa sb H) {x : Value} {l : List UInt8} (hx : Bs W x l) {r : Int} {s' : St} (hr : sendE sa l = r) (hs : sendS sa l = s') :
    Calls Try.prog 12 #[.pointer (some ⟨a, 0, none⟩), x] W fun e W' => e = .returned (.int .i64 r) ∧ Hid (T2 w W' a b s' sb H) := by
  subst hr; subst hs
  obtain ⟨A, B, h⟩ := h
  refine (send_lo h.la hx).mono ?_
  rintro e W' ⟨rfl, hl, hc⟩
  exact ⟨rfl, _, _, h.next hl hc (fun g hg => hg.elim .inl (fun e => .inr e.1))⟩
theorem t2_out {w W : World} {a b : Nat} {sa sb : St} {H : Hs} (h : T2 w W a b sa sb H) (ha : sa.acked < 4611686018427387904) {p : Pkt} (hp : outP sa = p) :
    Calls Try.prog 24 #[.pointer (some ⟨a, 0, none⟩)] W fun e W' => ∃ X C, e = .returned (pkV p X C) ∧ W'.ownsRow W.heap.size 5 1 (.slice X p.load.length C) p.load.length (bv p.load) ∧ Hid (T2 w W' a b sa sb ((.slice X p.load.length C, p.load) :: H)) := by
  subst hp
  obtain ⟨A, B, h⟩ := h
  refine (out_lo h.la ha).mono ?_
  rintro e W' ⟨X, C, rfl, ho, hB⟩
  have hbk : ∀ g, bk (.slice X (outP sa).load.length C) = some g → W.heap.size ≤ g := fun g hg => by obtain ⟨_, _, q⟩ := owns_blockT ho (bk_blk hg); exact q
  refine ⟨X, C, rfl, ho, A, B, h.la.below hB, h.lb.below hB, h.ap, h.lo, h.bel.trans (hB.mono h.bel.size), fun x hx => ?_⟩
  rcases List.mem_cons.1 hx with rfl | hx
  · exact ⟨Bs.of_owns ho, fun g hg => ⟨fun e => by have := h.la.lt g e; have := hbk g hg; omega, fun e => by have := h.lb.lt g e; have := hbk g hg; omega⟩⟩
  · exact ⟨(h.held x hx).1.below' hB, (h.held x hx).2⟩
theorem t2_take {w W : World} {a b : Nat} {sa sb : St} {H : Hs} (h : T2 w W a b sa sb H) {p : Pkt} {X : Option Addr} {C : Nat} (hm : (.slice X p.load.length C, p.load) ∈ H) (hf : i64 p.fr) (hl : p.load.length ≤ 140737488355328) (ha : sa.acked < 4611686018427387904) (hg : sa.got < 4611686018427387904) {r : Tk} (hr : takeR sa p = r) :
    Calls Try.prog 17 #[.pointer (some ⟨a, 0, none⟩), pkV p X C] W fun e W' => ∃ X' C', e = .returned (tkV r X' C') ∧ W'.ownsRow W.heap.size 5 1 (.slice X' r.load.length C') r.load.length (bv r.load) ∧ Hid (T2 w W' a b r.st sb ((.slice X' r.load.length C', r.load) :: H)) := by
  subst hr
  obtain ⟨A, B, h⟩ := h
  refine (take_lo' h.la p (h.held _ hm).1 (fun g hg => ((h.held _ hm).2 g hg).1) hf hl ha hg).mono ?_
  rintro e W' ⟨X', C', rfl, ho, hl', hc⟩
  have hn := h.next hl' hc (fun g hg => hg.elim .inl (fun e => .inr e.1.1))
  refine ⟨X', C', rfl, ho, _, _, hn.la, hn.lb, hn.ap, hn.lo, hn.bel, fun x hx => ?_⟩
  rcases List.mem_cons.1 hx with rfl | hx
  · refine ⟨Bs.of_owns ho, fun g hg => ?_⟩
    have hq : W.heap.size ≤ g := by obtain ⟨_, _, q⟩ := owns_blockT ho (bk_blk hg); exact q
    refine ⟨fun e => ?_, fun e => by have := h.lb.lt g e; omega⟩
    rcases e with e | e
    · have := h.la.lt g e; omega
    · exact e.2 (bk_blk hg)
  · exact hn.held x hx
theorem T2.start {w w1 w2 : World} {a b : Nat} {sa sb : St} (h1 : Lo false w1 a sa (Nw w w1)) (b1 : Below w.heap.size w w1) (h2 : Lo false w2 b sb (Nw w1 w2)) (b2 : Below w1.heap.size w1 w2) : T2 w w2 a b sa sb [] :=
  ⟨_, _, h1.below b2, h2, fun g ha hb => by have := ha.2; have := hb.1; omega, fun g hg => hg.elim (fun e => e.1) (fun e => Nat.le_trans b1.size e.1), b1.trans (b2.mono b1.size), fun x hx => (by cases hx)⟩
set_option maxRecDepth 100000 in
set_option maxHeartbeats 2000000 in
theorem awake_any (w : World) : Calls Try.prog 7 #[] w fun e w' => e = .returned (.bool true) ∧ Below w.heap.size w w' := by
  go_enter Try.func7, Try.ntmps7
  go_wp2_with fail
  refine (new_lo 5 w (by decide)).mono ?_
  rintro e w1 ⟨a, rfl, h1, b1⟩
  have H1 : Hid (Lo false w1 a (news 5) (Nw w w1) ∧ Below w.heap.size w w1) := ⟨h1, b1⟩
  clear h1 b1
  go_wp2_with fail
  refine (new_lo 9 w1 (by decide)).mono ?_
  rintro e w2 ⟨b, rfl, h2, b2⟩
  have H2 : Hid (T2 w w2 a b (news 5) (news 9) []) := T2.start H1.out.1 H1.out.2 h2 b2
  clear H1 h2 b2
  have hs := t2_send (H2.out.below (below1 w2 (.cells #[.int .u8 7] 5))) (litB w2 [7] (cs := #[.int .u8 7]) rfl rfl) (r := 0) (s' := ⟨5, 0, 0, 0, [[7]]⟩) rfl rfl
  go_wp2_with fail
  refine hs.mono ?_
  rintro e w3 ⟨rfl, H3⟩
  clear hs H2
  have ho := t2_out H3.out (by decide) (p := ⟨5, 0, 0, 0, []⟩) rfl
  unfold pkV at ho
  go_wp2_with fail
  refine ho.mono ?_
  rintro e w4 ⟨X4, C4, rfl, _, H4⟩
  have ht := t2_take H4.out.swap (List.mem_cons_self ..) (p := ⟨5, 0, 0, 0, []⟩) (r := ⟨[], false, false, ⟨9, 5, 0, 0, []⟩⟩) (by unfold i64; decide) (by simp) (by decide) (by decide) rfl
  unfold pkV tkV at ht
  clear ho H3 H4
  go_wp2_with fail
  refine ht.mono ?_
  rintro e w5 ⟨X5, C5, rfl, _, H5⟩
  clear ht
  have ho := t2_out H5.out (by decide) (p := ⟨9, 5, 0, 0, []⟩) rfl
  unfold pkV at ho
  go_wp2_with fail
  refine ho.mono ?_
  rintro e w6 ⟨X6, C6, rfl, _, H6⟩
  have ht := t2_take H6.out.swap (List.mem_cons_self ..) (p := ⟨9, 5, 0, 0, []⟩) (r := ⟨[], false, false, ⟨5, 9, 0, 0, [[7]]⟩⟩) (by unfold i64; decide) (by simp) (by decide) (by decide) rfl
  unfold pkV tkV at ht
  clear ho H5 H6
  go_wp2_with fail
  refine ht.mono ?_
  rintro e w7 ⟨X7, C7, rfl, _, H7⟩
  clear ht
  have ho := t2_out H7.out (by decide) (p := ⟨5, 9, 1, 0, [7]⟩) rfl
  unfold pkV at ho
  go_wp2_with fail
  refine ho.mono ?_
  rintro e w8 ⟨X8, C8, rfl, _, H8⟩
  have ht := t2_take H8.out.swap (List.mem_cons_self ..) (p := ⟨5, 9, 1, 0, [7]⟩) (r := ⟨[7], true, false, ⟨9, 5, 0, 1, []⟩⟩) (by unfold i64; decide) (by simp) (by decide) (by decide) rfl
  unfold pkV tkV at ht
  clear ho H7 H8
  go_wp2_with fail
  refine ht.mono ?_
  rintro e w9 ⟨X9, C9, rfl, hx9, H9⟩
  clear ht hx9
  have ho := t2_out H9.out (by decide) (p := ⟨9, 5, 0, 1, []⟩) rfl
  unfold pkV at ho
  go_wp2_with fail
  refine ho.mono ?_
  rintro e w10 ⟨X10, C10, rfl, _, H10⟩
  have ht := t2_take H10.out.swap (List.mem_cons_self ..) (p := ⟨9, 5, 0, 1, []⟩) (r := ⟨[], false, false, ⟨5, 9, 1, 0, []⟩⟩) (by unfold i64; decide) (by simp) (by decide) (by decide) rfl
  unfold pkV tkV at ht
  clear ho H9 H10
  go_wp2_with fail
  refine ht.mono ?_
  rintro e w11 ⟨X11, C11, rfl, _, H11⟩
  clear ht
  have hx := H11.out.hold (v := .slice X9 1 C9) (l := [7]) (by simp)
  obtain ⟨g, o, rfl, hc⟩ := hx.at' 0 (by simp)
  simp at hc
  have hw := wait_lo (H11.out.choose_spec.choose_spec.la)
  have hk := known_lo (H11.out.choose_spec.choose_spec.la)
  have HB : Hid (Below w.heap.size w w11) := H11.out.bel
  clear hx H11
  go_wp2_with fail
  refine hw.mono ?_
  rintro e w12 ⟨rfl, rfl⟩
  go_wp2_with fail
  refine hk.mono ?_
  rintro e w13 ⟨rfl, rfl⟩
  go_wp2_with fail
  go_ret
  exact ⟨rfl, HB.out⟩
end Go.Proofs.Ytpmbkncakbcmbaa
