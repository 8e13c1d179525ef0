/- Both links, and the steps that are done to them. -/
import Derived.Test.YtnonboegnbnepaaLkRu
import Derived.Test.YtnonboegnbnepaaLkOv
namespace Go.Proofs.Ytnonboegnbnepaa
set_option linter.unusedVariables false
open Go.RowKit
set_option linter.unusedVariables false

/- A step. -/
structure Dd where
  kind : Int
  load : List UInt8
  p : Pkt
  inc : Int
def Dd.ok (x : Dd) : Prop := i64 x.kind ∧ i64 x.p.fr ∧ i64 x.inc
def Dds (w : World) (v : Value) (l : List Dd) : Prop :=
  ∃ A C, v = .slice A l.length C ∧ (∀ x ∈ l, x.ok) ∧ ∀ j (h : j < l.length), ∃ g o A1 C1 A2 C2, A = some ⟨g, o, none⟩ ∧ w.cell? ⟨g, o + j * 8, none⟩ = some (.int .i64 (l[j]'h).kind) ∧ w.cell? ⟨g, o + j * 8 + 1, none⟩ = some (.slice A1 (l[j]'h).load.length C1) ∧ w.cell? ⟨g, o + j * 8 + 2, none⟩ = some (.int .i64 (l[j]'h).p.fr) ∧
    w.cell? ⟨g, o + j * 8 + 3, none⟩ = some (.int .i64 (l[j]'h).p.to) ∧ w.cell? ⟨g, o + j * 8 + 4, none⟩ = some (.int .i64 (l[j]'h).p.seq) ∧ w.cell? ⟨g, o + j * 8 + 5, none⟩ = some (.int .i64 (l[j]'h).p.ack) ∧ w.cell? ⟨g, o + j * 8 + 6, none⟩ = some (.slice A2 (l[j]'h).p.load.length C2) ∧ w.cell? ⟨g, o + j * 8 + 7, none⟩ = some (.int .i64 (l[j]'h).inc) ∧
    Bs w (.slice A1 (l[j]'h).load.length C1) (l[j]'h).load ∧ Bs w (.slice A2 (l[j]'h).p.load.length C2) (l[j]'h).p.load
theorem Dds.at {w : World} {A : Option Addr} {n C : Nat} {l : List Dd} (h : Dds w (.slice A n C) l) (j : Nat) (hj : j < l.length) : (l[j]'hj).ok ∧ ∃ g o A1 C1 A2 C2, A = some ⟨g, o, none⟩ ∧ w.cell? ⟨g, o + j * 8, none⟩ = some (.int .i64 (l[j]'hj).kind) ∧ w.cell? ⟨g, o + j * 8 + 1, none⟩ = some (.slice A1 (l[j]'hj).load.length C1) ∧ w.cell? ⟨g, o + j * 8 + 2, none⟩ = some (.int .i64 (l[j]'hj).p.fr) ∧
    w.cell? ⟨g, o + j * 8 + 3, none⟩ = some (.int .i64 (l[j]'hj).p.to) ∧ w.cell? ⟨g, o + j * 8 + 4, none⟩ = some (.int .i64 (l[j]'hj).p.seq) ∧ w.cell? ⟨g, o + j * 8 + 5, none⟩ = some (.int .i64 (l[j]'hj).p.ack) ∧ w.cell? ⟨g, o + j * 8 + 6, none⟩ = some (.slice A2 (l[j]'hj).p.load.length C2) ∧ w.cell? ⟨g, o + j * 8 + 7, none⟩ = some (.int .i64 (l[j]'hj).inc) ∧
    Bs w (.slice A1 (l[j]'hj).load.length C1) (l[j]'hj).load ∧ Bs w (.slice A2 (l[j]'hj).p.load.length C2) (l[j]'hj).p.load := by
  obtain ⟨A', C', e, h1, h⟩ := h
  injection e with e
  subst e
  exact ⟨h1 _ (List.getElem_mem hj), h j hj⟩
/- The program's link a and the document's link r, alike, above the world w. -/
structure TDw (w W : World) (a r : Nat) (s : St) (A B : Nat → Prop) : Prop where
  la : Lo false W a s A
  lb : Lo true W r s B
  ap : ∀ g, A g → ¬ B g
  lo : ∀ g, A g ∨ B g → w.heap.size ≤ g
  bel : Below w.heap.size w W
def TD (w W : World) (a r : Nat) (s : St) : Prop := ∃ A B, TDw w W a r s A B
theorem TD.below {w W W' : World} {a r : Nat} {s : St} (h : TD w W a r s) (hb : Below W.heap.size W W') : TD w W' a r s := by
  obtain ⟨A, B, h1, h2, h3, h4, h5⟩ := h
  exact ⟨A, B, h1.below hb, h2.below hb, h3, h4, h5.trans (hb.mono h5.size)⟩
theorem TD.bel {w W : World} {a r : Nat} {s : St} (h : TD w W a r s) : Below w.heap.size w W := by obtain ⟨A, B, h⟩ := h; exact h.bel
theorem TD.start {w w1 w2 : World} {a b : Nat} {s : St} (h1 : Lo false w1 a s (Nw w w1)) (b1 : Below w.heap.size w w1) (h2 : Lo true w2 b s (Nw w1 w2)) (b2 : Below w1.heap.size w1 w2) : TD w w2 a b s :=
  ⟨_, _, h1.below b2, h2, fun g ha hb => by have := ha.2; have := hb.1; omega, fun g hg => hg.elim (fun e => e.1) (fun e => Nat.le_trans b1.size e.1), b1.trans (b2.mono b1.size)⟩
/- What neither link may touch: all that lies between W and V, and below w. -/
def Apt (w W V : World) (g : Nat) : Prop := g < w.heap.size ∨ (W.heap.size ≤ g ∧ g < V.heap.size)
/- Both do one thing, one behind the other; blocks that were laid since W stay. -/
theorem td_both {w W V V1 V2 : World} {a r : Nat} {s s' : St} {A B A' B' : Nat → Prop} (h : TDw w W a r s A B) (hV : Below W.heap.size W V) (ha : Lo false V1 a s' A') (ca : Chg A V V1) (hA : ∀ g, A' g → A g ∨ V.heap.size ≤ g) (hb : Lo true V2 r s' B') (cb : Chg B V1 V2) (hB : ∀ g, B' g → B g ∨ V1.heap.size ≤ g) :
    TD w V2 a r s' ∧ (∀ g, Apt w W V g → V2.heap[g]? = V.heap[g]?) ∧ Below w.heap.size w V2 := by
  have b1 : Below w.heap.size w V1 := (h.bel.trans (hV.mono h.bel.size)).trans (ca.below (fun g hg => h.lo g (.inl hg)) (h.bel.trans (hV.mono h.bel.size)).size)
  have b2 : Below w.heap.size w V2 := b1.trans (cb.below (fun g hg => h.lo g (.inr hg)) b1.size)
  refine ⟨⟨A', B', ha.keep cb (fun g hb' ha' => ?_), hb, fun g ha' hb' => ?_, fun g hg => ?_, b2⟩, fun g hg => ?_, b2⟩
  · rcases hA g ha' with q | q
    · exact h.ap g q hb'
    · have := h.lb.lt g hb'; have := hV.size; omega
  · have hlt := ha.lt g ha'
    rcases hB g hb' with q | q
    · rcases hA g ha' with q' | q'
      · exact h.ap g q' q
      · have := h.lb.lt g q; have := hV.size; omega
    · omega
  · rcases hg with hg | hg
    · rcases hA g hg with q | q
      · exact h.lo g (.inl q)
      · have := hV.size; have := h.bel.size; omega
    · rcases hB g hg with q | q
      · exact h.lo g (.inr q)
      · have := ca.size; have := hV.size; have := h.bel.size; omega
  · rcases hg with hg | hg
    · have k1 := ca.block g (by have := hV.size; have := h.bel.size; omega) (fun e => by have := h.lo g (.inl e); omega)
      have k2 := cb.block g (by have := ca.size; have := hV.size; have := h.bel.size; omega) (fun e => by have := h.lo g (.inr e); omega)
      rw [k2, k1]
    · have k1 := ca.block g hg.2 (fun e => by have := h.la.lt g e; omega)
      have k2 := cb.block g (ca.lt_of hg.2) (fun e => by have := h.lb.lt g e; omega)
      rw [k2, k1]
theorem td_send {w W V : World} {a r : Nat} {s : St} (h : TD w W a r s) (hV : Below W.heap.size W V) {g0 : Nat} {b : List UInt8} (hL : LB.Lent V g0 b) (hg : W.heap.size ≤ g0) {x : Value} (hx : ∀ U, Below w.heap.size w U → Bs U x b) :
    Calls Try.prog 12 #[.pointer (some ⟨a, 0, none⟩), .slice (some ⟨g0, 0, none⟩) b.length (b.length + 12)] V fun e V1 => e = .returned (.int .i64 (sendE s b)) ∧ Below w.heap.size w V1 ∧
      Hid (Calls Try.prog 13 #[.pointer (some ⟨r, 0, none⟩), x] V1 fun e V2 => e = .returned (.int .i64 (sendE s b)) ∧ Below w.heap.size w V2 ∧ Hid (LB.Lent V2 g0 b ∧ ∃ A' B', TDw w V2 a r (sendS s b) A' B' ∧ ¬ A' g0 ∧ ¬ B' g0)) := by
  obtain ⟨A, B, h⟩ := h
  have hbV := h.bel.trans (hV.mono h.bel.size)
  have hlt := Lent.lt hL
  refine (send_lo (h.la.below hV) hL.bs).mono ?_
  rintro e V1 ⟨rfl, hl, hc⟩
  have b1 : Below w.heap.size w V1 := hbV.trans (hc.below (fun g hg => h.lo g (.inl hg)) hbV.size)
  refine ⟨rfl, b1, ?_⟩
  refine (rsend_lo ((h.lb.below hV).keep hc h.ap) (hx V1 b1)).mono ?_
  rintro e V2 ⟨rfl, hl2, hc2⟩
  obtain ⟨⟨A', B', q⟩, q2, q3⟩ := td_both h hV hl hc (fun g hg => hg.elim .inl (fun e => .inr e.1)) hl2 hc2 (fun g hg => hg.elim .inl (fun e => .inr e.1))
  refine ⟨rfl, q3, ?_, fun g => A g ∨ Nw V V1 g, fun g => B g ∨ Nw V1 V2 g, ?_, ?_, ?_⟩
  · unfold LB.Lent at *; rw [q2 g0 (.inr ⟨hg, hlt⟩)]; exact hL
  · obtain ⟨_, _, q⟩ := td_both h hV hl hc (fun g hg => hg.elim .inl (fun e => .inr e.1)) hl2 hc2 (fun g hg => hg.elim .inl (fun e => .inr e.1))
    refine ⟨hl.keep hc2 (fun g hb' ha' => ?_), hl2, fun g ha' hb' => ?_, fun g hg => ?_, q3⟩
    · rcases ha' with q | q
      · exact h.ap g q hb'
      · have := h.lb.lt g hb'; have := hV.size; have := q.1; omega
    · rcases hb' with q | q
      · rcases ha' with q' | q'
        · exact h.ap g q' q
        · have := h.lb.lt g q; have := hV.size; have := q'.1; omega
      · have := hl.lt g ha'; have := q.1; omega
    · have s1 := hbV.size
      have s2 := b1.size
      rcases hg with (q | q) | (q | q)
      · exact h.lo g (.inl q)
      · exact Nat.le_trans s1 q.1
      · exact h.lo g (.inr q)
      · exact Nat.le_trans s2 q.1
  · rintro (e | e)
    · have := h.la.lt g0 e; omega
    · have := e.1; omega
  · rintro (e | e)
    · have := h.lb.lt g0 e; omega
    · have := e.1; have := hc.size; omega
theorem td_over {w V V' : World} {a r g0 : Nat} {s : St} (h : ∃ A B, TDw w V a r s A B ∧ ¬ A g0 ∧ ¬ B g0) (hc : Chg (One g0) V V') (hg : w.heap.size ≤ g0) : TD w V' a r s := by
  obtain ⟨A, B, ⟨h1, h2, h3, h4, h5⟩, n1, n2⟩ := h
  exact ⟨A, B, h1.keep hc (fun g e => by rw [e]; exact n1), h2.keep hc (fun g e => by rw [e]; exact n2), h3, h4, h5.trans (hc.below (fun k e => by rw [e]; exact hg) h5.size)⟩
theorem td_reset {w W : World} {a r : Nat} {s : St} (h : TD w W a r s) (inc : Int) :
    Calls Try.prog 21 #[.pointer (some ⟨a, 0, none⟩), .int .i64 inc] W fun e V1 => e = .returned (.tuple #[]) ∧ Below w.heap.size w V1 ∧
      Hid (Calls Try.prog 22 #[.pointer (some ⟨r, 0, none⟩), .int .i64 inc] V1 fun e V2 => e = .returned (.tuple #[]) ∧ Hid (TD w V2 a r (resetS s inc))) := by
  obtain ⟨A, B, h⟩ := h
  refine (reset_lo h.la inc).mono ?_
  rintro e V1 ⟨rfl, hl, hc⟩
  refine ⟨rfl, h.bel.trans (hc.below (fun g hg => h.lo g (.inl hg)) h.bel.size), ?_⟩
  refine (rreset_lo (h.lb.keep hc h.ap) inc).mono ?_
  rintro e V2 ⟨rfl, hl2, hc2⟩
  exact ⟨rfl, (td_both h (Below.refl _ _) hl hc (fun g hg => hg.elim .inl (fun e => .inr e.1)) hl2 hc2 (fun g hg => hg.elim .inl (fun e => .inr e.1))).1⟩
theorem td_take {w W V : World} {a r : Nat} {s : St} (h : TD w W a r s) (hV : Below W.heap.size W V) {g0 : Nat} {p : Pkt} (hL : LB.Lent V g0 p.load) (hg : W.heap.size ≤ g0) {X : Option Addr} {C : Nat} (hx : ∀ U, Below w.heap.size w U → Bs U (.slice X p.load.length C) p.load) (hxl : ∀ k, bk (.slice X p.load.length C) = some k → k < w.heap.size)
    (hf : i64 p.fr) (hl : p.load.length ≤ 140737488355328) (ha : s.acked < 4611686018427387904) (hgt : s.got < 4611686018427387904) {t : Tk} (ht : takeR s p = t) :
    Calls Try.prog 17 #[.pointer (some ⟨a, 0, none⟩), pkV p (some ⟨g0, 0, none⟩) (p.load.length + 12)] V fun e V1 => ∃ Y D, e = .returned (tkV t Y D) ∧ Below w.heap.size w V1 ∧
      Hid (Calls Try.prog 18 #[.pointer (some ⟨r, 0, none⟩), pkV p X C] V1 fun e V2 => ∃ Z E, e = .returned (tkV t Z E) ∧ Below w.heap.size w V2 ∧ Hid (LB.Lent V2 g0 p.load ∧ Bs V2 (.slice Y t.load.length D) t.load ∧ Bs V2 (.slice Z t.load.length E) t.load ∧ TD w V2 a r t.st ∧ ∀ k, W.heap.size ≤ k → k < V.heap.size → V2.heap[k]? = V.heap[k]?)) := by
  subst ht
  obtain ⟨A, B, h⟩ := h
  have hbV := h.bel.trans (hV.mono h.bel.size)
  have hlt := Lent.lt hL
  refine (take_lo' (h.la.below hV) p hL.bs (fun k hk e => ?_) hf hl ha hgt).mono ?_
  · have := bk_blk hk
    cases this
    have := h.la.lt g0 e; omega
  rintro e V1 ⟨Y, D, rfl, ho1, hl1, hc⟩
  have b1 : Below w.heap.size w V1 := hbV.trans (hc.below (fun g hg => h.lo g (.inl hg)) hbV.size)
  refine ⟨Y, D, rfl, b1, ?_⟩
  refine (rtake_lo' ((h.lb.below hV).keep hc h.ap) p (hx V1 b1) (fun k hk e => ?_) hf hl ha hgt).mono ?_
  · have := h.lo k (.inr e); have := hxl k hk; omega
  rintro e V2 ⟨Z, E, rfl, ho2, hl2, hc2⟩
  have hb := td_both h hV hl1 hc (fun g hg => hg.elim .inl (fun e => .inr e.1.1)) hl2 hc2 (fun g hg => hg.elim .inl (fun e => .inr e.1.1))
  refine ⟨Z, E, rfl, hb.2.2, ?_, ?_, Bs.of_owns ho2, hb.1, fun k h1 h2 => hb.2.1 k (.inr ⟨h1, h2⟩)⟩
  · unfold LB.Lent at *; rw [hb.2.1 g0 (.inr ⟨hg, hlt⟩)]; exact hL
  · refine Bs.of_owns (owns_keepT ho1 hc2 (fun k hk e => ?_))
    have := h.lb.lt k e
    obtain ⟨_, _, q⟩ := owns_blockT ho1 hk
    have := hV.size
    omega
def RC (V : World) (r : Nat) (s : St) (v : Value) : Prop := V.cell? ⟨r, 1, none⟩ = some (.int .i64 s.peer) ∧ V.cell? ⟨r, 2, none⟩ = some v
theorem RC.below {V V' : World} {r : Nat} {s : St} {v : Value} (h : RC V r s v) (hb : Below V.heap.size V V') : RC V' r s v :=
  ⟨by rw [World.cell?_of_block (hb.block r (World.block_lt_of_cell? V _ h.1))]; exact h.1, by rw [World.cell?_of_block (hb.block r (World.block_lt_of_cell? V _ h.1))]; exact h.2⟩
theorem TD.rc {w W : World} {a r : Nat} {s : St} (h : TD w W a r s) : ∃ B E, RC W r s (.slice B s.loads.length E) := by
  obtain ⟨A, B, h⟩ := h
  obtain ⟨B', E, q⟩ := h.lb.1.rowT
  exact ⟨B', E, h.lb.1.cellsT.2.1, q⟩
theorem td_out {w W : World} {a r : Nat} {s : St} (h : TD w W a r s) (ha : s.acked < 4611686018427387904) {p : Pkt} (hp : outP s = p) {v : Value} (hv : RC W r s v) :
    Calls Try.prog 24 #[.pointer (some ⟨a, 0, none⟩)] W fun e V1 => ∃ X C, e = .returned (pkV p X C) ∧ RC V1 r s v ∧ Hid (Calls Try.prog 25 #[.pointer (some ⟨r, 0, none⟩)] V1 fun e V2 => ∃ Y D, e = .returned (pkV p Y D) ∧ RC V2 r s v ∧
      Hid (Calls Try.prog 23 #[pkV p X C, pkV p Y D] V2 fun e V3 => e = .returned (.bool true) ∧ RC V3 r s v ∧ Hid (TD w V3 a r s))) := by
  subst hp
  have hfit : (outP s).load.length ≤ 140737488355328 := by
    obtain ⟨A, B, h⟩ := h
    have hf := h.la.fit
    unfold outP
    split
    · cases hl : s.loads with
      | nil => simp
      | cons y ys => have := (hf.2.2.2.2 y (by rw [hl]; exact .head _)).2; simp; omega
    · simp
  have h0 := h
  obtain ⟨A, B, h⟩ := h
  refine (out_lo h.la ha).mono ?_
  rintro e V1 ⟨X, C, rfl, ho1, hB1⟩
  refine ⟨X, C, rfl, hv.below hB1, ?_⟩
  refine (rout_any (h.lb.below hB1).1 ha).mono ?_
  rintro e V2 ⟨Y, D, rfl, ho2, hB2⟩
  refine ⟨Y, D, rfl, (hv.below hB1).below hB2, ?_⟩
  refine (samePk_eq (Bs.of_owns (owns_keepT ho1 (Chg.of_below hB2) (fun _ _ => id))) (Bs.of_owns ho2) hfit).mono ?_
  rintro e V3 ⟨rfl, hB3⟩
  have hB : Below W.heap.size W V3 := (hB1.trans (hB2.mono hB1.size)).trans (hB3.mono (hB1.trans (hB2.mono hB1.size)).size)
  exact ⟨rfl, ((hv.below hB1).below hB2).below hB3, h0.below hB⟩
theorem td_wait {w W : World} {a r : Nat} {s : St} (h : TD w W a r s) : Calls Try.prog 26 #[.pointer (some ⟨a, 0, none⟩)] W fun e w' => e = .returned (.int .i64 s.loads.length) ∧ w' = W := by
  obtain ⟨A, B, h⟩ := h; exact wait_lo h.la
theorem td_known {w W : World} {a r : Nat} {s : St} (h : TD w W a r s) : Calls Try.prog 27 #[.pointer (some ⟨a, 0, none⟩)] W fun e w' => e = .returned (.bool (decide (0 < s.peer))) ∧ w' = W := by
  obtain ⟨A, B, h⟩ := h; exact known_lo h.la
theorem ackS_bound (s : St) (x : Int) (j : Int) (h : s.acked ≤ j) : (ackS s x).acked ≤ j + 1 := by unfold ackS; split <;> (try dsimp only) <;> omega
theorem takeK_bound (s : St) (p : Pkt) (b : Bool) (j : Int) (h1 : s.acked ≤ j) (h2 : s.got ≤ j) : (takeK s p b).st.acked ≤ j + 1 ∧ (takeK s p b).st.got ≤ j + 1 := by
  have a1 := ackS_bound s p.ack j h1
  have a2 := ackS_got s p.ack
  unfold takeK
  by_cases e1 : p.to ≠ s.inc
  · rw [if_pos e1]
    exact ⟨show s.acked ≤ j + 1 by omega, show s.got ≤ j + 1 by omega⟩
  · rw [if_neg e1]
    by_cases e2 : p.seq ≠ (ackS s p.ack).got + 1
    · rw [if_pos e2]
      exact ⟨a1, show (ackS s p.ack).got ≤ j + 1 by omega⟩
    · rw [if_neg e2]
      exact ⟨a1, by show (ackS s p.ack).got + 1 ≤ j + 1; omega⟩
theorem takeR_bound (s : St) (p : Pkt) (j : Int) (h0 : 0 ≤ j) (h1 : s.acked ≤ j) (h2 : s.got ≤ j) : (takeR s p).st.acked ≤ j + 1 ∧ (takeR s p).st.got ≤ j + 1 := by
  unfold takeR
  by_cases e1 : p.fr < 1 ∨ p.fr < s.peer
  · rw [if_pos e1]
    exact ⟨show s.acked ≤ j + 1 by omega, show s.got ≤ j + 1 by omega⟩
  · rw [if_neg e1]
    by_cases e2 : s.peer < p.fr
    · rw [if_pos e2]
      exact takeK_bound _ _ _ _ (by rw [metS_acked]; exact h0) (by rw [metS_got]; exact h0)
    · rw [if_neg e2]
      exact takeK_bound _ _ _ _ h1 h2
theorem sendS_same (s : St) (b : List UInt8) : (sendS s b).acked = s.acked ∧ (sendS s b).got = s.got := by unfold sendS; split <;> exact ⟨rfl, rfl⟩
theorem resetS_bound (s : St) (i j : Int) (h0 : 0 ≤ j) (h1 : s.acked ≤ j) (h2 : s.got ≤ j) : (resetS s i).acked ≤ j ∧ (resetS s i).got ≤ j := by
  unfold resetS
  split
  · exact ⟨show (0 : Int) ≤ j by omega, show (0 : Int) ≤ j by omega⟩
  · exact ⟨h1, h2⟩
end Go.Proofs.Ytnonboegnbnepaa
