/- The document's Take: the beginnings. -/
import Derived.Test.YtnonboegnbnepaaLkRo
namespace Go.Proofs.Ytnonboegnbnepaa
set_option linter.unusedVariables false
open Go.RowKit
set_option linter.unusedVariables false

theorem Lx.cellsT {w : World} {n : Nat} {s : St} {T : Nat → Prop} (h : Lx true w n s T) : w.cell? ⟨n, 0, none⟩ = some (.int .i64 s.inc) ∧ w.cell? ⟨n, 1, none⟩ = some (.int .i64 s.peer) ∧ w.cell? ⟨n, 3, none⟩ = some (.int .i64 s.acked) ∧ w.cell? ⟨n, 4, none⟩ = some (.int .i64 s.got) ∧ ∀ i, w.frozen? ⟨n, i, none⟩ = false := by
  obtain ⟨v, L, h1, h2, h3⟩ := h
  obtain ⟨c0, c1, c2, c3, c4⟩ := h1.cellsT
  exact ⟨c0, c1, c3, c4, h1.frozen⟩
/- What Take leaves. -/
def TakeEndT (w : World) (n : Nat) (r : Tk) (T : Nat → Prop) (e : Ending) (w' : World) : Prop :=
  ∃ A C, e = .returned (tkV r A C) ∧ w'.ownsRow w.heap.size 5 1 (.slice A r.load.length C) r.load.length (bv r.load) ∧ (∀ g, blk (.slice A r.load.length C) = some g → w.heap.size ≤ g) ∧ Lx true w' n r.st (fun g => T g ∨ blk (.slice A r.load.length C) = some g) ∧ Kp T w w'
theorem take_noneT {w w' : World} {n : Nat} {s : St} {b : Bool} {T : Nat → Prop} (h : Lx true w' n s T) (hk : Kp T w w') : TakeEndT w n ⟨[], false, b, s⟩ T (.returned (.tuple #[.slice none 0 0, .bool false, .bool b])) w' :=
  ⟨none, 0, rfl, World.ownsRow_nil _ _ _ _, fun g hg => (by cases hg), by
    obtain ⟨v, L, h1, h2, h3⟩ := h
    exact ⟨v, L, h1, fun g hg => hg.elim (h2 g) (fun e => by cases e), fun g hg => hg.elim (h3 g) (fun e => by cases e)⟩, hk⟩
/- The program behind 'p.To != l.inc'. -/
theorem take_someT {w w2 w' : World} {n : Nat} {s : St} {b : Bool} {l : List UInt8} {A : Option Addr} {C : Nat} {T : Nat → Prop} (h : Lx true w2 n s T) (hk : Kp T w w2) (ho : w'.ownsRow w2.heap.size 5 1 (.slice A l.length C) l.length (bv l)) (hB : Below w2.heap.size w2 w') (hlt : w.heap.size ≤ w2.heap.size) :
    TakeEndT w n ⟨l, true, b, s⟩ T (.returned (.tuple #[.slice A l.length C, .bool true, .bool b])) w' :=
  ⟨A, C, rfl, owns_lowT ho hlt, fun g hg => (by obtain ⟨_, _, q⟩ := owns_blockT ho hg; omega), by
    refine (h.more hB).fewer fun g hg => hg.elim .inl (fun e => ?_)
    obtain ⟨_, q, q2⟩ := owns_blockT ho e
    exact .inr ⟨q2, heap_lt q⟩, hk.trans (Kp.of_below hB)⟩
set_option maxRecDepth 100000 in
set_option maxHeartbeats 2000000 in
theorem rtake_lo {w : World} {n : Nat} {s : St} {T : Nat → Prop} (h : Lx true w n s T) (p : Pkt) {A : Option Addr} {C : Nat} (hx : Bs w (.slice A p.load.length C) p.load) (hT : ∀ g, bk (.slice A p.load.length C) = some g → T g)
    (hf : i64 p.fr) (hl : p.load.length ≤ 140737488355328) (ha : s.acked < 4611686018427387904) (hg : s.got < 4611686018427387904) (h0 : p.fr < 1) :
    Calls Try.prog 18 #[.pointer (some ⟨n, 0, none⟩), pkV p A C] w fun e w' => TakeEndT w n (takeR s p) T e w' := by
  obtain ⟨c0, c1, c2, c3, fz⟩ := h.cellsT
  have hfit := h.fit
  have hi := hfit.1
  obtain ⟨bx, hbx⟩ : ∃ bx, bx = w.heap.size := ⟨_, rfl⟩
  have HW : Hid (∀ q, ∃ W, W = (w.alloc (.cells #[.int .i64 p.fr, .int .i64 p.to, .int .i64 p.seq, .int .i64 p.ack, .slice A p.load.length C] 32)).drewN q ∧ Below w.heap.size w W ∧ Lx true W n s (fun g => T g ∨ (w.heap.size ≤ g ∧ g < W.heap.size)) ∧ W.heap[bx]? = some (.cells #[.int .i64 p.fr, .int .i64 p.to, .int .i64 p.seq, .int .i64 p.ack, .slice A p.load.length C] 32 (0, 0))) := by
    intro q
    have hb : Below w.heap.size w ((w.alloc (.cells #[.int .i64 p.fr, .int .i64 p.to, .int .i64 p.seq, .int .i64 p.ack, .slice A p.load.length C] 32)).drewN q) := below_drewN (below1 _ _) q
    exact ⟨_, rfl, hb, h.more hb, by rw [hbx]; cases q <;> exact heap_alloc_new w _⟩
  have hnl : n < w.heap.size := World.block_lt_of_cell? w _ c0
  unfold pkV
  have hr : takeR s p = ⟨[], false, false, s⟩ := if_pos (.inl h0)
  rw [hr]
  clear hr hx hT
  go_enter Try.func18, Try.ntmps18
  go_wp2_with fail
  go_quiet (fail)
  obtain ⟨W, hW, hb, hLW, _⟩ := HW.out nq
  have HE := take_noneT (b := false) (hLW.fewer fun g hg => .inl hg) (Kp.of_below hb)
  rw [← hW]
  clear hW hb hLW
  go_wp2_with fail
  go_ret3
  exact HE
set_option maxRecDepth 100000 in
set_option maxHeartbeats 2000000 in
theorem rtake_lo2 {w : World} {n : Nat} {s : St} {T : Nat → Prop} (h : Lx true w n s T) (p : Pkt) {A : Option Addr} {C : Nat} (hx : Bs w (.slice A p.load.length C) p.load) (hT : ∀ g, bk (.slice A p.load.length C) = some g → T g)
    (hf : i64 p.fr) (hl : p.load.length ≤ 140737488355328) (ha : s.acked < 4611686018427387904) (hg : s.got < 4611686018427387904) (h0 : ¬ p.fr < 1) (h1 : p.fr < s.peer) :
    Calls Try.prog 18 #[.pointer (some ⟨n, 0, none⟩), pkV p A C] w fun e w' => TakeEndT w n (takeR s p) T e w' := by
  obtain ⟨c0, c1, c2, c3, fz⟩ := h.cellsT
  have hfit := h.fit
  have hi := hfit.1
  obtain ⟨bx, hbx⟩ : ∃ bx, bx = w.heap.size := ⟨_, rfl⟩
  have HW : Hid (∀ q, ∃ W, W = (w.alloc (.cells #[.int .i64 p.fr, .int .i64 p.to, .int .i64 p.seq, .int .i64 p.ack, .slice A p.load.length C] 32)).drewN q ∧ Below w.heap.size w W ∧ Lx true W n s (fun g => T g ∨ (w.heap.size ≤ g ∧ g < W.heap.size)) ∧ W.heap[bx]? = some (.cells #[.int .i64 p.fr, .int .i64 p.to, .int .i64 p.seq, .int .i64 p.ack, .slice A p.load.length C] 32 (0, 0))) := by
    intro q
    have hb : Below w.heap.size w ((w.alloc (.cells #[.int .i64 p.fr, .int .i64 p.to, .int .i64 p.seq, .int .i64 p.ack, .slice A p.load.length C] 32)).drewN q) := below_drewN (below1 _ _) q
    exact ⟨_, rfl, hb, h.more hb, by rw [hbx]; cases q <;> exact heap_alloc_new w _⟩
  have hnl : n < w.heap.size := World.block_lt_of_cell? w _ c0
  unfold pkV
  have hr : takeR s p = ⟨[], false, false, s⟩ := if_pos (.inr h1)
  rw [hr]
  clear hr hx hT
  go_enter Try.func18, Try.ntmps18
  go_wp2_with fail
  go_quiet (fail)
  obtain ⟨W, hW, hb, hLW, _⟩ := HW.out nq
  have HE := take_noneT (b := false) (hLW.fewer fun g hg => .inl hg) (Kp.of_below hb)
  rw [← hW]
  clear hW hb hLW
  go_wp2_with fail
  go_ret3
  exact HE
/- A new peer, in memory: one was known. -/
theorem Lx.metT {w : World} {n : Nat} {s : St} {T : Nat → Prop} (h : Lx true w n s T) {fr : Int} (hf : 0 ≤ fr ∧ fr < 9223372036854775808) (hk : 0 < s.peer) :
    Lx true ((((w.setCell ⟨n, 2, none⟩ (.slice none 0 0)).setCell ⟨n, 1, none⟩ (.int .i64 fr)).setCell ⟨n, 3, none⟩ (.int .i64 0)).setCell ⟨n, 4, none⟩ (.int .i64 0)) n (metS s fr) T ∧
    Kp T w ((((w.setCell ⟨n, 2, none⟩ (.slice none 0 0)).setCell ⟨n, 1, none⟩ (.int .i64 fr)).setCell ⟨n, 3, none⟩ (.int .i64 0)).setCell ⟨n, 4, none⟩ (.int .i64 0)) := by
  obtain ⟨v, L, h1, h2, h3⟩ := h
  have hfit := h1.fit
  have k0 : ∀ (W : World) (i : Nat) (u : Value), Chg (fun g => g = n) W (W.setCell ⟨n, i, none⟩ u) := fun W i u => Chg.setCell W ⟨n, i, none⟩ u rfl
  have h4 := heap_set h1.rawT 2 (.slice none 0 0)
  have h5 := heap_set h4 1 (.int .i64 fr)
  have h6 := heap_set h5 3 (.int .i64 0)
  have h7 := heap_set h6 4 (.int .i64 0)
  have hm : metS s fr = ⟨s.inc, fr, 0, 0, []⟩ := if_pos hk
  rw [hm]
  exact Lx.of_next h2 h3 ⟨h7, Ro.nil _ _, fun x hx => (by cases hx), rfl, hfit.1, hf, ⟨by simp, by simp⟩, by simp, by simp⟩ (((((k0 _ 2 _).trans (k0 _ 1 _)).trans (k0 _ 3 _)).trans (k0 _ 4 _)).weak fun g _ e => .inl e) (fun g e => .inl (.inl (sx_nil e)))
/- None was known. -/
theorem Lx.metT0 {w : World} {n : Nat} {s : St} {T : Nat → Prop} (h : Lx true w n s T) {fr : Int} (hf : 0 ≤ fr ∧ fr < 9223372036854775808) (hk : ¬ 0 < s.peer) :
    Lx true (((w.setCell ⟨n, 1, none⟩ (.int .i64 fr)).setCell ⟨n, 3, none⟩ (.int .i64 0)).setCell ⟨n, 4, none⟩ (.int .i64 0)) n (metS s fr) T ∧
    Kp T w (((w.setCell ⟨n, 1, none⟩ (.int .i64 fr)).setCell ⟨n, 3, none⟩ (.int .i64 0)).setCell ⟨n, 4, none⟩ (.int .i64 0)) := by
  obtain ⟨v, L, h1, h2, h3⟩ := h
  have hfit := h1.fit
  have k0 : ∀ (W : World) (i : Nat) (u : Value), Chg (fun g => g = n) W (W.setCell ⟨n, i, none⟩ u) := fun W i u => Chg.setCell W ⟨n, i, none⟩ u rfl
  have h5 := heap_set h1.rawT 1 (.int .i64 fr)
  have h6 := heap_set h5 3 (.int .i64 0)
  have h7 := heap_set h6 4 (.int .i64 0)
  have hm : metS s fr = ⟨s.inc, fr, 0, 0, s.loads⟩ := if_neg hk
  rw [hm]
  have hc := ((k0 w 1 (.int .i64 fr)).trans (k0 _ 3 (.int .i64 0))).trans (k0 _ 4 (.int .i64 0))
  exact Lx.of_next h2 h3 ⟨h7, h1.row.keep hc (fun k hk e => (h1.row_ne hk).1 e), fun x hx => owns_keepT (h1.els x hx) hc (fun k hk e => h1.els_ne x hx (by rw [hk, e])), h1.loads, hfit.1, hf, ⟨by simp, by simp⟩, hfit.2.2.2⟩ (hc.weak fun g _ e => .inl e) (fun g e => .inl e)
/- The row of a link's loads, and the first one off by cutting. -/
theorem Lx.rowT {w : World} {n : Nat} {s : St} {T : Nat → Prop} (h : Lx true w n s T) : ∃ A C, w.cell? ⟨n, 2, none⟩ = some (.slice A s.loads.length C) := by
  obtain ⟨v, L, h1, h2, h3⟩ := h
  have hlen := h1.len
  obtain ⟨A, C, hv⟩ := h1.row.form
  simp only [List.length_map, hlen] at hv
  exact ⟨A, C, by rw [← hv]; exact h1.cellsT.2.2.1⟩
theorem Lx.cutT {w : World} {n : Nat} {s : St} {T : Nat → Prop} (h : Lx true w n s T) (h0 : 0 < s.loads.length) (a : Int) (ha : 0 ≤ a) :
    ∃ g o C, w.cell? ⟨n, 2, none⟩ = some (.slice (some ⟨g, o, none⟩) s.loads.length C) ∧ s.loads.length ≤ C ∧ C ≤ maxLen ∧ ∀ o' C', (C = 1 ∧ o' = o ∧ C' = 0) ∨ (C ≠ 1 ∧ o' = o + 1 ∧ C' = C - 1) →
      (Lx true ((w.setCell ⟨n, 2, none⟩ (.slice (some ⟨g, o', none⟩) (s.loads.length - 1) C')).setCell ⟨n, 3, none⟩ (.int .i64 a)) n { s with acked := a, loads := s.loads.drop 1 } T ∧
       Kp T w ((w.setCell ⟨n, 2, none⟩ (.slice (some ⟨g, o', none⟩) (s.loads.length - 1) C')).setCell ⟨n, 3, none⟩ (.int .i64 a))) := by
  obtain ⟨v, L, h1, h2, h3⟩ := h
  have hlen := h1.len
  have hfit := h1.fit
  cases L with
  | nil => simp at hlen; omega
  | cons x L =>
    obtain ⟨A, C, rfl⟩ := h1.row.form
    obtain ⟨g, o, rfl, hn, hC, hR⟩ := Ro.tail (x := x.2) (xs := L.map Prod.snd) h1.row
    obtain ⟨cur, hcur⟩ := h1.row.block (k := g) rfl
    have hle : (x :: L).length ≤ C ∧ C ≤ maxLen := by
      rcases h1.row with ⟨_, q⟩ | ⟨g', o', cap, cur, q, _, q1, q2, _⟩
      · cases q
      · cases q; simp only [List.length_map] at q1; exact ⟨q1, q2⟩
    have hoc : o + C ≤ cur.size := by
      rcases h1.row with ⟨_, q⟩ | ⟨g', o', cap, cur', q, q0, q1, q2, q3, _⟩
      · cases q
      · cases q; rw [hcur] at q0; cases q0; exact q3
    simp only [List.length_map] at hR
    have hll : s.loads.length - 1 = L.length := by rw [← hlen]; simp
    have hl : s.loads.drop 1 = L.map Prod.fst := by rw [← h1.loads]; rfl
    have hcell := h1.cellsT.2.2.1
    simp only [List.length_map, hlen] at hcell
    rw [hll]
    refine ⟨g, o, C, hcell, by rw [← hlen]; exact hle.1, hle.2, fun o' C' hoC => ?_⟩
    have hR' : Ro w 30 (.slice (some ⟨g, o', none⟩) L.length C') (L.map Prod.snd) := by
      rcases hoC with ⟨rfl, rfl, rfl⟩ | ⟨_, rfl, rfl⟩
      · have hL0 : L = [] := List.length_eq_zero_iff.1 (by have := hle.1; simp at this; omega)
        subst hL0
        exact .inr ⟨g, o', 0, cur, rfl, hcur, Nat.le_refl _, Nat.zero_le _, by omega, fun j hj => by simp at hj⟩
      · exact hR
    have k0 : ∀ (W : World) (i : Nat) (u : Value), Chg (fun g => g = n) W (W.setCell ⟨n, i, none⟩ u) := fun W i u => Chg.setCell W ⟨n, i, none⟩ u rfl
    have hc := (k0 w 2 (.slice (some ⟨g, o', none⟩) L.length C')).trans (k0 _ 3 (.int .i64 a))
    have h5 := heap_set h1.rawT 2 (.slice (some ⟨g, o', none⟩) L.length C')
    have h6 := heap_set h5 3 (.int .i64 a)
    have hgn : g ≠ n := (h1.row_ne (show blk (.slice (some ⟨g, o, none⟩) _ C) = some g from rfl)).1
    refine Lx.of_next h2 h3 (v' := .slice (some ⟨g, o', none⟩) L.length C') (L' := L) ⟨h6, hR'.keep hc (fun k hk e => hgn (by cases hk; exact e)), fun y hy => owns_keepT (h1.els y (.tail _ hy)) hc (fun k hk e => h1.els_ne y (.tail _ hy) (by rw [hk, e])), hl.symm, hfit.1, hfit.2.1, ⟨ha, hfit.2.2.1.2⟩, ?_, fun y hy => hfit.2.2.2.2 y (List.mem_of_mem_drop hy)⟩ (hc.weak fun g _ e => .inl e) ?_
    · have := hfit.2.2.2.1; simp; omega
    · rintro k (e | e | ⟨y, hy, e⟩)
      · exact .inl (.inl e)
      · exact .inl (.inr (.inl (by cases e; rfl)))
      · exact .inl (.inr (.inr ⟨y, .tail _ hy, e⟩))
theorem Lx.getsT {w : World} {n : Nat} {s : St} {T : Nat → Prop} (h : Lx true w n s T) : Lx true (w.setCell ⟨n, 4, none⟩ (.int .i64 (s.got + 1))) n { s with got := s.got + 1 } T ∧ Kp T w (w.setCell ⟨n, 4, none⟩ (.int .i64 (s.got + 1))) := by
  obtain ⟨v, L, h1, h2, h3⟩ := h
  have hfit := h1.fit
  have hc : Chg (fun g => g = n) w (w.setCell ⟨n, 4, none⟩ (.int .i64 (s.got + 1))) := Chg.setCell w ⟨n, 4, none⟩ _ rfl
  exact Lx.of_next h2 h3 ⟨heap_set h1.rawT 4 _, h1.row.keep hc (fun k hk e => (h1.row_ne hk).1 e), fun x hx => owns_keepT (h1.els x hx) hc (fun k hk e => h1.els_ne x hx (by rw [hk, e])), h1.loads, hfit.1, hfit.2.1, ⟨hfit.2.2.1.1, Int.add_nonneg hfit.2.2.1.2 (by decide)⟩, hfit.2.2.2⟩ (hc.weak fun g _ e => .inl e) (fun g e => .inl e)
end Go.Proofs.Ytnonboegnbnepaa
