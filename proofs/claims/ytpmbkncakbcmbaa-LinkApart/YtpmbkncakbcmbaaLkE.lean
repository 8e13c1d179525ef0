/- The walk of Take. -/
import Derived.Test.YtpmbkncakbcmbaaLkD
namespace Go.Proofs.Ytpmbkncakbcmbaa
set_option linter.unusedVariables false
open Go.RowKit
set_option linter.unusedVariables false

theorem Lk.raw {w : World} {n : Nat} {s : St} {v : Value} {L : List (List UInt8 × Value)} (h : Lk false w n s v L) : w.heap[n]? = some (.cells #[.int .i64 s.inc, .int .i64 s.peer, .int .i64 s.acked, .int .i64 s.got, v] 54 (0, 0)) := h.cell
set_option maxRecDepth 100000 in
theorem meet_any {w : World} {n : Nat} {s : St} {T : Nat → Prop} (h : Lx false w n s T) (fr : Int) (hf : 0 ≤ fr ∧ fr < 9223372036854775808) :
    Calls Try.prog 32 #[.pointer (some ⟨n, 0, none⟩), .int .i64 fr] w fun e w' => e = .returned (.bool (decide (0 < s.peer))) ∧ Lx false w' n (metS s fr) T ∧ Kp T w w' := by
  have hkn := known_any h
  obtain ⟨v, L, h1, h2, h3⟩ := h
  obtain ⟨c0, c1, c2, c3, c4⟩ := h1.cells
  have hfr := h1.frozen
  have HC : Hid (w.heap[n]? = some (.cells #[.int .i64 s.inc, .int .i64 s.peer, .int .i64 s.acked, .int .i64 s.got, v] 54 (0, 0))) := h1.raw
  have hfit := h1.fit
  have k0 : ∀ (W : World) (i : Nat) (u : Value), Chg (fun g => g = n) W (W.setCell ⟨n, i, none⟩ u) := fun W i u => Chg.setCell W ⟨n, i, none⟩ u rfl
  by_cases hk : 0 < s.peer
  · have hm : metS s fr = ⟨s.inc, fr, 0, 0, []⟩ := if_pos hk
    have HE : Hid (∀ w', w'.heap[n]? = some (box false ⟨s.inc, fr, 0, 0, []⟩ (.slice none 0 0)) → Chg (fun g => g = n) w w' → Lx false w' n ⟨s.inc, fr, 0, 0, []⟩ T ∧ Kp T w w') := by
      intro w' hw hc
      exact Lx.of_next h2 h3 ⟨hw, Ro.nil _ _, fun x hx => (by cases hx), rfl, hfit.1, hf, ⟨by simp, by simp⟩, by simp, by simp⟩ (hc.weak fun g _ e => .inl e) (fun g e => .inl (.inl (sx_nil e)))
    rw [decide_eq_true hk] at hkn ⊢
    rw [hm]
    obtain ⟨A, C, rfl⟩ := h1.row.form
    clear h1 h2 h3 hm hfit hf
    go_enter Try.func32, Try.ntmps32
    go_wp2_with fail
    refine hkn.mono ?_
    rintro e w1 ⟨rfl, rfl⟩
    go_wp2_with fail
    go_ret
    have h4 := heap_set HC.out 4 (.slice none 0 0)
    have h5 := heap_set h4 1 (.int .i64 fr)
    have h6 := heap_set h5 2 (.int .i64 0)
    have h7 := heap_set h6 3 (.int .i64 0)
    exact ⟨rfl, HE.out _ h7 ((((k0 _ 4 _).trans (k0 _ 1 _)).trans (k0 _ 2 _)).trans (k0 _ 3 _))⟩
  · have hm : metS s fr = ⟨s.inc, fr, 0, 0, s.loads⟩ := if_neg hk
    have HE : Hid (∀ w', w'.heap[n]? = some (box false ⟨s.inc, fr, 0, 0, s.loads⟩ v) → Chg (fun g => g = n) w w' → Lx false w' n ⟨s.inc, fr, 0, 0, s.loads⟩ T ∧ Kp T w w') := by
      intro w' hw hc
      exact Lx.of_next h2 h3 ⟨hw, h1.row.keep hc (fun k hk e => (h1.row_ne hk).1 e), fun x hx => owns_keepT (h1.els x hx) hc (fun k hk e => h1.els_ne x hx (by rw [hk, e])), h1.loads, hfit.1, hf, ⟨by simp, by simp⟩, hfit.2.2.2⟩ (hc.weak fun g _ e => .inl e) (fun g e => .inl e)
    rw [decide_eq_false hk] at hkn ⊢
    rw [hm]
    clear h1 h2 h3 hm hfit hf
    go_enter Try.func32, Try.ntmps32
    go_wp2_with fail
    refine hkn.mono ?_
    rintro e w1 ⟨rfl, rfl⟩
    go_wp2_with fail
    go_ret
    have h5 := heap_set HC.out 1 (.int .i64 fr)
    have h6 := heap_set h5 2 (.int .i64 0)
    have h7 := heap_set h6 3 (.int .i64 0)
    exact ⟨rfl, HE.out _ h7 (((k0 _ 1 _).trans (k0 _ 2 _)).trans (k0 _ 3 _))⟩
/- The first load off. -/
theorem Lk.del {w w6 : World} {n : Nat} {s : St} {A : Option Addr} {N C : Nat} {x : List UInt8 × Value} {L : List (List UInt8 × Value)} {T : Nat → Prop} (h : Lk false w n s (.slice A N C) (x :: L)) (h2 : ∀ g, T g → ¬ Sx n (.slice A N C) (x :: L) g) (h3 : ∀ g, T g → g < w.heap.size)
    (hR : Ro w6 30 (.slice A L.length C) (L.map Prod.snd)) (hc : Chg (fun g => blk (.slice A N C) = some g) w w6) (a : Int) (ha : 0 ≤ a) :
    w6.cell? ⟨n, 4, none⟩ = some (.slice A N C) ∧ w6.cell? ⟨n, 2, none⟩ = some (.int .i64 s.acked) ∧ (∀ i, w6.frozen? ⟨n, i, none⟩ = false) ∧
    (Lx false ((w6.setCell ⟨n, 4, none⟩ (.slice A L.length C)).setCell ⟨n, 2, none⟩ (.int .i64 a)) n { s with acked := a, loads := s.loads.drop 1 } T ∧ Kp T w ((w6.setCell ⟨n, 4, none⟩ (.slice A L.length C)).setCell ⟨n, 2, none⟩ (.int .i64 a))) := by
  have hne : ∀ g, blk (.slice A N C) = some g → g ≠ n := fun g hg => (h.row_ne hg).1
  have hbx : w6.heap[n]? = some (box false s (.slice A N C)) := by rw [hc.block n (heap_lt h.cell) (fun e => hne n e rfl)]; exact h.cell
  have hl : s.loads.drop 1 = L.map Prod.fst := by rw [← h.loads]; rfl
  have hfit := h.fit
  have c1 : Chg (fun g => g = n) w6 ((w6.setCell ⟨n, 4, none⟩ (.slice A L.length C)).setCell ⟨n, 2, none⟩ (.int .i64 a)) := (Chg.setCell (S := fun g => g = n) w6 ⟨n, 4, none⟩ _ rfl).trans (Chg.setCell _ ⟨n, 2, none⟩ _ rfl)
  have hcs : Chg (fun g => blk (.slice A N C) = some g ∨ g = n) w ((w6.setCell ⟨n, 4, none⟩ (.slice A L.length C)).setCell ⟨n, 2, none⟩ (.int .i64 a)) := (hc.weak fun _ _ e => .inl e).trans (c1.weak fun _ _ e => .inr e)
  refine ⟨cell_at hbx 4, cell_at hbx 2, fun i => frozen_at hbx i, ?_⟩
  have hk : Lk false ((w6.setCell ⟨n, 4, none⟩ (.slice A L.length C)).setCell ⟨n, 2, none⟩ (.int .i64 a)) n { s with acked := a, loads := s.loads.drop 1 } (.slice A L.length C) L := by
    refine ⟨heap_set (heap_set hbx 4 _) 2 _, ?_, fun y hy => ?_, hl.symm, ⟨hfit.1, hfit.2.1, ⟨ha, hfit.2.2.1.2⟩, ?_, fun y hy => hfit.2.2.2.2 y (List.mem_of_mem_drop hy)⟩⟩
    · refine hR.keep c1 (fun k hk e => ?_)
      obtain ⟨cur, q⟩ := hR.block hk
      rw [e, hbx] at q; cases q
    · exact owns_keepT (h.els y (.tail _ hy)) hcs (fun k hk e => e.elim (fun e => (h.row_ne e).2 y (.tail _ hy) hk) (fun e => h.els_ne y (.tail _ hy) (by rw [hk, e])))
    · have := hfit.2.2.2.1; simp; omega
  refine Lx.of_next h2 h3 hk (hcs.weak fun g _ e => e.elim (fun e => .inr (.inl e)) (fun e => .inl e)) ?_
  rintro g (e | e | ⟨y, hy, e⟩)
  · exact .inl (.inl e)
  · exact .inl (.inr (.inl (by cases A <;> exact e)))
  · exact .inl (.inr (.inr ⟨y, .tail _ hy, e⟩))
set_option maxRecDepth 100000 in
theorem ack_any {w : World} {n : Nat} {s : St} {T : Nat → Prop} (h : Lx false w n s T) (ack : Int) (ha : s.acked < 4611686018427387904) :
    Calls Try.prog 33 #[.pointer (some ⟨n, 0, none⟩), .int .i64 ack] w fun e w' => e = .returned (.tuple #[]) ∧ Lx false w' n (ackS s ack) T ∧ Kp T w w' := by
  have hF := h
  obtain ⟨v, L, h1, h2, h3⟩ := h
  obtain ⟨c0, c1, c2, c3, c4⟩ := h1.cells
  have hfit := h1.fit
  have hlen := h1.len
  have hwr : IntKind.i64.wrap (s.acked + 1) = s.acked + 1 := Go.IntWalk.i64_in _ (by have := hfit.2.2.1.1; omega)
  obtain ⟨A, C, rfl⟩ := h1.row.form
  by_cases hk : ack = s.acked + 1 ∧ 0 < s.loads.length
  · have hm : ackS s ack = { s with acked := s.acked + 1, loads := s.loads.drop 1 } := if_pos hk
    rw [hm]
    obtain ⟨rfl, hn⟩ := hk
    cases L with
    | nil => simp at hlen; omega
    | cons x L =>
      have hs : ∀ u ∈ x.2 :: L.map Prod.snd, ∃ A n C, u = Value.slice A n C := by
        intro u hu
        have hu' : u ∈ (x :: L).map Prod.snd := hu
        obtain ⟨y, hy, rfl⟩ := List.mem_map.1 hu'
        obtain ⟨A, C, e⟩ := owns_formT (h1.els y hy)
        exact ⟨_, _, _, e⟩
      have hln : L.length ≤ 1000 := by have := hfit.2.2.2.1; simp at hlen; omega
      have hdel := Ro.del h1.row hs (by simp; omega)
      have HD : Hid (∀ (w6 : World), Ro w6 30 (.slice A L.length C) (L.map Prod.snd) → Chg (fun g => blk (.slice A ((x :: L).map Prod.snd).length C) = some g) w w6 → _) := fun w6 hR hc =>
        Lk.del h1 h2 h3 hR hc (s.acked + 1) (by have := hfit.2.2.1.1; omega)
      simp only [List.length_map, List.length_cons] at hdel HD c4
      clear hF h1 h2 h3 hlen hm hs hfit
      go_enter Try.func33, Try.ntmps33
      go_wp2_with fail
      refine hdel.mono ?_
      rintro e w6 ⟨rfl, hR, hc⟩
      obtain ⟨d4, d2, fr, hE⟩ := HD.out w6 hR hc
      have HE : Hid _ := hE
      clear hdel HD hR hc hE
      go_wp2_with fail
      go_end0
      exact ⟨rfl, HE.out⟩
  · have hm : ackS s ack = s := if_neg hk
    rw [hm]
    have HF : Hid (Lx false w n s T) := hF
    simp only [List.length_map, hlen] at c4
    clear hF h1 h2 h3 hlen hm hfit
    by_cases e1 : ack = s.acked + 1
    · have e2 : s.loads.length = 0 := by
        rcases Nat.eq_zero_or_pos s.loads.length with e | e
        · exact e
        · exact absurd ⟨e1, e⟩ hk
      rw [e2] at c4
      subst e1
      clear hk e2
      go_enter Try.func33, Try.ntmps33
      go_wp2_with fail
      go_end0
      exact ⟨rfl, HF.out, Chg.refl _ _⟩
    · clear hk
      go_enter Try.func33, Try.ntmps33
      go_wp2_with fail
      go_end0
      exact ⟨rfl, HF.out, Chg.refl _ _⟩
theorem Lx.cells {w : World} {n : Nat} {s : St} {T : Nat → Prop} (h : Lx false w n s T) : w.cell? ⟨n, 0, none⟩ = some (.int .i64 s.inc) ∧ w.cell? ⟨n, 1, none⟩ = some (.int .i64 s.peer) ∧ w.cell? ⟨n, 2, none⟩ = some (.int .i64 s.acked) ∧ w.cell? ⟨n, 3, none⟩ = some (.int .i64 s.got) ∧ ∀ i, w.frozen? ⟨n, i, none⟩ = false := by
  obtain ⟨v, L, h1, h2, h3⟩ := h
  obtain ⟨c0, c1, c2, c3, c4⟩ := h1.cells
  exact ⟨c0, c1, c2, c3, h1.frozen⟩
/- One more has come. -/
theorem Lx.gets {w : World} {n : Nat} {s : St} {T : Nat → Prop} (h : Lx false w n s T) : Lx false (w.setCell ⟨n, 3, none⟩ (.int .i64 (s.got + 1))) n { s with got := s.got + 1 } T ∧ Kp T w (w.setCell ⟨n, 3, none⟩ (.int .i64 (s.got + 1))) := by
  obtain ⟨v, L, h1, h2, h3⟩ := h
  have hfit := h1.fit
  have hc : Chg (fun g => g = n) w (w.setCell ⟨n, 3, none⟩ (.int .i64 (s.got + 1))) := Chg.setCell w ⟨n, 3, none⟩ _ rfl
  exact Lx.of_next h2 h3 ⟨heap_set h1.raw 3 _, h1.row.keep hc (fun k hk e => (h1.row_ne hk).1 e), fun x hx => owns_keepT (h1.els x hx) hc (fun k hk e => h1.els_ne x hx (by rw [hk, e])), h1.loads, hfit.1, hfit.2.1, ⟨hfit.2.2.1.1, Int.add_nonneg hfit.2.2.1.2 (by decide)⟩, hfit.2.2.2⟩ (hc.weak fun g _ e => .inl e) (fun g e => .inl e)
theorem ackS_got (s : St) (a : Int) : (ackS s a).got = s.got := by unfold ackS; split <;> rfl
theorem ackS_inc (s : St) (a : Int) : (ackS s a).inc = s.inc := by unfold ackS; split <;> rfl
theorem metS_inc (s : St) (a : Int) : (metS s a).inc = s.inc := by unfold metS; split <;> rfl
theorem metS_got (s : St) (a : Int) : (metS s a).got = 0 := by unfold metS; split <;> rfl
theorem metS_acked (s : St) (a : Int) : (metS s a).acked = 0 := by unfold metS; split <;> rfl
def tkV (r : Tk) (A : Option Addr) (C : Nat) : Value := .tuple #[.slice A r.load.length C, .bool r.ok, .bool r.broke]
def i64 (n : Int) : Prop := -9223372036854775808 ≤ n ∧ n < 9223372036854775808
/- What Take leaves. -/
def TakeEnd (w : World) (n : Nat) (r : Tk) (T : Nat → Prop) (e : Ending) (w' : World) : Prop :=
  ∃ A C, e = .returned (tkV r A C) ∧ w'.ownsRow w.heap.size 5 1 (.slice A r.load.length C) r.load.length (bv r.load) ∧ (∀ g, blk (.slice A r.load.length C) = some g → w.heap.size ≤ g) ∧ Lx false w' n r.st (fun g => T g ∨ blk (.slice A r.load.length C) = some g) ∧ Kp T w w'
theorem take_none {w w' : World} {n : Nat} {s : St} {b : Bool} {T : Nat → Prop} (h : Lx false w' n s T) (hk : Kp T w w') : TakeEnd w n ⟨[], false, b, s⟩ T (.returned (.tuple #[.slice none 0 0, .bool false, .bool b])) w' :=
  ⟨none, 0, rfl, World.ownsRow_nil _ _ _ _, fun g hg => (by cases hg), by
    obtain ⟨v, L, h1, h2, h3⟩ := h
    exact ⟨v, L, h1, fun g hg => hg.elim (h2 g) (fun e => by cases e), fun g hg => hg.elim (h3 g) (fun e => by cases e)⟩, hk⟩
/- The program behind 'p.To != l.inc'. -/
theorem take_some {w w2 w' : World} {n : Nat} {s : St} {b : Bool} {l : List UInt8} {A : Option Addr} {C : Nat} {T : Nat → Prop} (h : Lx false w2 n s T) (hk : Kp T w w2) (ho : w'.ownsRow w2.heap.size 5 1 (.slice A l.length C) l.length (bv l)) (hB : Below w2.heap.size w2 w') (hlt : w.heap.size ≤ w2.heap.size) :
    TakeEnd w n ⟨l, true, b, s⟩ T (.returned (.tuple #[.slice A l.length C, .bool true, .bool b])) w' :=
  ⟨A, C, rfl, owns_lowT ho hlt, fun g hg => (by obtain ⟨_, _, q⟩ := owns_blockT ho hg; omega), by
    refine (h.more hB).fewer fun g hg => hg.elim .inl (fun e => ?_)
    obtain ⟨_, q, q2⟩ := owns_blockT ho e
    exact .inr ⟨q2, heap_lt q⟩, hk.trans (Kp.of_below hB)⟩
set_option maxRecDepth 100000 in
set_option maxHeartbeats 2000000 in
theorem take_lo {w : World} {n : Nat} {s : St} {T : Nat → Prop} (h : Lx false w n s T) (p : Pkt) {A : Option Addr} {C : Nat} (hx : Bs w (.slice A p.load.length C) p.load) (hT : ∀ g, bk (.slice A p.load.length C) = some g → T g)
    (hf : i64 p.fr) (hl : p.load.length ≤ 140737488355328) (ha : s.acked < 4611686018427387904) (hg : s.got < 4611686018427387904) (h0 : p.fr < 1) :
    Calls Try.prog 17 #[.pointer (some ⟨n, 0, none⟩), pkV p A C] w fun e w' => TakeEnd w n (takeR s p) T e w' := by
  obtain ⟨c0, c1, c2, c3, fz⟩ := h.cells
  have hfit := h.fit
  have hi := hfit.1
  obtain ⟨bx, hbx⟩ : ∃ bx, bx = w.heap.size := ⟨_, rfl⟩
  have HW : Hid (∀ q, ∃ W, W = (w.alloc (.cells #[.int .i64 p.fr, .int .i64 p.to, .int .i64 p.seq, .int .i64 p.ack, .slice A p.load.length C] 32)).drewN q ∧ Below w.heap.size w W ∧ Lx false W n s (fun g => T g ∨ (w.heap.size ≤ g ∧ g < W.heap.size)) ∧ W.heap[bx]? = some (.cells #[.int .i64 p.fr, .int .i64 p.to, .int .i64 p.seq, .int .i64 p.ack, .slice A p.load.length C] 32 (0, 0))) := by
    intro q
    have hb : Below w.heap.size w ((w.alloc (.cells #[.int .i64 p.fr, .int .i64 p.to, .int .i64 p.seq, .int .i64 p.ack, .slice A p.load.length C] 32)).drewN q) := below_drewN (below1 _ _) q
    exact ⟨_, rfl, hb, h.more hb, by rw [hbx]; cases q <;> exact heap_alloc_new w _⟩
  have hth : ∀ q, Calls Try.prog 30 #[.pointer (some ⟨n, 0, none⟩)] ((w.alloc (.cells #[.int .i64 p.fr, .int .i64 p.to, .int .i64 p.seq, .int .i64 p.ack, .slice A p.load.length C] 32)).drewN q) fun e w' => e = .returned (.bool true) ∧ w' = ((w.alloc (.cells #[.int .i64 p.fr, .int .i64 p.to, .int .i64 p.seq, .int .i64 p.ack, .slice A p.load.length C] 32)).drewN q) :=
    fun q => there_any (by obtain ⟨W, hW, hb, _⟩ := HW.out q; rw [← hW, World.cell?_of_block (hb.block n (World.block_lt_of_cell? w _ c0))]; exact c0) (by omega)
  have hnl : n < w.heap.size := World.block_lt_of_cell? w _ c0
  unfold pkV
  have hr : takeR s p = ⟨[], false, false, s⟩ := if_pos (.inl h0)
  rw [hr]
  clear hr hx hT
  go_enter Try.func17, Try.ntmps17
  go_wp2_with fail
  go_quiet ((go_at_call 30; exact Calls.quiet_of_same (hth _)))
  obtain ⟨W, hW, hb, hLW, _⟩ := HW.out nq
  have HE := take_none (b := false) (hLW.fewer fun g hg => .inl hg) (Kp.of_below hb)
  rw [← hW]
  clear hW hb hLW
  go_wp2_with fail
  go_ret3
  exact HE
set_option maxRecDepth 100000 in
set_option maxHeartbeats 2000000 in
theorem take_lo2 {w : World} {n : Nat} {s : St} {T : Nat → Prop} (h : Lx false w n s T) (p : Pkt) {A : Option Addr} {C : Nat} (hx : Bs w (.slice A p.load.length C) p.load) (hT : ∀ g, bk (.slice A p.load.length C) = some g → T g)
    (hf : i64 p.fr) (hl : p.load.length ≤ 140737488355328) (ha : s.acked < 4611686018427387904) (hg : s.got < 4611686018427387904) (h0 : ¬ p.fr < 1) (h1 : p.fr < s.peer) :
    Calls Try.prog 17 #[.pointer (some ⟨n, 0, none⟩), pkV p A C] w fun e w' => TakeEnd w n (takeR s p) T e w' := by
  obtain ⟨c0, c1, c2, c3, fz⟩ := h.cells
  have hfit := h.fit
  have hi := hfit.1
  obtain ⟨bx, hbx⟩ : ∃ bx, bx = w.heap.size := ⟨_, rfl⟩
  have HW : Hid (∀ q, ∃ W, W = (w.alloc (.cells #[.int .i64 p.fr, .int .i64 p.to, .int .i64 p.seq, .int .i64 p.ack, .slice A p.load.length C] 32)).drewN q ∧ Below w.heap.size w W ∧ Lx false W n s (fun g => T g ∨ (w.heap.size ≤ g ∧ g < W.heap.size)) ∧ W.heap[bx]? = some (.cells #[.int .i64 p.fr, .int .i64 p.to, .int .i64 p.seq, .int .i64 p.ack, .slice A p.load.length C] 32 (0, 0))) := by
    intro q
    have hb : Below w.heap.size w ((w.alloc (.cells #[.int .i64 p.fr, .int .i64 p.to, .int .i64 p.seq, .int .i64 p.ack, .slice A p.load.length C] 32)).drewN q) := below_drewN (below1 _ _) q
    exact ⟨_, rfl, hb, h.more hb, by rw [hbx]; cases q <;> exact heap_alloc_new w _⟩
  have hth : ∀ q, Calls Try.prog 30 #[.pointer (some ⟨n, 0, none⟩)] ((w.alloc (.cells #[.int .i64 p.fr, .int .i64 p.to, .int .i64 p.seq, .int .i64 p.ack, .slice A p.load.length C] 32)).drewN q) fun e w' => e = .returned (.bool true) ∧ w' = ((w.alloc (.cells #[.int .i64 p.fr, .int .i64 p.to, .int .i64 p.seq, .int .i64 p.ack, .slice A p.load.length C] 32)).drewN q) :=
    fun q => there_any (by obtain ⟨W, hW, hb, _⟩ := HW.out q; rw [← hW, World.cell?_of_block (hb.block n (World.block_lt_of_cell? w _ c0))]; exact c0) (by omega)
  have hnl : n < w.heap.size := World.block_lt_of_cell? w _ c0
  unfold pkV
  have hr : takeR s p = ⟨[], false, false, s⟩ := if_pos (.inr h1)
  rw [hr]
  clear hr hx hT
  go_enter Try.func17, Try.ntmps17
  go_wp2_with fail
  go_quiet ((go_at_call 30; exact Calls.quiet_of_same (hth _)))
  obtain ⟨W, hW, hb, hLW, _⟩ := HW.out nq
  have HE := take_none (b := false) (hLW.fewer fun g hg => .inl hg) (Kp.of_below hb)
  rw [← hW]
  clear hW hb hLW
  go_wp2_with fail
  go_ret3
  exact HE
end Go.Proofs.Ytpmbkncakbcmbaa
