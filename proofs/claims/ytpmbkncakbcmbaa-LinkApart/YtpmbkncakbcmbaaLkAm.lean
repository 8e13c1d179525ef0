/- LinkApart as mathematics: what was sent in one connection is told in that one alone. -/
import Derived.Test.YtpmbkncakbcmbaaLkM
namespace Go.Proofs.Ytpmbkncakbcmbaa
set_option linter.unusedVariables false
set_option linter.unusedVariables false

/- The load that the side e, of the number i, sends with the tag t. -/
def ldA (e : Nat) (i : Int) (t : Nat) : List UInt8 := [UInt8.ofNat e, UInt8.ofNat (i.toNat % 256), UInt8.ofNat (t % 256), UInt8.ofNat (t / 256)]
def OkA (e : Nat) (i : Int) (T : Nat) (x : List UInt8) : Prop := ∃ t, t ≤ T ∧ x = ldA e i t
def tagA (x : List UInt8) : Nat := (x.getD 2 0).toNat + 256 * (x.getD 3 0).toNat
theorem tagA_ld {e t : Nat} {i : Int} (h : t ≤ 300) : tagA (ldA e i t) = t := by
  unfold tagA ldA
  simp [UInt8.toNat_ofNat']
  omega
theorem OkA.mono {e T T' : Nat} {i : Int} {x : List UInt8} (h : OkA e i T x) (hT : T ≤ T') : OkA e i T' x := by
  obtain ⟨t, h1, h2⟩ := h
  exact ⟨t, by omega, h2⟩
theorem OkA.tag {e T : Nat} {i : Int} {x : List UInt8} (h : OkA e i T x) (hT : T ≤ 300) : tagA x ≤ T := by
  obtain ⟨t, h1, rfl⟩ := h
  rw [tagA_ld (by omega)]; exact h1
theorem OkA.len {e T : Nat} {i : Int} {x : List UInt8} (h : OkA e i T x) : x.length = 4 := by
  obtain ⟨t, h1, rfl⟩ := h
  rfl
/- One side: its loads and all packets that it let out. -/
structure Ap (e T n : Nat) (X : Sd) : Prop where
  inc : 1 ≤ X.s.inc ∧ X.s.inc ≤ n + 1
  nn : 0 ≤ X.s.peer ∧ 0 ≤ X.s.acked ∧ 0 ≤ X.s.got
  cnt : X.sent.length ≤ n ∧ X.told.length ≤ n ∧ X.outs.length ≤ n ∧ X.s.acked ≤ n ∧ X.s.got ≤ n
  lok : ∀ x ∈ X.s.loads, OkA e X.s.inc T x
  lor : X.s.loads.Pairwise (fun a b => tagA a < tagA b)
  frs : ∀ p ∈ X.outs, 1 ≤ p.fr ∧ p.fr ≤ X.s.inc ∧ (p.fr = X.s.inc → p.to ≤ X.s.peer)
  lds : ∀ p ∈ X.outs, (p.seq = 0 ∧ p.load = []) ∨ (1 ≤ p.seq ∧ OkA e p.fr T p.load)
  ord : ∀ p ∈ X.outs, ∀ q ∈ X.outs, p.fr = q.fr → p.to = q.to → 1 ≤ p.seq → p.seq < q.seq → tagA p.load < tagA q.load
  now : ∀ p ∈ X.outs, p.fr = X.s.inc → p.to = X.s.peer → 1 ≤ p.seq → (p.seq ≤ X.s.acked ∧ ∀ x ∈ X.s.loads, tagA p.load < tagA x) ∨ (p.seq = X.s.acked + 1 ∧ X.s.loads.head? = some p.load)
/- What X was told is of the connection that there is now (e: the other side's number). -/
def Tl (e T : Nat) (X O : Sd) : Prop := X.told = [] ∨ ((∀ x ∈ X.told, OkA e X.s.peer T x) ∧ ∃ q ∈ O.outs, q.fr = X.s.peer ∧ q.to = X.s.inc ∧ q.seq = X.s.got ∧ 1 ≤ q.seq ∧ X.told.getLast? = some q.load)
theorem Ap.more {e T T' n n' : Nat} {X : Sd} (h : Ap e T n X) (hT : T ≤ T') (hn : n ≤ n') : Ap e T' n' X := by
  obtain ⟨h1, h2, h3, h4, h5, h6, h7, h8, h9⟩ := h
  exact ⟨by omega, h2, by omega, fun x hx => (h4 x hx).mono hT, h5, h6, fun p hp => (h7 p hp).imp id (fun q => ⟨q.1, q.2.mono hT⟩), h8, h9⟩
theorem Tl.more {e T T' : Nat} {X O : Sd} (h : Tl e T X O) (hT : T ≤ T') : Tl e T' X O := by
  rcases h with h | ⟨h1, h2⟩
  · exact .inl h
  · exact .inr ⟨fun x hx => (h1 x hx).mono hT, h2⟩
/- A load is sent, or refused. -/
theorem Ap.send {e T n : Nat} {X : Sd} (h : Ap e T n X) (hT : T < 300) (st : List (List UInt8)) (hst : st.length ≤ n + 1) : Ap e (T + 1) (n + 1) ⟨sendS X.s (ldA e X.s.inc (T + 1)), st, X.told, X.outs⟩ := by
  obtain ⟨h1, h2, h3, h4, h5, h6, h7, h8, h9⟩ := h.more (Nat.le_succ T) (Nat.le_succ n)
  unfold sendS
  by_cases hs : sendE X.s (ldA e X.s.inc (T + 1)) = 0
  · rw [if_pos hs]
    refine ⟨h1, h2, ⟨hst, h3.2⟩, fun x hx => ?_, ?_, h6, h7, h8, fun p hp a b c => ?_⟩
    · rcases List.mem_append.1 hx with hx | hx
      · exact h4 x hx
      · simp at hx; subst hx; exact ⟨T + 1, Nat.le_refl _, rfl⟩
    · show (X.s.loads ++ [ldA e X.s.inc (T + 1)]).Pairwise _
      rw [List.pairwise_append]
      refine ⟨h5, by simp, fun x hx y hy => ?_⟩
      simp at hy; subst hy
      have := (h.lok x hx).tag (by omega)
      rw [tagA_ld (by omega)]; omega
    · rcases h9 p hp a b c with ⟨d1, d2⟩ | ⟨d1, d2⟩
      · refine .inl ⟨d1, fun x hx => ?_⟩
        have hx : x ∈ X.s.loads ++ [ldA e X.s.inc (T + 1)] := hx
        rcases List.mem_append.1 hx with hx | hx
        · exact d2 x hx
        · simp at hx; subst hx
          rcases h.lds p hp with ⟨q, _⟩ | ⟨_, q⟩
          · omega
          · have := q.tag (by omega)
            rw [tagA_ld (by omega)]; omega
      · refine .inr ⟨d1, ?_⟩
        show (X.s.loads ++ [_]).head? = _
        cases hl : X.s.loads with
        | nil => rw [hl] at d2; cases d2
        | cons a b => rw [hl] at d2; exact d2
  · rw [if_neg hs]
    exact ⟨h1, h2, ⟨hst, h3.2⟩, h4, h5, h6, h7, h8, h9⟩
/- A packet is let out. -/
theorem Ap.out {e T n : Nat} {X : Sd} (h : Ap e T n X) : Ap e T (n + 1) ⟨X.s, X.sent, X.told, X.outs ++ [outP X.s]⟩ := by
  have h0 := h
  obtain ⟨h1, h2, h3, h4, h5, h6, h7, h8, h9⟩ := h.more (Nat.le_refl T) (Nat.le_succ n)
  have e1 : (outP X.s).fr = X.s.inc ∧ (outP X.s).to = X.s.peer := by unfold outP; split <;> exact ⟨rfl, rfl⟩
  have e2 : ((outP X.s).seq = 0 ∧ (outP X.s).load = []) ∨ ((outP X.s).seq = X.s.acked + 1 ∧ X.s.loads.head? = some (outP X.s).load) := by
    unfold outP
    by_cases hk : outK X.s = true
    · rw [if_pos hk]
      simp only [outK, Bool.and_eq_true, decide_eq_true_eq] at hk
      refine .inr ⟨rfl, ?_⟩
      cases hl : X.s.loads with
      | nil => rw [hl] at hk; simp at hk
      | cons a b => rfl
    · rw [if_neg hk]
      exact .inl ⟨rfl, rfl⟩
  obtain ⟨o, ho⟩ : ∃ o, o = outP X.s := ⟨_, rfl⟩
  rw [← ho] at e1 e2 ⊢
  clear ho
  have hin : ∀ x, X.s.loads.head? = some x → x ∈ X.s.loads := fun x hx => List.mem_of_mem_head? (by rw [hx]; rfl)
  refine ⟨h1, h2, ⟨h3.1, h3.2.1, by have := h0.cnt; simp only [List.length_append, List.length_cons, List.length_nil]; omega, h3.2.2.2⟩, h4, h5, fun p hp => ?_, fun p hp => ?_, fun p hp q hq a b c d => ?_, fun p hp a b c => ?_⟩
  · rcases List.mem_append.1 hp with hp | hp
    · exact h6 p hp
    · simp at hp; subst hp
      exact ⟨by omega, by show p.fr ≤ X.s.inc; omega, fun _ => by show p.to ≤ X.s.peer; omega⟩
  · rcases List.mem_append.1 hp with hp | hp
    · exact h7 p hp
    · simp at hp; subst hp
      rcases e2 with e2 | ⟨e2, e3⟩
      · exact .inl e2
      · exact .inr ⟨by omega, by rw [e1.1]; exact h4 _ (hin _ e3)⟩
  · rcases List.mem_append.1 hp with hp1 | hp1 <;> rcases List.mem_append.1 hq with hq1 | hq1
    · exact h8 p hp1 q hq1 a b c d
    · have hq2 : q = o := by simpa using hq1
      rw [← hq2] at e1 e2
      have := h9 p hp1 (by omega) (by omega) c
      rcases e2 with e2 | ⟨e2, e3⟩
      · omega
      · rcases this with ⟨t1, t2⟩ | ⟨t1, t2⟩
        · exact t2 _ (hin _ e3)
        · omega
    · have hp2 : p = o := by simpa using hp1
      rw [← hp2] at e1 e2
      have := h9 q hq1 (by omega) (by omega) (by omega)
      rcases e2 with e2 | ⟨e2, e3⟩
      · omega
      · rcases this with ⟨t1, t2⟩ | ⟨t1, t2⟩ <;> omega
    · have hp2 : p = o := by simpa using hp1
      have hq2 : q = o := by simpa using hq1
      rw [hp2, hq2] at d; omega
  · rcases List.mem_append.1 hp with hp | hp
    · exact h9 p hp a b c
    · simp at hp; subst hp
      rcases e2 with e2 | ⟨e2, e3⟩
      · omega
      · exact .inr ⟨e2, e3⟩
theorem Tl.out {e T : Nat} {X O : Sd} (h : Tl e T X O) (p : Pkt) : Tl e T X ⟨O.s, O.sent, O.told, O.outs ++ [p]⟩ := by
  rcases h with h | ⟨h1, q, hq, h2⟩
  · exact .inl h
  · exact .inr ⟨h1, q, List.mem_append_left _ hq, h2⟩
/- The side begins anew, with the next number. -/
theorem Ap.reset {e T n : Nat} {X : Sd} (h : Ap e T n X) : Ap e T (n + 1) ⟨news (X.s.inc + 1), [], [], X.outs⟩ := by
  obtain ⟨h1, h2, h3, h4, h5, h6, h7, h8, h9⟩ := h
  refine ⟨⟨by show 1 ≤ X.s.inc + 1; omega, by show X.s.inc + 1 ≤ _; omega⟩, ⟨Int.le_refl _, Int.le_refl _, Int.le_refl _⟩, ⟨by simp, by simp, by show X.outs.length ≤ _; omega, by show (0 : Int) ≤ _; omega, by show (0 : Int) ≤ _; omega⟩, fun x hx => (by cases hx), List.Pairwise.nil, fun p hp => ⟨(h6 p hp).1, by have := (h6 p hp).2.1; show p.fr ≤ X.s.inc + 1; omega, fun q => by have := (h6 p hp).2.1; have q : p.fr = X.s.inc + 1 := q; omega⟩, h7, h8, fun p hp a => by have := (h6 p hp).2.1; have a : p.fr = X.s.inc + 1 := a; omega⟩
/- The connection of a side is another one, or goes on: what a packet does to it. -/
theorem Ap.ack {e T n : Nat} {X : Sd} (h : Ap e T n X) (ack : Int) (sent told : List (List UInt8)) (hs : sent.length ≤ n + 1) (ht : told.length ≤ n + 1) (g : Int) (hg : 0 ≤ g ∧ g ≤ n + 1) : Ap e T (n + 1) ⟨{ ackS X.s ack with got := g }, sent, told, X.outs⟩ := by
  obtain ⟨h1, h2, h3, h4, h5, h6, h7, h8, h9⟩ := h
  unfold ackS
  by_cases hc : ack = X.s.acked + 1 ∧ 0 < X.s.loads.length
  · rw [if_pos hc]
    cases hl : X.s.loads with
    | nil => rw [hl] at hc; simp at hc
    | cons a b =>
      rw [hl] at h4 h5 h9
      rw [List.pairwise_cons] at h5
      refine ⟨⟨h1.1, by show X.s.inc ≤ _; omega⟩, ⟨h2.1, by show 0 ≤ X.s.acked + 1; omega, hg.1⟩, ⟨hs, ht, by show X.outs.length ≤ _; omega, by show X.s.acked + 1 ≤ _; omega, by show g ≤ _; omega⟩, fun x hx => h4 x (.tail _ hx), h5.2, h6, h7, h8, fun p hp q r s => ?_⟩
      show (p.seq ≤ X.s.acked + 1 ∧ ∀ x ∈ b, _) ∨ (p.seq = X.s.acked + 1 + 1 ∧ b.head? = _)
      rcases h9 p hp q r s with ⟨t1, t2⟩ | ⟨t1, t2⟩
      · exact .inl ⟨by omega, fun x hx => t2 x (.tail _ hx)⟩
      · refine .inl ⟨by omega, fun x hx => ?_⟩
        simp at t2
        rw [← t2]
        exact h5.1 x hx
  · rw [if_neg hc]
    exact ⟨⟨h1.1, by show X.s.inc ≤ _; omega⟩, ⟨h2.1, h2.2.1, hg.1⟩, ⟨hs, ht, by show X.outs.length ≤ _; omega, by show X.s.acked ≤ _; omega, by show g ≤ _; omega⟩, h4, h5, h6, h7, h8, h9⟩
theorem Ap.met {e T n : Nat} {X : Sd} (h : Ap e T n X) (fr : Int) (hf : X.s.peer < fr) (hf1 : 1 ≤ fr) : Ap e T n ⟨metS X.s fr, X.sent, X.told, X.outs⟩ := by
  obtain ⟨h1, h2, h3, h4, h5, h6, h7, h8, h9⟩ := h
  unfold metS
  split
  · refine ⟨h1, ⟨by show 0 ≤ fr; omega, Int.le_refl _, Int.le_refl _⟩, ⟨h3.1, h3.2.1, h3.2.2.1, by show (0 : Int) ≤ _; omega, by show (0 : Int) ≤ _; omega⟩, fun x hx => (by cases hx), List.Pairwise.nil, fun p hp => ⟨(h6 p hp).1, (h6 p hp).2.1, fun q => by have := (h6 p hp).2.2 q; show p.to ≤ fr; omega⟩, h7, h8, fun p hp a b => by have := (h6 p hp).2.2 a; have b : p.to = fr := b; omega⟩
  · refine ⟨h1, ⟨by show 0 ≤ fr; omega, Int.le_refl _, Int.le_refl _⟩, ⟨h3.1, h3.2.1, h3.2.2.1, by show (0 : Int) ≤ _; omega, by show (0 : Int) ≤ _; omega⟩, h4, h5, fun p hp => ⟨(h6 p hp).1, (h6 p hp).2.1, fun q => by have := (h6 p hp).2.2 q; show p.to ≤ fr; omega⟩, h7, h8, fun p hp a b => by have := (h6 p hp).2.2 a; have b : p.to = fr := b; omega⟩
/- What a side is, when it has taken a packet: a broken connection's rows are let go. -/
def brk (X : Sd) (p : Pkt) : List (List UInt8) := if (takeR X.s p).broke then [] else X.told
def brs (X : Sd) (p : Pkt) : List (List UInt8) := if (takeR X.s p).broke then [] else X.sent
def tookA (X : Sd) (p : Pkt) : Sd := ⟨(takeR X.s p).st, brs X p, if (takeR X.s p).ok then brk X p ++ [(takeR X.s p).load] else brk X p, X.outs⟩
theorem tookA_core {e f T n : Nat} {X O : Sd} {p : Pkt} (h : Ap e T n X) (hO : Ap f T n O) (hp : p ∈ O.outs) (M : St) (b : Bool) (sent told : List (List UInt8)) (hM : Ap e T n ⟨M, sent, told, X.outs⟩) (ht : Tl f T ⟨M, sent, told, X.outs⟩ O) (hfr : p.fr = M.peer) :
    Ap e T (n + 1) ⟨(takeK M p b).st, sent, if (takeK M p b).ok then told ++ [(takeK M p b).load] else told, X.outs⟩ ∧ Tl f T ⟨(takeK M p b).st, sent, if (takeK M p b).ok then told ++ [(takeK M p b).load] else told, X.outs⟩ O ∧
    ((takeK M p b).ok = true → OkA f p.fr T (takeK M p b).load ∧ (∀ x ∈ told, OkA f p.fr T x) ∧ (∀ x, told.getLast? = some x → tagA x < tagA (takeK M p b).load)) := by
  have hcm := hM.cnt
  have hnn := hM.nn
  simp only at hcm hnn
  have eg : (ackS M p.ack).got = M.got ∧ (ackS M p.ack).peer = M.peer ∧ (ackS M p.ack).inc = M.inc := by unfold ackS; split <;> exact ⟨rfl, rfl, rfl⟩
  have self : ∀ s : St, { s with got := s.got } = s := fun s => rfl
  unfold takeK
  by_cases e1 : p.to ≠ M.inc
  · rw [if_pos e1]
    exact ⟨hM.more (Nat.le_refl _) (Nat.le_succ _), ht, fun q => by cases q⟩
  · rw [if_neg e1]
    by_cases e2 : p.seq ≠ (ackS M p.ack).got + 1
    · rw [if_pos e2]
      have := hM.ack p.ack sent told (by omega) (by omega) (ackS M p.ack).got (by rw [eg.1]; omega)
      refine ⟨this, ?_, fun q => by cases q⟩
      rcases ht with ht | ⟨t1, q, hq, t2⟩
      · exact .inl ht
      · refine .inr ⟨fun x hx => ?_, q, hq, ?_⟩
        · show OkA f (ackS M p.ack).peer T x
          rw [eg.2.1]; exact t1 x hx
        · show q.fr = (ackS M p.ack).peer ∧ q.to = (ackS M p.ack).inc ∧ q.seq = (ackS M p.ack).got ∧ _
          rw [eg.1, eg.2.1, eg.2.2]; exact t2
    · rw [if_neg e2]
      have e3 : p.seq = M.got + 1 := by rw [eg.1] at e2; omega
      have e4 : p.to = M.inc := by omega
      have hld : OkA f p.fr T p.load := by
        rcases hO.lds p hp with ⟨q, _⟩ | ⟨_, q⟩
        · omega
        · exact q
      have htold : (∀ x ∈ told, OkA f p.fr T x) ∧ (∀ x, told.getLast? = some x → tagA x < tagA p.load) := by
        rcases ht with ht | ⟨t1, q, hq, t2, t3, t4, t5, t6⟩
        · have ht : told = [] := ht
          subst ht
          exact ⟨fun x hx => (by cases hx), fun x hx => (by cases hx)⟩
        · refine ⟨fun x hx => by rw [hfr]; exact t1 x hx, fun x hx => ?_⟩
          have t6 : told.getLast? = some q.load := t6
          rw [t6] at hx
          injection hx with hx
          subst hx
          have t2 : q.fr = M.peer := t2
          have t3 : q.to = M.inc := t3
          have t4 : q.seq = M.got := t4
          exact hO.ord q hq p hp (by omega) (by omega) t5 (by omega)
      refine ⟨?_, .inr ⟨fun x hx => ?_, p, hp, ?_⟩, fun _ => ⟨hld, htold⟩⟩
      · have := hM.ack p.ack sent (told ++ [p.load]) (by omega) (by simp; omega) ((ackS M p.ack).got + 1) (by rw [eg.1]; omega)
        simpa using this
      · show OkA f (ackS M p.ack).peer T x
        rw [eg.2.1, ← hfr]
        have hx : x ∈ told ++ [p.load] := by simpa using hx
        rcases List.mem_append.1 hx with hx | hx
        · exact htold.1 x hx
        · simp at hx; subst hx; exact hld
      · refine ⟨by show p.fr = (ackS M p.ack).peer; rw [eg.2.1]; exact hfr, by show p.to = (ackS M p.ack).inc; rw [eg.2.2]; exact e4, by show p.seq = (ackS M p.ack).got + 1; rw [eg.1]; exact e3, by omega, ?_⟩
        simp
theorem Ap.took {e f T n : Nat} {X O : Sd} {p : Pkt} (h : Ap e T n X) (hO : Ap f T n O) (ht : Tl f T X O) (hp : p ∈ O.outs) :
    Ap e T (n + 1) (tookA X p) ∧ Tl f T (tookA X p) O ∧ ((takeR X.s p).ok = true → OkA f p.fr T (takeR X.s p).load ∧ (∀ x ∈ brk X p, OkA f p.fr T x) ∧ ∀ x, (brk X p).getLast? = some x → tagA x < tagA (takeR X.s p).load) := by
  have hf := (hO.frs p hp).1
  have hbk : ∀ (M : St) (b : Bool), (takeK M p b).broke = b := by
    intro M b; unfold takeK; split
    · rfl
    · split <;> rfl
  unfold tookA
  by_cases c1 : p.fr < 1 ∨ p.fr < X.s.peer
  · have e0 : takeR X.s p = ⟨[], false, false, X.s⟩ := by unfold takeR; rw [if_pos c1]
    have e1 : brk X p = X.told := by unfold brk; rw [e0]; rfl
    have e2 : brs X p = X.sent := by unfold brs; rw [e0]; rfl
    rw [e0, e1, e2]
    exact ⟨h.more (Nat.le_refl _) (Nat.le_succ _), ht, fun q => by cases q⟩
  · by_cases c2 : X.s.peer < p.fr
    · have e0 : takeR X.s p = takeK (metS X.s p.fr) p (decide (0 < X.s.peer)) := by unfold takeR; rw [if_neg c1, if_pos c2]
      have ep : p.fr = (metS X.s p.fr).peer := by unfold metS; split <;> rfl
      have hm := h.met p.fr c2 (by omega)
      by_cases c3 : 0 < X.s.peer
      · rw [decide_eq_true c3] at e0
        have e1 : brk X p = [] := by unfold brk; rw [e0, hbk]; rfl
        have e2 : brs X p = [] := by unfold brs; rw [e0, hbk]; rfl
        rw [e0, e1, e2]
        obtain ⟨m1, m2, m3, m4, m5, m6, m7, m8, m9⟩ := hm
        exact tookA_core h hO hp _ true [] [] ⟨m1, m2, ⟨by simp, by simp, m3.2.2⟩, m4, m5, m6, m7, m8, m9⟩ (.inl rfl) ep
      · rw [decide_eq_false c3] at e0
        have e1 : brk X p = X.told := by unfold brk; rw [e0, hbk]; rfl
        have e2 : brs X p = X.sent := by unfold brs; rw [e0, hbk]; rfl
        rw [e0, e1, e2]
        refine tookA_core h hO hp _ false X.sent X.told hm ?_ ep
        rcases ht with ht | ⟨_, q, hq, t2, _⟩
        · exact .inl ht
        · have := (hO.frs q hq).1
          omega
    · have e0 : takeR X.s p = takeK X.s p false := by unfold takeR; rw [if_neg c1, if_neg c2]
      have e1 : brk X p = X.told := by unfold brk; rw [e0, hbk]; rfl
      have e2 : brs X p = X.sent := by unfold brs; rw [e0, hbk]; rfl
      rw [e0, e1, e2]
      exact tookA_core h hO hp _ false X.sent X.told h ht (by omega)
/- The other side's loads and packets do not hang on this one. -/
theorem Tl.same {e T : Nat} {X O O' : Sd} (h : Tl e T X O) (ho : O'.outs = O.outs) : Tl e T X O' := by
  rcases h with h | ⟨h1, q, hq, h2⟩
  · exact .inl h
  · exact .inr ⟨h1, q, by rw [ho]; exact hq, h2⟩
theorem Tl.sent {e T : Nat} {X O : Sd} (h : Tl e T X O) (b : List UInt8) (st : List (List UInt8)) : Tl e T ⟨sendS X.s b, st, X.told, X.outs⟩ O := by
  have : (sendS X.s b).peer = X.s.peer ∧ (sendS X.s b).inc = X.s.inc ∧ (sendS X.s b).got = X.s.got := by unfold sendS; split <;> exact ⟨rfl, rfl, rfl⟩
  rcases h with h | ⟨h1, q, hq, h2⟩
  · exact .inl h
  · refine .inr ⟨fun x hx => ?_, q, hq, ?_⟩
    · show OkA e (sendS X.s b).peer T x
      rw [this.1]; exact h1 x hx
    · show q.fr = (sendS X.s b).peer ∧ q.to = (sendS X.s b).inc ∧ q.seq = (sendS X.s b).got ∧ _
      rw [this.1, this.2.1, this.2.2]; exact h2
end Go.Proofs.Ytpmbkncakbcmbaa
