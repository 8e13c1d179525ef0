/- LinkOrders and LinkApart as mathematics: two sides, what each sent, was told and let out. -/
import Derived.Test.YtpmbkncakbcmbaaLkC
namespace Go.Proofs.Ytpmbkncakbcmbaa
set_option linter.unusedVariables false
set_option linter.unusedVariables false

/- A side. -/
structure Sd where
  s : St
  sent : List (List UInt8)
  told : List (List UInt8)
  outs : List Pkt
/- A packet that the side (number i, to the number j) let out: what it may say, with as many loads got and acknowledged now. -/
def PkOk (i j : Int) (X : Sd) (p : Pkt) : Prop :=
  p.fr = i ∧ (p.to = 0 ∨ p.to = j) ∧ 0 ≤ p.ack ∧ p.ack ≤ X.s.got ∧ ((p.seq = 0 ∧ p.load = []) ∨ (1 ≤ p.seq ∧ p.seq ≤ X.s.acked + 1 ∧ X.sent[(p.seq - 1).toNat]? = some p.load))
/- One side, towards the other one. -/
structure Half (i j : Int) (X Y : Sd) : Prop where
  inc : X.s.inc = i
  peer : X.s.peer = 0 ∨ X.s.peer = j
  zero : X.s.peer = 0 → X.s.acked = 0 ∧ X.s.got = 0
  ack0 : 0 ≤ X.s.acked ∧ X.s.acked ≤ X.sent.length
  loads : X.s.loads = X.sent.drop X.s.acked.toNat
  got : X.s.got = X.told.length
  told : X.told = Y.sent.take X.told.length
  le : X.s.acked ≤ Y.s.got
  ge : Y.s.got ≤ X.s.acked + 1
  outs : ∀ p ∈ X.outs, PkOk i j X p
def Both (i j : Int) (X Y : Sd) : Prop := Half i j X Y ∧ Half j i Y X
theorem Both.swap {i j : Int} {X Y : Sd} (h : Both i j X Y) : Both j i Y X := ⟨h.2, h.1⟩
theorem PkOk.mono {i j : Int} {X X' : Sd} {p : Pkt} (h : PkOk i j X p) (h1 : X.s.got ≤ X'.s.got) (h2 : X.s.acked ≤ X'.s.acked) (h3 : ∀ (k : Nat) x, X.sent[k]? = some x → X'.sent[k]? = some x) : PkOk i j X' p := by
  obtain ⟨a, b, c, d, e⟩ := h
  refine ⟨a, b, c, by omega, ?_⟩
  rcases e with e | ⟨e1, e2, e3⟩
  · exact .inl e
  · exact .inr ⟨e1, by omega, h3 _ _ e3⟩
/- A load is sent. -/
theorem both_send {i j : Int} {X Y : Sd} (h : Both i j X Y) {b : List UInt8} (hs : sendE X.s b = 0) : Both i j ⟨sendS X.s b, X.sent ++ [b], X.told, X.outs⟩ Y := by
  have hS : sendS X.s b = { X.s with loads := X.s.loads ++ [b] } := by rw [sendS, if_pos hs]
  obtain ⟨⟨a1, a2, a3, a4, a5, a6, a7, a8, a9, a10⟩, b1, b2, b3, b4, b5, b6, b7, b8, b9, b10⟩ := h
  have hsub : ∀ (k : Nat) x, X.sent[k]? = some x → (X.sent ++ [b])[k]? = some x := by
    intro k x hk
    rw [List.getElem?_append_left (List.getElem?_eq_some_iff.1 hk).1]; exact hk
  constructor
  · refine ⟨by rw [hS]; exact a1, by rw [hS]; exact a2, by rw [hS]; exact a3, ?_, ?_, by rw [hS]; exact a6, a7, by rw [hS]; exact a8, by rw [hS]; exact a9, fun p hp => ?_⟩
    · rw [hS]; simp only [List.length_append, List.length_cons, List.length_nil]; omega
    · rw [hS]
      show X.s.loads ++ [b] = (X.sent ++ [b]).drop X.s.acked.toNat
      rw [List.drop_append_of_le_length (by omega), a5]
    · exact (a10 p hp).mono (by rw [hS]; exact Int.le_refl _) (by rw [hS]; exact Int.le_refl _) hsub
  · refine ⟨b1, b2, b3, b4, b5, b6, ?_, by rw [hS]; exact b8, by rw [hS]; exact b9, b10⟩
    show Y.told = (X.sent ++ [b]).take Y.told.length
    have hlen : Y.told.length ≤ X.sent.length := by
      have := congrArg List.length b7
      simp only [List.length_take] at this
      omega
    rw [List.take_append_of_le_length hlen]; exact b7
/- What may be let out now. -/
theorem out_ok {i j : Int} {X Y : Sd} (h : Half i j X Y) (hj : 1 ≤ j) : PkOk i j X (outP X.s) := by
  obtain ⟨a1, a2, a3, a4, a5, a6, a7, a8, a9, a10⟩ := h
  unfold outP
  by_cases hk : outK X.s = true
  · rw [if_pos hk]
    simp only [outK, Bool.and_eq_true, decide_eq_true_eq] at hk
    refine ⟨a1, ?_, by show 0 ≤ X.s.got; omega, Int.le_refl _, .inr ⟨by show 1 ≤ X.s.acked + 1; omega, Int.le_refl _, ?_⟩⟩
    · rcases a2 with e | e
      · omega
      · exact .inr e
    · show X.sent[(X.s.acked + 1 - 1).toNat]? = some (X.s.loads.headD [])
      have e : (X.s.acked + 1 - 1).toNat = X.s.acked.toNat := by omega
      rw [e]
      have hlt : X.s.acked.toNat < X.sent.length := by
        have := hk.2
        rw [a5] at this
        simp at this; omega
      rw [a5]
      rw [List.getElem?_eq_getElem hlt, List.drop_eq_getElem_cons hlt]
      rfl
  · rw [if_neg hk]
    exact ⟨a1, a2, by show 0 ≤ X.s.got; omega, Int.le_refl _, .inl ⟨rfl, rfl⟩⟩
theorem both_out {i j : Int} {X Y : Sd} (h : Both i j X Y) (hj : 1 ≤ j) : Both i j ⟨X.s, X.sent, X.told, X.outs ++ [outP X.s]⟩ Y := by
  obtain ⟨h1, h2⟩ := h
  have ho := out_ok h1 hj
  obtain ⟨a1, a2, a3, a4, a5, a6, a7, a8, a9, a10⟩ := h1
  obtain ⟨b1, b2, b3, b4, b5, b6, b7, b8, b9, b10⟩ := h2
  refine ⟨⟨a1, a2, a3, a4, a5, a6, a7, a8, a9, fun p hp => ?_⟩, b1, b2, b3, b4, b5, b6, b7, b8, b9, b10⟩
  rcases List.mem_append.1 hp with hp | hp
  · exact a10 p hp
  · simp at hp; subst hp; exact ho
/- What a side is, when it has taken a packet. -/
def tookS (Y : Sd) (p : Pkt) : Sd := ⟨(takeR Y.s p).st, Y.sent, if (takeR Y.s p).ok then Y.told ++ [(takeR Y.s p).load] else Y.told, Y.outs⟩
/- The side Y takes a packet of X. -/
theorem both_take {i j : Int} {X Y : Sd} (h : Both i j X Y) (hi : 1 ≤ i) (hj : 1 ≤ j) {p : Pkt} (hp : PkOk i j X p) : (takeR Y.s p).broke = false ∧ Both i j X (tookS Y p) ∧ (tookS Y p).s.peer = i := by
  obtain ⟨⟨a1, a2, a3, a4, a5, a6, a7, a8, a9, a10⟩, b1, b2, b3, b4, b5, b6, b7, b8, b9, b10⟩ := h
  obtain ⟨p1, p2, p3, p4, p5⟩ := hp
  -- behind the meeting nothing has changed but the peer
  obtain ⟨M, hM, hpe⟩ : ∃ M : St, takeR Y.s p = takeK M p false ∧ M = { Y.s with peer := i } := by
    unfold takeR
    rw [if_neg (by rcases b2 with e | e <;> omega)]
    rcases b2 with e | e
    · rw [if_pos (by omega)]
      refine ⟨metS Y.s p.fr, by rw [decide_eq_false (by omega)], ?_⟩
      unfold metS
      rw [if_neg (by omega)]
      obtain ⟨q1, q2⟩ := b3 e
      rw [p1]
      have : Y.s = ⟨Y.s.inc, Y.s.peer, Y.s.acked, Y.s.got, Y.s.loads⟩ := rfl
      rw [q1, q2] at this
      rw [this]
    · rw [if_neg (by omega)]
      refine ⟨Y.s, rfl, ?_⟩
      rw [← e]
  have hMi : M.inc = j := by rw [hpe]; exact b1
  have hMg : M.got = Y.s.got := by rw [hpe]
  have hMa : M.acked = Y.s.acked := by rw [hpe]
  have hMl : M.loads = Y.s.loads := by rw [hpe]
  have hMp : M.peer = i := by rw [hpe]
  have core : ∀ (N : St) (t : List (List UInt8)), N.inc = j → N.peer = i → Y.s.acked ≤ N.acked → N.acked ≤ Y.sent.length → N.loads = Y.sent.drop N.acked.toNat → N.acked ≤ X.s.got → X.s.got ≤ N.acked + 1 → N.got = t.length → t = X.sent.take t.length → Y.s.got ≤ N.got → N.got ≤ X.s.acked + 1 → Both i j X ⟨N, Y.sent, t, Y.outs⟩ := by
    intro N t n1 n2 n3 n4 n5 n6 n7 n8 n9 n10 n11
    refine ⟨⟨a1, a2, a3, a4, a5, a6, a7, by show X.s.acked ≤ N.got; omega, n11, a10⟩, n1, .inr n2, fun e => ?_, ⟨by show 0 ≤ N.acked; omega, n4⟩, n5, n8, n9, n6, n7, fun q hq => (b10 q hq).mono n10 n3 (fun _ _ e => e)⟩
    have e' : N.peer = 0 := e
    omega
  -- the acknowledging
  obtain ⟨K, hK⟩ : ∃ K, K = ackS M p.ack := ⟨_, rfl⟩
  have hKK : K.inc = j ∧ K.peer = i ∧ Y.s.acked ≤ K.acked ∧ K.acked ≤ Y.sent.length ∧ K.loads = Y.sent.drop K.acked.toNat ∧ K.acked ≤ X.s.got ∧ X.s.got ≤ K.acked + 1 ∧ K.got = Y.s.got := by
    rw [hK]
    unfold ackS
    by_cases hc : p.ack = M.acked + 1 ∧ 0 < M.loads.length
    · rw [if_pos hc]
      obtain ⟨c1, c2⟩ := hc
      rw [hMa] at c1
      rw [hMl, b5] at c2
      simp only [List.length_drop] at c2
      refine ⟨hMi, hMp, by show Y.s.acked ≤ M.acked + 1; omega, by show M.acked + 1 ≤ _; omega, ?_, by show M.acked + 1 ≤ _; omega, by show _ ≤ M.acked + 1 + 1; omega, hMg⟩
      show M.loads.drop 1 = Y.sent.drop (M.acked + 1).toNat
      rw [hMl, b5, List.drop_drop, hMa]
      congr 1
      omega
    · rw [if_neg hc]
      exact ⟨hMi, hMp, by omega, by omega, by rw [hMl, hMa]; exact b5, by omega, by omega, hMg⟩
  obtain ⟨k1, k2, k3, k4, k5, k6, k7, k8⟩ := hKK
  have hbr : ∀ N : St, (takeK N p false).broke = false := by
    intro N; unfold takeK; split
    · rfl
    · split <;> rfl
  refine ⟨by rw [hM]; exact hbr _, ?_⟩
  unfold tookS
  rw [hM]
  unfold takeK
  by_cases e1 : p.to ≠ M.inc
  · rw [if_pos e1]
    exact ⟨core M Y.told hMi hMp (by omega) (by omega) (by rw [hMl, hMa]; exact b5) (by omega) (by omega) (by rw [hMg]; exact b6) b7 (by omega) (by omega), hMp⟩
  · rw [if_neg e1]
    rw [← hK]
    by_cases e2 : p.seq ≠ K.got + 1
    · rw [if_pos e2]
      exact ⟨core K Y.told k1 k2 k3 k4 k5 k6 k7 (by rw [k8]; exact b6) b7 (by omega) (by omega), k2⟩
    · rw [if_neg e2]
      have e3 : p.seq = Y.s.got + 1 := by omega
      obtain ⟨q1, q2, q3⟩ : 1 ≤ p.seq ∧ p.seq ≤ X.s.acked + 1 ∧ X.sent[(p.seq - 1).toNat]? = some p.load := by
        rcases p5 with ⟨q, _⟩ | q
        · omega
        · exact q
      have e4 : (p.seq - 1).toNat = Y.told.length := by omega
      rw [e4] at q3
      refine ⟨core { K with got := K.got + 1 } (Y.told ++ [p.load]) k1 k2 k3 k4 k5 k6 k7 ?_ ?_ ?_ ?_, k2⟩
      · show K.got + 1 = _
        simp only [List.length_append, List.length_cons, List.length_nil]
        omega
      · simp only [List.length_append, List.length_cons, List.length_nil, Nat.zero_add]
        rw [List.take_add_one, q3, ← b7]
        rfl
      · show Y.s.got ≤ K.got + 1; omega
      · show K.got + 1 ≤ _; omega
/- Y takes what X lets out now, X knowing it: all is acknowledged, and one load more has come, if there is one. -/
theorem took_known {i j : Int} {X Y : Sd} (h : Both i j X Y) (hi : 1 ≤ i) (hj : 1 ≤ j) (hk : X.s.peer = j) : (tookS Y (outP X.s)).s.acked = X.s.got ∧ (tookS Y (outP X.s)).s.got = min (X.sent.length : Int) (X.s.acked + 1) := by
  obtain ⟨⟨a1, a2, a3, a4, a5, a6, a7, a8, a9, a10⟩, b1, b2, b3, b4, b5, b6, b7, b8, b9, b10⟩ := h
  obtain ⟨p, hp⟩ : ∃ p, p = outP X.s := ⟨_, rfl⟩
  have hp1 : p.fr = i ∧ p.to = j ∧ p.ack = X.s.got := by
    rw [hp]; unfold outP; split
    · exact ⟨a1, hk, rfl⟩
    · exact ⟨a1, hk, rfl⟩
  have hp2 : (X.s.acked < X.sent.length ∧ p.seq = X.s.acked + 1) ∨ (X.s.acked = X.sent.length ∧ p.seq = 0) := by
    have hl : X.s.loads.length = X.sent.length - X.s.acked.toNat := by rw [a5]; simp
    rw [hp]; unfold outP
    by_cases q : outK X.s = true
    · rw [if_pos q]
      simp only [outK, Bool.and_eq_true, decide_eq_true_eq] at q
      exact .inl ⟨by omega, rfl⟩
    · rw [if_neg q]
      simp only [outK, Bool.and_eq_true, decide_eq_true_eq] at q
      refine .inr ⟨?_, rfl⟩
      have : ¬ 0 < X.s.loads.length := fun e => q ⟨by omega, e⟩
      omega
  have hty : Y.told.length ≤ X.sent.length := by
    have := congrArg List.length b7
    simp only [List.length_take] at this
    omega
  have htx : X.told.length ≤ Y.sent.length := by
    have := congrArg List.length a7
    simp only [List.length_take] at this
    omega
  rw [← hp]
  obtain ⟨M, hM, hpe⟩ : ∃ M : St, takeR Y.s p = takeK M p false ∧ M = { Y.s with peer := i } := by
    unfold takeR
    rw [if_neg (by rcases b2 with e | e <;> omega)]
    rcases b2 with e | e
    · rw [if_pos (by omega)]
      refine ⟨metS Y.s p.fr, by rw [decide_eq_false (by omega)], ?_⟩
      unfold metS
      rw [if_neg (by omega)]
      obtain ⟨q1, q2⟩ := b3 e
      rw [hp1.1]
      have : Y.s = ⟨Y.s.inc, Y.s.peer, Y.s.acked, Y.s.got, Y.s.loads⟩ := rfl
      rw [q1, q2] at this
      rw [this]
    · rw [if_neg (by omega)]
      refine ⟨Y.s, rfl, ?_⟩
      rw [← e]
  have hMi : M.inc = j := by rw [hpe]; exact b1
  have hMg : M.got = Y.s.got := by rw [hpe]
  have hMa : M.acked = Y.s.acked := by rw [hpe]
  have hMl : M.loads.length = Y.sent.length - Y.s.acked.toNat := by rw [hpe]; show Y.s.loads.length = _; rw [b5]; simp
  obtain ⟨K, hK⟩ : ∃ K, K = ackS M p.ack := ⟨_, rfl⟩
  have hKK : K.acked = X.s.got ∧ K.got = Y.s.got := by
    rw [hK]; unfold ackS
    by_cases hc : p.ack = M.acked + 1 ∧ 0 < M.loads.length
    · rw [if_pos hc]
      exact ⟨by show M.acked + 1 = _; omega, hMg⟩
    · rw [if_neg hc]
      refine ⟨?_, hMg⟩
      rw [hMa]
      rcases Int.lt_or_le Y.s.acked X.s.got with q | q
      · exact absurd ⟨by omega, by omega⟩ hc
      · omega
  obtain ⟨k1, k2⟩ := hKK
  unfold tookS
  rw [hM]
  unfold takeK
  rw [if_neg (fun e => e (by omega)), ← hK]
  by_cases e2 : p.seq ≠ K.got + 1
  · rw [if_pos e2]
    refine ⟨k1, ?_⟩
    show K.got = _
    rcases hp2 with ⟨q1, q2⟩ | ⟨q1, q2⟩ <;> omega
  · rw [if_neg e2]
    refine ⟨k1, ?_⟩
    show K.got + 1 = _
    rcases hp2 with ⟨q1, q2⟩ | ⟨q1, q2⟩ <;> omega
/- Both hand each other what they let out, i times: how far all has come (X takes at even i, Y at odd). -/
structure Fin (n i : Nat) (X Y : Sd) : Prop where
  both : Both 4 2 X Y
  few : X.sent.length ≤ n ∧ Y.sent.length ≤ n
  knX : 1 ≤ i → X.s.peer = 2
  knY : 2 ≤ i → Y.s.peer = 4
  ev : 2 ≤ i → i % 2 = 0 → ((i : Int) ≤ 2 * Y.s.got + 2 ∨ Y.s.got = X.sent.length) ∧ ((i : Int) ≤ 2 * X.s.acked + 4 ∨ X.s.acked = X.sent.length) ∧ Y.s.acked = X.s.got ∧ ((i : Int) ≤ 2 * X.s.got + 2 ∨ X.s.got = Y.sent.length)
  od : 3 ≤ i → i % 2 = 1 → X.s.acked = Y.s.got ∧ ((i : Int) ≤ 2 * Y.s.got + 3 ∨ Y.s.got = X.sent.length) ∧ ((i : Int) ≤ 2 * X.s.got + 1 ∨ X.s.got = Y.sent.length) ∧ ((i : Int) ≤ 2 * Y.s.acked + 3 ∨ Y.s.acked = Y.sent.length)
theorem tookS_sent (Y : Sd) (p : Pkt) : (tookS Y p).sent = Y.sent := rfl
theorem Fin.even {n i : Nat} {X Y : Sd} (h : Fin n i X Y) (hi : i % 2 = 0) : Fin n (i + 1) (tookS X (outP Y.s)) Y := by
  obtain ⟨h1, h2, h3, h4, h5, h6⟩ := h
  have ht := both_take h1.swap (by decide) (by decide) (out_ok h1.2 (by decide))
  refine ⟨ht.2.1.swap, h2, fun _ => ht.2.2, fun q => h4 (by omega), fun _ q => by omega, fun q1 q2 => ?_⟩
  have hk := took_known h1.swap (by decide) (by decide) (h4 (by omega))
  obtain ⟨e1, e2, e3, e4⟩ := h5 (by omega) hi
  rw [tookS_sent, hk.1, hk.2]
  have := h1.1.ack0
  have := h1.2.ack0
  refine ⟨rfl, by omega, by omega, by omega⟩
theorem Fin.odd {n i : Nat} {X Y : Sd} (h : Fin n i X Y) (hi : i % 2 = 1) : Fin n (i + 1) X (tookS Y (outP X.s)) := by
  obtain ⟨h1, h2, h3, h4, h5, h6⟩ := h
  have ht := both_take h1 (by decide) (by decide) (out_ok h1.1 (by decide))
  refine ⟨ht.2.1, h2, fun _ => h3 (by omega), fun _ => ht.2.2, fun q1 q2 => ?_, fun _ q => by omega⟩
  have hk := took_known h1 (by decide) (by decide) (h3 (by omega))
  rw [tookS_sent, hk.1, hk.2]
  have c1 := h1.1.ack0
  have c2 := h1.2.ack0
  have c3 := h1.1.got
  by_cases h1' : i = 1
  · subst h1'
    refine ⟨by omega, by omega, rfl, by omega⟩
  · obtain ⟨e1, e2, e3, e4⟩ := h6 (by omega) hi
    refine ⟨by omega, by omega, rfl, by omega⟩
theorem Fin.end {n : Nat} {X Y : Sd} (h : Fin n (4 * n + 8) X Y) : X.told = Y.sent ∧ Y.told = X.sent ∧ X.s.loads = [] ∧ Y.s.loads = [] := by
  obtain ⟨⟨a, b⟩, h2, h3, h4, h5, h6⟩ := h
  obtain ⟨e1, e2, e3, e4⟩ := h5 (by omega) (by omega)
  have c1 := a.got
  have c2 := b.got
  have c3 := a.ack0
  have c4 := b.ack0
  have tx : X.told.length ≤ Y.sent.length := by
    have := congrArg List.length a.told
    simp only [List.length_take] at this
    omega
  have ty : Y.told.length ≤ X.sent.length := by
    have := congrArg List.length b.told
    simp only [List.length_take] at this
    omega
  refine ⟨?_, ?_, ?_, ?_⟩
  · rw [a.told, List.take_of_length_le (by omega)]
  · rw [b.told, List.take_of_length_le (by omega)]
  · rw [a.loads, List.drop_eq_nil_of_le (by omega)]
  · rw [b.loads, List.drop_eq_nil_of_le (by omega)]
end Go.Proofs.Ytpmbkncakbcmbaa
