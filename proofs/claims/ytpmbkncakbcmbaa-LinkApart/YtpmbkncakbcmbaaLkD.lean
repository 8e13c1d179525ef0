/- The walks of Send, Out and Take. -/
import Derived.Test.YtpmbkncakbcmbaaLkC
namespace Go.Proofs.Ytpmbkncakbcmbaa
open Go.RowKit

theorem Lk.frozen {D : Bool} {w : World} {n : Nat} {s : St} {v : Value} {L : List (List UInt8 × Value)} (h : Lk D w n s v L) (i : Nat) : w.frozen? ⟨n, i, none⟩ = false := by
  have := h.cell
  cases D <;> exact frozen_at this i
theorem step_app2 {w : World} {ops : Array Oper} {o : Oper} {a : Act} {K : Act → World → Prop} {Q : Exit → Act → World → Prop} {E : Prop} (hgd : o.guard = none) (s x : Operand)
    (ho : o.op = Op.call { callee := Callee.builtin Builtin.append, args := #[s, x], argTypes := #[47, 47] })
    (vs vx v' : Value) (w' : World) (hs : a.eval s = vs) (hx : a.eval x = vx) (hrun : (Builtin.append_ #[47, 47] o.type #[vs, vx]).run Try.prog w = .ok v' w') (h : K (a.put o.dst v') w') :
    if Region.wanted o (yielded ops a.tmps) = true then Oper.wp Try.prog o a w K Q else E := by
  have hw : Region.wanted o (yielded ops a.tmps) = true := by simp [Region.wanted, hgd]
  rw [if_pos hw]
  unfold Oper.wp execOp
  simp only [ho, resolve, invoke, builtin, Sem.run_bind, Sem.run_pure, Result.andThen_ok, List.map_toArray, List.map_cons, List.map_nil, hs, hx, hrun]
  exact h
/- One load more, in memory. -/
theorem Lk.app {w w3 : World} {n : Nat} {s : St} {v : Value} {L : List (List UInt8 × Value)} {T : Nat → Prop} (h : Lk false w n s v L) (h2 : ∀ g, T g → ¬ Sx n v L g) (h3 : ∀ g, T g → g < w.heap.size) {b : List UInt8} (hs : sendE s b = 0) (hB : Below w.heap.size w w3)
    {A6 : Option Addr} {C6 : Nat} (ho : w3.ownsRow w.heap.size 5 1 (.slice A6 b.length C6) b.length (bv b)) (ty : TypeId) :
    ∃ A8 C8 w8, (Builtin.append_ #[47, 47] ty #[v, .slice (some ⟨w3.heap.size, 0, none⟩) 1 1]).run Try.prog (w3.alloc (.cells #[.slice A6 b.length C6] 30)) = .ok (.slice A8 (s.loads.length + 1) C8) w8 ∧
      (w3.cell? ⟨n, 4, none⟩ = some v ∧ (w3.alloc (.cells #[.slice A6 b.length C6] 30)).cell? ⟨n, 4, none⟩ = some v ∧ w8.cell? ⟨n, 4, none⟩ = some v ∧ w8.frozen? ⟨n, 4, none⟩ = false) ∧
      Hid (Lx false (w8.setCell ⟨n, 4, none⟩ (.slice A8 (s.loads.length + 1) C8)) n (sendS s b) T ∧ Kp T w (w8.setCell ⟨n, 4, none⟩ (.slice A8 (s.loads.length + 1) C8))) := by
  have hb : 0 < b.length ∧ b.length ≤ 1048476 ∧ s.loads.length < 1000 := by
    unfold sendE at hs
    split at hs
    · omega
    split at hs
    · omega
    split at hs
    · omega
    omega
  have hSS : sendS s b = { s with loads := s.loads ++ [b] } := by rw [sendS, if_pos hs]
  rw [hSS]
  have hA := h.below hB
  have hlen := h.len
  obtain ⟨A8, C8, w8, hrun, hR, hc, hbl⟩ := hA.row.app (by rw [List.length_map]; omega) (A6 := A6) (n6 := b.length) (C6 := C6) ty
  simp only [List.length_map, hlen] at hrun hR hbl
  have hne : ∀ g, blk v = some g → g ≠ n := fun g hg => (hA.row_ne hg).1
  have hbx : w8.heap[n]? = some (box false s v) := by rw [hc.block n (heap_lt hA.cell) (fun e => hne n e rfl)]; exact hA.cell
  have hcs : Chg (fun g => blk v = some g ∨ g = n) w3 (w8.setCell ⟨n, 4, none⟩ (.slice A8 (s.loads.length + 1) C8)) := (hc.weak fun _ _ e => .inl e).trans (Chg.setCell _ _ _ (.inr rfl))
  have hnew : ∀ g, blk (.slice A6 b.length C6) = some g → w.heap.size ≤ g ∧ g ≠ n ∧ ¬ blk v = some g ∧ g < w3.heap.size := by
    intro g hg
    obtain ⟨cur, q, q2⟩ := owns_blockT ho hg
    refine ⟨q2, fun e => ?_, fun e => ?_, heap_lt q⟩
    · rw [e, hA.cell] at q; cases q
    · obtain ⟨cur', q'⟩ := hA.row.block e
      rw [q] at q'; cases q'
  refine ⟨A8, C8, w8, hrun, ⟨hA.cells.2.2.2.2, (hA.below (below1 w3 _)).cells.2.2.2.2, cell_at hbx 4, frozen_at hbx 4⟩, ?_⟩
  have hfit := h.fit
  have hk : Lk false (w8.setCell ⟨n, 4, none⟩ (.slice A8 (s.loads.length + 1) C8)) n { s with loads := s.loads ++ [b] } (.slice A8 (s.loads.length + 1) C8) (L ++ [(b, .slice A6 b.length C6)]) := by
    refine ⟨heap_set hbx 4 _, ?_, fun x hx => ?_, by simp [h.loads], ⟨hfit.1, hfit.2.1, hfit.2.2.1, by simp; omega, fun x hx => ?_⟩⟩
    · rw [List.map_append]
      refine hR.keep (Chg.setCell (S := fun g => g = n) w8 ⟨n, 4, none⟩ _ rfl) (fun k hk e => ?_)
      obtain ⟨cur, q⟩ := hR.block hk
      rw [e, hbx] at q; cases q
    · rcases List.mem_append.1 hx with hx | hx
      · exact owns_keepT (hA.els x hx) hcs (fun k hk e => e.elim (fun e => (hA.row_ne e).2 x hx hk) (fun e => hA.els_ne x hx (by rw [hk, e])))
      · simp at hx; subst hx
        exact owns_lowT (owns_keepT ho hcs (fun k hk e => e.elim (fun e => (hnew k hk).2.2.1 e) (fun e => (hnew k hk).2.1 e))) (Nat.zero_le _)
    · rcases List.mem_append.1 hx with hx | hx
      · exact hfit.2.2.2.2 x hx
      · simp at hx; subst hx; exact ⟨hb.1, hb.2.1⟩
  refine Lx.of_next h2 h3 hk (((Chg.of_below hB).weak fun _ _ e => e.elim).trans (hcs.weak fun g _ e => e.elim (fun e => .inr (.inl e)) (fun e => .inl e))) ?_
  rintro g (e | e | ⟨x, hx, e⟩)
  · exact .inl (.inl e)
  · rcases hbl g e with q | q
    · exact .inl (.inr (.inl q))
    · exact .inr (Nat.le_trans hB.size q)
  · rcases List.mem_append.1 hx with hx | hx
    · exact .inl (.inr (.inr ⟨x, hx, e⟩))
    · simp at hx; subst hx; exact .inr (hnew g e).1
set_option maxRecDepth 100000 in
theorem send_any {w : World} {n : Nat} {s : St} {T : Nat → Prop} (h : Lx false w n s T) {x : Value} {b : List UInt8} (hx : Bs w x b) :
    Calls Try.prog 12 #[.pointer (some ⟨n, 0, none⟩), x] w fun e w' => e = .returned (.int .i64 (sendE s b)) ∧ Lx false w' n (sendS s b) T ∧ Kp T w w' := by
  have hF := h
  obtain ⟨v, L, h1, h2, h3⟩ := h
  obtain ⟨c0, c1, c2, c3, c4⟩ := h1.cells
  have hi := h1.fit.1
  have hlen := h1.len
  obtain ⟨X, c, rfl⟩ := bs_form hx
  obtain ⟨A, C, hv⟩ := h1.row.form
  simp only [List.length_map, hlen] at hv
  by_cases hE : sendE s b = 0
  · have hb : 0 < b.length ∧ b.length ≤ 1048476 ∧ s.loads.length < 1000 := by
      unfold sendE at hE
      split at hE
      · omega
      split at hE
      · omega
      split at hE
      · omega
      omega
    have HAP : Hid (∀ (w3 : World) (A6 : Option Addr) (C6 : Nat), Below w.drew.heap.size w.drew w3 → w3.ownsRow w.drew.heap.size 5 1 (.slice A6 b.length C6) b.length (bv b) → _) := fun w3 A6 C6 hB ho =>
      Lk.app (ty := 47) (h1.below (Below.refl _ _).drew) h2 h3 hE hB ho
    have HK : Hid (Kp T w w.drew) := Chg.drew _ _
    have hcl := clone_any hx.drew (by omega)
    have hfr := h1.frozen 4
    rw [hE]
    subst hv
    generalize sendS s b = s' at HAP ⊢
    obtain ⟨N, hN⟩ : ∃ N, N = s.loads.length := ⟨_, rfl⟩
    obtain ⟨M, hM⟩ : ∃ M, M = b.length := ⟨_, rfl⟩
    rw [← hN] at c4 HAP hb
    rw [← hM] at HAP hcl hb ⊢
    obtain ⟨hb1, hb2, hb3⟩ := hb
    clear hF h1 h2 h3 hE hlen hN hM hx
    go_enter Try.func12, Try.ntmps12
    go_wp2_with fail
    refine (there_any c0 (by omega)).mono ?_
    rintro e w1 ⟨rfl, rfl⟩
    go_wp2_with fail
    go_region_law (first
      | (go_simp; go_at_call 31; refine hcl.mono ?_; rintro e w3 ⟨A6, C6, rfl, ho, hB3⟩; obtain ⟨A8, C8, w8, hrun, ⟨k1, k2, k3, k4⟩, HF⟩ := HAP.out w3 A6 C6 hB3 ho)
      | (refine step_app2 rfl (.tmp 28) (.tmp 31) rfl _ _ _ _ (by simp [Act.eval]) (by simp [Act.eval]) hrun ?_))
    all_goals
      go_wp2_with fail
      go_ret
      exact ⟨rfl, HF.out.1, HK.out.trans HF.out.2⟩
  · have hSS : sendS s b = s := by rw [sendS, if_neg hE]
    rw [hSS]
    have HF : Hid (Lx false w n s T) := hF
    subst hv
    unfold sendE at hE ⊢
    obtain ⟨N, hN⟩ : ∃ N, N = s.loads.length := ⟨_, rfl⟩
    obtain ⟨M, hM⟩ : ∃ M, M = b.length := ⟨_, rfl⟩
    rw [← hN] at c4 hE ⊢
    rw [← hM] at hE ⊢
    clear hF h1 h2 h3 hlen hN hM hx hSS
    by_cases e1 : M = 0
    · rw [if_pos e1]
      subst e1
      clear hE
      go_enter Try.func12, Try.ntmps12
      go_wp2_with fail
      refine (there_any c0 (by omega)).mono ?_
      rintro e w1 ⟨rfl, rfl⟩
      go_wp2_with fail
      go_ret
      exact ⟨rfl, HF.out, Chg.refl _ _⟩
    rw [if_neg e1] at hE ⊢
    by_cases e2 : 1048476 < M
    · rw [if_pos e2]
      clear hE
      go_enter Try.func12, Try.ntmps12
      go_wp2_with fail
      refine (there_any c0 (by omega)).mono ?_
      rintro e w1 ⟨rfl, rfl⟩
      go_wp2_with fail
      go_ret
      exact ⟨rfl, HF.out, Chg.refl _ _⟩
    rw [if_neg e2] at hE ⊢
    by_cases e3 : 1000 ≤ N
    · rw [if_pos e3]
      clear hE
      go_enter Try.func12, Try.ntmps12
      go_wp2_with fail
      refine (there_any c0 (by omega)).mono ?_
      rintro e w1 ⟨rfl, rfl⟩
      go_wp2_with fail
      go_ret
      exact ⟨rfl, HF.out, Chg.refl _ _⟩
    rw [if_neg e3] at hE
    exact absurd rfl hE
def pkV (p : Pkt) (A : Option Addr) (C : Nat) : Value := .agg #[.int .i64 p.fr, .int .i64 p.to, .int .i64 p.seq, .int .i64 p.ack, .slice A p.load.length C]
/- The first load. -/
theorem Lk.head {D : Bool} {w : World} {n : Nat} {s : St} {A : Option Addr} {N C : Nat} {L : List (List UInt8 × Value)} (h : Lk D w n s (.slice A N C) L) (h0 : 0 < s.loads.length) :
    ∃ g o A' C', A = some ⟨g, o, none⟩ ∧ w.cell? ⟨g, o, none⟩ = some (.slice A' (s.loads.headD []).length C') ∧ Bs w (.slice A' (s.loads.headD []).length C') (s.loads.headD []) := by
  have hlen := h.len
  cases L with
  | nil => simp at hlen; omega
  | cons x L =>
    obtain ⟨g, o, rfl, hc⟩ := h.row.at 0 (by simp)
    have hx := h.els x (.head _)
    obtain ⟨A', C', e⟩ := owns_formT hx
    have hb := Bs.of_owns hx
    have hl : s.loads.headD [] = x.1 := by rw [← h.loads]; rfl
    rw [hl]
    rw [e] at hb
    refine ⟨g, o, A', C', rfl, ?_, hb⟩
    simpa [e] using hc
/- The end of a call that answers a packet out of a block. -/
theorem out_end {fn : Func} {a : Tmp} (hres : fn.results = #[.cell a 32]) {w w5 w9 : World} {act : Act} {bx : Nat} {p : Pkt} {A : Option Addr} {C : Nat} {S : Nat → Prop} (ht : act.tmps.getD a undef = .pointer (some ⟨bx, 0, none⟩))
    (hx : w9.heap[bx]? = some (.cells #[.int .i64 p.fr, .int .i64 p.to, .int .i64 p.seq, .int .i64 p.ack, .slice A p.load.length C] 32 (0, 0))) (hc : Chg S w5 w9) (hB : Below w.heap.size w w5)
    (ho : w5.ownsRow w.heap.size 5 1 (.slice A p.load.length C) p.load.length (bv p.load)) (hS : ∀ g, S g → w.heap.size ≤ g) (hn : ∀ k, blk (.slice A p.load.length C) = some k → ¬ S k) (hd : act.defers = [] := by rfl) :
    bodyPost Try.prog fn (fun e w' => ∃ A C, e = Ending.returned (pkV p A C) ∧ w'.ownsRow w.heap.size 5 1 (.slice A p.load.length C) p.load.length (bv p.load) ∧ Below w.heap.size w w') Exit.ret act w9 := by
  have y0 := cell_at hx 0
  have y1 := cell_at hx 1
  have y2 := cell_at hx 2
  have y3 := cell_at hx 3
  have y4 := cell_at hx 4
  simp at y0 y1 y2 y3 y4
  have ht' : act.tmps[a]?.getD undef = .pointer (some ⟨bx, 0, none⟩) := by simpa using ht
  refine bodyPost_ret (v := pkV p A C) (by simp [results, hres, ht', go_sem, y0, y1, y2, y3, y4, pkV]) hd ⟨A, C, rfl, owns_keepT ho hc hn, hB.trans (hc.below hS hB.size)⟩
set_option maxRecDepth 100000 in
theorem out_any {w : World} {n : Nat} {s : St} {T : Nat → Prop} (h : Lx false w n s T) (ha : s.acked < 4611686018427387904) :
    Calls Try.prog 24 #[.pointer (some ⟨n, 0, none⟩)] w fun e w' => ∃ A C, e = .returned (pkV (outP s) A C) ∧ w'.ownsRow w.heap.size 5 1 (.slice A (outP s).load.length C) (outP s).load.length (bv (outP s).load) ∧ Below w.heap.size w w' := by
  have hF := h
  obtain ⟨v, L, h1, h2, h3⟩ := h
  obtain ⟨c0, c1, c2, c3, c4⟩ := h1.cells
  have hfit := h1.fit
  have hi := hfit.1
  have hlen := h1.len
  obtain ⟨A, C, hv⟩ := h1.row.form
  simp only [List.length_map, hlen] at hv
  subst hv
  have hkn := fun w' (hb : Below w.heap.size w w') => known_any (hF.below hb)
  have hwt := fun w' (hb : Below w.heap.size w w') => wait_any (hF.below hb)
  by_cases hk : 0 < s.peer
  · by_cases hn : 0 < s.loads.length
    · have hP : outP s = ⟨s.inc, s.peer, s.acked + 1, s.got, s.loads.headD []⟩ := by unfold outP outK; simp [hk, hn]
      rw [hP]
      obtain ⟨g, o, A', C', rfl, hc, hbs⟩ := h1.head hn
      have hld : (s.loads.headD []).length ≤ 1048476 := by
        cases hl : s.loads with
        | nil => rw [hl] at hn; simp at hn
        | cons x l => exact (hfit.2.2.2.2 x (by rw [hl]; exact .head _)).2
      rw [decide_eq_true hk] at hkn
      obtain ⟨N, hN⟩ : ∃ N, N = s.loads.length := ⟨_, rfl⟩
      obtain ⟨b, hb⟩ : ∃ b, b = s.loads.headD [] := ⟨_, rfl⟩
      rw [← hN] at c4 hwt hn
      rw [← hb] at hc hbs hld ⊢
      have HBS : Hid (∀ w', Below w.heap.size w w' → Bs w' (.slice A' b.length C') b) := fun w' hw' => hbs.keep (Chg.of_below hw') (fun _ _ => id)
      have HCB : Hid (∀ (w' : World) (i : Nat) (u : Value), Below w.heap.size w w' → w.cell? ⟨n, i, none⟩ = some u → w'.cell? ⟨n, i, none⟩ = some u) := fun w' i u hb hu => by rw [World.cell?_of_block (hb.block n (heap_lt h1.cell))]; exact hu
      have HCG : Hid (∀ (w' : World), Below w.heap.size w w' → w'.cell? ⟨g, o, none⟩ = some (.slice A' b.length C')) := fun w' hb' => by rw [World.cell?_of_block (hb'.block g (World.block_lt_of_cell? w _ hc))]; exact hc
      obtain ⟨W, hW⟩ : ∃ W, W = w.alloc (.cells #[.int .i64 0, .int .i64 0, .int .i64 0, .int .i64 0, .slice none 0 0] 32) := ⟨_, rfl⟩
      have HBW : Hid (Below w.heap.size w W) := by rw [hW]; exact below1 _ _
      have HX : Hid (W.heap[w.heap.size]? = some (.cells #[.int .i64 0, .int .i64 0, .int .i64 0, .int .i64 0, .slice none 0 0] 32 (0, 0))) := by rw [hW]; exact heap_alloc_new w _
      have d0 := HCB.out W _ _ HBW.out c0
      have d1 := HCB.out W _ _ HBW.out c1
      have d2 := HCB.out W _ _ HBW.out c2
      have d3 := HCB.out W _ _ HBW.out c3
      have hth := there_any d0 (by omega)
      rw [hW] at hth
      obtain ⟨bx, hbx⟩ : ∃ bx, bx = w.heap.size := ⟨_, rfl⟩
      have HACK : Hid (0 ≤ s.acked ∧ s.acked < 4611686018427387904) := ⟨hfit.2.2.1.1, ha⟩
      clear ha
      clear hF h1 h2 h3 hlen hN hb hbs hP hfit
      go_enter Try.func24, Try.ntmps24
      go_wp2_with fail
      refine hth.mono ?_
      rintro e w1 ⟨rfl, hw1⟩
      rw [← hW] at hw1
      subst hw1
      clear hth hW
      rw [← hbx]
      rw [← hbx] at HX
      have HBX : Hid (bx = w.heap.size) := hbx
      clear hbx
      go_wp2_with fail
      go_region_held3 (fun w' => w'.cell? ⟨n, 0, none⟩ = some (.int .i64 s.inc) ∧ w'.cell? ⟨n, 1, none⟩ = some (.int .i64 s.peer) ∧ w'.cell? ⟨n, 3, none⟩ = some (.int .i64 s.got))
        (first | exact ⟨d0, d1, d3⟩ | go_keep) (fail)
      obtain ⟨W2, hW2⟩ : ∃ W, W = (w1.alloc (.cells #[.int .i64 s.inc, .int .i64 s.peer, .int .i64 0, .int .i64 s.got, .slice none 0 0] 32)).drew := ⟨_, rfl⟩
      obtain ⟨pb, hpb⟩ : ∃ pb, pb = w1.heap.size := ⟨_, rfl⟩
      have HB2 : Hid (Below w.heap.size w W2) := by rw [hW2]; exact (HBW.out.alloc HBW.out.size _).drew
      have HP2 : Hid (W2.heap[pb]? = some (.cells #[.int .i64 s.inc, .int .i64 s.peer, .int .i64 0, .int .i64 s.got, .slice none 0 0] 32 (0, 0))) := by rw [hW2, hpb]; exact heap_alloc_new w1 _
      have HX2 : Hid (W2.heap[bx]? = some (.cells #[.int .i64 0, .int .i64 0, .int .i64 0, .int .i64 0, .slice none 0 0] 32 (0, 0))) := by
        have : (w1.alloc (.cells #[.int .i64 s.inc, .int .i64 s.peer, .int .i64 0, .int .i64 s.got, .slice none 0 0] 32)).heap[bx]? = w1.heap[bx]? := Below.heap_alloc w1 _ bx (heap_lt HX.out)
        rw [hW2]; exact this.trans HX.out
      have HPL : Hid (w.heap.size ≤ pb ∧ bx ≠ pb) := by rw [hpb]; exact ⟨HBW.out.size, fun e => by have := heap_lt HX.out; omega⟩
      have hn1 : ¬ n = pb := fun e => by have := HPL.out.1; have := World.block_lt_of_cell? w _ c0; simp at this; omega
      have hg1 : ¬ g = pb := fun e => by have := HPL.out.1; have := World.block_lt_of_cell? w _ hc; simp at this; omega
      have hwr : IntKind.i64.wrap (s.acked + 1) = s.acked + 1 := Go.IntWalk.i64_in _ (by have := HACK.out; omega)
      rw [← hW2, ← hpb]
      clear hW2 hpb d0 d1 d2 d3 HX HBW
      have hk2 := hkn W2 HB2.out
      have hw2 := hwt W2 HB2.out
      clear hkn hwt
      go_wp2_with fail
      refine hk2.mono ?_
      rintro e w3 ⟨rfl, rfl⟩
      go_wp2_with fail
      refine hw2.mono ?_
      rintro e w3 ⟨rfl, rfl⟩
      have d2 := HCB.out w3 _ _ HB2.out c2
      have d4 := HCB.out w3 _ _ HB2.out c4
      have dg := HCG.out w3 HB2.out
      have p2 := cell_at HP2.out 2
      have f2 := frozen_at HP2.out 2
      simp at p2
      go_wp2_with fail
      obtain ⟨W4, hW4⟩ : ∃ W, W = w3.setCell ⟨pb, 2, none⟩ (.int .i64 (s.acked + 1)) := ⟨_, rfl⟩
      have HB4 : Hid (Below w.heap.size w W4) := by rw [hW4]; exact HB2.out.trans ((Chg.setCell (S := fun k => k = pb) w3 ⟨pb, 2, none⟩ _ rfl).below (fun k hk => by rw [hk]; exact HPL.out.1) HB2.out.size)
      have HP4 : Hid (W4.heap[pb]? = some (.cells #[.int .i64 s.inc, .int .i64 s.peer, .int .i64 (s.acked + 1), .int .i64 s.got, .slice none 0 0] 32 (0, 0))) := by rw [hW4]; exact heap_set HP2.out 2 _
      have HX4 : Hid (W4.heap[bx]? = some (.cells #[.int .i64 0, .int .i64 0, .int .i64 0, .int .i64 0, .slice none 0 0] 32 (0, 0))) := by
        rw [hW4, Below.heap_setCell w3 ⟨pb, 2, none⟩ _ bx HPL.out.2]; exact HX2.out
      have hcl := clone_any (HBS.out W4 HB4.out) (by omega)
      rw [hW4] at hcl
      refine hcl.mono ?_
      rintro e w5 ⟨A6, C6, rfl, ho, hB5⟩
      rw [← hW4] at ho hB5
      clear hcl hW4 HP2 HX2 p2 f2 d2 d4 dg
      have HP5 : Hid (w5.heap[pb]? = some (.cells #[.int .i64 s.inc, .int .i64 s.peer, .int .i64 (s.acked + 1), .int .i64 s.got, .slice none 0 0] 32 (0, 0))) := by rw [Hid, hB5.block pb (heap_lt HP4.out)]; exact HP4.out
      have HX5 : Hid (w5.heap[bx]? = some (.cells #[.int .i64 0, .int .i64 0, .int .i64 0, .int .i64 0, .slice none 0 0] 32 (0, 0))) := by rw [Hid, hB5.block bx (heap_lt HX4.out)]; exact HX4.out
      have HB5 : Hid (Below w.heap.size w w5) := HB4.out.trans (hB5.mono HB4.out.size)
      have HO : Hid (w5.ownsRow W4.heap.size 5 1 (.slice A6 b.length C6) b.length (bv b)) := ho
      have HNE : Hid (¬ blk (.slice A6 b.length C6) = some pb ∧ ¬ blk (.slice A6 b.length C6) = some bx) := ⟨fun e => (by obtain ⟨_, q, _⟩ := owns_blockT ho e; rw [HP5.out] at q; cases q), fun e => (by obtain ⟨_, q, _⟩ := owns_blockT ho e; rw [HX5.out] at q; cases q)⟩
      have q0 := cell_at HP5.out 0
      have q1 := cell_at HP5.out 1
      have q2 := cell_at HP5.out 2
      have q3 := cell_at HP5.out 3
      have q4 := cell_at HP5.out 4
      have f4 := frozen_at HP5.out
      have x0 := cell_at HX5.out 0
      have x1 := cell_at HX5.out 1
      have x2 := cell_at HX5.out 2
      have x3 := cell_at HX5.out 3
      have x4 := cell_at HX5.out 4
      have fx := frozen_at HX5.out
      have hbp : ¬ bx = pb := HPL.out.2
      simp at q0 q1 q2 q3 q4 x0 x1 x2 x3 x4
      clear ho hB5 HP4 HX4
      go_wp2_with fail
      have H9 := set_all (w := w5.setCell ⟨pb, 4, none⟩ (.slice A6 b.length C6)) (n := bx) (by rw [Below.heap_setCell w5 ⟨pb, 4, none⟩ _ bx HPL.out.2]; exact HX5.out) (.int .i64 s.inc) (.int .i64 s.peer) (.int .i64 (s.acked + 1)) (.int .i64 s.got) (.slice A6 b.length C6)
      exact out_end Try.results24 (p := ⟨s.inc, s.peer, s.acked + 1, s.got, b⟩) rfl H9.1 ((Chg.setCell (S := fun g => g = pb ∨ g = bx) w5 ⟨pb, 4, none⟩ _ (.inl rfl)).trans (H9.2.weak fun g _ e => .inr e)) HB5.out (owns_lowT HO.out HB4.out.size) (fun g hg => by rcases hg with rfl | rfl; exact HPL.out.1; exact Nat.le_of_eq HBX.out.symm) (fun k hk e => by rcases e with rfl | rfl; exact HNE.out.1 hk; exact HNE.out.2 hk)
    · have hn0 : s.loads.length = 0 := by omega
      have hP : outP s = ⟨s.inc, s.peer, 0, s.got, []⟩ := by unfold outP outK; simp [hn0]
      rw [hP]
      rw [decide_eq_true hk] at hkn
      rw [hn0] at hwt c4
      clear hn hn0
      have HCB : Hid (∀ (w' : World) (i : Nat) (u : Value), Below w.heap.size w w' → w.cell? ⟨n, i, none⟩ = some u → w'.cell? ⟨n, i, none⟩ = some u) := fun w' i u hb hu => by rw [World.cell?_of_block (hb.block n (heap_lt h1.cell))]; exact hu
      obtain ⟨W, hW⟩ : ∃ W, W = w.alloc (.cells #[.int .i64 0, .int .i64 0, .int .i64 0, .int .i64 0, .slice none 0 0] 32) := ⟨_, rfl⟩
      have HBW : Hid (Below w.heap.size w W) := by rw [hW]; exact below1 _ _
      have HX : Hid (W.heap[w.heap.size]? = some (.cells #[.int .i64 0, .int .i64 0, .int .i64 0, .int .i64 0, .slice none 0 0] 32 (0, 0))) := by rw [hW]; exact heap_alloc_new w _
      have d0 := HCB.out W _ _ HBW.out c0
      have d1 := HCB.out W _ _ HBW.out c1
      have d2 := HCB.out W _ _ HBW.out c2
      have d3 := HCB.out W _ _ HBW.out c3
      have hth := there_any d0 (by omega)
      rw [hW] at hth
      obtain ⟨bx, hbx⟩ : ∃ bx, bx = w.heap.size := ⟨_, rfl⟩
      have HACK : Hid (0 ≤ s.acked ∧ s.acked < 4611686018427387904) := ⟨hfit.2.2.1.1, ha⟩
      clear ha
      clear hF h1 h2 h3 hlen hP hfit
      go_enter Try.func24, Try.ntmps24
      go_wp2_with fail
      refine hth.mono ?_
      rintro e w1 ⟨rfl, hw1⟩
      rw [← hW] at hw1
      subst hw1
      clear hth hW
      rw [← hbx]
      rw [← hbx] at HX
      have HBX : Hid (bx = w.heap.size) := hbx
      clear hbx
      go_wp2_with fail
      go_region_held3 (fun w' => w'.cell? ⟨n, 0, none⟩ = some (.int .i64 s.inc) ∧ w'.cell? ⟨n, 1, none⟩ = some (.int .i64 s.peer) ∧ w'.cell? ⟨n, 3, none⟩ = some (.int .i64 s.got))
        (first | exact ⟨d0, d1, d3⟩ | go_keep) (fail)
      obtain ⟨W2, hW2⟩ : ∃ W, W = (w1.alloc (.cells #[.int .i64 s.inc, .int .i64 s.peer, .int .i64 0, .int .i64 s.got, .slice none 0 0] 32)).drew := ⟨_, rfl⟩
      obtain ⟨pb, hpb⟩ : ∃ pb, pb = w1.heap.size := ⟨_, rfl⟩
      have HB2 : Hid (Below w.heap.size w W2) := by rw [hW2]; exact (HBW.out.alloc HBW.out.size _).drew
      have HP2 : Hid (W2.heap[pb]? = some (.cells #[.int .i64 s.inc, .int .i64 s.peer, .int .i64 0, .int .i64 s.got, .slice none 0 0] 32 (0, 0))) := by rw [hW2, hpb]; exact heap_alloc_new w1 _
      have HX2 : Hid (W2.heap[bx]? = some (.cells #[.int .i64 0, .int .i64 0, .int .i64 0, .int .i64 0, .slice none 0 0] 32 (0, 0))) := by
        have : (w1.alloc (.cells #[.int .i64 s.inc, .int .i64 s.peer, .int .i64 0, .int .i64 s.got, .slice none 0 0] 32)).heap[bx]? = w1.heap[bx]? := Below.heap_alloc w1 _ bx (heap_lt HX.out)
        rw [hW2]; exact this.trans HX.out
      have HPL : Hid (w.heap.size ≤ pb ∧ bx ≠ pb) := by rw [hpb]; exact ⟨HBW.out.size, fun e => by have := heap_lt HX.out; omega⟩
      have hn1 : ¬ n = pb := fun e => by have := HPL.out.1; have := World.block_lt_of_cell? w _ c0; simp at this; omega
      have _hwr : IntKind.i64.wrap (s.acked + 1) = s.acked + 1 := Go.IntWalk.i64_in _ (by have := HACK.out; omega)
      rw [← hW2, ← hpb]
      clear hW2 hpb d0 d1 d2 d3 HX HBW
      have hk2 := hkn W2 HB2.out
      have hw2 := hwt W2 HB2.out
      clear hkn hwt
      go_wp2_with fail
      refine hk2.mono ?_
      rintro e w3 ⟨rfl, rfl⟩
      go_wp2_with fail
      refine hw2.mono ?_
      rintro e w3 ⟨rfl, rfl⟩
      have x0 := cell_at HX2.out 0
      have x1 := cell_at HX2.out 1
      have x2 := cell_at HX2.out 2
      have x3 := cell_at HX2.out 3
      have x4 := cell_at HX2.out 4
      have fx := frozen_at HX2.out
      have q0 := cell_at HP2.out 0
      have q1 := cell_at HP2.out 1
      have q2 := cell_at HP2.out 2
      have q3 := cell_at HP2.out 3
      have q4 := cell_at HP2.out 4
      have hbp : ¬ bx = pb := HPL.out.2
      simp at q0 q1 q2 q3 q4 x0 x1 x2 x3 x4
      go_wp2_with fail
      have H9 := set_all (w := w3) (n := bx) HX2.out (.int .i64 s.inc) (.int .i64 s.peer) (.int .i64 0) (.int .i64 s.got) (.slice none 0 0)
      exact out_end Try.results24 (p := ⟨s.inc, s.peer, 0, s.got, []⟩) rfl H9.1 H9.2 HB2.out (World.ownsRow_nil _ _ _ _) (fun g hg => by rw [hg]; exact Nat.le_of_eq HBX.out.symm) (fun k hk e => by cases hk)
  · have hP : outP s = ⟨s.inc, s.peer, 0, s.got, []⟩ := by unfold outP outK; simp [hk]
    rw [hP]
    rw [decide_eq_false hk] at hkn
    clear hwt
    have HCB : Hid (∀ (w' : World) (i : Nat) (u : Value), Below w.heap.size w w' → w.cell? ⟨n, i, none⟩ = some u → w'.cell? ⟨n, i, none⟩ = some u) := fun w' i u hb hu => by rw [World.cell?_of_block (hb.block n (heap_lt h1.cell))]; exact hu
    obtain ⟨W, hW⟩ : ∃ W, W = w.alloc (.cells #[.int .i64 0, .int .i64 0, .int .i64 0, .int .i64 0, .slice none 0 0] 32) := ⟨_, rfl⟩
    have HBW : Hid (Below w.heap.size w W) := by rw [hW]; exact below1 _ _
    have HX : Hid (W.heap[w.heap.size]? = some (.cells #[.int .i64 0, .int .i64 0, .int .i64 0, .int .i64 0, .slice none 0 0] 32 (0, 0))) := by rw [hW]; exact heap_alloc_new w _
    have d0 := HCB.out W _ _ HBW.out c0
    have d1 := HCB.out W _ _ HBW.out c1
    have d2 := HCB.out W _ _ HBW.out c2
    have d3 := HCB.out W _ _ HBW.out c3
    have hth := there_any d0 (by omega)
    rw [hW] at hth
    obtain ⟨bx, hbx⟩ : ∃ bx, bx = w.heap.size := ⟨_, rfl⟩
    have HACK : Hid (0 ≤ s.acked ∧ s.acked < 4611686018427387904) := ⟨hfit.2.2.1.1, ha⟩
    clear ha
    clear hF h1 h2 h3 hlen hP hfit
    go_enter Try.func24, Try.ntmps24
    go_wp2_with fail
    refine hth.mono ?_
    rintro e w1 ⟨rfl, hw1⟩
    rw [← hW] at hw1
    subst hw1
    clear hth hW
    rw [← hbx]
    rw [← hbx] at HX
    have HBX : Hid (bx = w.heap.size) := hbx
    clear hbx
    go_wp2_with fail
    go_region_held3 (fun w' => w'.cell? ⟨n, 0, none⟩ = some (.int .i64 s.inc) ∧ w'.cell? ⟨n, 1, none⟩ = some (.int .i64 s.peer) ∧ w'.cell? ⟨n, 3, none⟩ = some (.int .i64 s.got))
      (first | exact ⟨d0, d1, d3⟩ | go_keep) (fail)
    obtain ⟨W2, hW2⟩ : ∃ W, W = (w1.alloc (.cells #[.int .i64 s.inc, .int .i64 s.peer, .int .i64 0, .int .i64 s.got, .slice none 0 0] 32)).drew := ⟨_, rfl⟩
    obtain ⟨pb, hpb⟩ : ∃ pb, pb = w1.heap.size := ⟨_, rfl⟩
    have HB2 : Hid (Below w.heap.size w W2) := by rw [hW2]; exact (HBW.out.alloc HBW.out.size _).drew
    have HP2 : Hid (W2.heap[pb]? = some (.cells #[.int .i64 s.inc, .int .i64 s.peer, .int .i64 0, .int .i64 s.got, .slice none 0 0] 32 (0, 0))) := by rw [hW2, hpb]; exact heap_alloc_new w1 _
    have HX2 : Hid (W2.heap[bx]? = some (.cells #[.int .i64 0, .int .i64 0, .int .i64 0, .int .i64 0, .slice none 0 0] 32 (0, 0))) := by
      have : (w1.alloc (.cells #[.int .i64 s.inc, .int .i64 s.peer, .int .i64 0, .int .i64 s.got, .slice none 0 0] 32)).heap[bx]? = w1.heap[bx]? := Below.heap_alloc w1 _ bx (heap_lt HX.out)
      rw [hW2]; exact this.trans HX.out
    have HPL : Hid (w.heap.size ≤ pb ∧ bx ≠ pb) := by rw [hpb]; exact ⟨HBW.out.size, fun e => by have := heap_lt HX.out; omega⟩
    have hn1 : ¬ n = pb := fun e => by have := HPL.out.1; have := World.block_lt_of_cell? w _ c0; simp at this; omega
    have _hwr : IntKind.i64.wrap (s.acked + 1) = s.acked + 1 := Go.IntWalk.i64_in _ (by have := HACK.out; omega)
    rw [← hW2, ← hpb]
    clear hW2 hpb d0 d1 d2 d3 HX HBW
    have hk2 := hkn W2 HB2.out
    clear hkn
    go_wp2_with fail
    refine hk2.mono ?_
    rintro e w3 ⟨rfl, rfl⟩
    have x0 := cell_at HX2.out 0
    have x1 := cell_at HX2.out 1
    have x2 := cell_at HX2.out 2
    have x3 := cell_at HX2.out 3
    have x4 := cell_at HX2.out 4
    have fx := frozen_at HX2.out
    have q0 := cell_at HP2.out 0
    have q1 := cell_at HP2.out 1
    have q2 := cell_at HP2.out 2
    have q3 := cell_at HP2.out 3
    have q4 := cell_at HP2.out 4
    have hbp : ¬ bx = pb := HPL.out.2
    simp at q0 q1 q2 q3 q4 x0 x1 x2 x3 x4
    go_wp2_with fail
    have H9 := set_all (w := w3) (n := bx) HX2.out (.int .i64 s.inc) (.int .i64 s.peer) (.int .i64 0) (.int .i64 s.got) (.slice none 0 0)
    exact out_end Try.results24 (p := ⟨s.inc, s.peer, 0, s.got, []⟩) rfl H9.1 H9.2 HB2.out (World.ownsRow_nil _ _ _ _) (fun g hg => by rw [hg]; exact Nat.le_of_eq HBX.out.symm) (fun k hk e => by cases hk)
end Go.Proofs.Ytpmbkncakbcmbaa
