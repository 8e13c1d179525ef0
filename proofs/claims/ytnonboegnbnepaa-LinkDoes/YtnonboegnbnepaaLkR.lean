/- The document's link. -/
import Derived.Test.YtnonboegnbnepaaLkG
namespace Go.Proofs.Ytnonboegnbnepaa
set_option linter.unusedVariables false
open Go.RowKit
set_option linter.unusedVariables false

theorem Lk.rawT {w : World} {n : Nat} {s : St} {v : Value} {L : List (List UInt8 × Value)} (h : Lk true w n s v L) : w.heap[n]? = some (.cells #[.int .i64 s.inc, .int .i64 s.peer, v, .int .i64 s.acked, .int .i64 s.got] 49 (0, 0)) := h.cell
theorem Lk.cellsT {w : World} {n : Nat} {s : St} {v : Value} {L : List (List UInt8 × Value)} (h : Lk true w n s v L) : w.cell? ⟨n, 0, none⟩ = some (.int .i64 s.inc) ∧ w.cell? ⟨n, 1, none⟩ = some (.int .i64 s.peer) ∧ w.cell? ⟨n, 2, none⟩ = some v ∧ w.cell? ⟨n, 3, none⟩ = some (.int .i64 s.acked) ∧ w.cell? ⟨n, 4, none⟩ = some (.int .i64 s.got) := by
  have hc := h.rawT
  exact ⟨cell_at hc 0, cell_at hc 1, cell_at hc 2, cell_at hc 3, cell_at hc 4⟩
/- append([]byte{}, x...) -/
theorem copy_run {w : World} {x : Value} {l : List UInt8} (hx : Bs w x l) (hl : l.length ≤ 140737488355328) (ty : TypeId) :
    ∃ A C w', (Builtin.append_ #[30, 30] ty #[.slice (some ⟨w.heap.size, 0, none⟩) 0 0, x]).run Try.prog (w.alloc (.cells #[] 5)) = .ok (.slice A l.length C) w' ∧ w'.ownsRow w.heap.size 5 1 (.slice A l.length C) l.length (bv l) ∧ Below w.heap.size w w' := by
  have HO : (w.alloc (.cells #[] 5)).ownsRow w.heap.size 5 1 (.slice (some ⟨w.heap.size, 0, none⟩) 0 0) 0 (bv []) :=
    ⟨rfl, .inr ⟨w.heap.size, 0, #[], rfl, Nat.le_refl _, heap_alloc_new w _, Nat.le_refl _, by unfold maxLen; omega, rfl, rfl⟩⟩
  obtain ⟨v', w', hr, h2, h3, h4, h5⟩ := app_bytes ty HO (hx.alloc _) (by simp) (by simpa using hl)
  simp only [List.nil_append] at h2
  obtain ⟨A, C, rfl⟩ := owns_form h2
  refine ⟨A, C, w', hr, h2, (below1 w (.cells #[] 5)).trans ?_⟩
  exact (Chg.of_grown h3).below (fun k hk => by cases hk; exact Nat.le_refl _) (by simp)
theorem step_app1 {w : World} {ops : Array Oper} {o : Oper} {a : Act} {K : Act → World → Prop} {Q : Exit → Act → World → Prop} {E : Prop} (T : TypeId) (hgd : o.guard = none) (s x : Operand)
    (ho : o.op = Op.call { callee := Callee.builtin Builtin.append, args := #[s, x], argTypes := #[T, T] })
    (vs vx v' : Value) (w' : World) (hs : a.eval s = vs) (hx : a.eval x = vx) (hrun : (Builtin.append_ #[T, T] o.type #[vs, vx]).run Try.prog w = .ok v' w') (h : K (a.put o.dst v') w') :
    if Region.wanted o (yielded ops a.tmps) = true then Oper.wp Try.prog o a w K Q else E := by
  have hw : Region.wanted o (yielded ops a.tmps) = true := by simp [Region.wanted, hgd]
  rw [if_pos hw]
  unfold Oper.wp execOp
  simp only [ho, resolve, invoke, builtin, Sem.run_bind, Sem.run_pure, Result.andThen_ok, List.map_toArray, List.map_cons, List.map_nil, hs, hx, hrun]
  exact h
set_option maxRecDepth 100000 in
theorem rnew_no (inc : Int) (w : World) (h : ¬ (1 ≤ inc ∧ inc ≤ 1099511627776)) : Calls Try.prog 9 #[.int .i64 inc] w fun e w' => ∃ n, e = .returned (.tuple #[.pointer (some ⟨n, 0, none⟩), .bool false]) ∧ Below w.heap.size w w' := by
  by_cases h1 : inc < 1
  · clear h
    go_enter Try.func9, Try.ntmps9
    go_wp2_with fail
    go_ret2
    exact ⟨⟨_, rfl⟩, below1 _ _⟩
  · have h2 : 1099511627776 < inc := by omega
    have h3 : ¬ inc ≤ 1099511627776 := by omega
    have h4 : 1 ≤ inc := by omega
    clear h h1
    go_enter Try.func9, Try.ntmps9
    go_wp2_with fail
    go_ret2
    exact ⟨⟨_, rfl⟩, below1 _ _⟩
set_option maxRecDepth 100000 in
theorem rnew_yes (inc : Int) (w : World) (h : 1 ≤ inc ∧ inc ≤ 1099511627776) : Calls Try.prog 9 #[.int .i64 inc] w fun e w' => ∃ n, e = .returned (.tuple #[.pointer (some ⟨n, 0, none⟩), .bool true]) ∧ Lo true w' n (news inc) (Nw w w') ∧ Below w.heap.size w w' := by
  have HH : Hid (1 ≤ inc ∧ inc ≤ 1099511627776) := h
  obtain ⟨h1, h2⟩ := h
  go_enter Try.func9, Try.ntmps9
  go_wp2_with fail
  go_ret2
  have hk : Lk true (w.alloc (.cells #[.int .i64 inc, .int .i64 0, .slice none 0 0, .int .i64 0, .int .i64 0] 49)) w.heap.size (news inc) (.slice none 0 0) [] := Lk.new HH.out.1 HH.out.2 (heap_alloc_new w _)
  refine ⟨w.heap.size, rfl, ⟨⟨_, [], hk, fun g hg e => hg.2 ?_, fun g hg => hg.1⟩, ⟨Nat.le_refl _, by simp⟩, fun g hg => hg.2⟩, below1 _ _⟩
  have := sx_nil e
  subst this
  exact ⟨Nat.le_refl _, hg.1⟩
set_option maxRecDepth 100000 in
theorem rreset_any {w : World} {n : Nat} {s : St} {T : Nat → Prop} (h : Lx true w n s T) (inc : Int) : Calls Try.prog 22 #[.pointer (some ⟨n, 0, none⟩), .int .i64 inc] w fun e w' => e = .returned (.tuple #[]) ∧ Lx true w' n (resetS s inc) T ∧ Kp T w w' := by
  have hF := h
  obtain ⟨v, L, h1, h2, h3⟩ := h
  obtain ⟨c0, c1, c2, c3, c4⟩ := h1.cellsT
  have hi := h1.fit.1
  have hfr := h1.frozen
  by_cases hr : s.inc < inc ∧ inc ≤ 1099511627776
  · have hrs : resetS s inc = news inc := if_pos hr
    rw [hrs]
    obtain ⟨hr1, hr2⟩ := hr
    have HF : Hid (∀ w', w'.heap[n]? = some (box true (news inc) (.slice none 0 0)) → Chg (fun g => g = n) w w' → Lx true w' n (news inc) T ∧ Kp T w w') := by
      intro w' hw hc
      exact Lx.of_next h2 h3 (Lk.new (by omega) (by omega) hw) (hc.weak fun g _ e => .inl e) (fun g e => .inl (.inl (sx_nil e)))
    have HC : Hid (w.heap[n]? = some (.cells #[.int .i64 s.inc, .int .i64 s.peer, v, .int .i64 s.acked, .int .i64 s.got] 49 (0, 0))) := h1.rawT
    clear hF h1 h2 h3 hrs
    go_enter Try.func22, Try.ntmps22
    go_wp2_with fail
    go_end0
    have hA := set_all HC.out (.int .i64 inc) (.int .i64 0) (.slice none 0 0) (.int .i64 0) (.int .i64 0)
    exact ⟨rfl, HF.out _ hA.1 hA.2⟩
  · have hrs : resetS s inc = s := if_neg hr
    rw [hrs]
    have HF : Hid (Lx true w n s T) := hF
    clear hF h1 h2 hrs
    by_cases ha : s.inc < inc
    · have hb : ¬ inc ≤ 1099511627776 := fun e => hr ⟨ha, e⟩
      clear hr
      go_enter Try.func22, Try.ntmps22
      go_wp2_with fail
      go_end0
      exact ⟨rfl, HF.out, Chg.refl _ _⟩
    · clear hr
      go_enter Try.func22, Try.ntmps22
      go_wp2_with fail
      go_end0
      exact ⟨rfl, HF.out, Chg.refl _ _⟩
/- One load more, in memory. -/
theorem Lk.appT {w w3 : World} {n : Nat} {s : St} {v : Value} {L : List (List UInt8 × Value)} {T : Nat → Prop} (h : Lk true w n s v L) (h2 : ∀ g, T g → ¬ Sx n v L g) (h3 : ∀ g, T g → g < w.heap.size) {b : List UInt8} (hs : sendE s b = 0) (hB : Below w.heap.size w w3)
    {A6 : Option Addr} {C6 : Nat} (ho : w3.ownsRow w.heap.size 5 1 (.slice A6 b.length C6) b.length (bv b)) (ty : TypeId) :
    ∃ A8 C8 w8, (Builtin.append_ #[47, 47] ty #[v, .slice (some ⟨w3.heap.size, 0, none⟩) 1 1]).run Try.prog (w3.alloc (.cells #[.slice A6 b.length C6] 30)) = .ok (.slice A8 (s.loads.length + 1) C8) w8 ∧
      (w3.cell? ⟨n, 2, none⟩ = some v ∧ (w3.alloc (.cells #[.slice A6 b.length C6] 30)).cell? ⟨n, 2, none⟩ = some v ∧ w8.cell? ⟨n, 2, none⟩ = some v ∧ w8.frozen? ⟨n, 2, none⟩ = false) ∧
      Hid (Lx true (w8.setCell ⟨n, 2, none⟩ (.slice A8 (s.loads.length + 1) C8)) n (sendS s b) T ∧ Kp T w (w8.setCell ⟨n, 2, none⟩ (.slice A8 (s.loads.length + 1) C8))) := by
  have hb : 0 < b.length ∧ b.length ≤ 1048476 ∧ s.loads.length < 1000 := by
    unfold sendE at hs
    split at hs
    · omega
    split at hs
    · omega
    split at hs
    · omega
    omega
  have hSS : sendS s b = { s with loads := s.loads ++ [b] } := by rw [sendS, if_pos hs]
  rw [hSS]
  have hA := h.below hB
  have hlen := h.len
  obtain ⟨A8, C8, w8, hrun, hR, hc, hbl⟩ := hA.row.app (by rw [List.length_map]; omega) (A6 := A6) (n6 := b.length) (C6 := C6) ty
  simp only [List.length_map, hlen] at hrun hR hbl
  have hne : ∀ g, blk v = some g → g ≠ n := fun g hg => (hA.row_ne hg).1
  have hbx : w8.heap[n]? = some (box true s v) := by rw [hc.block n (heap_lt hA.cell) (fun e => hne n e rfl)]; exact hA.cell
  have hcs : Chg (fun g => blk v = some g ∨ g = n) w3 (w8.setCell ⟨n, 2, none⟩ (.slice A8 (s.loads.length + 1) C8)) := (hc.weak fun _ _ e => .inl e).trans (Chg.setCell _ _ _ (.inr rfl))
  have hnew : ∀ g, blk (.slice A6 b.length C6) = some g → w.heap.size ≤ g ∧ g ≠ n ∧ ¬ blk v = some g ∧ g < w3.heap.size := by
    intro g hg
    obtain ⟨cur, q, q2⟩ := owns_blockT ho hg
    refine ⟨q2, fun e => ?_, fun e => ?_, heap_lt q⟩
    · rw [e, hA.cell] at q; cases q
    · obtain ⟨cur', q'⟩ := hA.row.block e
      rw [q] at q'; cases q'
  refine ⟨A8, C8, w8, hrun, ⟨hA.cellsT.2.2.1, (hA.below (below1 w3 _)).cellsT.2.2.1, cell_at hbx 2, frozen_at hbx 2⟩, ?_⟩
  have hfit := h.fit
  have hk : Lk true (w8.setCell ⟨n, 2, none⟩ (.slice A8 (s.loads.length + 1) C8)) n { s with loads := s.loads ++ [b] } (.slice A8 (s.loads.length + 1) C8) (L ++ [(b, .slice A6 b.length C6)]) := by
    refine ⟨heap_set hbx 2 _, ?_, fun x hx => ?_, by simp [h.loads], ⟨hfit.1, hfit.2.1, hfit.2.2.1, by simp; omega, fun x hx => ?_⟩⟩
    · rw [List.map_append]
      refine hR.keep (Chg.setCell (S := fun g => g = n) w8 ⟨n, 2, none⟩ _ rfl) (fun k hk e => ?_)
      obtain ⟨cur, q⟩ := hR.block hk
      rw [e, hbx] at q; cases q
    · rcases List.mem_append.1 hx with hx | hx
      · exact owns_keepT (hA.els x hx) hcs (fun k hk e => e.elim (fun e => (hA.row_ne e).2 x hx hk) (fun e => hA.els_ne x hx (by rw [hk, e])))
      · simp at hx; subst hx
        exact owns_lowT (owns_keepT ho hcs (fun k hk e => e.elim (fun e => (hnew k hk).2.2.1 e) (fun e => (hnew k hk).2.1 e))) (Nat.zero_le _)
    · rcases List.mem_append.1 hx with hx | hx
      · exact hfit.2.2.2.2 x hx
      · simp at hx; subst hx; exact ⟨hb.1, hb.2.1⟩
  refine Lx.of_next h2 h3 hk (((Chg.of_below hB).weak fun _ _ e => e.elim).trans (hcs.weak fun g _ e => e.elim (fun e => .inr (.inl e)) (fun e => .inl e))) ?_
  rintro g (e | e | ⟨x, hx, e⟩)
  · exact .inl (.inl e)
  · rcases hbl g e with q | q
    · exact .inl (.inr (.inl q))
    · exact .inr (Nat.le_trans hB.size q)
  · rcases List.mem_append.1 hx with hx | hx
    · exact .inl (.inr (.inr ⟨x, hx, e⟩))
    · simp at hx; subst hx; exact .inr (hnew g e).1
set_option maxRecDepth 100000 in
theorem rsend_any {w : World} {n : Nat} {s : St} {T : Nat → Prop} (h : Lx true w n s T) {x : Value} {b : List UInt8} (hx : Bs w x b) :
    Calls Try.prog 13 #[.pointer (some ⟨n, 0, none⟩), x] w fun e w' => e = .returned (.int .i64 (sendE s b)) ∧ Lx true w' n (sendS s b) T ∧ Kp T w w' := by
  have hF := h
  obtain ⟨v, L, h1, h2, h3⟩ := h
  obtain ⟨c0, c1, c2, c3, c4⟩ := h1.cellsT
  have hi := h1.fit.1
  have hlen := h1.len
  obtain ⟨X, c, rfl⟩ := bs_form hx
  obtain ⟨A, C, hv⟩ := h1.row.form
  simp only [List.length_map, hlen] at hv
  by_cases hE : sendE s b = 0
  · have hb : 0 < b.length ∧ b.length ≤ 1048476 ∧ s.loads.length < 1000 := by
      unfold sendE at hE
      split at hE
      · omega
      split at hE
      · omega
      split at hE
      · omega
      omega
    obtain ⟨A6, C6, w3, hr2, ho, hB⟩ := copy_run hx.drew (by omega) 30
    obtain ⟨A8, C8, w8, hr4, ⟨k1, k2, k3, k4⟩, HF⟩ := Lk.appT (ty := 47) (h1.below (Below.refl _ _).drew) h2 h3 hE hB ho
    have HK : Hid (Kp T w w.drew) := Chg.drew _ _
    have z0 : (w.alloc (.cells #[] 5)).cell? ⟨n, 2, none⟩ = some v := (h1.below (below1 _ _)).cellsT.2.2.1
    have hfr := h1.frozen 2
    rw [hE]
    subst hv
    generalize sendS s b = s' at HF ⊢
    obtain ⟨N, hN⟩ : ∃ N, N = s.loads.length := ⟨_, rfl⟩
    obtain ⟨M, hM⟩ : ∃ M, M = b.length := ⟨_, rfl⟩
    rw [← hN] at c2 hr4 k1 k2 k3 HF hb z0
    rw [← hM] at hr2 hr4 hb k2 ⊢
    obtain ⟨hb1, hb2, hb3⟩ := hb
    clear hF h1 h2 h3 hE hlen hN hM hx ho hB
    go_enter Try.func13, Try.ntmps13
    go_wp2_with fail
    go_region_law (first
      | (refine step_app1 30 rfl (.tmp 22) (.tmp 23) rfl _ _ _ _ (by simp [Act.eval]) (by simp [Act.eval]) hr2 ?_)
      | (refine step_app1 47 rfl (.tmp 21) (.tmp 25) rfl _ _ _ _ (by simp [Act.eval]) (by simp [Act.eval]) hr4 ?_))
    all_goals
      go_wp2_with fail
      go_ret
      exact ⟨rfl, HF.out.1, HK.out.trans HF.out.2⟩
  · have hSS : sendS s b = s := by rw [sendS, if_neg hE]
    rw [hSS]
    have HF : Hid (Lx true w n s T) := hF
    subst hv
    unfold sendE at hE ⊢
    obtain ⟨N, hN⟩ : ∃ N, N = s.loads.length := ⟨_, rfl⟩
    obtain ⟨M, hM⟩ : ∃ M, M = b.length := ⟨_, rfl⟩
    rw [← hN] at c2 hE ⊢
    rw [← hM] at hE ⊢
    clear hF h1 h2 h3 hlen hN hM hx hSS
    by_cases e1 : M = 0
    · rw [if_pos e1]
      subst e1
      clear hE
      go_enter Try.func13, Try.ntmps13
      go_wp2_with fail
      go_ret
      exact ⟨rfl, HF.out, Chg.refl _ _⟩
    rw [if_neg e1] at hE ⊢
    by_cases e2 : 1048476 < M
    · rw [if_pos e2]
      clear hE
      go_enter Try.func13, Try.ntmps13
      go_wp2_with fail
      go_ret
      exact ⟨rfl, HF.out, Chg.refl _ _⟩
    rw [if_neg e2] at hE ⊢
    by_cases e3 : 1000 ≤ N
    · rw [if_pos e3]
      clear hE
      go_enter Try.func13, Try.ntmps13
      go_wp2_with fail
      go_ret
      exact ⟨rfl, HF.out, Chg.refl _ _⟩
    rw [if_neg e3] at hE
    exact absurd rfl hE
end Go.Proofs.Ytnonboegnbnepaa
