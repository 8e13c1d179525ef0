/- The walk of the document's Out. -/
import Derived.Test.YtnonboegnbnepaaLkR
namespace Go.Proofs.Ytnonboegnbnepaa
set_option linter.unusedVariables false
open Go.RowKit
set_option linter.unusedVariables false

theorem wpList_apprun {w w' : World} {ops : Array Oper} {rest : List Oper} {o : Oper} {a : Act} {Q : Exit → Act → World → Prop} (T : TypeId) (hgd : o.guard = none) (s x : Operand) (ho : o.op = .call { callee := .builtin .append, args := #[s, x], argTypes := #[T, T] })
    (vs vx v' : Value) (hs : a.eval s = vs) (hx : a.eval x = vx) (hrun : (Builtin.append_ #[T, T] o.type #[vs, vx]).run Try.prog w = .ok v' w') (h : wpList Try.prog ops Q rest (a.put o.dst v') w') : wpList Try.prog ops Q (o :: rest) a w := by
  refine wpList_plain hgd fun K hK => ?_
  unfold Oper.wp execOp
  simp only [ho, resolve, invoke, builtin, Sem.run_bind, Sem.run_pure, Result.andThen_ok, List.map_toArray, List.map_cons, List.map_nil, hs, hx, hrun]
  exact hK _ _ h
set_option maxRecDepth 100000 in
theorem rout_any {w : World} {n : Nat} {s : St} {T : Nat → Prop} (h : Lx true w n s T) (ha : s.acked < 4611686018427387904) :
    Calls Try.prog 25 #[.pointer (some ⟨n, 0, none⟩)] w fun e w' => ∃ A C, e = .returned (pkV (outP s) A C) ∧ w'.ownsRow w.heap.size 5 1 (.slice A (outP s).load.length C) (outP s).load.length (bv (outP s).load) ∧ Below w.heap.size w w' := by
  have hF := h
  obtain ⟨v, L, h1, h2, h3⟩ := h
  obtain ⟨c0, c1, c4, c2, c3⟩ := h1.cellsT
  have hfit := h1.fit
  have hi := hfit.1
  have hlen := h1.len
  obtain ⟨A, C, hv⟩ := h1.row.form
  simp only [List.length_map, hlen] at hv
  subst hv
  by_cases hk : 0 < s.peer
  · by_cases hn : 0 < s.loads.length
    · have hP : outP s = ⟨s.inc, s.peer, s.acked + 1, s.got, s.loads.headD []⟩ := by unfold outP outK; simp [hk, hn]
      rw [hP]
      obtain ⟨g, o, A', C', rfl, hc, hbs⟩ := h1.head hn
      have hld : (s.loads.headD []).length ≤ 1048476 := by
        cases hl : s.loads with
        | nil => rw [hl] at hn; simp at hn
        | cons x l => exact (hfit.2.2.2.2 x (by rw [hl]; exact .head _)).2
      obtain ⟨N, hN⟩ : ∃ N, N = s.loads.length := ⟨_, rfl⟩
      obtain ⟨b, hb⟩ : ∃ b, b = s.loads.headD [] := ⟨_, rfl⟩
      rw [← hN] at c4 hn
      rw [← hb] at hc hbs hld ⊢
      have HBS : Hid (∀ w', Below w.heap.size w w' → Bs w' (.slice A' b.length C') b) := fun w' hw' => hbs.keep (Chg.of_below hw') (fun _ _ => id)
      have HCB : Hid (∀ (w' : World) (i : Nat) (u : Value), Below w.heap.size w w' → w.cell? ⟨n, i, none⟩ = some u → w'.cell? ⟨n, i, none⟩ = some u) := fun w' i u hb hu => by rw [World.cell?_of_block (hb.block n (heap_lt h1.cell))]; exact hu
      have HCG : Hid (∀ (w' : World), Below w.heap.size w w' → w'.cell? ⟨g, o, none⟩ = some (.slice A' b.length C')) := fun w' hb' => by rw [World.cell?_of_block (hb'.block g (World.block_lt_of_cell? w _ hc))]; exact hc
      obtain ⟨W, hW⟩ : ∃ W, W = w.alloc (.cells #[.int .i64 0, .int .i64 0, .int .i64 0, .int .i64 0, .slice none 0 0] 32) := ⟨_, rfl⟩
      have HBW : Hid (Below w.heap.size w W) := by rw [hW]; exact below1 _ _
      have HX : Hid (W.heap[w.heap.size]? = some (.cells #[.int .i64 0, .int .i64 0, .int .i64 0, .int .i64 0, .slice none 0 0] 32 (0, 0))) := by rw [hW]; exact heap_alloc_new w _
      have d0 := HCB.out W _ _ HBW.out c0
      have d1 := HCB.out W _ _ HBW.out c1
      have d2 := HCB.out W _ _ HBW.out c2
      have d3 := HCB.out W _ _ HBW.out c3
      obtain ⟨bx, hbx⟩ : ∃ bx, bx = w.heap.size := ⟨_, rfl⟩
      have HACK : Hid (0 ≤ s.acked ∧ s.acked < 4611686018427387904) := ⟨hfit.2.2.1.1, ha⟩
      clear ha
      clear hF h1 h2 h3 hlen hN hb hbs hP hfit
      go_enter Try.func25, Try.ntmps25
      go_wp2_with fail
      rw [← hW, ← hbx]
      clear hW
      rw [← hbx] at HX
      have HBX : Hid (bx = w.heap.size) := hbx
      clear hbx
      go_wp2_with fail
      go_region_held3 (fun w' => w'.cell? ⟨n, 0, none⟩ = some (.int .i64 s.inc) ∧ w'.cell? ⟨n, 1, none⟩ = some (.int .i64 s.peer) ∧ w'.cell? ⟨n, 4, none⟩ = some (.int .i64 s.got))
        (first | exact ⟨d0, d1, d3⟩ | go_keep) (fail)
      obtain ⟨W2, hW2⟩ : ∃ Y, Y = (W.alloc (.cells #[.int .i64 s.inc, .int .i64 s.peer, .int .i64 0, .int .i64 s.got, .slice none 0 0] 32)).drew := ⟨_, rfl⟩
      obtain ⟨pb, hpb⟩ : ∃ pb, pb = W.heap.size := ⟨_, rfl⟩
      have HB2 : Hid (Below w.heap.size w W2) := by rw [hW2]; exact (HBW.out.alloc HBW.out.size _).drew
      have HP2 : Hid (W2.heap[pb]? = some (.cells #[.int .i64 s.inc, .int .i64 s.peer, .int .i64 0, .int .i64 s.got, .slice none 0 0] 32 (0, 0))) := by rw [hW2, hpb]; exact heap_alloc_new W _
      have HX2 : Hid (W2.heap[bx]? = some (.cells #[.int .i64 0, .int .i64 0, .int .i64 0, .int .i64 0, .slice none 0 0] 32 (0, 0))) := by
        have : (W.alloc (.cells #[.int .i64 s.inc, .int .i64 s.peer, .int .i64 0, .int .i64 s.got, .slice none 0 0] 32)).heap[bx]? = W.heap[bx]? := Below.heap_alloc W _ bx (heap_lt HX.out)
        rw [hW2]; exact this.trans HX.out
      have HPL : Hid (w.heap.size ≤ pb ∧ bx ≠ pb) := by rw [hpb]; exact ⟨HBW.out.size, fun e => by have := heap_lt HX.out; omega⟩
      have hn1 : ¬ n = pb := fun e => by have := HPL.out.1; have := World.block_lt_of_cell? w _ c0; simp at this; omega
      have hg1 : ¬ g = pb := fun e => by have := HPL.out.1; have := World.block_lt_of_cell? w _ hc; simp at this; omega
      have hwr : IntKind.i64.wrap (s.acked + 1) = s.acked + 1 := Go.IntWalk.i64_in _ (by have := HACK.out; omega)
      rw [← hW2, ← hpb]
      clear hW2 hpb d0 d1 d2 d3 HX HBW
      have d1 := HCB.out W2 _ _ HB2.out c1
      have d4 := HCB.out W2 _ _ HB2.out c4
      have d2 := HCB.out W2 _ _ HB2.out c2
      have dg := HCG.out W2 HB2.out
      have p2 := cell_at HP2.out 2
      have f2 := frozen_at HP2.out 2
      simp at p2
      obtain ⟨W4, hW4⟩ : ∃ W, W = W2.setCell ⟨pb, 2, none⟩ (.int .i64 (s.acked + 1)) := ⟨_, rfl⟩
      have HB4 : Hid (Below w.heap.size w W4) := by rw [hW4]; exact HB2.out.trans ((Chg.setCell (S := fun k => k = pb) W2 ⟨pb, 2, none⟩ _ rfl).below (fun k hk => by rw [hk]; exact HPL.out.1) HB2.out.size)
      have HP4 : Hid (W4.heap[pb]? = some (.cells #[.int .i64 s.inc, .int .i64 s.peer, .int .i64 (s.acked + 1), .int .i64 s.got, .slice none 0 0] 32 (0, 0))) := by rw [hW4]; exact heap_set HP2.out 2 _
      have HX4 : Hid (W4.heap[bx]? = some (.cells #[.int .i64 0, .int .i64 0, .int .i64 0, .int .i64 0, .slice none 0 0] 32 (0, 0))) := by
        rw [hW4, Below.heap_setCell W2 ⟨pb, 2, none⟩ _ bx HPL.out.2]; exact HX2.out
      obtain ⟨A6, C6, w5, hrun, ho, hB5⟩ := copy_run (HBS.out W4 HB4.out) (by omega) 30
      rw [hW4] at hrun
      have hnW : n < W2.heap.size := World.block_lt_of_cell? W2 _ d4
      have hgW : g < W2.heap.size := World.block_lt_of_cell? W2 _ dg
      have HP5 : Hid (w5.heap[pb]? = some (.cells #[.int .i64 s.inc, .int .i64 s.peer, .int .i64 (s.acked + 1), .int .i64 s.got, .slice none 0 0] 32 (0, 0))) := by rw [Hid, hB5.block pb (heap_lt HP4.out)]; exact HP4.out
      have HX5 : Hid (w5.heap[bx]? = some (.cells #[.int .i64 0, .int .i64 0, .int .i64 0, .int .i64 0, .slice none 0 0] 32 (0, 0))) := by rw [Hid, hB5.block bx (heap_lt HX4.out)]; exact HX4.out
      have HB5 : Hid (Below w.heap.size w w5) := HB4.out.trans (hB5.mono HB4.out.size)
      have HO : Hid (w5.ownsRow W4.heap.size 5 1 (.slice A6 b.length C6) b.length (bv b)) := ho
      have HNE : Hid (¬ blk (.slice A6 b.length C6) = some pb ∧ ¬ blk (.slice A6 b.length C6) = some bx) := ⟨fun e => (by obtain ⟨_, q, _⟩ := owns_blockT ho e; rw [HP5.out] at q; cases q), fun e => (by obtain ⟨_, q, _⟩ := owns_blockT ho e; rw [HX5.out] at q; cases q)⟩
      have q0 := cell_at HP5.out 0
      have q1 := cell_at HP5.out 1
      have q2 := cell_at HP5.out 2
      have q3 := cell_at HP5.out 3
      have q4 := cell_at HP5.out 4
      have f4 := frozen_at HP5.out
      have x0 := cell_at HX5.out 0
      have x1 := cell_at HX5.out 1
      have x2 := cell_at HX5.out 2
      have x3 := cell_at HX5.out 3
      have x4 := cell_at HX5.out 4
      have fx := frozen_at HX5.out
      have hbp : ¬ bx = pb := HPL.out.2
      simp at q0 q1 q2 q3 q4 x0 x1 x2 x3 x4
      clear ho hB5 HP4 HX4 hW4
      go_wp2_with (first
        | (at_builtin; refine wpList_apprun 30 rfl (.tmp 36) (.tmp 42) rfl _ _ _ (by simp [Act.eval]) (by simp [Act.eval]) hrun ?_)
        | fail)
      have H9 := set_all (w := w5.setCell ⟨pb, 4, none⟩ (.slice A6 b.length C6)) (n := bx) (by rw [Below.heap_setCell w5 ⟨pb, 4, none⟩ _ bx HPL.out.2]; exact HX5.out) (.int .i64 s.inc) (.int .i64 s.peer) (.int .i64 (s.acked + 1)) (.int .i64 s.got) (.slice A6 b.length C6)
      exact out_end Try.results25 (p := ⟨s.inc, s.peer, s.acked + 1, s.got, b⟩) rfl H9.1 ((Chg.setCell (S := fun g => g = pb ∨ g = bx) w5 ⟨pb, 4, none⟩ _ (.inl rfl)).trans (H9.2.weak fun g _ e => .inr e)) HB5.out (owns_lowT HO.out HB4.out.size) (fun g hg => by rcases hg with rfl | rfl; exact HPL.out.1; exact Nat.le_of_eq HBX.out.symm) (fun k hk e => by rcases e with rfl | rfl; exact HNE.out.1 hk; exact HNE.out.2 hk)
    · have hn0 : s.loads.length = 0 := by omega
      have hP : outP s = ⟨s.inc, s.peer, 0, s.got, []⟩ := by unfold outP outK; simp [hn0]
      rw [hP]
      rw [hn0] at c4
      clear hn hn0
      have HCB : Hid (∀ (w' : World) (i : Nat) (u : Value), Below w.heap.size w w' → w.cell? ⟨n, i, none⟩ = some u → w'.cell? ⟨n, i, none⟩ = some u) := fun w' i u hb hu => by rw [World.cell?_of_block (hb.block n (heap_lt h1.cell))]; exact hu
      obtain ⟨W, hW⟩ : ∃ W, W = w.alloc (.cells #[.int .i64 0, .int .i64 0, .int .i64 0, .int .i64 0, .slice none 0 0] 32) := ⟨_, rfl⟩
      have HBW : Hid (Below w.heap.size w W) := by rw [hW]; exact below1 _ _
      have HX : Hid (W.heap[w.heap.size]? = some (.cells #[.int .i64 0, .int .i64 0, .int .i64 0, .int .i64 0, .slice none 0 0] 32 (0, 0))) := by rw [hW]; exact heap_alloc_new w _
      have d0 := HCB.out W _ _ HBW.out c0
      have d1 := HCB.out W _ _ HBW.out c1
      have d2 := HCB.out W _ _ HBW.out c2
      have d3 := HCB.out W _ _ HBW.out c3
      obtain ⟨bx, hbx⟩ : ∃ bx, bx = w.heap.size := ⟨_, rfl⟩
      have HACK : Hid (0 ≤ s.acked ∧ s.acked < 4611686018427387904) := ⟨hfit.2.2.1.1, ha⟩
      clear ha
      clear hF h1 h2 h3 hlen hP hfit
      go_enter Try.func25, Try.ntmps25
      go_wp2_with fail
      rw [← hW, ← hbx]
      clear hW
      rw [← hbx] at HX
      have HBX : Hid (bx = w.heap.size) := hbx
      clear hbx
      go_wp2_with fail
      go_region_held3 (fun w' => w'.cell? ⟨n, 0, none⟩ = some (.int .i64 s.inc) ∧ w'.cell? ⟨n, 1, none⟩ = some (.int .i64 s.peer) ∧ w'.cell? ⟨n, 4, none⟩ = some (.int .i64 s.got))
        (first | exact ⟨d0, d1, d3⟩ | go_keep) (fail)
      obtain ⟨W2, hW2⟩ : ∃ Y, Y = (W.alloc (.cells #[.int .i64 s.inc, .int .i64 s.peer, .int .i64 0, .int .i64 s.got, .slice none 0 0] 32)).drew := ⟨_, rfl⟩
      obtain ⟨pb, hpb⟩ : ∃ pb, pb = W.heap.size := ⟨_, rfl⟩
      have HB2 : Hid (Below w.heap.size w W2) := by rw [hW2]; exact (HBW.out.alloc HBW.out.size _).drew
      have HP2 : Hid (W2.heap[pb]? = some (.cells #[.int .i64 s.inc, .int .i64 s.peer, .int .i64 0, .int .i64 s.got, .slice none 0 0] 32 (0, 0))) := by rw [hW2, hpb]; exact heap_alloc_new W _
      have HX2 : Hid (W2.heap[bx]? = some (.cells #[.int .i64 0, .int .i64 0, .int .i64 0, .int .i64 0, .slice none 0 0] 32 (0, 0))) := by
        have : (W.alloc (.cells #[.int .i64 s.inc, .int .i64 s.peer, .int .i64 0, .int .i64 s.got, .slice none 0 0] 32)).heap[bx]? = W.heap[bx]? := Below.heap_alloc W _ bx (heap_lt HX.out)
        rw [hW2]; exact this.trans HX.out
      have HPL : Hid (w.heap.size ≤ pb ∧ bx ≠ pb) := by rw [hpb]; exact ⟨HBW.out.size, fun e => by have := heap_lt HX.out; omega⟩
      have hn1 : ¬ n = pb := fun e => by have := HPL.out.1; have := World.block_lt_of_cell? w _ c0; simp at this; omega
      have _hwr : IntKind.i64.wrap (s.acked + 1) = s.acked + 1 := Go.IntWalk.i64_in _ (by have := HACK.out; omega)
      rw [← hW2, ← hpb]
      clear hW2 hpb d0 d1 d2 d3 HX HBW
      have d1 := HCB.out W2 _ _ HB2.out c1
      have d4 := HCB.out W2 _ _ HB2.out c4
      have x0 := cell_at HX2.out 0
      have x1 := cell_at HX2.out 1
      have x2 := cell_at HX2.out 2
      have x3 := cell_at HX2.out 3
      have x4 := cell_at HX2.out 4
      have fx := frozen_at HX2.out
      have q0 := cell_at HP2.out 0
      have q1 := cell_at HP2.out 1
      have q2 := cell_at HP2.out 2
      have q3 := cell_at HP2.out 3
      have q4 := cell_at HP2.out 4
      have hbp : ¬ bx = pb := HPL.out.2
      simp at q0 q1 q2 q3 q4 x0 x1 x2 x3 x4
      go_wp2_with fail
      have H9 := set_all (w := W2) (n := bx) HX2.out (.int .i64 s.inc) (.int .i64 s.peer) (.int .i64 0) (.int .i64 s.got) (.slice none 0 0)
      exact out_end Try.results25 (p := ⟨s.inc, s.peer, 0, s.got, []⟩) rfl H9.1 H9.2 HB2.out (World.ownsRow_nil _ _ _ _) (fun g hg => by rw [hg]; exact Nat.le_of_eq HBX.out.symm) (fun k hk e => by cases hk)
  · have hP : outP s = ⟨s.inc, s.peer, 0, s.got, []⟩ := by unfold outP outK; simp [hk]
    rw [hP]
    have HCB : Hid (∀ (w' : World) (i : Nat) (u : Value), Below w.heap.size w w' → w.cell? ⟨n, i, none⟩ = some u → w'.cell? ⟨n, i, none⟩ = some u) := fun w' i u hb hu => by rw [World.cell?_of_block (hb.block n (heap_lt h1.cell))]; exact hu
    obtain ⟨W, hW⟩ : ∃ W, W = w.alloc (.cells #[.int .i64 0, .int .i64 0, .int .i64 0, .int .i64 0, .slice none 0 0] 32) := ⟨_, rfl⟩
    have HBW : Hid (Below w.heap.size w W) := by rw [hW]; exact below1 _ _
    have HX : Hid (W.heap[w.heap.size]? = some (.cells #[.int .i64 0, .int .i64 0, .int .i64 0, .int .i64 0, .slice none 0 0] 32 (0, 0))) := by rw [hW]; exact heap_alloc_new w _
    have d0 := HCB.out W _ _ HBW.out c0
    have d1 := HCB.out W _ _ HBW.out c1
    have d2 := HCB.out W _ _ HBW.out c2
    have d3 := HCB.out W _ _ HBW.out c3
    obtain ⟨bx, hbx⟩ : ∃ bx, bx = w.heap.size := ⟨_, rfl⟩
    have HACK : Hid (0 ≤ s.acked ∧ s.acked < 4611686018427387904) := ⟨hfit.2.2.1.1, ha⟩
    clear ha
    clear hF h1 h2 h3 hlen hP hfit
    go_enter Try.func25, Try.ntmps25
    go_wp2_with fail
    rw [← hW, ← hbx]
    clear hW
    rw [← hbx] at HX
    have HBX : Hid (bx = w.heap.size) := hbx
    clear hbx
    go_wp2_with fail
    go_region_held3 (fun w' => w'.cell? ⟨n, 0, none⟩ = some (.int .i64 s.inc) ∧ w'.cell? ⟨n, 1, none⟩ = some (.int .i64 s.peer) ∧ w'.cell? ⟨n, 4, none⟩ = some (.int .i64 s.got))
      (first | exact ⟨d0, d1, d3⟩ | go_keep) (fail)
    obtain ⟨W2, hW2⟩ : ∃ Y, Y = (W.alloc (.cells #[.int .i64 s.inc, .int .i64 s.peer, .int .i64 0, .int .i64 s.got, .slice none 0 0] 32)).drew := ⟨_, rfl⟩
    obtain ⟨pb, hpb⟩ : ∃ pb, pb = W.heap.size := ⟨_, rfl⟩
    have HB2 : Hid (Below w.heap.size w W2) := by rw [hW2]; exact (HBW.out.alloc HBW.out.size _).drew
    have HP2 : Hid (W2.heap[pb]? = some (.cells #[.int .i64 s.inc, .int .i64 s.peer, .int .i64 0, .int .i64 s.got, .slice none 0 0] 32 (0, 0))) := by rw [hW2, hpb]; exact heap_alloc_new W _
    have HX2 : Hid (W2.heap[bx]? = some (.cells #[.int .i64 0, .int .i64 0, .int .i64 0, .int .i64 0, .slice none 0 0] 32 (0, 0))) := by
      have : (W.alloc (.cells #[.int .i64 s.inc, .int .i64 s.peer, .int .i64 0, .int .i64 s.got, .slice none 0 0] 32)).heap[bx]? = W.heap[bx]? := Below.heap_alloc W _ bx (heap_lt HX.out)
      rw [hW2]; exact this.trans HX.out
    have HPL : Hid (w.heap.size ≤ pb ∧ bx ≠ pb) := by rw [hpb]; exact ⟨HBW.out.size, fun e => by have := heap_lt HX.out; omega⟩
    have hn1 : ¬ n = pb := fun e => by have := HPL.out.1; have := World.block_lt_of_cell? w _ c0; simp at this; omega
    have _hwr : IntKind.i64.wrap (s.acked + 1) = s.acked + 1 := Go.IntWalk.i64_in _ (by have := HACK.out; omega)
    rw [← hW2, ← hpb]
    clear hW2 hpb d0 d1 d2 d3 HX HBW
    have d1 := HCB.out W2 _ _ HB2.out c1
    have d4 := HCB.out W2 _ _ HB2.out c4
    have x0 := cell_at HX2.out 0
    have x1 := cell_at HX2.out 1
    have x2 := cell_at HX2.out 2
    have x3 := cell_at HX2.out 3
    have x4 := cell_at HX2.out 4
    have fx := frozen_at HX2.out
    have q0 := cell_at HP2.out 0
    have q1 := cell_at HP2.out 1
    have q2 := cell_at HP2.out 2
    have q3 := cell_at HP2.out 3
    have q4 := cell_at HP2.out 4
    have hbp : ¬ bx = pb := HPL.out.2
    simp at q0 q1 q2 q3 q4 x0 x1 x2 x3 x4
    go_wp2_with fail
    have H9 := set_all (w := W2) (n := bx) HX2.out (.int .i64 s.inc) (.int .i64 s.peer) (.int .i64 0) (.int .i64 s.got) (.slice none 0 0)
    exact out_end Try.results25 (p := ⟨s.inc, s.peer, 0, s.got, []⟩) rfl H9.1 H9.2 HB2.out (World.ownsRow_nil _ _ _ _) (fun g hg => by rw [hg]; exact Nat.le_of_eq HBX.out.symm) (fun k hk e => by cases hk)
end Go.Proofs.Ytnonboegnbnepaa
