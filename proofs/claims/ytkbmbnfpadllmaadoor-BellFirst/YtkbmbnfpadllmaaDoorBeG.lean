/- What a deed rings. -/
import Derived.Test.YtkbmbnfpadllmaaDoorBeF
namespace Go.Proofs.YtkbmbnfpadllmaaDoor.We
set_option linter.unusedSimpArgs false
set_option linter.unusedVariables false
open Go.RowKit Go.MapKept
set_option linter.unusedVariables false
set_option linter.unusedSimpArgs false

theorem rows_cells {w : World} {base g n cap : Nat} {xs : List Value} (ho : w.ownsRow base 56 5 (.slice (some ⟨g, 0, none⟩) n cap) n xs) : ∀ j u, xs[j]? = some u → w.cell? ((⟨g, 0, none⟩ : Addr).add j) = some u := by
  intro j u hu
  rcases ho.2 with ⟨e, _⟩ | ⟨g', cap', cur, e, hb, hg, h1, h2, h3, h4⟩
  · cases e
  · injection e with e1 _ _
    injection e1 with e1
    injection e1 with e1
    subst e1
    have hj : j < xs.length := (List.getElem?_eq_some_iff.1 hu).1
    rw [ho.1] at hj
    rw [show (⟨g, 0, none⟩ : Addr).add j = ⟨g, j, none⟩ by simp only [Addr.add]; split <;> simp_all, cellAt hg, ← Array.getElem?_toList, ← List.getElem?_take_of_lt (j := n * 5) hj, h4]
    exact hu
/- Rings behind rings. -/
theorem app_rings {w : World} {base base' : Nat} {v x : Value} {R R2 : List Rg} (ho : w.ownsRow base 56 5 v R.length (R.flatMap rgC)) (hx : w.ownsRow base' 56 5 x R2.length (R2.flatMap rgC)) (hb : base ≤ w.heap.size) (hn : R.length + R2.length ≤ 1000000) :
    ∃ v' w', (Builtin.append_ #[50, 50] 50 #[v, x]).run Tryd.prog w = .ok v' w' ∧ w'.ownsRow base 56 5 v' (R ++ R2).length ((R ++ R2).flatMap rgC) ∧ Chg (fun k => v.ownBlock = some k) w w' ∧ (v'.ownBlock = v.ownBlock ∨ v'.ownBlock = some w.heap.size) := by
  obtain ⟨i0, hi, hz0, hz1, hz2⟩ := info_parts infoR
  rcases hx.2 with ⟨rfl, h0⟩ | ⟨g, cap, cur, rfl, hb', hg, h1, h2, h3, h4⟩
  · have hr := run_append_owned_none (P := Tryd.prog) w base 50 50 56 i0 5 Tryd.underlying50 hi v R.length (R.flatMap rgC) ho
    have e : R2 = [] := List.length_eq_zero_iff.1 h0
    subst e
    exact ⟨v, w, hr, by simpa using ho, Chg.refl _ _, .inl rfl⟩
  · obtain ⟨v', w', hr, ho', hg', hn0, hl⟩ := run_append_own_at (P := Tryd.prog) w base 50 50 56 i0 (.agg #[.int .i64 0, .int .u8 0, .int .u8 0, .string ⟨#[]⟩, .int .i64 0]) 5 40 Tryd.underlying50 hi hz0 hz1 hz2 rfl (by decide) v R.length (R.flatMap rgC) ho ⟨g, 0, none⟩ R2.length cap (R2.flatMap rgC) (rgC_len R2) (rows_cells hx) (rgC_one R2)
      (by unfold maxLen; omega) (by omega) hb
    refine ⟨v', w', hr, ?_, Chg.of_grown hg', hl⟩
    rw [List.length_append, List.flatMap_append]
    exact ho'
theorem wpList_run_append {P : Program} {w w' : World} {ops : Array Oper} {rest : List Oper} {o : Oper} {a : Act} {Q : Exit → Act → World → Prop} (hg : o.guard = none) (s x : Operand) (t : TypeId) (hop : o.op = Op.call { callee := Callee.builtin Builtin.append, args := #[s, x], argTypes := #[t, t] }) {v u v' : Value} (hs : a.eval s = v) (hx : a.eval x = u)
    (hrun : (Builtin.append_ #[t, t] o.type #[v, u]).run P w = .ok v' w') (h : wpList P ops Q rest (a.put o.dst v') w') : wpList P ops Q (o :: rest) a w := by
  refine wpList_plain hg fun K hK => ?_
  unfold Oper.wp execOp
  simp only [hop, resolve, invoke, builtin, Sem.run_bind, Sem.run_pure, Result.andThen_ok, List.map_toArray, List.map_cons, List.map_nil, hs, hx, hrun]
  exact hK _ _ h
/- What of a right deed changes nodes. -/
def chgs (f : Fl) (ps : List Fl) : List (Int × List UInt8) := if f.kind = 5 ∨ f.kind = 8 then ps.map fun p => (p.kind, p.path) else [(f.kind, f.path)]
theorem cells_of {w : World} {g : Nat} (f : Fl) (A1 A2 A3 : Option Addr) (c1 c2 c3 : Nat) (h : w.heap[g]? = some (.cells (dV f A1 A2 A3 c1 c2 c3) 32 (0, 0))) : DD.DCells w g 0 f A1 c1 A2 c2 A3 c3 :=
  ⟨cellAt h 0, cellAt h 1, cellAt h 2, cellAt h 3, cellAt h 4, cellAt h 5, cellAt h 6, cellAt h 7, cellAt h 8, cellAt h 9, cellAt h 10, cellAt h 11, cellAt h 12, cellAt h 13, cellAt h 14, cellAt h 15⟩
set_option maxRecDepth 100000 in
set_option maxHeartbeats 1000000 in
theorem changes_any (f : Fl) (A1 A2 A3 : Option Addr) (c1 c2 c3 : Nat) (w : World) : Calls Tryd.prog 23 #[.agg (dV f A1 A2 A3 c1 c2 c3)] w fun e w' => Below w.heap.size w w' ∧
    ((f.kind = 5 ∨ f.kind = 8) ∧ e = .returned (.slice A3 f.np c3) ∨ ¬ (f.kind = 5 ∨ f.kind = 8) ∧ ∃ g, e = .returned (.slice (some ⟨g, 0, none⟩) 1 1) ∧ g < w'.heap.size ∧ w'.heap[g]? = some (.cells (dV f A1 A2 A3 c1 c2 c3) 32 (0, 0))) := by
  obtain ⟨zx, k, se, tu, xi, ti, p, da, ow, ve, cv, tmo, er, cver, mems, np⟩ := f
  dsimp only [dV]
  obtain ⟨W, hW⟩ : ∃ W, W = w.alloc (.cells #[.int .i64 zx, .int .u8 k, .int .i64 se, .int .i64 tu, .int .i64 xi, .int .i64 ti, .string (mkS p), .slice A1 da.length c1, .int .i64 ow, .int .i64 ve, .int .i64 cv, .int .i64 tmo, .int .i64 er, .int .i64 cver, .slice A2 mems.length c2, .slice A3 np c3] 32) := ⟨_, rfl⟩
  have hb : W.heap[w.heap.size]? = some (.cells #[.int .i64 zx, .int .u8 k, .int .i64 se, .int .i64 tu, .int .i64 xi, .int .i64 ti, .string (mkS p), .slice A1 da.length c1, .int .i64 ow, .int .i64 ve, .int .i64 cv, .int .i64 tmo, .int .i64 er, .int .i64 cver, .slice A2 mems.length c2, .slice A3 np c3] 32 (0, 0)) := by rw [hW]; exact heap_alloc_new _ _
  have HB : Hid (Below w.heap.size w W) := by rw [hW]; exact (Below.refl _ _).alloc (Nat.le_refl _) _
  have e1 := cellAt hb 1
  have e15 := cellAt hb 15
  simp at e1 e15
  have HBK : Hid (W.heap[w.heap.size]? = some (.cells #[.int .i64 zx, .int .u8 k, .int .i64 se, .int .i64 tu, .int .i64 xi, .int .i64 ti, .string (mkS p), .slice A1 da.length c1, .int .i64 ow, .int .i64 ve, .int .i64 cv, .int .i64 tmo, .int .i64 er, .int .i64 cver, .slice A2 mems.length c2, .slice A3 np c3] 32 (0, 0))) := hb
  by_cases h58 : k = 5 ∨ k = 8
  · have g5 : ((k == 5) = true ∧ k = 5) ∨ ((k == 5) = false ∧ (k == 8) = true ∧ k = 8) := by
      rcases h58 with h | h
      · exact .inl ⟨by simpa using h, h⟩
      · exact .inr ⟨by simp [h], by simpa using h, h⟩
    have H58 : Hid (k = 5 ∨ k = 8) := h58
    clear h58 hb
    rcases g5 with ⟨h1, -⟩ | ⟨h1, h2, -⟩
    · go_enter Tryd.func23, Tryd.ntmps23
      go_upto_region 1 with fail
      rw [← hW]
      clear hW
      go_wp2_with fail
      go_ret
      exact ⟨HB.out, .inl ⟨H58.out, rfl⟩⟩
    · go_enter Tryd.func23, Tryd.ntmps23
      go_upto_region 1 with fail
      rw [← hW]
      clear hW
      go_wp2_with fail
      go_ret
      exact ⟨HB.out, .inl ⟨H58.out, rfl⟩⟩
  · have h1 : (k == 5) = false := by simpa using fun e => h58 (.inl e)
    have h2 : (k == 8) = false := by simpa using fun e => h58 (.inr e)
    have H58 : Hid (¬ (k = 5 ∨ k = 8)) := h58
    obtain ⟨d0, d1, d2, d3, d4, d5, d6, d7, d8, d9, d10, d11, d12, d13, d14, d15⟩ := cells_of ⟨zx, k, se, tu, xi, ti, p, da, ow, ve, cv, tmo, er, cver, mems, np⟩ A1 A2 A3 c1 c2 c3 hb
    simp only [Nat.zero_add] at d0 d1 d2 d3 d4 d5 d6 d7 d8 d9 d10 d11 d12 d13 d14 d15
    clear h58 hb e1 e15
    go_enter Tryd.func23, Tryd.ntmps23
    go_upto_region 1 with fail
    rw [← hW]
    clear hW
    go_wp2_with fail
    go_ret
    exact ⟨(HB.out.trans ((Below.refl _ W).alloc (by have := HB.out.size; omega) _)), .inr ⟨H58.out, W.heap.size, rfl, by simp, heap_alloc_new W _⟩⟩
end Go.Proofs.YtkbmbnfpadllmaaDoor.We
