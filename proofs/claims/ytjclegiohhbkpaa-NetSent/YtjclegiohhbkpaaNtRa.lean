/- The document's net: sending. -/
import Derived.Test.YtjclegiohhbkpaaNtR
namespace Go.Proofs.Ytjclegiohhbkpaa
open Go.RowKit Go.MapKept

theorem infoP : (Try.prog.info? 58).map (fun i => (i.zero, i.size, i.bytes)) = some (some (.agg #[.int .i64 0, .int .i64 0, .slice none 0 0]), 3, 40) := by kernel_rfl
set_option maxRecDepth 100000 in
theorem rsend_full {w : World} {base r : Nat} {v : Value} {L : List PkV} (h : Rk w base r v L) (hL : L.length ≤ 1000000) (k : Int × Int) {x : Value} {b : List UInt8} (hx : Bs w x b) (hs : sendOk (L.map Prod.fst) k b = false) :
    Calls Try.prog 24 #[.pointer (some ⟨r, 0, none⟩), .int .i64 k.1, .int .i64 k.2, x] w fun e w' => e = .returned (.bool false) ∧ w' = w := by
  have hc := rcount_any h hL k
  obtain ⟨A, C, rfl⟩ := bs_form hx
  have HS : Hid (32 ≤ (bagOf (L.map Prod.fst) k).length ∨ 1048576 < b.length) := by
    simp only [sendOk, Bool.and_eq_false_iff, decide_eq_false_iff_not] at hs
    unfold Hid; omega
  clear hs h hx
  go_enter Try.func24, Try.ntmps24
  go_wp2_with fail
  refine hc.mono ?_
  rintro e w1 ⟨rfl, rfl⟩
  generalize (bagOf (L.map Prod.fst) k).length = M at *
  clear hc
  by_cases h1 : 32 ≤ M
  · go_wp2_with fail
    go_ret
    exact ⟨rfl, rfl⟩
  · have h2 : 1048576 < b.length := by have := HS.out; omega
    go_wp2_with fail
    go_ret
    exact ⟨rfl, rfl⟩
theorem step_app1 {w : World} {ops : Array Oper} {o : Oper} {a : Act} {K : Act → World → Prop} {Q : Exit → Act → World → Prop} {E : Prop} (T : TypeId) (hgd : o.guard = none) (s x : Operand) (ho : o.op = .call { callee := .builtin .append, args := #[s, x], argTypes := #[T, T] })
    (vs vx v' : Value) (w' : World) (hs : a.eval s = vs) (hx : a.eval x = vx) (hrun : (Builtin.append_ #[T, T] o.type #[vs, vx]).run Try.prog w = .ok v' w') (h : K (a.put o.dst v') w') :
    if Region.wanted o (yielded ops a.tmps) = true then Oper.wp Try.prog o a w K Q else E := by
  have hw : Region.wanted o (yielded ops a.tmps) = true := by simp [Region.wanted, hgd]
  rw [if_pos hw]
  unfold Oper.wp execOp
  simp only [ho, resolve, invoke, builtin, Sem.run_bind, Sem.run_pure, Result.andThen_ok, List.map_toArray, List.map_cons, List.map_nil, hs, hx, hrun]
  exact h
theorem cell_three_new (w : World) (t u v : Value) (T : TypeId) : ∀ j x, [t, u, v][j]? = some x → (w.alloc (.cells #[t, u, v] T)).cell? ((⟨w.heap.size, 0, none⟩ : Addr).add j) = some x := by
  intro j x hx
  rw [show (⟨w.heap.size, 0, none⟩ : Addr).add j = ⟨w.heap.size, j, none⟩ by simp only [Addr.add]; split <;> simp_all, cell_at (heap_alloc_new w _)]
  simpa using hx
theorem heap_setCell {w : World} {g T : Nat} {v u : Value} (h : w.heap[g]? = some (.cells #[v] T (0, 0))) : (w.setCell ⟨g, 0, none⟩ u).heap[g]? = some (.cells #[u] T (0, 0)) := by
  simp [World.setCell, Array.getElem?_modify, h]
/- The world behind a Send of the document's. -/
def RsEnd (base r : Nat) (A1 : Option Addr) (C1 : Nat) (L : List PkV) (k : Int × Int) (b : List UInt8) (w w' : World) : Prop :=
  ∃ v' x', Rk w' base r v' (L ++ [((k, b), x')]) ∧ Chg (fun g => g = r ∨ blk (.slice A1 L.length C1) = some g) w w' ∧ ∀ g, Bx r v' (L ++ [((k, b), x')]) g → Bx r (.slice A1 L.length C1) L g ∨ w.heap.size ≤ g
theorem rsend_math {W : World} {base r : Nat} {A1 : Option Addr} {C1 : Nat} {L : List PkV} (hb : base ≤ W.heap.size) (h : Rk W base r (.slice A1 L.length C1) L) (hL : L.length < 1000000) (k : Int × Int) {A : Option Addr} {C : Nat} {b : List UInt8} (hx : Bs W (.slice A b.length C) b) (hl : b.length ≤ 1048576) :
    ∃ A2 C2 W2 A4 C4 W4, (Builtin.append_ #[27, 27] 27 #[.slice (some ⟨W.heap.size, 0, none⟩) 0 0, .slice A b.length C]).run Try.prog (W.alloc (.cells #[] 5)) = .ok (.slice A2 b.length C2) W2 ∧
      (Builtin.append_ #[52, 52] 52 #[.slice A1 L.length C1, .slice (some ⟨W2.heap.size, 0, none⟩) 1 1]).run Try.prog (W2.alloc (.cells #[.int .i64 k.1, .int .i64 k.2, .slice A2 b.length C2] 58)) = .ok (.slice A4 (L.length + 1) C4) W4 ∧
      W.cell? ⟨r, 0, none⟩ = some (.slice A1 L.length C1) ∧ (W.alloc (.cells #[] 5)).cell? ⟨r, 0, none⟩ = some (.slice A1 L.length C1) ∧ W2.cell? ⟨r, 0, none⟩ = some (.slice A1 L.length C1) ∧
      (W2.alloc (.cells #[.int .i64 k.1, .int .i64 k.2, .slice A2 b.length C2] 58)).cell? ⟨r, 0, none⟩ = some (.slice A1 L.length C1) ∧ W4.cell? ⟨r, 0, none⟩ = some (.slice A1 L.length C1) ∧ W4.frozen? ⟨r, 0, none⟩ = false ∧
      Hid (RsEnd base r A1 C1 L k b W (W4.setCell ⟨r, 0, none⟩ (.slice A4 (L.length + 1) C4))) := by
  obtain ⟨i0, hi0, hz0, hz1, hz2⟩ := info_parts infoP
  have HO : (W.alloc (.cells #[] 5)).ownsRow W.heap.size 5 1 (.slice (some ⟨W.heap.size, 0, none⟩) 0 0) 0 (bv []) :=
    ⟨rfl, .inr ⟨W.heap.size, 0, #[], rfl, Nat.le_refl _, heap_alloc_new W _, Nat.le_refl _, by unfold maxLen; omega, rfl, rfl⟩⟩
  obtain ⟨v2, W2, hr2, ho2, hg2, hl2, hn2⟩ := app_bytes 27 HO (hx.alloc _) (by simp) (by simp; omega)
  simp only [List.nil_append] at ho2
  obtain ⟨A2, C2, rfl⟩ := owns_formT ho2
  have hB2 : Below W.heap.size W W2 := by
    refine (below1 W (.cells #[] 5)).trans ?_
    exact (Chg.of_grown hg2).below (fun k hk => by cases hk; exact Nat.le_refl _) (by simp)
  have h2 := h.below hB2
  have h3 := h2.alloc (.cells #[.int .i64 k.1, .int .i64 k.2, .slice A2 b.length C2] 58)
  have hs2 := hB2.size
  obtain ⟨v4, W4, hr4, ho4, hg4, hn4, hl4⟩ := run_append_own_at (P := Try.prog) (W2.alloc (.cells #[.int .i64 k.1, .int .i64 k.2, .slice A2 b.length C2] 58)) base 52 52 58 i0 (.agg #[.int .i64 0, .int .i64 0, .slice none 0 0]) 3 40 Try.underlying52 hi0 hz0 hz1 hz2 rfl (by decide) (.slice A1 L.length C1) L.length (L.flatMap cel) h3.row ⟨W2.heap.size, 0, none⟩ 1 1 [.int .i64 k.1, .int .i64 k.2, .slice A2 b.length C2] rfl (cell_three_new _ _ _ _ _) (fun u hu => by simp at hu; rcases hu with rfl | rfl | rfl <;> rfl)
      (by unfold maxLen; omega) (by omega) (by simp; omega)
  obtain ⟨A4, C4, rfl⟩ := owns_formN ho4
  have hrl : r < W.heap.size := heap_lt h.cell
  have hrn : ∀ g, blk (.slice A1 L.length C1) = some g → g ≠ r ∧ g < W.heap.size := by
    intro g hg
    obtain ⟨cur, hc, _⟩ := owns_blockN h.row hg
    refine ⟨fun e => ?_, heap_lt hc⟩
    rw [e, h.cell] at hc; cases hc
  have c4 : Chg (fun g => blk (.slice A1 L.length C1) = some g) W W4 := by
    have a1 : Chg (fun g => blk (.slice A1 L.length C1) = some g) W W2 := (Chg.of_below hB2).weak (fun _ _ e => e.elim)
    exact (a1.trans (Chg.alloc _ _ _)).trans (Chg.of_grown hg4)
  have hcell4 : W4.heap[r]? = some (.cells #[.slice A1 L.length C1] 54 (0, 0)) := by
    rw [c4.block r hrl fun e => (hrn r e).1 rfl]; exact h.cell
  have z0 := cell_at h.cell 0
  have z1 := cell_at (h.alloc (.cells #[] 5)).cell 0
  have z2 := cell_at h2.cell 0
  have z3 := cell_at h3.cell 0
  have z4 := cell_at hcell4 0
  simp only [List.getElem?_toArray, List.getElem?_cons_zero] at z0 z1 z2 z3 z4
  refine ⟨A2, C2, W2, A4, C4, W4, hr2, hr4, z0, z1, z2, z3, z4, frozen_at hcell4 0, ⟨.slice A4 (L.length + 1) C4, .slice A2 b.length C2, ?_, ?_, ?_⟩⟩
  · have c5 : Chg (fun g => g = r) W4 (W4.setCell ⟨r, 0, none⟩ (.slice A4 (L.length + 1) C4)) := Chg.setCell W4 ⟨r, 0, none⟩ _ rfl
    have hb4 : ∀ g, blk (.slice A4 (L.length + 1) C4) = some g → g ≠ r := by
      intro g hg
      rcases hl4 with e | e
      · exact (hrn g (e.symm.trans hg)).1
      · have hg' : some (W2.alloc (.cells #[.int .i64 k.1, .int .i64 k.2, .slice A2 b.length C2] 58)).heap.size = some g := e.symm.trans hg
        cases hg'
        simp; omega
    have hA2 : ∀ g, blk (.slice A2 b.length C2) = some g → W.heap.size ≤ g ∧ g < W2.heap.size := by
      intro g hg
      obtain ⟨cur, hc, hle⟩ := owns_blockT ho2 hg
      exact ⟨hle, heap_lt hc⟩
    refine ⟨heap_setCell hcell4, ?_, ?_, h.low⟩
    · refine owns_keepN ?_ c5 (fun g hg e => hb4 g hg e)
      rw [List.length_append, List.flatMap_append]
      exact ho4
    · intro p hp
      rcases List.mem_append.1 hp with hp | hp
      · refine ⟨owns_keepN (owns_keepN (h.bs p hp).1 c4 fun g hg e => ?_) c5 fun g hg e => ?_, (h.bs p hp).2⟩
        · obtain ⟨cur, hc, _⟩ := owns_blockN (h.bs p hp).1 hg
          obtain ⟨cur', hc', _⟩ := owns_blockN h.row e
          rw [hc] at hc'; cases hc'
        · obtain ⟨cur, hc, _⟩ := owns_blockN (h.bs p hp).1 hg
          rw [e, h.cell] at hc; cases hc
      · simp at hp; subst hp
        refine ⟨owns_keepN (owns_keepN (owns_lowT ho2 hb) ((Chg.alloc (fun g => blk (.slice A1 L.length C1) = some g) _ _).trans (Chg.of_grown hg4)) fun g hg e => ?_) c5 fun g hg e => ?_, hl⟩
        · have q1 := hA2 g hg
          have q2 := (hrn g e).2
          omega
        · have q1 := hA2 g hg
          omega
  · exact (c4.weak fun g _ e => .inr e).trans (Chg.setCell W4 ⟨r, 0, none⟩ _ (.inl rfl))
  · rintro g (rfl | hk | ⟨p, hp, hk⟩)
    · exact .inl (.inl rfl)
    · rcases hl4 with e | e
      · exact .inl (.inr (.inl (e.symm.trans hk)))
      · have hg' : some (W2.alloc (.cells #[.int .i64 k.1, .int .i64 k.2, .slice A2 b.length C2] 58)).heap.size = some g := e.symm.trans hk
        cases hg'
        exact .inr (by simp; omega)
    · rcases List.mem_append.1 hp with hp | hp
      · exact .inl (.inr (.inr ⟨p, hp, hk⟩))
      · simp at hp; subst hp
        obtain ⟨cur, hc, hle⟩ := owns_blockT ho2 hk
        exact .inr hle
set_option maxRecDepth 100000 in
theorem rsend_ok {w : World} {base r : Nat} {v : Value} {L : List PkV} (hb : base ≤ w.heap.size) (h : Rk w base r v L) (hL : L.length < 1000000) (k : Int × Int) {x : Value} {b : List UInt8} (hx : Bs w x b) (hs : sendOk (L.map Prod.fst) k b = true) :
    Calls Try.prog 24 #[.pointer (some ⟨r, 0, none⟩), .int .i64 k.1, .int .i64 k.2, x] w fun e w' => e = .returned (.bool true) ∧ ∃ v' x', Rk w' base r v' (L ++ [((k, b), x')]) ∧ Chg (fun g => g = r ∨ blk v = some g) w w' ∧ ∀ g, Bx r v' (L ++ [((k, b), x')]) g → Bx r v L g ∨ w.heap.size ≤ g := by
  have hc := rcount_any h (by omega) k
  obtain ⟨A, C, rfl⟩ := bs_form hx
  have HS : Hid ((bagOf (L.map Prod.fst) k).length < 32 ∧ b.length ≤ 1048576) := by
    simpa [sendOk, Hid] using hs
  obtain ⟨A1, C1, rfl⟩ := owns_formN h.row
  obtain ⟨A2, C2, W2, A4, C4, W4, hr2, hr4, z0, z1, z2, z3, z4, z5, HE⟩ := rsend_math (W := w.drew) hb (h.keep (w' := w.drew) (Chg.drew Non w) (fun _ _ => id)) hL k hx.drew HS.out.2
  obtain ⟨N, hN⟩ : ∃ N, N = L.length := ⟨_, rfl⟩
  have HN : Hid (N = L.length) := hN
  rw [← hN] at z0 z1 z2 z3 z4 hr4
  have z0' : w.cell? ⟨r, 0, none⟩ = some (.slice A1 N C1) := z0
  have z1' : (w.alloc (.cells #[] 5)).cell? ⟨r, 0, none⟩ = some (.slice A1 N C1) := z1
  clear hs h hx hN z0 z1
  go_enter Try.func24, Try.ntmps24
  go_wp2_with fail
  refine hc.mono ?_
  rintro e w1 ⟨rfl, rfl⟩
  have h1 := HS.out.1
  have h2 := HS.out.2
  generalize (bagOf (L.map Prod.fst) k).length = M at *
  clear hc
  go_wp2_with fail
  go_region_law (first
    | (refine step_app1 27 rfl (.tmp 26) (.tmp 27) rfl _ _ _ _ (by simp [Act.eval]) (by simp [Act.eval]) hr2 ?_)
    | (refine step_app1 52 rfl (.tmp 23) (.tmp 30) rfl _ _ _ _ (by simp [Act.eval]) (by simp [Act.eval]) hr4 ?_))
  all_goals
    go_wp2_with fail
    go_ret
    have hE := HE.out
    rw [← HN.out] at hE
    obtain ⟨v', x', g1, g2, g3⟩ := hE
    exact ⟨rfl, v', x', g1, (Chg.drew _ w1).trans g2, g3⟩
/- The document's net with what it hides: Rx w r l T: T: blocks that may turn with it. -/
def Rx (w : World) (r : Nat) (l : List Pk) (B : Nat → Prop) : Prop :=
  ∃ base v L, base ≤ w.heap.size ∧ Rk w base r v L ∧ L.map Prod.fst = l ∧ (∀ g, Bx r v L g → B g) ∧ ∀ g, B g → g < w.heap.size
theorem Rx.keep {S : Nat → Prop} {w w' : World} {r : Nat} {l : List Pk} {B : Nat → Prop} (h : Rx w r l B) (hc : Chg S w w') (hS : ∀ g, B g → ¬ S g) : Rx w' r l B := by
  obtain ⟨base, v, L, h1, h2, h3, h4, h5⟩ := h
  exact ⟨base, v, L, Nat.le_trans h1 hc.size, h2.keep hc (fun g hg => hS g (h4 g hg)), h3, h4, fun g hg => hc.lt_of (h5 g hg)⟩
theorem Rx.below {w w' : World} {r : Nat} {l : List Pk} {B : Nat → Prop} (h : Rx w r l B) (hb : Below w.heap.size w w') : Rx w' r l B := h.keep (Chg.of_below hb) (fun _ _ => id)
theorem Rx.lt {w : World} {r : Nat} {l : List Pk} {B : Nat → Prop} (h : Rx w r l B) : ∀ g, B g → g < w.heap.size := by
  obtain ⟨base, v, L, h1, h2, h3, h4, h5⟩ := h; exact h5
/- What is the document's behind one of its calls: what was, and what is new. -/
abbrev Gw (B : Nat → Prop) (w w' : World) : Nat → Prop := fun g => B g ∨ (w.heap.size ≤ g ∧ g < w'.heap.size)
theorem rnew_rx (w : World) : Calls Try.prog 7 #[] w fun e w' => ∃ r, e = .returned (.pointer (some ⟨r, 0, none⟩)) ∧ Rx w' r [] (Gw Non w w') ∧ Below w.heap.size w w' := by
  refine (rnew_any w).mono ?_
  rintro e w' ⟨r, rfl, h, hB⟩
  refine ⟨r, rfl, ⟨w.heap.size, _, [], hB.size, h, rfl, fun g hg => .inr (h.lt g hg), fun g hg => ?_⟩, hB⟩
  rcases hg with hg | hg
  · exact hg.elim
  · exact hg.2
theorem rcount_rx {w : World} {r : Nat} {l : List Pk} {B : Nat → Prop} (h : Rx w r l B) (hL : l.length ≤ 1000000) (k : Int × Int) :
    Calls Try.prog 10 #[.pointer (some ⟨r, 0, none⟩), .int .i64 k.1, .int .i64 k.2] w fun e w' => e = .returned (.int .i64 (bagOf l k).length) ∧ w' = w := by
  obtain ⟨base, v, L, h1, h2, rfl, h4, h5⟩ := h
  exact rcount_any h2 (by simpa using hL) k
theorem Rx.of_next {w w' : World} {base r : Nat} {v v' : Value} {L L' : List PkV} {B : Nat → Prop} (hb : base ≤ w.heap.size) (h4 : ∀ g, Bx r v L g → B g) (h5 : ∀ g, B g → g < w.heap.size)
    (g1 : Rk w' base r v' L') (g2 : Chg (fun g => g = r ∨ blk v = some g) w w') (g3 : ∀ g, Bx r v' L' g → Bx r v L g ∨ w.heap.size ≤ g) : Rx w' r (L'.map Prod.fst) (Gw B w w') ∧ Chg B w w' := by
  refine ⟨⟨base, v', L', Nat.le_trans hb g2.size, g1, rfl, fun g hg => ?_, fun g hg => ?_⟩, g2.weak fun g _ e => h4 g (e.elim (fun e => .inl e) (fun e => .inr (.inl e)))⟩
  · rcases g3 g hg with e | e
    · exact .inl (h4 g e)
    · exact .inr ⟨e, (g1.lt g hg).2⟩
  · rcases hg with hg | hg
    · exact g2.lt_of (h5 g hg)
    · exact hg.2
theorem Rx.grow {w w' : World} {r : Nat} {l : List Pk} {B : Nat → Prop} (h : Rx w r l B) (hb : Below w.heap.size w w') : Rx w' r l (Gw B w w') ∧ Chg B w w' := by
  obtain ⟨base, v, L, h1, h2, h3, h4, h5⟩ := h
  refine ⟨⟨base, v, L, Nat.le_trans h1 hb.size, h2.below hb, h3, fun g hg => .inl (h4 g hg), fun g hg => ?_⟩, (Chg.of_below hb).weak fun _ _ e => e.elim⟩
  rcases hg with hg | hg
  · exact Nat.lt_of_lt_of_le (h5 g hg) hb.size
  · exact hg.2
theorem rsend_rx {w : World} {r : Nat} {l : List Pk} {B : Nat → Prop} (h : Rx w r l B) (hL : l.length < 1000000) (k : Int × Int) {x : Value} {b : List UInt8} (hx : Bs w x b) :
    Calls Try.prog 24 #[.pointer (some ⟨r, 0, none⟩), .int .i64 k.1, .int .i64 k.2, x] w fun e w' => e = .returned (.bool (sendOk l k b)) ∧ Rx w' r (if sendOk l k b then l ++ [(k, b)] else l) (Gw B w w') ∧ Chg B w w' := by
  have h0 := h
  obtain ⟨base, v, L, h1, h2, rfl, h4, h5⟩ := h
  cases hs : sendOk (L.map Prod.fst) k b with
  | true =>
    refine (rsend_ok h1 h2 (by simpa using hL) k hx hs).mono ?_
    rintro e w' ⟨rfl, v', x', g1, g2, g3⟩
    have := Rx.of_next h1 h4 h5 g1 g2 g3
    simp only [List.map_append, List.map_cons, List.map_nil] at this
    exact ⟨rfl, this⟩
  | false =>
    refine (rsend_full h2 (by simp at hL; omega) k hx hs).mono ?_
    rintro e w' ⟨rfl, rfl⟩
    exact ⟨rfl, h0.grow (Below.refl _ _)⟩
end Go.Proofs.Ytjclegiohhbkpaa
