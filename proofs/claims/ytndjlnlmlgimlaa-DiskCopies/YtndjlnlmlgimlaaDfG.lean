/- The document's disk: removing, cutting. -/
import Derived.Test.YtndjlnlmlgimlaaDfF
namespace Go.Proofs.Ytndjlnlmlgimlaa
open Go.RowKit Go.MapKept

theorem erase_F (L : List Fv) (j : Nat) : (L.eraseIdx j).map Prod.fst = (L.map Prod.fst).eraseIdx j := Go.ChangeMaps.map_eraseIdx ..
set_option maxRecDepth 100000 in
theorem rremove_any {w : World} {base r : Nat} {room : Int} {v : Value} {L : List Fv} (hb : base ≤ w.heap.size) (h : Rk w base r room v L) (hL : L.length ≤ 1000000) (k : List UInt8) :
    Calls Try.prog 27 #[.pointer (some ⟨r, 0, none⟩), .string (mkS k)] w fun e w' => e = .returned (.int .i64 (synE (L.map Prod.fst) k)) ∧ Rn base r room v L w w' (delF k (L.map Prod.fst)) := by
  have hc := rfind_any h hL k
  unfold plI at hc
  cases hq : plF k (L.map Prod.fst) with
  | none =>
    have hl := plF_none hq
    rw [hq] at hc
    simp only at hc
    have HE : Hid (synE (L.map Prod.fst) k = 6 ∧ delF k (L.map Prod.fst) = L.map Prod.fst) := by simp [Hid, synE, del_none hl, hl]
    rw [HE.out.1, HE.out.2]
    have HR : Hid _ := Rn.refl h (Below.refl _ w)
    clear hl hq HE h
    go_enter Try.func27, Try.ntmps27
    go_wp2_with fail
    refine hc.mono ?_
    rintro e w1 ⟨rfl, rfl⟩
    clear hc
    go_wp2_with fail
    go_ret
    exact ⟨rfl, HR.out⟩
  | some j =>
    obtain ⟨hj0, hj1, hj2, hj3, hj4⟩ := plF_some hq
    have hj : j < L.length := by simpa using hj0
    rw [hq] at hc
    simp only at hc
    have hse : synE (L.map Prod.fst) k = 0 := by simp [synE, hj2]
    rw [hse, hj3, ← erase_F]
    have hd := rdrop_any hb h hL j hj
    have HSB : Hid (∀ p ∈ L.eraseIdx j, p ∈ L) := fun p hp => List.mem_of_mem_eraseIdx hp
    generalize L.eraseIdx j = L' at hd HSB ⊢
    clear hse hj0 hj1 hj2 hj3 hj4 hq h hL hj
    go_enter Try.func27, Try.ntmps27
    go_wp2_with fail
    refine hc.mono ?_
    rintro e w1 ⟨rfl, rfl⟩
    clear hc
    go_wp2_with fail
    refine hd.mono ?_
    rintro e w2 ⟨rfl, v', h1, h2, h3⟩
    clear hd
    have HR : Hid (Rn base r room v L w1 w2 (L'.map Prod.fst)) := ⟨v', L', rfl, h1, h2, fun g hg => .inr (h3 g hg), Fresh.sub _ HSB.out⟩
    go_wp2_with fail
    go_ret
    exact ⟨rfl, HR.out⟩
theorem step_app1 {w : World} {ops : Array Oper} {o : Oper} {a : Act} {K : Act → World → Prop} {Q : Exit → Act → World → Prop} {E : Prop} (T : TypeId) (hgd : o.guard = none) (s x : Operand) (ho : o.op = .call { callee := .builtin .append, args := #[s, x], argTypes := #[T, T] })
    (vs vx v' : Value) (w' : World) (hs : a.eval s = vs) (hx : a.eval x = vx) (hrun : (Builtin.append_ #[T, T] o.type #[vs, vx]).run Try.prog w = .ok v' w') (h : K (a.put o.dst v') w') :
    if Region.wanted o (yielded ops a.tmps) = true then Oper.wp Try.prog o a w K Q else E := by
  have hw : Region.wanted o (yielded ops a.tmps) = true := by simp [Region.wanted, hgd]
  rw [if_pos hw]
  unfold Oper.wp execOp
  simp only [ho, resolve, invoke, builtin, Sem.run_bind, Sem.run_pure, Result.andThen_ok, List.map_toArray, List.map_cons, List.map_nil, hs, hx, hrun]
  exact h
/- Bytes copied into new memory. -/
theorem copy_math {W : World} {A : Option Addr} {n C : Nat} {b : List UInt8} (hx : Bs W (.slice A n C) b) (hn : n = b.length) (hl : b.length ≤ 4194304) :
    ∃ A2 C2 W2, (Builtin.append_ #[28, 28] 28 #[.slice (some ⟨W.heap.size, 0, none⟩) 0 0, .slice A n C]).run Try.prog (W.alloc (.cells #[] 5)) = .ok (.slice A2 n C2) W2 ∧ W2.ownsRow W.heap.size 5 1 (.slice A2 n C2) n (bv b) ∧ Below W.heap.size W W2 := by
  subst hn
  obtain ⟨v2, W2, hr2, ho2, hg2, hl2, hn2⟩ := app_bytes 28 (new_own W) (hx.alloc _) (by simp) (by simp; omega)
  simp only [List.nil_append] at ho2
  obtain ⟨A2, C2, rfl⟩ := owns_formN ho2
  refine ⟨A2, C2, W2, hr2, ho2, (below1 W (.cells #[] 5)).trans ?_⟩
  exact (Chg.of_grown hg2).below (fun k hk => by cases hk; exact Nat.le_refl _) (by simp)
/- A file's bytes in new memory, put into the row. -/
theorem Rk.two {w W2 : World} {base r g N C : Nat} {room : Int} {L : List Fv} (hb : base ≤ w.heap.size) (h : Rk w base r room (.slice (some ⟨g, 0, none⟩) N C) L) (hN : N = L.length) (j : Nat) (hj : j < L.length) (hB : Below w.heap.size w W2) {A2 : Option Addr} {n2 C2 : Nat} {b : List UInt8} (ho : W2.ownsRow w.heap.size 5 1 (.slice A2 n2 C2) n2 (bv b)) (hn2 : n2 = b.length) (sy : Nat) (hf : sy ≤ b.length ∧ b.length ≤ 4194304) :
    (W2.cell? ⟨r, 1, none⟩ = some (.slice (some ⟨g, 0, none⟩) N C) ∧ W2.cell? ⟨g, j * 3 + 1, none⟩ = some (L[j]'hj).2 ∧ W2.frozen? ⟨g, j * 3 + 1, none⟩ = false) ∧
    ((W2.setCell ⟨g, j * 3 + 1, none⟩ (.slice A2 n2 C2)).cell? ⟨r, 1, none⟩ = some (.slice (some ⟨g, 0, none⟩) N C) ∧ (W2.setCell ⟨g, j * 3 + 1, none⟩ (.slice A2 n2 C2)).cell? ⟨g, j * 3 + 2, none⟩ = some (.int .i64 ((L[j]'hj).1.sy : Int)) ∧ (W2.setCell ⟨g, j * 3 + 1, none⟩ (.slice A2 n2 C2)).frozen? ⟨g, j * 3 + 2, none⟩ = false) ∧
    Hid (Rn base r room (.slice (some ⟨g, 0, none⟩) N C) L w ((W2.setCell ⟨g, j * 3 + 1, none⟩ (.slice A2 n2 C2)).setCell ⟨g, j * 3 + 2, none⟩ (.int .i64 (sy : Int))) ((L.set j (⟨(L[j]'hj).1.nm, b, sy⟩, .slice A2 n2 C2)).map Prod.fst)) ∧
    (sy = (L[j]'hj).1.sy → Hid (Rn base r room (.slice (some ⟨g, 0, none⟩) N C) L w (W2.setCell ⟨g, j * 3 + 1, none⟩ (.slice A2 n2 C2)) ((L.set j (⟨(L[j]'hj).1.nm, b, sy⟩, .slice A2 n2 C2)).map Prod.fst))) := by
  subst hn2
  have h2 := h.below hB
  have hgr : ¬ g = r := h.row_ne (g := g) rfl
  obtain ⟨g', e, y0, y1, y2⟩ := h2.at j hj
  cases e
  have hgl : g < w.heap.size := by obtain ⟨cur, hc, _⟩ := owns_blockN h.row (k := g) rfl; exact heap_lt hc
  have ha2 : ∀ k, blk (.slice A2 b.length C2) = some k → k ≠ g := by
    intro k hk e
    obtain ⟨cur, hc, hle⟩ := owns_blockN ho hk
    omega
  have c1 : Chg (fun k => k = g ∨ w.heap.size ≤ k) w (W2.setCell ⟨g, j * 3 + 1, none⟩ (.slice A2 b.length C2)) := ((Chg.of_below hB).weak (fun _ _ e => e.elim)).trans (Chg.setCell W2 ⟨g, j * 3 + 1, none⟩ _ (.inl rfl))
  have o1 : (W2.setCell ⟨g, j * 3 + 1, none⟩ (.slice A2 b.length C2)).ownsRow base 5 1 (.slice A2 b.length C2) b.length (bv b) := owns_lowN (owns_keepN ho (Chg.setCell (S := fun k => k = g) W2 ⟨g, j * 3 + 1, none⟩ _ rfl) fun k hk e => ha2 k hk e) hb
  have hrow1 : (W2.setCell ⟨g, j * 3 + 1, none⟩ (.slice A2 b.length C2)).ownsRow base 64 3 (.slice (some ⟨g, 0, none⟩) N C) N ((L.flatMap cel).set (j * 3 + 1) (.slice A2 b.length C2)) := by rw [hN]; rw [hN] at h2; exact owns_set h2.row _ _
  have fz : (W2.setCell ⟨g, j * 3 + 1, none⟩ (.slice A2 b.length C2)).frozen? ⟨g, j * 3 + 2, none⟩ = false := by
    obtain ⟨cur, hc, _⟩ := owns_blockN hrow1 (k := g) rfl
    exact frozen_at hc _
  refine ⟨⟨h2.head.2, y1, h2.frz _⟩, ⟨by rw [World.cell?_setCell_far _ _ _ _ hgr]; exact h2.head.2, cell_set_ne y2 (by omega), fz⟩, ?_, ?_⟩
  · have := h.set_of j (⟨(L[j]'hj).1.nm, b, sy⟩, .slice A2 b.length C2) (c1.trans (Chg.setCell _ ⟨g, j * 3 + 2, none⟩ (.int .i64 (sy : Int)) (.inl rfl))) hN (by rw [cel_set12 (p := (⟨(L[j]'hj).1.nm, b, sy⟩, .slice A2 b.length C2)) hj rfl]; exact owns_set hrow1 _ _)
      (owns_keepN o1 (Chg.setCell (S := fun k => k = g) _ ⟨g, j * 3 + 2, none⟩ _ rfl) fun k hk e => ha2 k hk e) hf
    exact ⟨_, _, rfl, this.1, this.2, fun g hg => .inl hg, Fresh.set j (fun k hk => .inr (by obtain ⟨cur, hc, hle⟩ := owns_blockN ho hk; exact hle))⟩
  · intro hs
    have := h.set_of j (⟨(L[j]'hj).1.nm, b, sy⟩, .slice A2 b.length C2) c1 hN (by rw [cel_set1 (p := (⟨(L[j]'hj).1.nm, b, sy⟩, .slice A2 b.length C2)) hj rfl hs]; exact hrow1) o1 hf
    exact ⟨_, _, rfl, this.1, this.2, fun g hg => .inl hg, Fresh.set j (fun k hk => .inr (by obtain ⟨cur, hc, hle⟩ := owns_blockN ho hk; exact hle))⟩
set_option maxRecDepth 100000 in
set_option maxHeartbeats 4000000 in
theorem rcut_any {w : World} {base r : Nat} {room : Int} {v : Value} {L : List Fv} (hb : base ≤ w.heap.size) (h : Rk w base r room v L) (hL : L.length ≤ 1000000) (k : List UInt8) (n : Int) :
    Calls Try.prog 23 #[.pointer (some ⟨r, 0, none⟩), .string (mkS k), .int .i64 n] w fun e w' => e = .returned (.int .i64 (cutE (L.map Prod.fst) k n)) ∧ Rn base r room v L w w' (cutR (L.map Prod.fst) k n) := by
  have hc := rfind_any h hL k
  obtain ⟨A1, C1, rfl⟩ := owns_formN h.row
  have hc0 := h.head.2
  unfold plI at hc
  cases hq : plF k (L.map Prod.fst) with
  | none =>
    have hl := plF_none hq
    rw [hq] at hc
    simp only at hc
    have HE : Hid (cutE (L.map Prod.fst) k n = 6 ∧ cutR (L.map Prod.fst) k n = L.map Prod.fst) := by simp [Hid, cutE, cutR, hl]
    rw [HE.out.1, HE.out.2]
    have HR : Hid _ := Rn.refl h (Below.refl _ w)
    clear hl hq HE h
    go_enter Try.func23, Try.ntmps23
    go_wp2_with fail
    refine hc.mono ?_
    rintro e w1 ⟨rfl, rfl⟩
    clear hc
    go_wp2_with fail
    go_ret
    exact ⟨rfl, HR.out⟩
  | some j =>
    obtain ⟨hj0, hj1, hj2, _, hj4⟩ := plF_some hq
    have hj : j < L.length := by simpa using hj0
    rw [hq] at hc
    simp only at hc
    obtain ⟨g, hA, y0, y1, y2⟩ := h.at j hj
    subst hA
    have hbs := h.bs _ (List.getElem_mem hj)
    have hfit := (h.fits _ (List.getElem_mem hj)).2
    obtain ⟨A3, C3, hv3⟩ := owns_formN hbs
    obtain ⟨p, hp⟩ : ∃ p : Fv, p = L[j]'hj := ⟨_, rfl⟩
    have hlk : lookF k (L.map Prod.fst) = some p.1 := by rw [hj2, hp, List.getElem_map]
    have hnm : p.1.nm = k := by rw [hp, ← hj1, List.getElem_map]
    have hfr1 := h.frz (j * 3 + 1)
    have hfr2 := h.frz (j * 3 + 2)
    have hgr : ¬ g = r := h.row_ne (g := g) rfl
    have hrg : ¬ r = g := fun e => hgr e.symm
    have hrl := heap_lt h.cell
    have hgl : g < w.heap.size := World.block_lt_of_cell? w _ y0
    rw [← hp] at y0 y1 y2 hv3 hfit hbs
    by_cases hn : n < 0 ∨ (p.1.b.length : Int) < n
    · have HE : Hid (cutE (L.map Prod.fst) k n = 2 ∧ cutR (L.map Prod.fst) k n = L.map Prod.fst) := by simp [Hid, cutE, cutR, getF, hlk, hn]
      rw [HE.out.1, HE.out.2]
      have HR : Hid _ := Rn.refl h (Below.refl _ w)
      obtain ⟨N, hN⟩ : ∃ N, N = L.length := ⟨_, rfl⟩
      have hjN : j < N := by omega
      rw [← hN] at hc0
      rw [hv3] at y1
      generalize p.1.b.length = m at *
      clear HE hj0 hj1 hj2 hj4 hq h hN hL hj hp hlk hnm hv3 hbs
      by_cases h0 : n < 0
      · clear hn
        go_enter Try.func23, Try.ntmps23
        go_wp2_with fail
        refine hc.mono ?_
        rintro e w1 ⟨rfl, rfl⟩
        clear hc
        go_wp2_with fail
        go_ret
        exact ⟨rfl, HR.out⟩
      · have h1 : (m : Int) < n := by omega
        clear hn
        go_enter Try.func23, Try.ntmps23
        go_wp2_with fail
        refine hc.mono ?_
        rintro e w1 ⟨rfl, rfl⟩
        clear hc
        go_wp2_with fail
        go_ret
        exact ⟨rfl, HR.out⟩
    · obtain ⟨m, rfl⟩ : ∃ m : Nat, n = m := ⟨n.toNat, by omega⟩
      have hm : m ≤ p.1.b.length := by omega
      have HE : Hid (cutE (L.map Prod.fst) k m = 0 ∧ cutR (L.map Prod.fst) k m = putF ⟨p.1.nm, p.1.b.take m, m⟩ (L.map Prod.fst)) := by
        have h1 : cutE (L.map Prod.fst) k m = 0 := by unfold cutE; simp only [getF, hlk, Option.isSome_some, if_true, Option.getD_some]; exact if_neg hn
        have h2 : cutR (L.map Prod.fst) k m = putF ⟨p.1.nm, p.1.b.take m, m⟩ (L.map Prod.fst) := by unfold cutR; rw [hlk]; simp only; rw [if_neg hn, Int.toNat_natCast]
        exact ⟨h1, h2⟩
      rw [HE.out.1, HE.out.2]
      clear HE hn
      obtain ⟨N, hN⟩ : ∃ N, N = L.length := ⟨_, rfl⟩
      have hjN : j < N := by omega
      rw [hv3] at y1
      obtain ⟨hmC, _, hpart, _⟩ := bs_part (Bs.of_owns (hv3 ▸ hbs)) m hm
      have hsl := slice_run (n := p.1.b.length) hmC (A := A3)
      have htl : (p.1.b.take m).length = m := by rw [List.length_take]; omega
      obtain ⟨A2, C2, W2, hr2, ho2, hB2⟩ := copy_math (W := w.drew) hpart.drew htl.symm (by omega)
      have hB2' : Below w.heap.size w W2 := ((Below.refl w.heap.size w).drew).trans hB2
      rw [← hN] at h hc0
      obtain ⟨⟨q0, q1, q2⟩, ⟨q3, q4, q5⟩, HQ, HQ2⟩ := h.two hb hN j hj hB2' ho2 htl.symm m ⟨by omega, by omega⟩
      clear HQ2
      rw [← hp] at HQ q1 q4
      have hres : (L.set j (⟨p.1.nm, p.1.b.take m, m⟩, .slice A2 m C2)).map Prod.fst = putF ⟨p.1.nm, p.1.b.take m, m⟩ (L.map Prod.fst) := by rw [hj4 ⟨p.1.nm, p.1.b.take m, m⟩ hnm, List.map_set]
      rw [hres] at HQ
      rw [hv3] at q1
      generalize putF ⟨p.1.nm, p.1.b.take m, m⟩ (L.map Prod.fst) = R at HQ ⊢
      rw [← hN]
      generalize p.1.b.length = M at *
      generalize p.1.sy = sy0 at *
      have a0 : (w.alloc (.cells #[] 5)).cell? ⟨r, 1, none⟩ = some (.slice (some ⟨g, 0, none⟩) N C1) := (h.alloc _).head.2
      have a1 : (w.alloc (.cells #[] 5)).cell? ⟨g, j * 3 + 1, none⟩ = some (.slice A3 M C3) := by
        rw [← y1]; exact (Chg.alloc Non w (.cells #[] 5)).cell (a := ⟨g, j * 3 + 1, none⟩) hgl (fun e => e)
      clear hj0 hj1 hj2 hj4 hq h hN hL hj hp hlk hnm hv3 hbs hpart ho2 hB2 hB2' htl hres y0
      go_enter Try.func23, Try.ntmps23
      go_wp2_with fail
      refine hc.mono ?_
      rintro e w1 ⟨rfl, rfl⟩
      clear hc
      go_wp2_with fail
      go_region_law (first
        | (refine step_app1 28 rfl (.tmp 33) (.tmp 43) rfl _ _ _ _ rfl rfl hr2 ?_))
      all_goals
        go_wp2_with fail
        go_ret
        exact ⟨rfl, HQ.out⟩
end Go.Proofs.Ytndjlnlmlgimlaa
