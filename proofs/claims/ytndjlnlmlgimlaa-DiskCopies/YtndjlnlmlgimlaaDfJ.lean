/- The document's disk: a crash. -/
import Derived.Test.YtndjlnlmlgimlaaDfG
namespace Go.Proofs.Ytndjlnlmlgimlaa
open Go.RowKit Go.MapKept

theorem Rk.two3 {w W2 : World} {base r g N C : Nat} {room : Int} {L : List Fv} (hb : base ≤ w.heap.size) (h : Rk w base r room (.slice (some ⟨g, 0, none⟩) N C) L) (hN : N = L.length) (j : Nat) (hj : j < L.length) (hB : Below w.heap.size w W2) {A2 : Option Addr} {n2 C2 : Nat} {b : List UInt8} (ho : W2.ownsRow w.heap.size 5 1 (.slice A2 n2 C2) n2 (bv b)) (hn2 : n2 = b.length) (sy : Nat) (hf : sy ≤ b.length ∧ b.length ≤ 4194304) :
    (W2.cell? ⟨r, 1, none⟩ = some (.slice (some ⟨g, 0, none⟩) N C) ∧ W2.cell? ⟨g, j * 3 + 1, none⟩ = some (L[j]'hj).2 ∧ W2.frozen? ⟨g, j * 3 + 1, none⟩ = false) ∧
    ((W2.setCell ⟨g, j * 3 + 1, none⟩ (.slice A2 n2 C2)).cell? ⟨r, 1, none⟩ = some (.slice (some ⟨g, 0, none⟩) N C) ∧ (W2.setCell ⟨g, j * 3 + 1, none⟩ (.slice A2 n2 C2)).cell? ⟨g, j * 3 + 2, none⟩ = some (.int .i64 ((L[j]'hj).1.sy : Int)) ∧ (W2.setCell ⟨g, j * 3 + 1, none⟩ (.slice A2 n2 C2)).frozen? ⟨g, j * 3 + 2, none⟩ = false) ∧
    Hid (Rk ((W2.setCell ⟨g, j * 3 + 1, none⟩ (.slice A2 n2 C2)).setCell ⟨g, j * 3 + 2, none⟩ (.int .i64 (sy : Int))) base r room (.slice (some ⟨g, 0, none⟩) N C) (L.set j (⟨(L[j]'hj).1.nm, b, sy⟩, .slice A2 n2 C2)) ∧ Chg (Wr r (.slice (some ⟨g, 0, none⟩) N C)) w ((W2.setCell ⟨g, j * 3 + 1, none⟩ (.slice A2 n2 C2)).setCell ⟨g, j * 3 + 2, none⟩ (.int .i64 (sy : Int)))) := by
  obtain ⟨h1, h2, _, _⟩ := h.two hb hN j hj hB ho hn2 sy hf
  refine ⟨h1, h2, ?_⟩
  subst hn2
  have h2 := h.below hB
  have hgl : g < w.heap.size := by obtain ⟨cur, hc, _⟩ := owns_blockN h.row (k := g) rfl; exact heap_lt hc
  have ha2 : ∀ k, blk (.slice A2 b.length C2) = some k → k ≠ g := by
    intro k hk e
    obtain ⟨cur, hc, hle⟩ := owns_blockN ho hk
    omega
  have c1 : Chg (fun k => k = g ∨ w.heap.size ≤ k) w (W2.setCell ⟨g, j * 3 + 1, none⟩ (.slice A2 b.length C2)) := ((Chg.of_below hB).weak (fun _ _ e => e.elim)).trans (Chg.setCell W2 ⟨g, j * 3 + 1, none⟩ _ (.inl rfl))
  have o1 : (W2.setCell ⟨g, j * 3 + 1, none⟩ (.slice A2 b.length C2)).ownsRow base 5 1 (.slice A2 b.length C2) b.length (bv b) := owns_lowN (owns_keepN ho (Chg.setCell (S := fun k => k = g) W2 ⟨g, j * 3 + 1, none⟩ _ rfl) fun k hk e => ha2 k hk e) hb
  have hrow1 : (W2.setCell ⟨g, j * 3 + 1, none⟩ (.slice A2 b.length C2)).ownsRow base 64 3 (.slice (some ⟨g, 0, none⟩) N C) N ((L.flatMap cel).set (j * 3 + 1) (.slice A2 b.length C2)) := by rw [hN]; rw [hN] at h2; exact owns_set h2.row _ _
  exact h.set_of j (⟨(L[j]'hj).1.nm, b, sy⟩, .slice A2 b.length C2) (c1.trans (Chg.setCell _ ⟨g, j * 3 + 2, none⟩ (.int .i64 (sy : Int)) (.inl rfl))) hN (by rw [cel_set12 (p := (⟨(L[j]'hj).1.nm, b, sy⟩, .slice A2 b.length C2)) hj rfl]; exact owns_set hrow1 _ _)
      (owns_keepN o1 (Chg.setCell (S := fun k => k = g) _ ⟨g, j * 3 + 2, none⟩ _ rfl) fun k hk e => ha2 k hk e) hf
set_option maxRecDepth 100000 in
set_option maxHeartbeats 4000000 in
theorem rcrash_any {w : World} {base r : Nat} {room : Int} {v : Value} {L : List Fv} (hb : base ≤ w.heap.size) (h : Rk w base r room v L) (hL : L.length ≤ 1000000) (keep : Int) (hk : -9223372036854775808 ≤ keep ∧ keep < 9223372036854775808) :
    Calls Try.prog 17 #[.pointer (some ⟨r, 0, none⟩), .int .i64 keep] w fun e w' => e = .returned (.tuple #[]) ∧ Rn base r room v L w w' ((L.map Prod.fst).map (crash1 keep)) := by
  obtain ⟨A1, C1, rfl⟩ := owns_formN h.row
  have hc0 := h.head.2
  have HH : Hid (Rk w base r room (.slice A1 L.length C1) L) := h
  obtain ⟨N, hN⟩ : ∃ N, N = L.length := ⟨_, rfl⟩
  have HN : Hid (N = L.length) := hN
  rw [← hN] at hc0 hL
  clear h hN
  go_enter Try.func17, Try.ntmps17
  go_wp2_with fail
  go_loopw [4] (fun i wr => ∃ (j : Nat) (M : List Fv), j ≤ N ∧ i = .int .i64 j ∧ M.length = N ∧ M.map Prod.fst = ((L.map Prod.fst).take j).map (crash1 keep) ++ (L.map Prod.fst).drop j ∧ Rk wr base r room (.slice A1 N C1) M ∧ Chg (Wr r (.slice A1 N C1)) w wr ∧ Fresh L M w) (fun i _ => N - (intOf i).toNat)
  case atStart => exact ⟨0, L, Nat.zero_le _, rfl, HN.out.symm, by simp, by rw [HN.out]; exact HH.out, Chg.refl _ _, Fresh.refl L w⟩
  case round =>
    obtain ⟨j, M, hj, rfl, hMl, hM, hR, hC, hFR⟩ := hrel
    have HFR : Hid (Fresh L M w) := hFR
    clear hFR
    have hc1 := hR.head.2
    have HM : Hid (M.map Prod.fst = ((L.map Prod.fst).take j).map (crash1 keep) ++ (L.map Prod.fst).drop j) := hM
    have HML : Hid (M.length = N) := hMl
    have HR : Hid (Rk wr base r room (.slice A1 N C1) M) := hR
    have HC : Hid (Chg (Wr r (.slice A1 N C1)) w wr) := hC
    by_cases hlt : j < N
    · have hjM : j < M.length := by omega
      have hbs := hR.bs _ (List.getElem_mem hjM)
      have hfit := hR.fits _ (List.getElem_mem hjM)
      obtain ⟨A3, C3, hv3⟩ := owns_formN hbs
      obtain ⟨g, hA, y0, y1, y2⟩ := hR.at j hjM
      subst hA
      obtain ⟨p, hp⟩ : ∃ p : Fv, p = M[j]'hjM := ⟨_, rfl⟩
      have hrl := heap_lt hR.cell
      have hgl : g < wr.heap.size := World.block_lt_of_cell? wr _ y0
      have hbw : base ≤ wr.heap.size := Nat.le_trans hb hC.size
      rw [← hp] at hbs hfit hv3 y0 y1 y2
      have HKN : Hid (keepN keep p.1 ≤ p.1.b.length) := keepN_le keep p.1 hfit.1
      obtain ⟨m, hm⟩ : ∃ m, m = keepN keep p.1 := ⟨_, rfl⟩
      have hmb : m ≤ p.1.b.length := by rw [hm]; exact HKN.out
      obtain ⟨hmC, _, hpart, _⟩ := bs_part (Bs.of_owns (hv3 ▸ hbs)) m hmb
      have hsl := slice_run (n := p.1.b.length) hmC (A := A3)
      have htl : (p.1.b.take m).length = m := by rw [List.length_take]; omega
      have hmn : ((p.1.sy : Nat) : Int) + min (max keep 0) ((p.1.b.length : Int) - (p.1.sy : Int)) = (m : Int) := by rw [hm]; unfold keepN; have := hfit.1; omega
      rw [hv3] at y1
      have HPT : Hid (∀ {w2 : World}, Below wr.heap.size wr w2 → Bs w2 (.slice A3 m C3) (p.1.b.take m) ∧ w2.cell? ⟨g, j * 3 + 1, none⟩ = some (.slice A3 p.1.b.length C3) ∧ g < w2.heap.size) := by
        intro w2 hB
        refine ⟨hpart.keep (Chg.of_below hB) (fun _ _ => id), ?_, Nat.lt_of_lt_of_le hgl hB.size⟩
        rw [← y1]; exact (Chg.of_below hB).cell (a := ⟨g, j * 3 + 1, none⟩) hgl (fun e => e)
      have HTL : Hid ((p.1.b.take m).length = m) := htl
      have HTW : Hid (∀ {w9 : World} {A9 : Option Addr} {C9 : Nat}, Below wr.heap.size wr w9 → w9.ownsRow wr.heap.size 5 1 (.slice A9 m C9) m (bv (p.1.b.take m)) →
          (w9.cell? ⟨g, j * 3 + 1, none⟩ = some (.slice A3 p.1.b.length C3) ∧ w9.frozen? ⟨g, j * 3 + 1, none⟩ = false) ∧ ((w9.setCell ⟨g, j * 3 + 1, none⟩ (.slice A9 m C9)).cell? ⟨g, j * 3 + 2, none⟩ = some (.int .i64 (p.1.sy : Int)) ∧ (w9.setCell ⟨g, j * 3 + 1, none⟩ (.slice A9 m C9)).frozen? ⟨g, j * 3 + 2, none⟩ = false) ∧
          Hid (∃ M' : List Fv, M'.length = N ∧ M'.map Prod.fst = ((L.map Prod.fst).take (j + 1)).map (crash1 keep) ++ (L.map Prod.fst).drop (j + 1) ∧ Rk ((w9.setCell ⟨g, j * 3 + 1, none⟩ (.slice A9 m C9)).setCell ⟨g, j * 3 + 2, none⟩ (.int .i64 (m : Int))) base r room (.slice (some ⟨g, 0, none⟩) N C1) M' ∧ Chg (Wr r (.slice (some ⟨g, 0, none⟩) N C1)) w ((w9.setCell ⟨g, j * 3 + 1, none⟩ (.slice A9 m C9)).setCell ⟨g, j * 3 + 2, none⟩ (.int .i64 (m : Int))) ∧ Fresh L M' w)) := by
        intro w9 A9 C9 hB9 ho9
        have hbb := hfit.2
        obtain ⟨⟨q0, q1, q2⟩, ⟨q3, q4, q5⟩, HQ⟩ := HR.out.two3 hbw HML.out.symm j hjM hB9 ho9 htl.symm m ⟨by omega, by omega⟩
        rw [← hp] at q1 q4 HQ
        rw [hv3] at q1
        refine ⟨⟨q1, q2⟩, ⟨q4, q5⟩, _, by rw [List.length_set]; exact HML.out, ?_, HQ.out.1, HC.out.trans HQ.out.2, fun q hq k hk => ?_⟩
        rotate_left
        · rcases List.mem_or_eq_of_mem_set hq with hq | rfl
          · exact HFR.out q hq k hk
          · obtain ⟨cur, hc, hle⟩ := owns_blockN ho9 hk
            exact .inr (Nat.le_trans HC.out.size hle)
        rw [List.map_set, HM.out]
        have hjL : j < (L.map Prod.fst).length := by have := HN.out; simp; omega
        have hl1 : (((L.map Prod.fst).take j).map (crash1 keep)).length = j := by simp; have := HN.out; omega
        have hpe : p.1 = (L.map Prod.fst)[j]'hjL := by
          have e1 : (M.map Prod.fst)[j]? = some p.1 := by rw [hp]; simp [hjM]
          rw [HM.out, List.getElem?_append_right (by omega), hl1, Nat.sub_self, List.getElem?_drop, Nat.add_zero, List.getElem?_eq_getElem hjL] at e1
          injection e1 with e1
          exact e1.symm
        have hcr : (⟨p.1.nm, p.1.b.take m, m⟩ : Fi) = crash1 keep p.1 := by rw [hm]; rfl
        simp only
        rw [hcr, List.set_append_right _ _ (by omega), hl1, Nat.sub_self, List.drop_eq_getElem_cons hjL, List.set_cons_zero, List.take_succ_eq_append_getElem hjL, List.map_append, hpe]
        simp
      obtain ⟨K, hK⟩ : ∃ K, K = max keep 0 := ⟨_, rfl⟩
      obtain ⟨l, hl⟩ : ∃ l, l = p.1.b.length := ⟨_, rfl⟩
      obtain ⟨y, hy⟩ : ∃ y, y = p.1.sy := ⟨_, rfl⟩
      obtain ⟨Z, hZ⟩ : ∃ Z, Z = min K ((l : Int) - (y : Int)) := ⟨_, rfl⟩
      have hmx : ∀ w, (Builtin.max_ #[3, 3] 3 #[.int .i64 keep, .int .i64 0]).run Try.prog w = .ok (.int .i64 K) w := fun w => by rw [run_max2, hK]
      have hmi : ∀ w, (Builtin.min_ #[3, 3] 3 #[.int .i64 K, .int .i64 ((l : Int) - (y : Int))]).run Try.prog w = .ok (.int .i64 Z) w := fun w => by rw [run_min2, hZ]
      rw [← hl, ← hy] at hfit
      rw [← hl] at hmb y1 hsl hmn
      rw [← hy] at y2 hmn
      rw [← hK, ← hZ] at hmn
      have hw1 : IntKind.i64.wrap ((l : Int) - (y : Int)) = (l : Int) - (y : Int) := Go.IntWalk.i64_in _ (by omega)
      have hw2 : IntKind.i64.wrap ((y : Int) + Z) = (m : Int) := by rw [hmn]; exact Go.IntWalk.i64_in _ (by omega)
      clear hM hMl hR hC hbs hv3 y0 HKN hm hmn hZ hK hl hy
      go_wp2_with fail
      go_quiet (fail)
      obtain ⟨w2, hw2⟩ : ∃ X, X = wr.drewN nq := ⟨_, rfl⟩
      have HB2 : Hid (Below wr.heap.size wr w2) := by rw [hw2]; exact below_drewN (Below.refl _ _) nq
      rw [← hw2]
      clear hw2 y1 y2 hgl
      obtain ⟨hx2, y1, hgl⟩ := HPT.out HB2.out
      have HX2 : Hid (Bs w2 (.slice A3 m C3) (p.1.b.take m)) := hx2
      clear hx2
      have hb2s := HB2.out.size
      go_wp2_with (first
        | (at_builtin; refine wpList_app rfl _ _ rfl _ _ rfl rfl (new_own w2) (HX2.out.alloc _) (by simp) (by rw [HTL.out]; simp; omega) ?_; intro A9 C9 w9 ho9 hg9 hl9 hn9; rw [HTL.out] at *; simp only [List.length_nil, Nat.zero_add, List.nil_append] at *; have hB9 : Below w2.heap.size w2 w9 := (below1 _ _).trans ((Chg.of_grown hg9).below (fun k hk => by cases hk; exact Nat.le_refl _) (by simp)); obtain ⟨⟨q1, q2⟩, ⟨q4, q5⟩, HQ⟩ := HTW.out (HB2.out.trans (hB9.mono hb2s)) (owns_lowN ho9 hb2s); clear ho9 hg9 hl9 hn9 hB9)
        | fail)
      go_roundw
      case rel =>
        obtain ⟨M', e1, e2, e3, e4, e5⟩ := HQ.out
        exact ⟨j + 1, M', by omega, by go_num, e1, e2, e3, e4, e5⟩
      case measure => simp [intOf]; omega
    · have HF : Hid (M.map Prod.fst = (L.map Prod.fst).map (crash1 keep)) := by
        rw [Hid, hM, List.take_of_length_le (by have := HN.out; simp; omega), List.drop_eq_nil_of_le (by have := HN.out; simp; omega), List.append_nil]
      clear hM hMl hR hC
      go_wp2_with fail
      go_end0
      rw [← HN.out]
      exact ⟨rfl, _, M, HF.out, HR.out, HC.out, fun g hg => .inl hg, HFR.out⟩
end Go.Proofs.Ytndjlnlmlgimlaa
