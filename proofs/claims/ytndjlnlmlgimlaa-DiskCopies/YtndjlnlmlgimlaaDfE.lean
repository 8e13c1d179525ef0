/- The document's disk: a file put into the row. -/
import Derived.Test.YtndjlnlmlgimlaaDfD
namespace Go.Proofs.Ytndjlnlmlgimlaa
open Go.RowKit Go.MapKept

theorem less_eq : ∀ (x y : List UInt8), Op.bytesLess x y = decide (x < y)
  | [], [] => by simp [Op.bytesLess]
  | _ :: _, [] => by simp [Op.bytesLess]
  | [], _ :: _ => by simp [Op.bytesLess]
  | a :: x, b :: y => by
    rw [Op.bytesLess, less_eq x y, Bool.eq_iff_iff]
    simp [List.cons_lt_cons_iff]
theorem cell_three_new (w : World) (t u v : Value) (T : TypeId) : ∀ j x, [t, u, v][j]? = some x → (w.alloc (.cells #[t, u, v] T)).cell? ((⟨w.heap.size, 0, none⟩ : Addr).add j) = some x := by
  intro j x hx
  rw [add_at, cell_at (heap_alloc_new w _)]
  simpa using hx
theorem app_in {W wr w5 : World} {base : Nat} {A2 : Option Addr} {C2 n : Nat} {v5 : Value} {M : List Fv} {P : Fv} {o1 : Obj} {xs : List Value} (HF : ∀ g, blk (.slice A2 n C2) = some g → W.heap.size ≤ g) (HB : Below W.heap.size W wr)
    (ho5 : w5.ownsRow base 64 3 v5 (n + 1) (M.flatMap cel ++ xs)) (hn : n = M.length) (hx : xs = cel P) (hg5 : (wr.alloc o1).grownBy w5 (blk (.slice A2 n C2))) (hl5 : blk v5 = blk (.slice A2 n C2) ∨ blk v5 = some (wr.alloc o1).heap.size) :
    ∃ A5 C5, v5 = .slice A5 (n + 1) C5 ∧ Hid (w5.ownsRow base 64 3 (.slice A5 (n + 1) C5) (n + 1) ((M ++ [P]).flatMap cel) ∧ (∀ g, blk (.slice A5 (n + 1) C5) = some g → W.heap.size ≤ g) ∧ Below W.heap.size W w5) := by
  subst hn hx
  have hs := HB.size
  obtain ⟨A5, C5, rfl⟩ := owns_formN ho5
  refine ⟨A5, C5, rfl, ?_, ?_, ?_⟩
  · rw [List.flatMap_append]
    simpa using ho5
  · intro g hg
    rcases hl5 with e | e
    · exact HF g (e.symm.trans hg)
    · have e' : some (wr.alloc o1).heap.size = some g := e.symm.trans hg
      cases e'
      simp; omega
  · refine (HB.alloc hs o1).trans ((Chg.of_grown hg5).below (fun k hk => HF k hk) (by simp; omega))
set_option maxRecDepth 100000 in
set_option maxHeartbeats 4000000 in
theorem rput_any {w : World} {base r : Nat} {room : Int} {v : Value} {L : List Fv} (hb : base ≤ w.heap.size) (h : Rk w base r room v L) (hL : L.length ≤ 999999) (f : Fi) {A : Option Addr} {C : Nat} (hf : w.ownsRow base 5 1 (.slice A f.b.length C) f.b.length (bv f.b)) (hff : f.sy ≤ f.b.length ∧ f.b.length ≤ 4194304) :
    Calls Try.prog 40 #[.pointer (some ⟨r, 0, none⟩), .agg #[.string (mkS f.nm), .slice A f.b.length C, .int .i64 (f.sy : Int)]] w fun e w' => e = .returned (.tuple #[]) ∧ ∃ v', Rk w' base r room v' (insV (f, Value.slice A f.b.length C) L) ∧ Chg (Wr r v) w w' ∧ ∀ g, blk v' = some g → w.heap.size ≤ g := by
  obtain ⟨A1, C1, rfl⟩ := owns_formN h.row
  have HH : Hid (Rk w base r room (.slice A1 L.length C1) L) := h
  obtain ⟨N, hN⟩ : ∃ N, N = L.length := ⟨_, rfl⟩
  have HN : Hid (N = L.length) := hN
  rw [← hN] at hL
  obtain ⟨W, hW⟩ : ∃ W, W = w.alloc (.cells #[.string (mkS f.nm), .slice A f.b.length C, .int .i64 (f.sy : Int)] 64) := ⟨_, rfl⟩
  have HW : Hid (W = w.alloc (.cells #[.string (mkS f.nm), .slice A f.b.length C, .int .i64 (f.sy : Int)] 64)) := hW
  have hbx : W.heap[w.heap.size]? = some (.cells #[.string (mkS f.nm), .slice A f.b.length C, .int .i64 (f.sy : Int)] 64 (0, 0)) := by rw [hW]; exact heap_alloc_new w _
  have HRW : Hid (Rk W base r room (.slice A1 L.length C1) L) := by rw [Hid, hW]; exact h.alloc _
  have hWs : W.heap.size = w.heap.size + 1 := by rw [hW]; simp
  have HWS : Hid (W.heap.size = w.heap.size + 1) := hWs
  have HHD : Hid (∀ {w5 : World}, Below W.heap.size W w5 → (w5.cell? ⟨r, 1, none⟩ = some (.slice A1 N C1) ∧ r < w5.heap.size) ∧ (w5.cell? ⟨w.heap.size, 0, none⟩ = some (.string (mkS f.nm)) ∧ w5.cell? ⟨w.heap.size, 1, none⟩ = some (.slice A f.b.length C) ∧ w5.cell? ⟨w.heap.size, 2, none⟩ = some (.int .i64 (f.sy : Int)) ∧ w.heap.size < w5.heap.size) ∧ base ≤ w5.heap.size ∧ W.heap.size ≤ w5.heap.size) := by
    intro w5 hB5
    have h5 := HRW.out.below hB5
    have hc := h5.head.2
    rw [← HN.out] at hc
    have hb5 : w5.heap[w.heap.size]? = some (.cells #[.string (mkS f.nm), .slice A f.b.length C, .int .i64 (f.sy : Int)] 64 (0, 0)) := by rw [hB5.block _ (heap_lt hbx)]; exact hbx
    have e0 := cell_at hb5 0
    have e1 := cell_at hb5 1
    have e2 := cell_at hb5 2
    have := hB5.size
    exact ⟨⟨hc, heap_lt h5.cell⟩, ⟨by simpa using e0, by simpa using e1, by simpa using e2, heap_lt hb5⟩, by omega, this⟩
  have HHF : Hid (w.ownsRow base 5 1 (.slice A f.b.length C) f.b.length (bv f.b) ∧ f.sy ≤ f.b.length ∧ f.b.length ≤ 4194304) := ⟨hf, hff⟩
  have hcs := (HHD.out (Below.refl _ _))
  rw [hW] at hcs
  have hbW : base ≤ W.heap.size := by omega
  clear h hN hbx hWs hf hff
  obtain ⟨i0, hi0, hz0, hz1, hz2⟩ := info_parts infoF
  obtain ⟨q0, q1, q2, q3, q4, q5⟩ : (w.alloc (.cells #[.string (mkS f.nm), .slice A f.b.length C, .int .i64 (f.sy : Int)] 64)).cell? ⟨r, 1, none⟩ = some (.slice A1 N C1) ∧ (w.alloc (.cells #[.string (mkS f.nm), .slice A f.b.length C, .int .i64 (f.sy : Int)] 64)).cell? ⟨w.heap.size, 0, none⟩ = some (.string (mkS f.nm)) ∧ (w.alloc (.cells #[.string (mkS f.nm), .slice A f.b.length C, .int .i64 (f.sy : Int)] 64)).cell? ⟨w.heap.size, 1, none⟩ = some (.slice A f.b.length C) ∧ (w.alloc (.cells #[.string (mkS f.nm), .slice A f.b.length C, .int .i64 (f.sy : Int)] 64)).cell? ⟨w.heap.size, 2, none⟩ = some (.int .i64 (f.sy : Int)) ∧ True ∧ True := ⟨hcs.1.1, hcs.2.1.1, hcs.2.1.2.1, hcs.2.1.2.2.1, trivial, trivial⟩
  clear hcs q4 q5
  go_enter Try.func40, Try.ntmps40
  go_wp2_with fail
  rw [← hW]
  clear hW q0 q1 q2 q3
  go_loopw [4, 5, 6] (fun o d i wr => ∃ (j n : Nat) (M : List Fv) (dn : Bool), j ≤ N ∧ i = .int .i64 j ∧ d = .bool dn ∧ M ++ (if dn then L.drop j else insV (f, Value.slice A f.b.length C) (L.drop j)) = insV (f, Value.slice A f.b.length C) L ∧ n = M.length ∧ n ≤ j + (if dn then 1 else 0) ∧ wr.ownsRow base 64 3 o n (M.flatMap cel) ∧ (∀ g, blk o = some g → W.heap.size ≤ g) ∧ Below W.heap.size W wr) (fun _ _ i _ => N - (intOf i).toNat)
  case atStart => exact ⟨0, 0, [], false, Nat.zero_le _, rfl, rfl, rfl, rfl, by simp, World.ownsRow_nil _ _ _ _, (fun g hg => nomatch hg), Below.refl _ _⟩
  case round =>
    obtain ⟨j, n, M, dn, hj, rfl, rfl, hM, hn, hMl, ho, hfr, hB⟩ := hrel
    have HRr := HRW.out.below hB
    have hcs := HHD.out hB
    obtain ⟨⟨c0, c0'⟩, ⟨c1, c2, c3, c4⟩, hbr, hwr⟩ := hcs
    obtain ⟨A2, C2, hv2⟩ := owns_formN ho
    subst hv2
    have HO : Hid (wr.ownsRow base 64 3 (.slice A2 n C2) n (M.flatMap cel)) := ho
    have HF : Hid (∀ g, blk (.slice A2 n C2) = some g → W.heap.size ≤ g) := hfr
    have HB : Hid (Below W.heap.size W wr) := hB
    have HnM : Hid (n = M.length) := hn
    clear ho hfr hB hn
    by_cases hlt : j < N
    · have hj' : j < L.length := by have := HN.out; omega
      obtain ⟨g, hA, y0, y1, y2⟩ := HRr.at j hj'
      obtain ⟨A3, C3, hv3⟩ := owns_formN (HRr.bs _ (List.getElem_mem hj'))
      obtain ⟨p, hp⟩ : ∃ p : Fv, p = L[j]'hj' := ⟨_, rfl⟩
      have hgl : g < wr.heap.size := World.block_lt_of_cell? wr _ y0
      have HJ : Hid (∀ {w5 : World}, Below W.heap.size W w5 → w5.cell? ⟨g, j * 3, none⟩ = some (.string (mkS (L[j]'hj').1.nm)) ∧ w5.cell? ⟨g, j * 3 + 1, none⟩ = some (L[j]'hj').2 ∧ w5.cell? ⟨g, j * 3 + 2, none⟩ = some (.int .i64 ((L[j]'hj').1.sy : Int)) ∧ g < w5.heap.size) := by
        intro w5 hB5
        obtain ⟨g', e, z0, z1, z2⟩ := (HRW.out.below hB5).at j hj'
        rw [hA] at e
        cases e
        exact ⟨z0, z1, z2, World.block_lt_of_cell? w5 _ z0⟩
      have hdr : L.drop j = p :: L.drop (j + 1) := by rw [hp]; exact List.drop_eq_getElem_cons hj'
      rw [← hp] at y0 y1 y2 hv3 HJ
      clear HRr hp
      obtain ⟨q, pv⟩ := p
      simp only at y0 y1 y2 hv3 HJ
      subst hv3
      subst hA
      cases dn
      · have hM' : M ++ insV (f, Value.slice A f.b.length C) ((q, Value.slice A3 q.b.length C3) :: L.drop (j + 1)) = insV (f, Value.slice A f.b.length C) L := by rw [← hdr]; simpa using hM
        have HMM : Hid (M ++ insV (f, Value.slice A f.b.length C) ((q, Value.slice A3 q.b.length C3) :: L.drop (j + 1)) = insV (f, Value.slice A f.b.length C) L) := hM'
        have hnj : n ≤ j := by simpa using hMl
        clear hM hM' hdr hMl
        by_cases hls : f.nm < q.nm
        · have HE : Hid ((M ++ [(f, Value.slice A f.b.length C)] ++ [(q, Value.slice A3 q.b.length C3)]) ++ L.drop (j + 1) = insV (f, Value.slice A f.b.length C) L) := by rw [Hid, ← HMM.out]; simp [insV, hls]
          have hb1 : Op.bytesLess (mkS f.nm).toList (mkS q.nm).toList = true := by
            simp only [ByteArray.toList_eq, less_eq, mkS]
            simpa using hls
          clear hls HMM
          go_wp2_with fail
          go_quiet (fail)
          go_wp2_with (first
            | (at_builtin; refine wpList_append_own_at _ rfl _ _ 46 rfl base 64 i0 (.agg #[.string ⟨#[]⟩, .slice none 0 0, .int .i64 0]) 3 48 Try.underlying46 hi0 hz0 hz1 hz2 rfl (by decide) _ n (M.flatMap cel) rfl (HO.out.alloc _) ⟨wr.heap.size, 0, none⟩ 1 1 [.string (mkS f.nm), .slice A f.b.length C, .int .i64 (f.sy : Int)] rfl rfl (cell_three_new _ _ _ _ _) (fun u hu => by simp at hu; rcases hu with rfl | rfl | rfl <;> rfl) (by unfold maxLen; omega) (by omega) (by simp; omega) ?_; intro v5 w5 ho5 hg5 hn5 hl5; obtain ⟨A5, C5, hv5, HX5⟩ := app_in (P := (f, Value.slice A f.b.length C)) HF.out (below_drewN HB.out nq) ho5 HnM.out rfl hg5 hl5; subst hv5; obtain ⟨⟨d0, d0'⟩, ⟨d1, d2, d3, d4⟩, dbr, dwr⟩ := HHD.out HX5.out.2.2; obtain ⟨e0, e1, e2, e3⟩ := HJ.out HX5.out.2.2; clear ho5 hg5 hn5 hl5)
            | (at_builtin; refine wpList_append_own_at _ rfl _ _ 46 rfl base 64 i0 (.agg #[.string ⟨#[]⟩, .slice none 0 0, .int .i64 0]) 3 48 Try.underlying46 hi0 hz0 hz1 hz2 rfl (by decide) _ (n + 1) ((M ++ [(f, Value.slice A f.b.length C)]).flatMap cel) rfl (HX5.out.1.alloc _) ⟨w5.heap.size, 0, none⟩ 1 1 [.string (mkS q.nm), .slice A3 q.b.length C3, .int .i64 (q.sy : Int)] rfl rfl (cell_three_new _ _ _ _ _) (fun u hu => by simp at hu; rcases hu with rfl | rfl | rfl <;> rfl) (by unfold maxLen; omega) (by omega) (by simp; omega) ?_; intro v6 w6 ho6 hg6 hn6 hl6; obtain ⟨A6, C6, hv6, HX6⟩ := app_in (P := (q, Value.slice A3 q.b.length C3)) HX5.out.2.1 HX5.out.2.2 ho6 (by simp [HnM.out]) rfl hg6 hl6; subst hv6; clear ho6 hg6 hn6 hl6)
            | fail)
          go_roundw
          case rel => exact ⟨j + 1, n + 1 + 1, M ++ [(f, Value.slice A f.b.length C)] ++ [(q, Value.slice A3 q.b.length C3)], true, by omega, by go_num, rfl, by simpa using HE.out, by simp [HnM.out], by simp; omega, HX6.out.1, HX6.out.2.1, HX6.out.2.2⟩
          case measure => simp [intOf]; omega
        · have HE : Hid ((M ++ [(q, Value.slice A3 q.b.length C3)]) ++ insV (f, Value.slice A f.b.length C) (L.drop (j + 1)) = insV (f, Value.slice A f.b.length C) L) := by rw [Hid, ← HMM.out]; simp [insV, hls]
          have hb1 : Op.bytesLess (mkS f.nm).toList (mkS q.nm).toList = false := by
            simp only [ByteArray.toList_eq, less_eq, mkS]
            simpa using hls
          clear hls HMM
          go_wp2_with fail
          go_quiet (fail)
          go_wp2_with (first
            | (at_builtin; refine wpList_append_own_at _ rfl _ _ 46 rfl base 64 i0 (.agg #[.string ⟨#[]⟩, .slice none 0 0, .int .i64 0]) 3 48 Try.underlying46 hi0 hz0 hz1 hz2 rfl (by decide) _ n (M.flatMap cel) rfl (HO.out.alloc _) ⟨wr.heap.size, 0, none⟩ 1 1 [.string (mkS q.nm), .slice A3 q.b.length C3, .int .i64 (q.sy : Int)] rfl rfl (cell_three_new _ _ _ _ _) (fun u hu => by simp at hu; rcases hu with rfl | rfl | rfl <;> rfl) (by unfold maxLen; omega) (by omega) (by simp; omega) ?_; intro v6 w6 ho6 hg6 hn6 hl6; obtain ⟨A6, C6, hv6, HX6⟩ := app_in (P := (q, Value.slice A3 q.b.length C3)) HF.out (below_drewN HB.out nq) ho6 HnM.out rfl hg6 hl6; subst hv6; clear ho6 hg6 hn6 hl6)
            | fail)
          go_roundw
          case rel => exact ⟨j + 1, n + 1, M ++ [(q, Value.slice A3 q.b.length C3)], false, by omega, by go_num, rfl, by simpa using HE.out, by simp [HnM.out], by simp; omega, HX6.out.1, HX6.out.2.1, HX6.out.2.2⟩
          case measure => simp [intOf]; omega
      · have HE : Hid ((M ++ [(q, Value.slice A3 q.b.length C3)]) ++ L.drop (j + 1) = insV (f, Value.slice A f.b.length C) L) := by rw [Hid, ← hM, hdr]; simp
        have hnj : n ≤ j + 1 := by simpa using hMl
        clear hM hdr hMl
        go_wp2_with fail
        go_quiet (fail)
        go_wp2_with (first
          | (at_builtin; refine wpList_append_own_at _ rfl _ _ 46 rfl base 64 i0 (.agg #[.string ⟨#[]⟩, .slice none 0 0, .int .i64 0]) 3 48 Try.underlying46 hi0 hz0 hz1 hz2 rfl (by decide) _ n (M.flatMap cel) rfl (HO.out.alloc _) ⟨wr.heap.size, 0, none⟩ 1 1 [.string (mkS q.nm), .slice A3 q.b.length C3, .int .i64 (q.sy : Int)] rfl rfl (cell_three_new _ _ _ _ _) (fun u hu => by simp at hu; rcases hu with rfl | rfl | rfl <;> rfl) (by unfold maxLen; omega) (by omega) (by simp; omega) ?_; intro v6 w6 ho6 hg6 hn6 hl6; obtain ⟨A6, C6, hv6, HX6⟩ := app_in (P := (q, Value.slice A3 q.b.length C3)) HF.out (below_drewN HB.out nq) ho6 HnM.out rfl hg6 hl6; subst hv6; clear ho6 hg6 hn6 hl6)
          | fail)
        go_roundw
        case rel => exact ⟨j + 1, n + 1, M ++ [(q, Value.slice A3 q.b.length C3)], true, by omega, by go_num, rfl, by simpa using HE.out, by simp [HnM.out], by simp; omega, HX6.out.1, HX6.out.2.1, HX6.out.2.2⟩
        case measure => simp [intOf]; omega
    · have hd0 : L.drop j = [] := List.drop_eq_nil_of_le (by have := HN.out; omega)
      rw [hd0] at hM
      have HEND : Hid (∀ {A7 : Option Addr} {C7 m : Nat} {M' : List Fv} {w6 : World}, M' = insV (f, Value.slice A f.b.length C) L → m = M'.length → w6.ownsRow base 64 3 (.slice A7 m C7) m (M'.flatMap cel) → (∀ g, blk (.slice A7 m C7) = some g → W.heap.size ≤ g) → Below W.heap.size W w6 →
          w6.cell? ⟨r, 1, none⟩ = some (.slice A1 N C1) ∧ w6.frozen? ⟨r, 1, none⟩ = false ∧ Hid (Rk (w6.setCell ⟨r, 1, none⟩ (.slice A7 m C7)) base r room (.slice A7 m C7) (insV (f, Value.slice A f.b.length C) L) ∧ Chg (Wr r (.slice A1 L.length C1)) w (w6.setCell ⟨r, 1, none⟩ (.slice A7 m C7)) ∧ ∀ g, blk (.slice A7 m C7) = some g → w.heap.size ≤ g)) := by
        intro A7 C7 m M' w6 e1 e2 ho hn hB6
        subst e1 e2
        have hws := HWS.out
        have hBw : Below w.heap.size w w6 := by
          refine Below.trans (b := W) ?_ (hB6.mono (by omega))
          rw [HW.out]; exact below1 _ _
        have hh := HH.out.row_set (Chg.of_below hBw) (fun g e => e.elim) ho (fun g hg => by have := hn g hg; omega) (fun p hp => (insV_mem hp).imp id (fun e => by subst e; exact HHF.out))
        have h6 := HH.out.below hBw
        have h0 := h6.head.2
        rw [← HN.out] at h0
        exact ⟨h0, frozen_at h6.cell 1, hh.1, hh.2, fun g hg => by have := hn g hg; omega⟩
      cases dn
      · have HE : Hid (M ++ [(f, Value.slice A f.b.length C)] = insV (f, Value.slice A f.b.length C) L) := by simpa [Hid, insV] using hM
        have hnj : n ≤ j := by simpa using hMl
        clear hM hd0 hMl HRr
        go_wp2_with (first
          | (at_builtin; refine wpList_append_own_at _ rfl _ _ 46 rfl base 64 i0 (.agg #[.string ⟨#[]⟩, .slice none 0 0, .int .i64 0]) 3 48 Try.underlying46 hi0 hz0 hz1 hz2 rfl (by decide) _ n (M.flatMap cel) rfl (HO.out.alloc _) ⟨wr.heap.size, 0, none⟩ 1 1 [.string (mkS f.nm), .slice A f.b.length C, .int .i64 (f.sy : Int)] rfl rfl (cell_three_new _ _ _ _ _) (fun u hu => by simp at hu; rcases hu with rfl | rfl | rfl <;> rfl) (by unfold maxLen; omega) (by omega) (by simp; omega) ?_; intro v5 w5 ho5 hg5 hn5 hl5; obtain ⟨A5, C5, hv5, HX5⟩ := app_in (P := (f, Value.slice A f.b.length C)) HF.out HB.out ho5 HnM.out rfl hg5 hl5; subst hv5; obtain ⟨⟨d0, d0'⟩, ⟨d1, d2, d3, d4⟩, dbr, dwr⟩ := HHD.out HX5.out.2.2; obtain ⟨z0, z1, HZ⟩ := HEND.out HE.out (by simp [HnM.out]) HX5.out.1 HX5.out.2.1 HX5.out.2.2; clear ho5 hg5 hn5 hl5)
          | fail)
        go_end0
        exact ⟨rfl, _, HZ.out⟩
      · have HE : Hid (M = insV (f, Value.slice A f.b.length C) L) := by simpa [Hid] using hM
        obtain ⟨z0, z1, HZ⟩ := HEND.out HE.out HnM.out HO.out HF.out HB.out
        clear hM hd0 hMl HRr
        go_wp2_with fail
        go_end0
        exact ⟨rfl, _, HZ.out⟩
end Go.Proofs.Ytndjlnlmlgimlaa
