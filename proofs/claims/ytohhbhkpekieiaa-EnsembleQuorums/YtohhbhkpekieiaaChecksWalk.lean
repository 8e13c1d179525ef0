/- The walk of EnsembleChecks. -/
import Derived.Test.YtohhbhkpekieiaaRefC
namespace Go.Proofs.Ytohhbhkpekieiaa
open Go.RowKit Go.Sort

set_option maxRecDepth 100000 in
theorem lentEn_any {w : World} {v : Value} {l : List Mem} (h : Mems w v l) (ver : Int) (hm : l.length ≤ 4398046511104) :
    Calls Try.prog 7 #[.agg #[.int .i64 ver, v]] w fun e w' => ∃ g, e = .returned (.agg #[.int .i64 ver, .slice (some ⟨g, 0, none⟩) l.length (l.length + 12)]) ∧ LentM w' g l ∧ Below w.heap.size w w' := by
  have HM : Hid (Mems w v l) := h
  obtain ⟨A, C, rfl⟩ := h.form
  clear h
  go_enter Try.func7, Try.ntmps7
  go_wp2_with fail
  have hB1 : Below w.heap.size w ((w.alloc (.cells #[.int .i64 ver, .slice A l.length C] 25)).alloc (.cells #[.int .i64 0, .slice none 0 0] 25)) := ((Below.refl _ _).alloc (Nat.le_refl _) _).alloc (by simp) _
  have h1 := lentM_any (HM.out.below' hB1) hm
  refine h1.mono ?_
  rintro e w1 ⟨rfl, hL, hB⟩
  generalize hg : ((w.alloc (.cells #[.int .i64 ver, .slice A l.length C] 25)).alloc (.cells #[.int .i64 0, .slice none 0 0] 25)).heap.size = g at hL hB ⊢
  have hg' : g = w.heap.size + 2 := by rw [← hg]; simp
  have c1 : w1.heap[w.heap.size]? = some (.cells #[.int .i64 ver, .slice A l.length C] 25 (0, 0)) := by
    rw [hB.block _ (by omega)]
    rw [Below.heap_alloc _ _ _ (by simp)]
    exact heap_alloc_new w _
  have c2 : w1.heap[w.heap.size + 1]? = some (.cells #[.int .i64 0, .slice none 0 0] 25 (0, 0)) := by
    rw [hB.block _ (by omega)]
    have := heap_alloc_new (w.alloc (.cells #[.int .i64 ver, .slice A l.length C] 25)) (.cells #[.int .i64 0, .slice none 0 0] 25 (0, 0))
    rw [show (w.alloc (.cells #[.int .i64 ver, .slice A l.length C] 25)).heap.size = w.heap.size + 1 by simp] at this
    exact this
  have z0 : w1.cell? ⟨w.heap.size, 0, none⟩ = some (.int .i64 ver) := by rw [cell_at c1]; rfl
  have z1 : w1.cell? ⟨w.heap.size, 1, none⟩ = some (.slice A l.length C) := by rw [cell_at c1]; rfl
  have y0 : w1.cell? ⟨w.heap.size + 1, 0, none⟩ = some (.int .i64 0) := by rw [cell_at c2]; rfl
  have y1 : w1.cell? ⟨w.heap.size + 1, 1, none⟩ = some (.slice none 0 0) := by rw [cell_at c2]; rfl
  have HL : Hid (LentM w1 g l) := hL
  have HB : Hid (Below w.heap.size w w1) := hB1.trans (hB.mono (by omega))
  have HG : Hid (g = w.heap.size + 2) := hg'
  have f0 : w1.frozen? ⟨w.heap.size + 1, 0, none⟩ = false := frozen_at c2 _
  have f1 : w1.frozen? ⟨w.heap.size + 1, 1, none⟩ = false := frozen_at c2 _
  have f2 : w1.frozen? ⟨w.heap.size, 1, none⟩ = false := frozen_at c1 _
  have HS : Hid (∀ x : Value, ∀ y z : Value, Chg (fun k => k = w.heap.size ∨ k = w.heap.size + 1) w1 (((w1.setCell ⟨w.heap.size, 1, none⟩ x).setCell ⟨w.heap.size + 1, 0, none⟩ y).setCell ⟨w.heap.size + 1, 1, none⟩ z)) := fun x y z => ((Chg.setCell w1 ⟨w.heap.size, 1, none⟩ x (.inl rfl)).trans (Chg.setCell _ ⟨w.heap.size + 1, 0, none⟩ y (.inr rfl))).trans (Chg.setCell _ ⟨w.heap.size + 1, 1, none⟩ z (.inr rfl))
  clear h1 hB1 hB hL hg hg'
  go_wp2
  refine bodyPost_ret (v := .agg #[.int .i64 ver, .slice (some ⟨g, 0, none⟩) l.length (l.length + 12)]) (by simp [results, Try.results7, go_sem, y0, y1]) rfl ⟨g, rfl, ?_, ?_⟩
  · unfold LentM
    exact ((HS.out _ _ _).block g (heap_lt HL.out) (by have := HG.out; omega)).trans HL.out
  · exact HB.out.trans ((HS.out _ _ _).below (B := w.heap.size) (fun k hk => by omega) HB.out.size)
set_option maxRecDepth 100000 in
theorem keptEn_any {w : World} {v : Value} {l : List Mem} {g : Nat} (hL : LentM w g l) (h : Mems w v l) (ver : Int) (hm : l.length ≤ 4398046511104) :
    Calls Try.prog 14 #[.agg #[.int .i64 ver, .slice (some ⟨g, 0, none⟩) l.length (l.length + 12)], .agg #[.int .i64 ver, v]] w fun e w' => e = .returned (.bool true) ∧ Below w.heap.size w w' := by
  have HM : Hid (Mems w v l) := h
  have HL : Hid (LentM w g l) := hL
  obtain ⟨A, C, rfl⟩ := h.form
  clear h hL
  go_enter Try.func14, Try.ntmps14
  go_wp2_with fail
  have hB1 : Below w.heap.size w ((w.alloc (.cells #[.int .i64 ver, .slice (some ⟨g, 0, none⟩) l.length (l.length + 12)] 25)).alloc (.cells #[.int .i64 ver, .slice A l.length C] 25)) := ((Below.refl _ _).alloc (Nat.le_refl _) _).alloc (by simp) _
  have hs := sameE_any (HL.out.below hB1).mems (HM.out.below' hB1) (by omega) ver ver
  rw [decide_eq_true (rfl : ver = ver), decide_eq_true (rfl : l = l)] at hs
  refine hs.mono ?_
  rintro e w1 ⟨rfl, hB⟩
  have hB2 : Below w.heap.size w w1 := hB1.trans (hB.mono (by simp; omega))
  have hlt1 : w.heap.size < w1.heap.size := by have := hB.size; simp at this; omega
  have hlt2 : w.heap.size + 1 < w1.heap.size := by have := hB.size; simp at this; omega
  have c1 : w1.heap[w.heap.size]? = some (.cells #[.int .i64 ver, .slice (some ⟨g, 0, none⟩) l.length (l.length + 12)] 25 (0, 0)) := by
    rw [hB.block _ (by simp; omega)]
    rw [Below.heap_alloc _ _ _ (by simp)]
    exact heap_alloc_new w _
  have c2 : w1.heap[w.heap.size + 1]? = some (.cells #[.int .i64 ver, .slice A l.length C] 25 (0, 0)) := by
    rw [hB.block _ (by simp)]
    have := heap_alloc_new (w.alloc (.cells #[.int .i64 ver, .slice (some ⟨g, 0, none⟩) l.length (l.length + 12)] 25)) (.cells #[.int .i64 ver, .slice A l.length C] 25 (0, 0))
    rw [show (w.alloc (.cells #[.int .i64 ver, .slice (some ⟨g, 0, none⟩) l.length (l.length + 12)] 25)).heap.size = w.heap.size + 1 by simp] at this
    exact this
  have z1 : w1.cell? ⟨w.heap.size, 1, none⟩ = some (.slice (some ⟨g, 0, none⟩) l.length (l.length + 12)) := by rw [cell_at c1]; rfl
  have y1 : w1.cell? ⟨w.heap.size + 1, 1, none⟩ = some (.slice A l.length C) := by rw [cell_at c2]; rfl
  have HK := keptM_any g l.length _ l w1 (HL.out.below hB2) (HM.out.below' hB2) rfl hm
  have HB2 : Hid (Below w.heap.size w w1) := hB2
  clear hB1 hs hB hB2 c1 c2
  go_wp2_with fail
  refine HK.mono ?_
  rintro e w2 ⟨rfl, hB⟩
  have HB3 : Hid (Below w.heap.size w w2) := HB2.out.trans (hB.mono HB2.out.size)
  clear HK hB
  go_wp2
  go_ret
  exact ⟨rfl, HB3.out⟩

theorem below_two {a b c : World} (h : Below a.heap.size a b) (g : Below b.heap.size b c) : Below a.heap.size a c := h.trans (g.mono h.size)
theorem mems_rg {w : World} {v : Value} {l : List Mem} (h : Mems w v l) (d : Nat) (os : Array Obj) : Mems (grow (redrawn w d) os) v l := h.below' (below_regrown w d os)
theorem lentM_rg {w : World} {g : Nat} {l : List Mem} (h : LentM w g l) (d : Nat) (os : Array Obj) : LentM (grow (redrawn w d) os) g l := h.below (below_regrown w d os)
set_option maxRecDepth 100000 in
set_option maxHeartbeats 2000000 in
theorem checks_any {w : World} {v : Value} {l : List Mem} (h : Mems w v l) (ver id : Int) (hm : l.length ≤ 4398046511104) :
    Calls Try.prog 3 #[.agg #[.int .i64 ver, v], .int .i64 id] w fun e w' => e = .returned (.bool true) ∧ Below w.heap.size w w' := by
  have HM : Hid (Mems w v l) := h
  obtain ⟨A, C, rfl⟩ := h.form
  clear h
  go_enter Try.func3, Try.ntmps3
  go_wp2_with fail
  refine (awake_any _).mono ?_
  rintro e w1 ⟨rfl, hB1⟩
  obtain ⟨X, hX⟩ : ∃ X, X = (w.alloc (.cells #[.int .i64 ver, .slice A l.length C] 25)) := ⟨_, rfl⟩
  have hc0 : X.heap[w.heap.size]? = some (.cells #[.int .i64 ver, .slice A l.length C] 25 (0, 0)) := by rw [hX]; exact heap_alloc_new w _
  have hBX : Below w.heap.size w X := by rw [hX]; exact (Below.refl _ _).alloc (Nat.le_refl _) _
  rw [← hX] at hB1
  have hc1 : w1.heap[w.heap.size]? = some (.cells #[.int .i64 ver, .slice A l.length C] 25 (0, 0)) := by rw [hB1.block _ (heap_lt hc0)]; exact hc0
  have HB1 : Hid (Below w.heap.size w w1) := below_two hBX hB1
  have HC1 : Hid (w1.heap[w.heap.size]? = some (.cells #[.int .i64 ver, .slice A l.length C] 25 (0, 0))) := hc1
  have z0 : w1.cell? ⟨w.heap.size, 0, none⟩ = some (.int .i64 ver) := by rw [cell_at hc1]; rfl
  have z1 : w1.cell? ⟨w.heap.size, 1, none⟩ = some (.slice A l.length C) := by rw [cell_at hc1]; rfl
  clear hc0 hBX hB1 hX X hc1
  have HLE := lentEn_any (HM.out.below' HB1.out) ver hm
  go_wp2_with fail
  refine HLE.mono ?_
  rintro e w2 ⟨g, rfl, hL, hB2⟩
  have HB2 : Hid (Below w.heap.size w w2) := below_two HB1.out hB2
  have HC2 : Hid (w2.heap[w.heap.size]? = some (.cells #[.int .i64 ver, .slice A l.length C] 25 (0, 0))) := by show _ = _; rw [hB2.block _ (heap_lt HC1.out)]; exact HC1.out
  have HL2 : Hid (LentM w2 g l) := hL
  clear HLE hB2 hL z0 z1 HB1 HC1
  obtain ⟨w3, hw3⟩ : ∃ X, X = (w2.alloc (.cells #[.int .i64 ver, .slice (some ⟨g, 0, none⟩) l.length (l.length + 12)] 25)) := ⟨_, rfl⟩
  have hB3 : Below w2.heap.size w2 w3 := by rw [hw3]; exact (Below.refl _ _).alloc (Nat.le_refl _) _
  have hF := find_any (HL2.out.below hB3).mems ver id (by omega)
  rw [hw3] at hF
  have hRF0 := fun W (hm' : Mems W (.slice A l.length C) l) => rf4Find_any hm' ver id (by omega)
  generalize (memOr (findM l id)).id = mi at hF hRF0
  generalize (memOr (findM l id)).role = mr at hF hRF0
  generalize (memOr (findM l id)).weight = mw at hF hRF0
  generalize (memOr (findM l id)).group = mg at hF hRF0
  generalize (findM l id).isSome = fo at hF hRF0
  go_wp2_with fail
  refine hF.mono ?_
  rintro e w4 ⟨rfl, hB4⟩
  rw [← hw3] at hB4
  have h34 := below_two hB3 hB4
  have HD4 : Hid (w4.heap[w2.heap.size]? = some (.cells #[.int .i64 ver, .slice (some ⟨g, 0, none⟩) l.length (l.length + 12)] 25 (0, 0))) := by
    show _ = _
    rw [hB4.block _ (by rw [hw3]; simp), hw3]; exact heap_alloc_new w2 _
  have HB4 : Hid (Below w.heap.size w w4) := below_two HB2.out h34
  have HC4 : Hid (w4.heap[w.heap.size]? = some (.cells #[.int .i64 ver, .slice A l.length C] 25 (0, 0))) := by show _ = _; rw [h34.block _ (heap_lt HC2.out)]; exact HC2.out
  have HL4 : Hid (LentM w4 g l) := HL2.out.below h34
  clear hF hB4 h34 hB3 hw3 w3 HB2 HC2 HL2 w1
  generalize w2.heap.size = p2 at HD4 ⊢
  clear w2
  have z0 : w4.cell? ⟨w.heap.size, 0, none⟩ = some (.int .i64 ver) := by rw [cell_at HC4.out]; rfl
  have z1 : w4.cell? ⟨w.heap.size, 1, none⟩ = some (.slice A l.length C) := by rw [cell_at HC4.out]; rfl
  have hlt4 : w.heap.size < w4.heap.size := heap_lt HC4.out
  obtain ⟨w5, hw5⟩ : ∃ X, X = (w4.alloc (.cells #[.int .i64 mi, .int .u8 mr, .int .i64 mw, .int .i64 mg] 30)) := ⟨_, rfl⟩
  have hB5 : Below w4.heap.size w4 w5 := by rw [hw5]; exact (Below.refl _ _).alloc (Nat.le_refl _) _
  have hRF := hRF0 w5 (HM.out.below' (below_two HB4.out hB5))
  rw [hw5] at hRF
  go_wp2_with fail
  refine hRF.mono ?_
  rintro e w6 ⟨rfl, hB6⟩
  rw [← hw5] at hB6
  have h46 := below_two hB5 hB6
  have HE6 : Hid (w6.heap[w4.heap.size]? = some (.cells #[.int .i64 mi, .int .u8 mr, .int .i64 mw, .int .i64 mg] 30 (0, 0))) := by
    show _ = _
    rw [hB6.block _ (by rw [hw5]; simp), hw5]; exact heap_alloc_new w4 _
  have HD6 : Hid (w6.heap[p2]? = some (.cells #[.int .i64 ver, .slice (some ⟨g, 0, none⟩) l.length (l.length + 12)] 25 (0, 0))) := by show _ = _; rw [h46.block _ (heap_lt HD4.out)]; exact HD4.out
  have HB6 : Hid (Below w.heap.size w w6) := below_two HB4.out h46
  have HC6 : Hid (w6.heap[w.heap.size]? = some (.cells #[.int .i64 ver, .slice A l.length C] 25 (0, 0))) := by show _ = _; rw [h46.block _ hlt4]; exact HC4.out
  have HL6 : Hid (LentM w6 g l) := HL4.out.below h46
  clear hRF hRF0 hB6 hB5 h46 hw5 w5 z0 z1 HC4 HL4 HD4 HB4 hlt4
  generalize w4.heap.size = p4 at HE6 ⊢
  clear w4
  obtain ⟨w7, hw7⟩ : ∃ X, X = (w6.alloc (.cells #[.int .i64 mi, .int .u8 mr, .int .i64 mw, .int .i64 mg] 30)) := ⟨_, rfl⟩
  have hB7 : Below w6.heap.size w6 w7 := by rw [hw7]; exact (Below.refl _ _).alloc (Nat.le_refl _) _
  have HB7 : Hid (Below w.heap.size w w7) := below_two HB6.out hB7
  have hM7 : Mems w7 (.slice A l.length C) l := HM.out.below' HB7.out
  have hL7 : LentM w7 g l := HL6.out.below hB7
  have hc7 : w7.heap[w.heap.size]? = some (.cells #[.int .i64 ver, .slice A l.length C] 25 (0, 0)) := by rw [hB7.block _ (heap_lt HC6.out)]; exact HC6.out
  have hd7 : w7.heap[p2]? = some (.cells #[.int .i64 ver, .slice (some ⟨g, 0, none⟩) l.length (l.length + 12)] 25 (0, 0)) := by rw [hB7.block _ (heap_lt HD6.out)]; exact HD6.out
  have he7 : w7.heap[p4]? = some (.cells #[.int .i64 mi, .int .u8 mr, .int .i64 mw, .int .i64 mg] 30 (0, 0)) := by rw [hB7.block _ (heap_lt HE6.out)]; exact HE6.out
  have hf7 : w7.heap[w6.heap.size]? = some (.cells #[.int .i64 mi, .int .u8 mr, .int .i64 mw, .int .i64 mg] 30 (0, 0)) := by rw [hw7]; exact heap_alloc_new w6 _
  have cQ := fun d os => Calls.regrown_of (check_any (mems_rg hL7.mems d os) ver)
  have rQ := fun d os => Calls.regrown_of (rf4Check_any (mems_rg hM7 d os) ver)
  have vQ := fun d os => Calls.regrown_of (voter_any (mems_rg hL7.mems d os) ver id (by omega))
  have sQ := fun d os => Calls.regrown_of (rf4Voter_any (mems_rg hM7 d os) ver id (by omega))
  have kQ := fun d os => Calls.regrown_of (keptEn_any (lentM_rg hL7 d os) (mems_rg hM7 d os) ver hm)
  generalize chk ver l = CK at cQ rQ
  generalize votM l id = VT at vQ sQ
  have a0 := fun d os => cell_regrown (w := w7) (a := ⟨w.heap.size, 0, none⟩) (v := .int .i64 ver) (by rw [cell_at hc7]; rfl) d os
  have a1 := fun d os => cell_regrown (w := w7) (a := ⟨w.heap.size, 1, none⟩) (v := .slice A l.length C) (by rw [cell_at hc7]; rfl) d os
  have b0 := fun d os => cell_regrown (w := w7) (a := ⟨p2, 0, none⟩) (v := .int .i64 ver) (by rw [cell_at hd7]; rfl) d os
  have b1 := fun d os => cell_regrown (w := w7) (a := ⟨p2, 1, none⟩) (v := .slice (some ⟨g, 0, none⟩) l.length (l.length + 12)) (by rw [cell_at hd7]; rfl) d os
  have m0 := fun d os => cell_regrown (w := w7) (a := ⟨p4, 0, none⟩) (v := .int .i64 mi) (by rw [cell_at he7]; rfl) d os
  have m1 := fun d os => cell_regrown (w := w7) (a := ⟨p4, 1, none⟩) (v := .int .u8 mr) (by rw [cell_at he7]; rfl) d os
  have m2 := fun d os => cell_regrown (w := w7) (a := ⟨p4, 2, none⟩) (v := .int .i64 mw) (by rw [cell_at he7]; rfl) d os
  have m3 := fun d os => cell_regrown (w := w7) (a := ⟨p4, 3, none⟩) (v := .int .i64 mg) (by rw [cell_at he7]; rfl) d os
  have n0 := fun d os => cell_regrown (w := w7) (a := ⟨w6.heap.size, 0, none⟩) (v := .int .i64 mi) (by rw [cell_at hf7]; rfl) d os
  have n1 := fun d os => cell_regrown (w := w7) (a := ⟨w6.heap.size, 1, none⟩) (v := .int .u8 mr) (by rw [cell_at hf7]; rfl) d os
  have n2 := fun d os => cell_regrown (w := w7) (a := ⟨w6.heap.size, 2, none⟩) (v := .int .i64 mw) (by rw [cell_at hf7]; rfl) d os
  have n3 := fun d os => cell_regrown (w := w7) (a := ⟨w6.heap.size, 3, none⟩) (v := .int .i64 mg) (by rw [cell_at hf7]; rfl) d os
  have heq := fun w => memSelf w mi mr mw mg
  clear hM7 hL7 hc7 hd7 he7 hf7 hB7 HC6 HD6 HE6 HL6 HB6
  go_wp2_with fail
  rw [← hw7]
  clear hw7
  generalize w6.heap.size = p6 at n0 n1 n2 n3 ⊢
  clear w6
  refine wp_region_quiet_below (by kernel_rfl) (by kernel_rfl) ?_
  repeat (go_big_quiet_step (first | (go_at_call 10; exact cQ _ _) | (go_at_call 11; exact rQ _ _) | (go_at_call 12; exact vQ _ _) | (go_at_call 13; exact sQ _ _) | (go_at_call 14; exact kQ _ _)))
  refine wpQuiet_nil ?_
  intro _ hw'
  obtain ⟨⟨dq, osq⟩, hw''⟩ := hw'
  subst hw''
  go_wp2
  go_ret
  exact ⟨rfl, below_rg HB7.out dq osq⟩
end Go.Proofs.Ytohhbhkpekieiaa
