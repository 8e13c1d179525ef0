/- What a watch has missed; a watch set again. -/
import Derived.Test.YtkbmbnfpadllmaaDoorBeH
namespace Go.Proofs.YtkbmbnfpadllmaaDoor.We
set_option linter.unusedSimpArgs false
set_option linter.unusedVariables false
open Go.RowKit Go.MapKept
set_option linter.unusedVariables false
set_option linter.unusedSimpArgs false

def mx (a b : Int) : Int := if a < b then b else a
def mis (so last cz mz pz : Int) (th : Bool) : Int × Int :=
  if th = false then (if so = 2 then (0, 0) else (2, 0))
  else if so = 3 ∧ mx cz pz > last then (4, mx cz pz)
  else if so = 2 ∧ cz > last then (1, cz)
  else if ¬ so = 3 ∧ mz > last then (3, mz) else (0, 0)
theorem run_max (w : World) (ts : Array TypeId) (t : TypeId) (a b : Int) : (Builtin.max_ ts t #[.int .i64 a, .int .i64 b]).run Tryd.prog w = .ok (.int .i64 (mx a b)) w := by
  rfl
set_option maxRecDepth 100000 in
theorem missed_any (so last s0 s1 s2 s3 s4 s5 s6 s7 s8 s9 : Int) (th : Bool) (w : World) : Calls Tryd.prog 28 #[.int .u8 so, .int .i64 last, .agg #[.int .i64 s0, .int .i64 s1, .int .i64 s2, .int .i64 s3, .int .i64 s4, .int .i64 s5, .int .i64 s6, .int .i64 s7, .int .i64 s8, .int .i64 s9], .bool th] w fun e w' => e = .returned (.tuple #[.int .u8 (mis so last s0 s1 s2 th).1, .int .i64 (mis so last s0 s1 s2 th).2]) ∧ Below w.heap.size w w' := by
  have hmax := fun W ts t => run_max W ts t s0 s2
  obtain ⟨W, hW⟩ : ∃ W, W = w.alloc (.cells #[.int .i64 s0, .int .i64 s1, .int .i64 s2, .int .i64 s3, .int .i64 s4, .int .i64 s5, .int .i64 s6, .int .i64 s7, .int .i64 s8, .int .i64 s9] 34) := ⟨_, rfl⟩
  have HB : Hid (Below w.heap.size w W) := by rw [hW]; exact (Below.refl _ _).alloc (Nat.le_refl _) _
  have hb : W.heap[w.heap.size]? = some (.cells #[.int .i64 s0, .int .i64 s1, .int .i64 s2, .int .i64 s3, .int .i64 s4, .int .i64 s5, .int .i64 s6, .int .i64 s7, .int .i64 s8, .int .i64 s9] 34 (0, 0)) := by rw [hW]; exact heap_alloc_new _ _
  have d0 := cellAt hb 0
  have d1 := cellAt hb 1
  have d2 := cellAt hb 2
  simp at d0 d1 d2
  obtain ⟨M, hM⟩ : ∃ M, M = mx s0 s2 := ⟨_, rfl⟩
  rw [← hM] at hmax
  have HM : Hid (M = mx s0 s2) := hM
  clear hb hM
  cases th with
  | false =>
    by_cases c2 : so = 2
    · have HV : Hid (mis so last s0 s1 s2 false = (0, 0)) := by show _ = _; unfold mis; rw [if_pos rfl, if_pos c2]
      have g2 : (so == 2) = true := by simpa using c2
      clear c2
      go_enter Tryd.func28, Tryd.ntmps28
      go_upto_region 1 with fail
      rw [← hW]
      clear hW
      go_wp2_with fail
      go_ret2
      exact ⟨by rw [HV.out]; rfl, HB.out⟩
    · have HV : Hid (mis so last s0 s1 s2 false = (2, 0)) := by show _ = _; unfold mis; rw [if_pos rfl, if_neg c2]
      have g2 : (so == 2) = false := by simpa using c2
      clear c2
      go_enter Tryd.func28, Tryd.ntmps28
      go_upto_region 1 with fail
      rw [← hW]
      clear hW
      go_wp2_with fail
      go_ret2
      exact ⟨by rw [HV.out]; rfl, HB.out⟩
  | true =>
    by_cases c3 : so = 3
    · have g3 : (so == 3) = true := by simpa using c3
      have g3' : (so != 3) = false := by simpa using c3
      have g2 : (so == 2) = false := by simp [c3]
      by_cases cm : M > last
      · have HV : Hid (mis so last s0 s1 s2 true = (4, M)) := by show _ = _; unfold mis; rw [if_neg (by simp), ← HM.out, if_pos ⟨c3, cm⟩]
        clear c3
        go_enter Tryd.func28, Tryd.ntmps28
        go_upto_region 1 with fail
        rw [← hW]
        clear hW
        go_wp2_with fail
        go_ret2
        exact ⟨by rw [HV.out]; rfl, HB.out⟩
      · have HV : Hid (mis so last s0 s1 s2 true = (0, 0)) := by show _ = _; unfold mis; rw [if_neg (by simp), ← HM.out, if_neg (fun h => cm h.2), if_neg (fun h => by omega), if_neg (fun h => h.1 c3)]
        clear c3
        go_enter Tryd.func28, Tryd.ntmps28
        go_upto_region 1 with fail
        rw [← hW]
        clear hW
        go_wp2_with fail
        go_ret2
        exact ⟨by rw [HV.out]; rfl, HB.out⟩
    · have g3 : (so == 3) = false := by simpa using c3
      have g3' : (so != 3) = true := by simpa using c3
      by_cases c2 : so = 2
      · have g2 : (so == 2) = true := by simpa using c2
        by_cases cz : s0 > last
        · have HV : Hid (mis so last s0 s1 s2 true = (1, s0)) := by show _ = _; unfold mis; rw [if_neg (by simp), if_neg (fun h => c3 h.1), if_pos ⟨c2, cz⟩]
          clear c3 c2
          go_enter Tryd.func28, Tryd.ntmps28
          go_upto_region 1 with fail
          rw [← hW]
          clear hW
          go_wp2_with fail
          go_quiet (fail)
          go_wp2_with fail
          go_ret2
          exact ⟨by rw [HV.out]; rfl, HB.out.trans (Chg.drewN Non W nq |> fun h => ⟨h.os, h.tape, h.output, h.size, fun k hk => h.block k (by have := HB.out.size; omega) id⟩)⟩
        · by_cases cm : s1 > last
          · have HV : Hid (mis so last s0 s1 s2 true = (3, s1)) := by show _ = _; unfold mis; rw [if_neg (by simp), if_neg (fun h => c3 h.1), if_neg (fun h => cz h.2), if_pos ⟨c3, cm⟩]
            clear c3 c2
            go_enter Tryd.func28, Tryd.ntmps28
            go_upto_region 1 with fail
            rw [← hW]
            clear hW
            go_wp2_with fail
            go_quiet (fail)
            go_wp2_with fail
            go_ret2
            exact ⟨by rw [HV.out]; rfl, HB.out.trans (Chg.drewN Non W nq |> fun h => ⟨h.os, h.tape, h.output, h.size, fun k hk => h.block k (by have := HB.out.size; omega) id⟩)⟩
          · have HV : Hid (mis so last s0 s1 s2 true = (0, 0)) := by show _ = _; unfold mis; rw [if_neg (by simp), if_neg (fun h => c3 h.1), if_neg (fun h => cz h.2), if_neg (fun h => cm h.2)]
            clear c3 c2
            go_enter Tryd.func28, Tryd.ntmps28
            go_upto_region 1 with fail
            rw [← hW]
            clear hW
            go_wp2_with fail
            go_ret2
            exact ⟨by rw [HV.out]; rfl, HB.out⟩
      · have g2 : (so == 2) = false := by simpa using c2
        by_cases cm : s1 > last
        · have HV : Hid (mis so last s0 s1 s2 true = (3, s1)) := by show _ = _; unfold mis; rw [if_neg (by simp), if_neg (fun h => c3 h.1), if_neg (fun h => c2 h.1), if_pos ⟨c3, cm⟩]
          clear c3 c2
          go_enter Tryd.func28, Tryd.ntmps28
          go_upto_region 1 with fail
          rw [← hW]
          clear hW
          go_wp2_with fail
          go_quiet (fail)
          go_wp2_with fail
          go_ret2
          exact ⟨by rw [HV.out]; rfl, HB.out.trans (Chg.drewN Non W nq |> fun h => ⟨h.os, h.tape, h.output, h.size, fun k hk => h.block k (by have := HB.out.size; omega) id⟩)⟩
        · have HV : Hid (mis so last s0 s1 s2 true = (0, 0)) := by show _ = _; unfold mis; rw [if_neg (by simp), if_neg (fun h => c3 h.1), if_neg (fun h => c2 h.1), if_neg (fun h => cm h.2)]
          clear c3 c2
          go_enter Tryd.func28, Tryd.ntmps28
          go_upto_region 1 with fail
          rw [← hW]
          clear hW
          go_wp2_with fail
          go_ret2
          exact ⟨by rw [HV.out]; rfl, HB.out⟩
/- Again. -/
def agK (so last s0 s1 s2 : Int) (th : Bool) (p : List UInt8) : Int × Int := if mayB so p then mis so last s0 s1 s2 th else (0, 0)
/- Is an event told? -/
def agB (so last s0 s1 s2 : Int) (th : Bool) (p : List UInt8) : Bool := !decide ((agK so last s0 s1 s2 th p).1 = 0)
def agV (so last s0 s1 s2 : Int) (th : Bool) (p : List UInt8) : Value := if agB so last s0 s1 s2 th p then .agg #[.int .u8 (agK so last s0 s1 s2 th p).1, .int .u8 so, .string (mkS p), .int .i64 (agK so last s0 s1 s2 th p).2] else .agg #[.int .u8 0, .int .u8 0, .string ⟨#[]⟩, .int .i64 0]
def agL (cn so last s0 s1 s2 : Int) (th : Bool) (p : List UInt8) (L : List Wa) : List Wa := if agB so last s0 s1 s2 th p then L.erase ⟨cn, so, p⟩ else addR cn so p L
set_option maxRecDepth 100000 in
theorem again_no {w : World} {v : Value} (h : NoT w v) (c so p la th x0 x1 : Value) (s0 s1 s2 s3 s4 s5 s6 s7 s8 s9 : Int) : Calls Tryd.prog 16 #[v, c, so, p, la, .agg #[x0, x1, .int .i64 s0, .int .i64 s1, .int .i64 s2, .int .i64 s3, .int .i64 s4, .int .i64 s5, .int .i64 s6, .int .i64 s7, .int .i64 s8, .int .i64 s9], th] w fun e w' => e = .returned (.tuple #[.agg #[.int .u8 0, .int .u8 0, .string ⟨#[]⟩, .int .i64 0], .bool false]) ∧ Below w.heap.size w w' := by
  have hth := fun o o' => there_no ((h.alloc o).alloc o')
  clear h
  obtain ⟨W, hW⟩ : ∃ W, W = (w.alloc (.cells #[x0, x1, .int .i64 s0, .int .i64 s1, .int .i64 s2, .int .i64 s3, .int .i64 s4, .int .i64 s5, .int .i64 s6, .int .i64 s7, .int .i64 s8, .int .i64 s9] 36)).alloc (.cells #[.int .u8 0, .int .u8 0, .string ⟨#[]⟩, .int .i64 0] 54) := ⟨_, rfl⟩
  have HB : Hid (Below w.heap.size w W) := by rw [hW]; exact ((Below.refl _ _).alloc (Nat.le_refl _) _).alloc (by simp) _
  have hb : W.heap[w.heap.size + 1]? = some (.cells #[.int .u8 0, .int .u8 0, .string ⟨#[]⟩, .int .i64 0] 54 (0, 0)) := by
    rw [hW]
    have := heap_alloc_new (w.alloc (.cells #[x0, x1, .int .i64 s0, .int .i64 s1, .int .i64 s2, .int .i64 s3, .int .i64 s4, .int .i64 s5, .int .i64 s6, .int .i64 s7, .int .i64 s8, .int .i64 s9] 36)) (.cells #[.int .u8 0, .int .u8 0, .string ⟨#[]⟩, .int .i64 0] 54)
    simpa using this
  have d0 := cellAt hb 0
  have d1 := cellAt hb 1
  have d2 := cellAt hb 2
  have d3 := cellAt hb 3
  have f0 := frozenAt hb 0
  have f1 := frozenAt hb 1
  have f2 := frozenAt hb 2
  have f3 := frozenAt hb 3
  simp at d0 d1 d2 d3
  have hth2 := hth (.cells #[x0, x1, .int .i64 s0, .int .i64 s1, .int .i64 s2, .int .i64 s3, .int .i64 s4, .int .i64 s5, .int .i64 s6, .int .i64 s7, .int .i64 s8, .int .i64 s9] 36) (.cells #[.int .u8 0, .int .u8 0, .string ⟨#[]⟩, .int .i64 0] 54)
  rw [← hW] at hth2
  clear hb hth
  go_enter Tryd.func16, Tryd.ntmps16
  go_upto_region 1 with fail
  rw [← hW]
  clear hW
  go_wp2_with fail
  refine hth2.mono ?_
  rintro e w1 ⟨rfl, rfl⟩
  clear hth2
  go_wp2_with fail
  refine bodyPost_ret (v := .tuple #[.agg #[.int .u8 0, .int .u8 0, .string ⟨#[]⟩, .int .i64 0], .bool false]) (by simp [results, Tryd.results16, go_sem, d0, d1, d2, d3, f0, f1, f2, f3]) rfl ⟨rfl, ?_⟩
  exact (((HB.out.setCell (p := ⟨w.heap.size + 1, 0, none⟩) (Nat.le_succ _) _).setCell (p := ⟨w.heap.size + 1, 1, none⟩) (Nat.le_succ _) _).setCell (p := ⟨w.heap.size + 1, 2, none⟩) (Nat.le_succ _) _).setCell (p := ⟨w.heap.size + 1, 3, none⟩) (Nat.le_succ _) _
theorem chg_set4 {w : World} {b : Nat} (v0 v1 v2 v3 : Value) : Chg (fun k => k = b) w ((((w.setCell ⟨b, 0, none⟩ v0).setCell ⟨b, 1, none⟩ v1).setCell ⟨b, 2, none⟩ v2).setCell ⟨b, 3, none⟩ v3) :=
  (((Chg.setCell (S := fun k => k = b) w ⟨b, 0, none⟩ v0 rfl).trans (Chg.setCell (S := fun k => k = b) _ ⟨b, 1, none⟩ v1 rfl)).trans (Chg.setCell (S := fun k => k = b) _ ⟨b, 2, none⟩ v2 rfl)).trans (Chg.setCell (S := fun k => k = b) _ ⟨b, 3, none⟩ v3 rfl)
set_option maxRecDepth 100000 in
set_option maxHeartbeats 2000000 in
theorem again_any {w : World} {t m : Nat} {L : List Wa} (h : Tx w t m L) (hL : PA.Laid w) (cn so : Int) (p : List UInt8) (last : Int) (x0 x1 : Value) (s0 s1 s2 s3 s4 s5 s6 s7 s8 s9 : Int) (th : Bool) :
    Calls Tryd.prog 16 #[.pointer (some ⟨t, 0, none⟩), .int .i64 cn, .int .u8 so, .string (mkS p), .int .i64 last, .agg #[x0, x1, .int .i64 s0, .int .i64 s1, .int .i64 s2, .int .i64 s3, .int .i64 s4, .int .i64 s5, .int .i64 s6, .int .i64 s7, .int .i64 s8, .int .i64 s9], .bool th] w fun e w' => e = .returned (.tuple #[agV so last s0 s1 s2 th p, .bool (agB so last s0 s1 s2 th p)]) ∧ Tx w' t m (agL cn so last s0 s1 s2 th p L) ∧ Chg (fun k => k = m) w w' := by
  obtain ⟨W, hW⟩ : ∃ W, W = (w.alloc (.cells #[x0, x1, .int .i64 s0, .int .i64 s1, .int .i64 s2, .int .i64 s3, .int .i64 s4, .int .i64 s5, .int .i64 s6, .int .i64 s7, .int .i64 s8, .int .i64 s9] 36)).alloc (.cells #[.int .u8 0, .int .u8 0, .string ⟨#[]⟩, .int .i64 0] 54) := ⟨_, rfl⟩
  have hBW : Below w.heap.size w W := by rw [hW]; exact ((Below.refl _ _).alloc (Nat.le_refl _) _).alloc (by simp) _
  have hb : W.heap[w.heap.size + 1]? = some (.cells #[.int .u8 0, .int .u8 0, .string ⟨#[]⟩, .int .i64 0] 54 (0, 0)) := by
    rw [hW]
    have := heap_alloc_new (w.alloc (.cells #[x0, x1, .int .i64 s0, .int .i64 s1, .int .i64 s2, .int .i64 s3, .int .i64 s4, .int .i64 s5, .int .i64 s6, .int .i64 s7, .int .i64 s8, .int .i64 s9] 36)) (.cells #[.int .u8 0, .int .u8 0, .string ⟨#[]⟩, .int .i64 0] 54)
    simpa using this
  have hbn : W.heap[w.heap.size]? = some (.cells #[x0, x1, .int .i64 s0, .int .i64 s1, .int .i64 s2, .int .i64 s3, .int .i64 s4, .int .i64 s5, .int .i64 s6, .int .i64 s7, .int .i64 s8, .int .i64 s9] 36 (0, 0)) := by
    rw [hW, Below.heap_alloc _ _ _ (by simp)]; exact heap_alloc_new _ _
  have hTW := h.below hBW
  have hLW := hL.below hBW
  have hth := there_any hTW.mapc
  have hmb := mayBe_any so p W hLW
  have HF : Hid (Tx W t m L ∧ PA.Laid W ∧ Below w.heap.size w W ∧ W.heap[w.heap.size + 1]? = some (.cells #[.int .u8 0, .int .u8 0, .string ⟨#[]⟩, .int .i64 0] 54 (0, 0)) ∧ W.heap[w.heap.size]? = some (.cells #[x0, x1, .int .i64 s0, .int .i64 s1, .int .i64 s2, .int .i64 s3, .int .i64 s4, .int .i64 s5, .int .i64 s6, .int .i64 s7, .int .i64 s8, .int .i64 s9] 36 (0, 0)) ∧ m < w.heap.size ∧ t < w.heap.size) := ⟨hTW, hLW, hBW, hb, hbn, h.ltm, h.ltt⟩
  clear h hL hBW hb hbn hTW hLW
  cases hk : mayB so p with
  | false =>
    rw [hk] at hmb
    have HV : Hid (agV so last s0 s1 s2 th p = .agg #[.int .u8 0, .int .u8 0, .string ⟨#[]⟩, .int .i64 0] ∧ agB so last s0 s1 s2 th p = false ∧ agL cn so last s0 s1 s2 th p L = L) := by
      have hb : agB so last s0 s1 s2 th p = false := by unfold agB agK; rw [hk]; rfl
      refine ⟨?_, hb, ?_⟩
      · unfold agV; rw [hb]; rfl
      · unfold agL addR; rw [hb, hk]; rfl
    clear hk
    go_enter Tryd.func16, Tryd.ntmps16
    go_upto_region 1 with fail
    rw [← hW]
    clear hW
    go_wp2_with fail
    refine hth.mono ?_
    rintro e w1 ⟨rfl, rfl⟩
    clear hth
    go_wp2_with fail
    refine hmb.mono ?_
    rintro e w2 ⟨rfl, hB2⟩
    have HB2 : Hid (Below w1.heap.size w1 w2) := hB2
    have hb2 : w2.heap[w.heap.size + 1]? = some (.cells #[.int .u8 0, .int .u8 0, .string ⟨#[]⟩, .int .i64 0] 54 (0, 0)) := by rw [hB2.block _ (heapLt HF.out.2.2.2.1)]; exact HF.out.2.2.2.1
    have c0 := cellAt hb2 0
    have f0 := frozenAt hb2 0
    have c1 := cellAt hb2 1
    have f1 := frozenAt hb2 1
    have c2 := cellAt hb2 2
    have f2 := frozenAt hb2 2
    have c3 := cellAt hb2 3
    have f3 := frozenAt hb2 3
    simp at c0 c1 c2 c3
    clear hB2 hmb hb2
    go_wp2_with fail
    refine bodyPost_ret (v := .tuple #[.agg #[.int .u8 0, .int .u8 0, .string ⟨#[]⟩, .int .i64 0], .bool false]) (by simp [results, Tryd.results16, go_sem, c0, c1, c2, c3, f0, f1, f2, f3]) rfl ?_
    have hB := HF.out.2.2.1.trans (HB2.out.mono HF.out.2.2.1.size)
    have hc := chg_set4 (w := w2) (b := w.heap.size + 1) (.int .u8 0) (.int .u8 0) (.string ⟨#[]⟩) (.int .i64 0)
    rw [HV.out.1, HV.out.2.1, HV.out.2.2]
    refine ⟨rfl, (HF.out.1.below HB2.out).keep hc (by have := HF.out.2.2.2.2.2.2; omega) (by have := HF.out.2.2.2.2.2.1; omega), ((Chg.of_below hB).weak fun _ _ e => e.elim).trans' hc fun k hk e => by omega⟩
  | true =>
    rw [hk] at hmb
    have hnw := newWatch_any ⟨cn, so, p⟩ hk
    have hmi := fun W => missed_any so last s0 s1 s2 s3 s4 s5 s6 s7 s8 s9 th W
    have HK : Hid (mayB so p = true) := hk
    have hev := fun kd z W => event_any ⟨cn, so, p⟩ kd z W
    have HAG : Hid (agK so last s0 s1 s2 th p = mis so last s0 s1 s2 th) := by show _ = _; unfold agK; rw [hk]; rfl
    simp only [keyV] at hnw
    clear hk
    go_enter Tryd.func16, Tryd.ntmps16
    go_upto_region 1 with fail
    rw [← hW]
    clear hW
    go_wp2_with fail
    refine hth.mono ?_
    rintro e w1 ⟨rfl, rfl⟩
    clear hth
    go_wp2_with fail
    refine hmb.mono ?_
    rintro e w2 ⟨rfl, hB2⟩
    have HB2 : Hid (Below w1.heap.size w1 w2) := hB2
    clear hB2 hmb
    go_wp2_with fail
    refine (hnw _).mono ?_
    rintro e w3 ⟨rfl, hB3⟩
    have hB13 := HB2.out.trans (hB3.mono HB2.out.size)
    obtain ⟨W4, hW4⟩ : ∃ W4, W4 = w3.alloc (.cells #[.int .i64 cn, .int .u8 so, .string (mkS p)] 69) := ⟨_, rfl⟩
    have hB14 : Below w1.heap.size w1 W4 := by rw [hW4]; exact hB13.alloc hB13.size _
    have hbk : W4.heap[w3.heap.size]? = some (.cells #[.int .i64 cn, .int .u8 so, .string (mkS p)] 69 (0, 0)) := by rw [hW4]; exact heap_alloc_new _ _
    have hbn : W4.heap[w.heap.size]? = some (.cells #[x0, x1, .int .i64 s0, .int .i64 s1, .int .i64 s2, .int .i64 s3, .int .i64 s4, .int .i64 s5, .int .i64 s6, .int .i64 s7, .int .i64 s8, .int .i64 s9] 36 (0, 0)) := by rw [hB14.block _ (heapLt HF.out.2.2.2.2.1)]; exact HF.out.2.2.2.2.1
    have HB14 : Hid (Below w1.heap.size w1 W4 ∧ W4.heap[w3.heap.size]? = some (.cells #[.int .i64 cn, .int .u8 so, .string (mkS p)] 69 (0, 0)) ∧ w1.heap.size ≤ w3.heap.size) := ⟨hB14, hbk, hB13.size⟩
    have n2 := cellAt hbn 2
    have n3 := cellAt hbn 3
    have n4 := cellAt hbn 4
    have n5 := cellAt hbn 5
    have n6 := cellAt hbn 6
    have n7 := cellAt hbn 7
    have n8 := cellAt hbn 8
    have n9 := cellAt hbn 9
    have n10 := cellAt hbn 10
    have n11 := cellAt hbn 11
    simp at n2 n3 n4 n5 n6 n7 n8 n9 n10 n11
    clear hnw hB3 hB13 hB14 hbk hbn
    go_upto_region 4 with fail
    rw [← hW4]
    clear hW4
    obtain ⟨K, hK⟩ : ∃ K, K = (mis so last s0 s1 s2 th).1 := ⟨_, rfl⟩
    obtain ⟨Z, hZ⟩ : ∃ Z, Z = (mis so last s0 s1 s2 th).2 := ⟨_, rfl⟩
    rw [← hK, ← hZ] at hmi
    have HKZ : Hid (K = (mis so last s0 s1 s2 th).1 ∧ Z = (mis so last s0 s1 s2 th).2) := ⟨hK, hZ⟩
    clear hK hZ
    go_wp2_with fail
    refine (hmi _).mono ?_
    rintro e w5 ⟨rfl, hB5⟩
    have hbk5 : w5.heap[w3.heap.size]? = some (.cells #[.int .i64 cn, .int .u8 so, .string (mkS p)] 69 (0, 0)) := by rw [hB5.block _ (heapLt HB14.out.2.1)]; exact HB14.out.2.1
    have hB15 := HB14.out.1.trans (hB5.mono HB14.out.1.size)
    have hbe5 : w5.heap[w.heap.size + 1]? = some (.cells #[.int .u8 0, .int .u8 0, .string ⟨#[]⟩, .int .i64 0] 54 (0, 0)) := by rw [hB15.block _ (heapLt HF.out.2.2.2.1)]; exact HF.out.2.2.2.1
    have HW5 : Hid (Tx w5 t m L ∧ Below w1.heap.size w1 w5 ∧ w5.heap[w3.heap.size]? = some (.cells #[.int .i64 cn, .int .u8 so, .string (mkS p)] 69 (0, 0)) ∧ w5.heap[w.heap.size + 1]? = some (.cells #[.int .u8 0, .int .u8 0, .string ⟨#[]⟩, .int .i64 0] 54 (0, 0)) ∧ Chg Non w w5) := ⟨HF.out.1.below hB15, hB15, hbk5, hbe5, (Chg.of_below HF.out.2.2.1).trans ((Chg.of_below hB15).weak fun _ _ e => e)⟩
    have k0 := cellAt hbk5 0
    have k1 := cellAt hbk5 1
    have k2 := cellAt hbk5 2
    simp at k0 k1 k2
    clear hmi hB5 hbk5 hB15 hbe5 n2 n3 n4 n5 n6 n7 n8 n9 n10 n11
    by_cases hk0 : K = 0
    · have HV : Hid (agV so last s0 s1 s2 th p = .agg #[.int .u8 0, .int .u8 0, .string ⟨#[]⟩, .int .i64 0] ∧ agB so last s0 s1 s2 th p = false ∧ agL cn so last s0 s1 s2 th p L = addL ⟨cn, so, p⟩ L) := by
        have hb : agB so last s0 s1 s2 th p = false := by unfold agB; rw [HAG.out, ← HKZ.out.1, hk0]; rfl
        refine ⟨?_, hb, ?_⟩
        · unfold agV; rw [hb]; rfl
        · unfold agL addR; rw [hb, HK.out]; rfl
      have g0 : (K == 0) = true := by simpa using hk0
      have hpu := put_any HW5.out.1 ⟨cn, so, p⟩ HK.out
      simp only [keyV] at hpu
      clear hk0 hev
      go_wp2_with fail
      refine hpu.mono ?_
      rintro e w6 ⟨rfl, hx6, hc6⟩
      have hb6 : w6.heap[w.heap.size + 1]? = some (.cells #[.int .u8 0, .int .u8 0, .string ⟨#[]⟩, .int .i64 0] 54 (0, 0)) := by rw [hc6.block _ (heapLt HW5.out.2.2.2.1) (by have := HF.out.2.2.2.2.2.1; omega)]; exact HW5.out.2.2.2.1
      have HX6 : Hid (Tx w6 t m (addL ⟨cn, so, p⟩ L) ∧ Chg (fun k => k = m) w5 w6) := ⟨hx6, hc6⟩
      have c0 := cellAt hb6 0
      have f0 := frozenAt hb6 0
      have c1 := cellAt hb6 1
      have f1 := frozenAt hb6 1
      have c2 := cellAt hb6 2
      have f2 := frozenAt hb6 2
      have c3 := cellAt hb6 3
      have f3 := frozenAt hb6 3
      simp at c0 c1 c2 c3
      clear hpu hx6 hc6 hb6 k0 k1 k2
      go_wp2_with fail
      refine bodyPost_ret (v := .tuple #[.agg #[.int .u8 0, .int .u8 0, .string ⟨#[]⟩, .int .i64 0], .bool false]) (by simp [results, Tryd.results16, go_sem, c0, c1, c2, c3, f0, f1, f2, f3]) rfl ?_
      have hc := chg_set4 (w := w6) (b := w.heap.size + 1) (.int .u8 0) (.int .u8 0) (.string ⟨#[]⟩) (.int .i64 0)
      rw [HV.out.1, HV.out.2.1, HV.out.2.2]
      refine ⟨rfl, HX6.out.1.keep hc (by have := HF.out.2.2.2.2.2.2; omega) (by have := HF.out.2.2.2.2.2.1; omega), ((HW5.out.2.2.2.2.weak fun _ _ e => e.elim).trans HX6.out.2).trans' hc fun k hk e => by omega⟩
    · have HV : Hid (agV so last s0 s1 s2 th p = .agg #[.int .u8 K, .int .u8 so, .string (mkS p), .int .i64 Z] ∧ agB so last s0 s1 s2 th p = true ∧ agL cn so last s0 s1 s2 th p L = L.erase ⟨cn, so, p⟩) := by
        have hb : agB so last s0 s1 s2 th p = true := by unfold agB; rw [HAG.out, ← HKZ.out.1]; simp [hk0]
        refine ⟨?_, hb, ?_⟩
        · unfold agV; rw [hb, if_pos rfl, HAG.out, ← HKZ.out.1, ← HKZ.out.2]
        · unfold agL; rw [hb]; rfl
      have g0 : (K == 0) = false := by simpa using hk0
      obtain ⟨w6, hrun6, hm6, hc6, hs6⟩ := (HW5.out.1.keep (Chg.drew Non w5) id id).map.delete ⟨cn, so, p⟩ 0
      simp only [keyV] at hrun6
      have hX6 : Tx w6 t m (L.erase ⟨cn, so, p⟩) := (HW5.out.1.keep (Chg.drew Non w5) id id).to hm6 hc6 (fun x hx => HW5.out.1.good x (List.mem_of_mem_erase hx))
      have hc56 : Chg (fun k => k = m) w5 w6 := (Chg.drew _ w5).trans hc6
      have hmW : w5.cell? ⟨t, 0, none⟩ = some (.map (some m)) := HW5.out.1.mapc
      have hlm := HF.out.2.2.2.2.2.1
      have hlt := HF.out.2.2.2.2.2.2
      have hge := HB14.out.2.2
      have hw1 := HF.out.2.2.1.size
      have up : ∀ {a : Addr} {x : Value}, w5.cell? a = some x → ¬ a.block = m → w6.cell? a = some x := by
        intro a x hx hne
        exact (hc56.cell (a := a) (by obtain ⟨d, i, pt⟩ := a; rcases Nat.lt_or_ge d w5.heap.size with e | e; exact e; simp [World.cell?, Array.getElem?_eq_none e] at hx) hne).trans hx
      have hKm : ¬ w3.heap.size = m := by omega
      have e0 := up hmW HW5.out.1.ne
      have e1 := up k0 hKm
      have e2 := up k1 hKm
      have e3 := up k2 hKm
      have hb6 : w6.heap[w.heap.size + 1]? = some (.cells #[.int .u8 0, .int .u8 0, .string ⟨#[]⟩, .int .i64 0] 54 (0, 0)) := by rw [hc56.block _ (heapLt HW5.out.2.2.2.1) (by omega)]; exact HW5.out.2.2.2.1
      have HX6 : Hid (Tx w6 t m (L.erase ⟨cn, so, p⟩) ∧ Chg (fun k => k = m) w5 w6 ∧ w6.heap[w.heap.size + 1]? = some (.cells #[.int .u8 0, .int .u8 0, .string ⟨#[]⟩, .int .i64 0] 54 (0, 0))) := ⟨hX6, hc56, hb6⟩
      have hev6 := hev K Z
      clear hk0 hev hm6 hc6 hs6 hX6 hc56 up hlm hlt hge hw1 hb6
      go_upto_region 8 with fail
      go_region_held3 (fun w' => w'.cell? ⟨t, 0, none⟩ = some (.map (some m)) ∧ w'.cell? ⟨w3.heap.size, 0, none⟩ = some (.int .i64 cn) ∧ w'.cell? ⟨w3.heap.size, 1, none⟩ = some (.int .u8 so) ∧ w'.cell? ⟨w3.heap.size, 2, none⟩ = some (.string (mkS p)))
        (first | exact ⟨hmW, k0, k1, k2⟩ | exact ⟨e0, e1, e2, e3⟩ | go_keep)
        (fail)
      clear hrun6 hmW k0 k1 k2 e0
      go_wp2_with fail
      refine (hev6 _).mono ?_
      rintro e w7 ⟨rfl, hB7⟩
      have hb7 : w7.heap[w.heap.size + 1]? = some (.cells #[.int .u8 0, .int .u8 0, .string ⟨#[]⟩, .int .i64 0] 54 (0, 0)) := by rw [hB7.block _ (heapLt HX6.out.2.2)]; exact HX6.out.2.2
      have HB7 : Hid (Below w6.heap.size w6 w7) := hB7
      have c0 := cellAt hb7 0
      have f0 := frozenAt hb7 0
      have c1 := cellAt hb7 1
      have f1 := frozenAt hb7 1
      have c2 := cellAt hb7 2
      have f2 := frozenAt hb7 2
      have c3 := cellAt hb7 3
      have f3 := frozenAt hb7 3
      simp at c0 c1 c2 c3
      clear hev6 hB7 hb7 e1 e2 e3
      go_wp2_with fail
      refine bodyPost_ret (v := .tuple #[.agg #[.int .u8 K, .int .u8 so, .string (mkS p), .int .i64 Z], .bool true]) (by simp [results, Tryd.results16, go_sem, c0, c1, c2, c3, f0, f1, f2, f3]) rfl ?_
      have hc := chg_set4 (w := w7) (b := w.heap.size + 1) (.int .u8 K) (.int .u8 so) (.string (mkS p)) (.int .i64 Z)
      rw [HV.out.1, HV.out.2.1, HV.out.2.2]
      refine ⟨rfl, (HX6.out.1.below HB7.out).keep hc (by have := HF.out.2.2.2.2.2.2; omega) (by have := HF.out.2.2.2.2.2.1; omega), (((HW5.out.2.2.2.2.weak fun _ _ e => e.elim).trans HX6.out.2.1).trans ((Chg.of_below HB7.out).weak fun _ _ e => e.elim)).trans' hc fun k hk e => by omega⟩
end Go.Proofs.YtkbmbnfpadllmaaDoor.We
