/- The walk of DeedRight. -/
import Derived.Test.YtbbllgpocjipjaaGreatDoorRf5g
import Derived.Test.YtbbllgpocjipjaaGreatDoorDdZ
namespace Go.Proofs.YtbbllgpocjipjaaGreatDoor.DD
set_option linter.unusedVariables false
open Go.RowKit Go.Sort
set_option linter.unusedVariables false

theorem same_x {x y : Value} {la : List UInt8} {w : World} (hA : Bs w x la) (hB : Bs w y la) (hm : la.length ≤ 140737488355328) : Calls Tryz.prog 11 #[x, y] w fun e w' => e = .returned (.bool true) ∧ Below w.heap.size w w' := by
  refine (same_any hA hB hm).mono ?_
  rintro e w' ⟨rfl, q, rfl⟩
  exact ⟨by rw [decide_eq_true rfl], (Chg.drewN Non w q).below (fun _ h => h.elim) (Nat.le_refl _)⟩
theorem right_x (f : Fl) (ps : List Fl) (A1 A2 A3 : Option Addr) (c1 c2 c3 : Nat) (w : World) (R : Bool) (hL : PA.Laid w) (hv : DVal w f ps A1 c1 A2 c2 A3 c3) (hf : DedFit f ps) (hr : rightD f ps = R) :
    Calls Tryz.prog 9 #[.agg #[.int .i64 f.zxid, .int .u8 f.kind, .int .i64 f.session, .int .i64 f.turn, .int .i64 f.xid, .int .i64 f.time, .string (mkS f.path), .slice A1 f.data.length c1, .int .i64 f.owner, .int .i64 f.version, .int .i64 f.cversion, .int .i64 f.timeout, .int .i64 f.err, .int .i64 f.cver, .slice A2 f.mems.length c2, .slice A3 f.np c3]] w fun e w' => e = .returned (.bool R) ∧ Below w.heap.size w w' := by
  subst hr; exact right_any f ps A1 A2 A3 c1 c2 c3 w hL hv hf
theorem rright_x (f : Fl) (ps : List Fl) (A1 A2 A3 : Option Addr) (c1 c2 c3 : Nat) (w : World) (R : Bool) (hL : PA.Laid w) (hv : DVal w f ps A1 c1 A2 c2 A3 c3) (hf : DedFit f ps) (hl : f.np ≤ 9223372036854775807) (hr : rightD f ps = R) :
    Calls Tryz.prog 10 #[.agg #[.int .i64 f.zxid, .int .u8 f.kind, .int .i64 f.session, .int .i64 f.turn, .int .i64 f.xid, .int .i64 f.time, .string (mkS f.path), .slice A1 f.data.length c1, .int .i64 f.owner, .int .i64 f.version, .int .i64 f.cversion, .int .i64 f.timeout, .int .i64 f.err, .int .i64 f.cver, .slice A2 f.mems.length c2, .slice A3 f.np c3]] w fun e w' => e = .returned (.bool R) ∧ Below w.heap.size w w' := by
  subst hr; exact rright_any f ps A1 A2 A3 c1 c2 c3 w hL hv hf hl
set_option maxRecDepth 100000 in
set_option maxHeartbeats 4000000 in
theorem ryes (f : Fl) (ps : List Fl) (A1 A2 A3 : Option Addr) (c1 c2 c3 : Nat) (w : World) (hL : PA.Laid w) (hv : DVal w f ps A1 c1 A2 c2 A3 c3) (hf : DedFit f ps) (hl : f.np ≤ 9223372036854775807) (hr : rightD f ps = true) :
    Calls Tryz.prog 3 #[.agg #[.int .i64 f.zxid, .int .u8 f.kind, .int .i64 f.session, .int .i64 f.turn, .int .i64 f.xid, .int .i64 f.time, .string (mkS f.path), .slice A1 f.data.length c1, .int .i64 f.owner, .int .i64 f.version, .int .i64 f.cversion, .int .i64 f.timeout, .int .i64 f.err, .int .i64 f.cver, .slice A2 f.mems.length c2, .slice A3 f.np c3]] w fun e w' => e = .returned (.bool true) ∧ Below w.heap.size w w' := by
  have HL : Hid (PA.Laid w) := hL
  have HV : Hid (DVal w f ps A1 c1 A2 c2 A3 c3) := hv
  have HF : Hid (DedFit f ps) := hf
  have HR : Hid (rightD f ps = true) := hr
  obtain ⟨w1, hw1⟩ : ∃ X, X = w.alloc (.cells #[.int .i64 f.zxid, .int .u8 f.kind, .int .i64 f.session, .int .i64 f.turn, .int .i64 f.xid, .int .i64 f.time, .string (mkS f.path), .slice A1 f.data.length c1, .int .i64 f.owner, .int .i64 f.version, .int .i64 f.cversion, .int .i64 f.timeout, .int .i64 f.err, .int .i64 f.cver, .slice A2 f.mems.length c2, .slice A3 f.np c3] 31) := ⟨_, rfl⟩
  have hB1 : Below w.heap.size w w1 := by rw [hw1]; exact (Below.refl _ _).alloc (Nat.le_refl _) _
  have HB1 : Hid (Below w.heap.size w w1) := hB1
  have HC1 : Hid (w1.heap[w.heap.size]? = some (.cells #[.int .i64 f.zxid, .int .u8 f.kind, .int .i64 f.session, .int .i64 f.turn, .int .i64 f.xid, .int .i64 f.time, .string (mkS f.path), .slice A1 f.data.length c1, .int .i64 f.owner, .int .i64 f.version, .int .i64 f.cversion, .int .i64 f.timeout, .int .i64 f.err, .int .i64 f.cver, .slice A2 f.mems.length c2, .slice A3 f.np c3] 31 (0, 0))) := by rw [hw1]; exact heap_alloc_new w _
  have hgr := great_any f ps A1 A2 A3 c1 c2 c3 w1 (hv.grow hB1) hf.len hl
  rw [hw1] at hgr
  clear hB1 hL hv hf hr
  go_enter Tryz.func3, Tryz.ntmps3
  go_wp2_with fail
  refine hgr.mono ?_
  rintro e w2 ⟨⟨bb, rfl⟩, hB2⟩
  rw [← hw1] at hB2
  have HB2 : Hid (Below w.heap.size w w2) := HB1.out.trans (hB2.mono HB1.out.size)
  have HC2 : Hid (w2.heap[w.heap.size]? = some (.cells #[.int .i64 f.zxid, .int .u8 f.kind, .int .i64 f.session, .int .i64 f.turn, .int .i64 f.xid, .int .i64 f.time, .string (mkS f.path), .slice A1 f.data.length c1, .int .i64 f.owner, .int .i64 f.version, .int .i64 f.cversion, .int .i64 f.timeout, .int .i64 f.err, .int .i64 f.cver, .slice A2 f.mems.length c2, .slice A3 f.np c3] 31 (0, 0))) := by show _ = _; rw [hB2.block _ (heap_lt HC1.out)]; exact HC1.out
  clear hgr hB2 hw1 HB1 HC1
  cases bb with
  | true =>
    have ha := awake_any w2 (HL.out.below HB2.out)
    as_aux_lemma =>
    go_wp2_with fail
    refine ha.mono ?_
    rintro e w3 ⟨rfl, hB3⟩
    have HB3 : Hid (Below w.heap.size w w3) := HB2.out.trans (hB3.mono HB2.out.size)
    clear ha hB3
    go_wp2
    go_ret
    exact ⟨rfl, HB3.out⟩
  | false =>
    as_aux_lemma =>
    have hp := put_yes' f ps A1 A2 A3 c1 c2 c3 w2 (HL.out.below HB2.out) (HV.out.grow HB2.out) HF.out HR.out
    obtain ⟨z0, z1, z2, z3, z4, z5, z6, z7, z8, z9, z10, z11, z12, z13, z14, z15⟩ := cells16 HC2.out
    go_wp2_with fail
    refine hp.mono ?_
    rintro e w3 ⟨x, rfl, hN⟩
    have hB3 := hN.below
    have HB3 : Hid (Below w.heap.size w w3) := HB2.out.trans (hB3.mono HB2.out.size)
    have HC3 : Hid (w3.heap[w.heap.size]? = some (.cells #[.int .i64 f.zxid, .int .u8 f.kind, .int .i64 f.session, .int .i64 f.turn, .int .i64 f.xid, .int .i64 f.time, .string (mkS f.path), .slice A1 f.data.length c1, .int .i64 f.owner, .int .i64 f.version, .int .i64 f.cversion, .int .i64 f.timeout, .int .i64 f.err, .int .i64 f.cver, .slice A2 f.mems.length c2, .slice A3 f.np c3] 31 (0, 0))) := by show _ = _; rw [hB3.block _ (heap_lt HC2.out)]; exact HC2.out
    obtain ⟨AX, CX, rfl⟩ := bs_form hN.bs
    have HX3 : Hid (Bs w3 (.slice AX (deedB f ps).length CX) (deedB f ps)) := hN.bs
    clear hp hB3 hN HB2 HC2 z0 z1 z2 z3 z4 z5 z6 z7 z8 z9 z10 z11 z12 z13 z14 z15
    as_aux_lemma =>
    have hp := rput_yes f ps A1 A2 A3 c1 c2 c3 w3 (HL.out.below HB3.out) (HV.out.grow HB3.out) HF.out hl HR.out
    obtain ⟨z0, z1, z2, z3, z4, z5, z6, z7, z8, z9, z10, z11, z12, z13, z14, z15⟩ := cells16 HC3.out
    go_wp2_with fail
    refine hp.mono ?_
    rintro e w4 ⟨y, rfl, hN⟩
    have hB4 := hN.below
    have HB4 : Hid (Below w.heap.size w w4) := HB3.out.trans (hB4.mono HB3.out.size)
    have HC4 : Hid (w4.heap[w.heap.size]? = some (.cells #[.int .i64 f.zxid, .int .u8 f.kind, .int .i64 f.session, .int .i64 f.turn, .int .i64 f.xid, .int .i64 f.time, .string (mkS f.path), .slice A1 f.data.length c1, .int .i64 f.owner, .int .i64 f.version, .int .i64 f.cversion, .int .i64 f.timeout, .int .i64 f.err, .int .i64 f.cver, .slice A2 f.mems.length c2, .slice A3 f.np c3] 31 (0, 0))) := by show _ = _; rw [hB4.block _ (heap_lt HC3.out)]; exact HC3.out
    obtain ⟨AY, CY, rfl⟩ := bs_form hN.bs
    have HX4 : Hid (Bs w4 (.slice AX (deedB f ps).length CX) (deedB f ps)) := Bs.below' HX3.out hB4
    have HY4 : Hid (Bs w4 (.slice AY (deedB f ps).length CY) (deedB f ps)) := hN.bs
    clear hp hB4 hN HB3 HC3 HX3 z0 z1 z2 z3 z4 z5 z6 z7 z8 z9 z10 z11 z12 z13 z14 z15
    as_aux_lemma =>
    have hdl := deed_len HF.out (rightD_fits HR.out)
    have HD : Hid ((deedB f ps).length ≤ 700000) := hdl
    clear hdl
    have rQ := fun d os => Calls.regrown_of (right_x f ps A1 A2 A3 c1 c2 c3 (grow (redrawn w4 d) os) true (HL.out.below (below_rg' HB4.out d os)) (HV.out.grow (below_rg' HB4.out d os)) HF.out HR.out)
    have sQ := fun d os => Calls.regrown_of (rright_x f ps A1 A2 A3 c1 c2 c3 (grow (redrawn w4 d) os) true (HL.out.below (below_rg' HB4.out d os)) (HV.out.grow (below_rg' HB4.out d os)) HF.out hl HR.out)
    have mQ := fun d os => Calls.regrown_of (same_x (w := grow (redrawn w4 d) os) (Bs.below' HX4.out (below_regrown w4 d os)) (Bs.below' HY4.out (below_regrown w4 d os)) (by have := HD.out; omega))
    have aQ := fun d os => Calls.regrown_of (awake_any (grow (redrawn w4 d) os) (HL.out.below (below_rg' HB4.out d os)))
    obtain ⟨z0, z1, z2, z3, z4, z5, z6, z7, z8, z9, z10, z11, z12, z13, z14, z15⟩ := cells16 HC4.out
    have z0 := fun d os => cell_regrown z0 d os
    have z1 := fun d os => cell_regrown z1 d os
    have z2 := fun d os => cell_regrown z2 d os
    have z3 := fun d os => cell_regrown z3 d os
    have z4 := fun d os => cell_regrown z4 d os
    have z5 := fun d os => cell_regrown z5 d os
    have z6 := fun d os => cell_regrown z6 d os
    have z7 := fun d os => cell_regrown z7 d os
    have z8 := fun d os => cell_regrown z8 d os
    have z9 := fun d os => cell_regrown z9 d os
    have z10 := fun d os => cell_regrown z10 d os
    have z11 := fun d os => cell_regrown z11 d os
    have z12 := fun d os => cell_regrown z12 d os
    have z13 := fun d os => cell_regrown z13 d os
    have z14 := fun d os => cell_regrown z14 d os
    have z15 := fun d os => cell_regrown z15 d os
    go_wp2_with fail
    as_aux_lemma =>
    refine wp_region_quiet_below (by kernel_rfl) (by kernel_rfl) ?_
    repeat (go_big_quiet_step (first | (go_at_call 9; exact rQ _ _) | (go_at_call 10; exact sQ _ _) | (go_at_call 11; exact mQ _ _) | (go_at_call 6; exact aQ _ _)))
    refine wpQuiet_nil ?_
    intro _ hw'
    obtain ⟨⟨dq, osq⟩, hw''⟩ := hw'
    subst hw''
    have HBq : Hid (Below w.heap.size w (grow (redrawn w4 dq) osq)) := below_rg' HB4.out dq osq
    clear z0 z1 z2 z3 z4 z5 z6 z7 z8 z9 z10 z11 z12 z13 z14 z15 rQ sQ mQ aQ
    go_wp2
    go_ret
    exact ⟨rfl, HBq.out⟩
set_option maxRecDepth 100000 in
set_option maxHeartbeats 4000000 in
theorem rno (f : Fl) (ps : List Fl) (A1 A2 A3 : Option Addr) (c1 c2 c3 : Nat) (w : World) (hL : PA.Laid w) (hv : DVal w f ps A1 c1 A2 c2 A3 c3) (hf : DedFit f ps) (hl : f.np ≤ 9223372036854775807) (hr : rightD f ps = false) :
    Calls Tryz.prog 3 #[.agg #[.int .i64 f.zxid, .int .u8 f.kind, .int .i64 f.session, .int .i64 f.turn, .int .i64 f.xid, .int .i64 f.time, .string (mkS f.path), .slice A1 f.data.length c1, .int .i64 f.owner, .int .i64 f.version, .int .i64 f.cversion, .int .i64 f.timeout, .int .i64 f.err, .int .i64 f.cver, .slice A2 f.mems.length c2, .slice A3 f.np c3]] w fun e w' => e = .returned (.bool true) ∧ Below w.heap.size w w' := by
  have HL : Hid (PA.Laid w) := hL
  have HV : Hid (DVal w f ps A1 c1 A2 c2 A3 c3) := hv
  have HF : Hid (DedFit f ps) := hf
  have HR : Hid (rightD f ps = false) := hr
  obtain ⟨w1, hw1⟩ : ∃ X, X = w.alloc (.cells #[.int .i64 f.zxid, .int .u8 f.kind, .int .i64 f.session, .int .i64 f.turn, .int .i64 f.xid, .int .i64 f.time, .string (mkS f.path), .slice A1 f.data.length c1, .int .i64 f.owner, .int .i64 f.version, .int .i64 f.cversion, .int .i64 f.timeout, .int .i64 f.err, .int .i64 f.cver, .slice A2 f.mems.length c2, .slice A3 f.np c3] 31) := ⟨_, rfl⟩
  have hB1 : Below w.heap.size w w1 := by rw [hw1]; exact (Below.refl _ _).alloc (Nat.le_refl _) _
  have HB1 : Hid (Below w.heap.size w w1) := hB1
  have HC1 : Hid (w1.heap[w.heap.size]? = some (.cells #[.int .i64 f.zxid, .int .u8 f.kind, .int .i64 f.session, .int .i64 f.turn, .int .i64 f.xid, .int .i64 f.time, .string (mkS f.path), .slice A1 f.data.length c1, .int .i64 f.owner, .int .i64 f.version, .int .i64 f.cversion, .int .i64 f.timeout, .int .i64 f.err, .int .i64 f.cver, .slice A2 f.mems.length c2, .slice A3 f.np c3] 31 (0, 0))) := by rw [hw1]; exact heap_alloc_new w _
  have hgr := great_any f ps A1 A2 A3 c1 c2 c3 w1 (hv.grow hB1) hf.len hl
  rw [hw1] at hgr
  clear hB1 hL hv hf hr
  go_enter Tryz.func3, Tryz.ntmps3
  go_wp2_with fail
  refine hgr.mono ?_
  rintro e w2 ⟨⟨bb, rfl⟩, hB2⟩
  rw [← hw1] at hB2
  have HB2 : Hid (Below w.heap.size w w2) := HB1.out.trans (hB2.mono HB1.out.size)
  have HC2 : Hid (w2.heap[w.heap.size]? = some (.cells #[.int .i64 f.zxid, .int .u8 f.kind, .int .i64 f.session, .int .i64 f.turn, .int .i64 f.xid, .int .i64 f.time, .string (mkS f.path), .slice A1 f.data.length c1, .int .i64 f.owner, .int .i64 f.version, .int .i64 f.cversion, .int .i64 f.timeout, .int .i64 f.err, .int .i64 f.cver, .slice A2 f.mems.length c2, .slice A3 f.np c3] 31 (0, 0))) := by show _ = _; rw [hB2.block _ (heap_lt HC1.out)]; exact HC1.out
  clear hgr hB2 hw1 HB1 HC1
  cases bb with
  | true =>
    have ha := awake_any w2 (HL.out.below HB2.out)
    as_aux_lemma =>
    go_wp2_with fail
    refine ha.mono ?_
    rintro e w3 ⟨rfl, hB3⟩
    have HB3 : Hid (Below w.heap.size w w3) := HB2.out.trans (hB3.mono HB2.out.size)
    clear ha hB3
    go_wp2
    go_ret
    exact ⟨rfl, HB3.out⟩
  | false =>
    as_aux_lemma =>
    have hp := put_no' f ps A1 A2 A3 c1 c2 c3 w2 (HL.out.below HB2.out) (HV.out.grow HB2.out) HF.out HR.out
    obtain ⟨z0, z1, z2, z3, z4, z5, z6, z7, z8, z9, z10, z11, z12, z13, z14, z15⟩ := cells16 HC2.out
    go_wp2_with fail
    refine hp.mono ?_
    rintro e w3 ⟨rfl, hB3⟩
    have HB3 : Hid (Below w.heap.size w w3) := HB2.out.trans (hB3.mono HB2.out.size)
    have HC3 : Hid (w3.heap[w.heap.size]? = some (.cells #[.int .i64 f.zxid, .int .u8 f.kind, .int .i64 f.session, .int .i64 f.turn, .int .i64 f.xid, .int .i64 f.time, .string (mkS f.path), .slice A1 f.data.length c1, .int .i64 f.owner, .int .i64 f.version, .int .i64 f.cversion, .int .i64 f.timeout, .int .i64 f.err, .int .i64 f.cver, .slice A2 f.mems.length c2, .slice A3 f.np c3] 31 (0, 0))) := by show _ = _; rw [hB3.block _ (heap_lt HC2.out)]; exact HC2.out
    clear hp hB3 HB2 HC2 z0 z1 z2 z3 z4 z5 z6 z7 z8 z9 z10 z11 z12 z13 z14 z15
    as_aux_lemma =>
    have hp := rput_no f ps A1 A2 A3 c1 c2 c3 w3 (HL.out.below HB3.out) (HV.out.grow HB3.out) HF.out hl HR.out
    obtain ⟨z0, z1, z2, z3, z4, z5, z6, z7, z8, z9, z10, z11, z12, z13, z14, z15⟩ := cells16 HC3.out
    go_wp2_with fail
    refine hp.mono ?_
    rintro e w4 ⟨rfl, hB4⟩
    have HB4 : Hid (Below w.heap.size w w4) := HB3.out.trans (hB4.mono HB3.out.size)
    have HC4 : Hid (w4.heap[w.heap.size]? = some (.cells #[.int .i64 f.zxid, .int .u8 f.kind, .int .i64 f.session, .int .i64 f.turn, .int .i64 f.xid, .int .i64 f.time, .string (mkS f.path), .slice A1 f.data.length c1, .int .i64 f.owner, .int .i64 f.version, .int .i64 f.cversion, .int .i64 f.timeout, .int .i64 f.err, .int .i64 f.cver, .slice A2 f.mems.length c2, .slice A3 f.np c3] 31 (0, 0))) := by show _ = _; rw [hB4.block _ (heap_lt HC3.out)]; exact HC3.out
    clear hp hB4 HB3 HC3 z0 z1 z2 z3 z4 z5 z6 z7 z8 z9 z10 z11 z12 z13 z14 z15
    as_aux_lemma =>
    have rQ := fun d os => Calls.regrown_of (right_x f ps A1 A2 A3 c1 c2 c3 (grow (redrawn w4 d) os) false (HL.out.below (below_rg' HB4.out d os)) (HV.out.grow (below_rg' HB4.out d os)) HF.out HR.out)
    have sQ := fun d os => Calls.regrown_of (rright_x f ps A1 A2 A3 c1 c2 c3 (grow (redrawn w4 d) os) false (HL.out.below (below_rg' HB4.out d os)) (HV.out.grow (below_rg' HB4.out d os)) HF.out hl HR.out)
    have mQ := fun d os => Calls.regrown_of (same_x (Bs.nil (grow (redrawn w4 d) os)) (Bs.nil (grow (redrawn w4 d) os)) (by simp))
    have aQ := fun d os => Calls.regrown_of (awake_any (grow (redrawn w4 d) os) (HL.out.below (below_rg' HB4.out d os)))
    obtain ⟨z0, z1, z2, z3, z4, z5, z6, z7, z8, z9, z10, z11, z12, z13, z14, z15⟩ := cells16 HC4.out
    have z0 := fun d os => cell_regrown z0 d os
    have z1 := fun d os => cell_regrown z1 d os
    have z2 := fun d os => cell_regrown z2 d os
    have z3 := fun d os => cell_regrown z3 d os
    have z4 := fun d os => cell_regrown z4 d os
    have z5 := fun d os => cell_regrown z5 d os
    have z6 := fun d os => cell_regrown z6 d os
    have z7 := fun d os => cell_regrown z7 d os
    have z8 := fun d os => cell_regrown z8 d os
    have z9 := fun d os => cell_regrown z9 d os
    have z10 := fun d os => cell_regrown z10 d os
    have z11 := fun d os => cell_regrown z11 d os
    have z12 := fun d os => cell_regrown z12 d os
    have z13 := fun d os => cell_regrown z13 d os
    have z14 := fun d os => cell_regrown z14 d os
    have z15 := fun d os => cell_regrown z15 d os
    go_wp2_with fail
    as_aux_lemma =>
    refine wp_region_quiet_below (by kernel_rfl) (by kernel_rfl) ?_
    repeat (go_big_quiet_step (first | (go_at_call 9; exact rQ _ _) | (go_at_call 10; exact sQ _ _) | (go_at_call 11; exact mQ _ _) | (go_at_call 6; exact aQ _ _)))
    refine wpQuiet_nil ?_
    intro _ hw'
    obtain ⟨⟨dq, osq⟩, hw''⟩ := hw'
    subst hw''
    have HBq : Hid (Below w.heap.size w (grow (redrawn w4 dq) osq)) := below_rg' HB4.out dq osq
    clear z0 z1 z2 z3 z4 z5 z6 z7 z8 z9 z10 z11 z12 z13 z14 z15 rQ sQ mQ aQ
    go_wp2
    go_ret
    exact ⟨rfl, HBq.out⟩
theorem lright_any (f : Fl) (ps : List Fl) (A1 A2 A3 : Option Addr) (c1 c2 c3 : Nat) (w : World) (hL : PA.Laid w) (hv : DVal w f ps A1 c1 A2 c2 A3 c3) (hf : DedFit f ps) (hl : f.np ≤ 9223372036854775807) :
    Calls Tryz.prog 3 #[.agg #[.int .i64 f.zxid, .int .u8 f.kind, .int .i64 f.session, .int .i64 f.turn, .int .i64 f.xid, .int .i64 f.time, .string (mkS f.path), .slice A1 f.data.length c1, .int .i64 f.owner, .int .i64 f.version, .int .i64 f.cversion, .int .i64 f.timeout, .int .i64 f.err, .int .i64 f.cver, .slice A2 f.mems.length c2, .slice A3 f.np c3]] w fun e w' => e = .returned (.bool true) ∧ Below w.heap.size w w' := by
  cases hr : rightD f ps with
  | true => exact ryes f ps A1 A2 A3 c1 c2 c3 w hL hv hf hl hr
  | false => exact rno f ps A1 A2 A3 c1 c2 c3 w hL hv hf hl hr
end Go.Proofs.YtbbllgpocjipjaaGreatDoor.DD
