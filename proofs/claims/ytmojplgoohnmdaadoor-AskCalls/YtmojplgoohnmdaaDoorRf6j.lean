/- The walks of great and of the statement AskCalls. -/
import Derived.Test.YtmojplgoohnmdaaDoorRf6i
import Derived.Lib.QuietBelow
import Derived.BigQuiet
import Derived.Deep.DrawnRows
import Derived.Deep.RegionHeld3
namespace Go.Proofs.YtmojplgoohnmdaaDoor.AK
set_option linter.unusedSimpArgs false
set_option linter.unusedVariables false
open Go.RowKit Go.Sort
set_option linter.unusedVariables false
set_option linter.unusedSimpArgs false

def IsBoolQ (e : Ending) : Prop := ∃ b, e = .returned (.bool b)
theorem below_rgq {w w' : World} (h : Below w.heap.size w w') (d : Nat) (os : Array Obj) : Below w.heap.size w (grow (redrawn w' d) os) := h.trans ((below_regrown w' d os).mono h.size)
set_option maxRecDepth 100000 in
set_option maxHeartbeats 4000000 in
theorem great_any (f : Qf) (ps : List Qf) (A1 A2 A3 : Option Addr) (c1 c2 c3 : Nat) (w : World) (hv : QVal w f ps A1 c1 A2 c2 A3 c3) (hf : AskFit f ps) (hl : f.np ≤ 9223372036854775807) :
    Calls Tryd.prog 7 #[.agg #[.int .u8 f.kind, .int .i64 f.xid, .int .i64 f.session, .int .i64 f.turn, .string (mkS f.path), .slice A1 f.data.length c1, .int .i64 f.flags, .int .i64 f.version, .bool f.watch, .int .u8 f.sort, .int .i64 f.last, .int .i64 f.timeout, .int .i64 f.frm, .slice A2 f.mems.length c2, .slice A3 f.np c3]] w fun e w' => IsBoolQ e ∧ Below w.heap.size w w' := by
  have HPR : Hid (QPrts w w.heap.size (.slice A3 f.np c3) ps) := hv.pr
  have HN : Hid (f.np = ps.length) := hf.len
  obtain ⟨w1, hw1⟩ : ∃ X, X = w.alloc (.cells #[.int .u8 f.kind, .int .i64 f.xid, .int .i64 f.session, .int .i64 f.turn, .string (mkS f.path), .slice A1 f.data.length c1, .int .i64 f.flags, .int .i64 f.version, .bool f.watch, .int .u8 f.sort, .int .i64 f.last, .int .i64 f.timeout, .int .i64 f.frm, .slice A2 f.mems.length c2, .slice A3 f.np c3] 29) := ⟨_, rfl⟩
  have hB1 : Below w.heap.size w w1 := by rw [hw1]; exact (Below.refl _ _).alloc (Nat.le_refl _) _
  have HB1 : Hid (Below w.heap.size w (w.alloc (.cells #[.int .u8 f.kind, .int .i64 f.xid, .int .i64 f.session, .int .i64 f.turn, .string (mkS f.path), .slice A1 f.data.length c1, .int .i64 f.flags, .int .i64 f.version, .bool f.watch, .int .u8 f.sort, .int .i64 f.last, .int .i64 f.timeout, .int .i64 f.frm, .slice A2 f.mems.length c2, .slice A3 f.np c3] 29))) := by rw [← hw1]; exact hB1
  have HC1 : Hid ((w.alloc (.cells #[.int .u8 f.kind, .int .i64 f.xid, .int .i64 f.session, .int .i64 f.turn, .string (mkS f.path), .slice A1 f.data.length c1, .int .i64 f.flags, .int .i64 f.version, .bool f.watch, .int .u8 f.sort, .int .i64 f.last, .int .i64 f.timeout, .int .i64 f.frm, .slice A2 f.mems.length c2, .slice A3 f.np c3] 29)).heap[w.heap.size]? = some (.cells #[.int .u8 f.kind, .int .i64 f.xid, .int .i64 f.session, .int .i64 f.turn, .string (mkS f.path), .slice A1 f.data.length c1, .int .i64 f.flags, .int .i64 f.version, .bool f.watch, .int .u8 f.sort, .int .i64 f.last, .int .i64 f.timeout, .int .i64 f.frm, .slice A2 f.mems.length c2, .slice A3 f.np c3] 29 (0, 0))) := heap_alloc_new w _
  clear hv hf hw1 hB1 w1
  go_enter Tryd.func7, Tryd.ntmps7
  go_wp2_with fail
  go_loopw [3, 4] (fun a c wr => ∃ (n : Int) (k : Nat), k ≤ f.np ∧ a = .int .i64 n ∧ c = .int .i64 k ∧ Below w.heap.size w wr ∧ wr.heap[w.heap.size]? = some (.cells #[.int .u8 f.kind, .int .i64 f.xid, .int .i64 f.session, .int .i64 f.turn, .string (mkS f.path), .slice A1 f.data.length c1, .int .i64 f.flags, .int .i64 f.version, .bool f.watch, .int .u8 f.sort, .int .i64 f.last, .int .i64 f.timeout, .int .i64 f.frm, .slice A2 f.mems.length c2, .slice A3 f.np c3] 29 (0, 0))) (fun _ c _ => f.np - (intOf c).toNat)
  case atStart => exact ⟨_, 0, by omega, rfl, rfl, HB1.out, HC1.out⟩
  case round =>
    obtain ⟨n, k, hk, rfl, rfl, hBr, hCr⟩ := hrel
    have HBr : Hid (Below w.heap.size w wr) := hBr
    have HCr : Hid (wr.heap[w.heap.size]? = some (.cells #[.int .u8 f.kind, .int .i64 f.xid, .int .i64 f.session, .int .i64 f.turn, .string (mkS f.path), .slice A1 f.data.length c1, .int .i64 f.flags, .int .i64 f.version, .bool f.watch, .int .u8 f.sort, .int .i64 f.last, .int .i64 f.timeout, .int .i64 f.frm, .slice A2 f.mems.length c2, .slice A3 f.np c3] 29 (0, 0))) := hCr
    clear hBr hCr HB1 HC1
    obtain ⟨z0, z1, z2, z3, z4, z5, z6, z7, z8, z9, z10, z11, z12, z13, z14⟩ := cells15 HCr.out
    by_cases hlt : k < f.np
    · by_cases hn : n ≤ 60000
      · have hkl : k < ps.length := by have := HN.out; omega
        obtain ⟨bb, oo, hA3, -, -, B1, d1, B2, d2, B3, d3, hcl, -⟩ := (HPR.out.below HBr.out).at' k hkl
        generalize (ps[k]'hkl) = p at hcl
        obtain ⟨-, -, -, -, y4, y5, -, -, -, -, -, -, -, y13, y14⟩ := hcl
        rw [hA3] at z14
        clear hA3 z0 z1 z2 z3 z4 z5 z6 z7 z8 z9 z10 z11 z12 z13
        have y4 := fun d os => cell_regrown y4 d os
        have y5 := fun d os => cell_regrown y5 d os
        have y13 := fun d os => cell_regrown y13 d os
        have y14 := fun d os => cell_regrown y14 d os
        have x14 := fun d os => cell_regrown z14 d os
        go_wp2_with fail
        refine wp_region_quiet_below (by kernel_rfl) (by kernel_rfl) ?_
        repeat (go_big_quiet_step (fail))
        refine wpQuiet_nil ?_
        intro _ hw'
        obtain ⟨⟨dq, osq⟩, hw''⟩ := hw'
        subst hw''
        have HB3 : Hid (Below w.heap.size w (grow (redrawn wr dq) osq)) := below_rgq HBr.out dq osq
        have HC3 : Hid ((grow (redrawn wr dq) osq).heap[w.heap.size]? = some (.cells #[.int .u8 f.kind, .int .i64 f.xid, .int .i64 f.session, .int .i64 f.turn, .string (mkS f.path), .slice A1 f.data.length c1, .int .i64 f.flags, .int .i64 f.version, .bool f.watch, .int .u8 f.sort, .int .i64 f.last, .int .i64 f.timeout, .int .i64 f.frm, .slice A2 f.mems.length c2, .slice A3 f.np c3] 29 (0, 0))) := by
          show _ = _
          rw [(below_regrown wr dq osq).block _ (heap_lt HCr.out)]
          exact HCr.out
        clear y4 y5 y13 y14 x14 z14
        go_wp2_with fail
        exact ⟨⟨_, k + 1, by omega, rfl, by go_num, HB3.out, HC3.out⟩, by simp [intOf]; omega⟩
      · go_wp2_with fail
        all_goals (go_ret; exact ⟨⟨_, rfl⟩, HBr.out⟩)
    · go_wp2_with fail
      all_goals (go_ret; exact ⟨⟨_, rfl⟩, HBr.out⟩)
theorem right_x (f : Qf) (ps : List Qf) (A1 A2 A3 : Option Addr) (c1 c2 c3 : Nat) (w : World) (hv : QVal w f ps A1 c1 A2 c2 A3 c3) (hf : AskFit f ps) (hl : f.np ≤ 9223372036854775807) (hL : QL w) (R : Bool) (hr : rightQ f ps = R) : Calls Tryd.prog 11 #[.agg #[.int .u8 f.kind, .int .i64 f.xid, .int .i64 f.session, .int .i64 f.turn, .string (mkS f.path), .slice A1 f.data.length c1, .int .i64 f.flags, .int .i64 f.version, .bool f.watch, .int .u8 f.sort, .int .i64 f.last, .int .i64 f.timeout, .int .i64 f.frm, .slice A2 f.mems.length c2, .slice A3 f.np c3]] w fun e w' => e = .returned (.bool R) ∧ Below w.heap.size w w' := by
  rw [← hr]; exact right_any f ps A1 A2 A3 c1 c2 c3 w hL hv hf hl
theorem rright_x (f : Qf) (ps : List Qf) (A1 A2 A3 : Option Addr) (c1 c2 c3 : Nat) (w : World) (hv : QVal w f ps A1 c1 A2 c2 A3 c3) (hf : AskFit f ps) (hl : f.np ≤ 9223372036854775807) (R : Bool) (hr : rightQ f ps = R) : Calls Tryd.prog 12 #[.agg #[.int .u8 f.kind, .int .i64 f.xid, .int .i64 f.session, .int .i64 f.turn, .string (mkS f.path), .slice A1 f.data.length c1, .int .i64 f.flags, .int .i64 f.version, .bool f.watch, .int .u8 f.sort, .int .i64 f.last, .int .i64 f.timeout, .int .i64 f.frm, .slice A2 f.mems.length c2, .slice A3 f.np c3]] w fun e w' => e = .returned (.bool R) ∧ Below w.heap.size w w' := by
  rw [← hr, ← docRight_eq hf]; exact rright_any f ps A1 A2 A3 c1 c2 c3 w hv hf hl
theorem same_x {x y : Value} {la : List UInt8} {w : World} (hA : Bs w x la) (hB : Bs w y la) (hm : la.length ≤ 140737488355328) : Calls Tryd.prog 13 #[x, y] w fun e w' => e = .returned (.bool true) ∧ Below w.heap.size w w' := by
  have h := same_any hA hB hm
  rw [decide_eq_true rfl] at h
  refine h.mono ?_
  rintro e w' ⟨rfl, q, rfl⟩
  exact ⟨rfl, drewN_below w q⟩
set_option maxRecDepth 100000 in
set_option maxHeartbeats 4000000 in
theorem lcalls_any (f : Qf) (ps : List Qf) (A1 A2 A3 : Option Addr) (c1 c2 c3 : Nat) (w : World) (hv : QVal w f ps A1 c1 A2 c2 A3 c3) (hf : AskFit f ps) (hl : f.np ≤ 9223372036854775807) (hL : QL w) :
    Calls Tryd.prog 3 #[.agg #[.int .u8 f.kind, .int .i64 f.xid, .int .i64 f.session, .int .i64 f.turn, .string (mkS f.path), .slice A1 f.data.length c1, .int .i64 f.flags, .int .i64 f.version, .bool f.watch, .int .u8 f.sort, .int .i64 f.last, .int .i64 f.timeout, .int .i64 f.frm, .slice A2 f.mems.length c2, .slice A3 f.np c3]] w fun e w' => e = .returned (.bool true) ∧ Below w.heap.size w w' := by
  have HL : Hid (QL w) := hL
  have HV : Hid (QVal w f ps A1 c1 A2 c2 A3 c3) := hv
  have HF : Hid (AskFit f ps) := hf
  have HNL : Hid (f.np ≤ 9223372036854775807) := hl
  obtain ⟨w1, hw1⟩ : ∃ X, X = w.alloc (.cells #[.int .u8 f.kind, .int .i64 f.xid, .int .i64 f.session, .int .i64 f.turn, .string (mkS f.path), .slice A1 f.data.length c1, .int .i64 f.flags, .int .i64 f.version, .bool f.watch, .int .u8 f.sort, .int .i64 f.last, .int .i64 f.timeout, .int .i64 f.frm, .slice A2 f.mems.length c2, .slice A3 f.np c3] 29) := ⟨_, rfl⟩
  have hB1 : Below w.heap.size w w1 := by rw [hw1]; exact (Below.refl _ _).alloc (Nat.le_refl _) _
  have HC1 : Hid (w1.heap[w.heap.size]? = some (.cells #[.int .u8 f.kind, .int .i64 f.xid, .int .i64 f.session, .int .i64 f.turn, .string (mkS f.path), .slice A1 f.data.length c1, .int .i64 f.flags, .int .i64 f.version, .bool f.watch, .int .u8 f.sort, .int .i64 f.last, .int .i64 f.timeout, .int .i64 f.frm, .slice A2 f.mems.length c2, .slice A3 f.np c3] 29 (0, 0))) := by rw [hw1]; exact heap_alloc_new w _
  have HB1 : Hid (Below w.heap.size w w1) := hB1
  have HK : Hid (∀ w', Below w1.heap.size w1 w' → Below w.heap.size w w' ∧ w'.heap[w.heap.size]? = some (.cells #[.int .u8 f.kind, .int .i64 f.xid, .int .i64 f.session, .int .i64 f.turn, .string (mkS f.path), .slice A1 f.data.length c1, .int .i64 f.flags, .int .i64 f.version, .bool f.watch, .int .u8 f.sort, .int .i64 f.last, .int .i64 f.timeout, .int .i64 f.frm, .slice A2 f.mems.length c2, .slice A3 f.np c3] 29 (0, 0)) ∧ QVal w' f ps A1 c1 A2 c2 A3 c3 ∧ QL w') := fun w' hB => by
    have hB' := HB1.out.trans (hB.mono HB1.out.size)
    exact ⟨hB', by rw [hB.block _ (heap_lt HC1.out)]; exact HC1.out, HV.out.grow hB', HL.out.below hB'⟩
  have hgt := great_any f ps A1 A2 A3 c1 c2 c3 w1 (hv.grow hB1) hf hl
  rw [hw1] at hgt
  clear hv hf hB1 hL hl
  go_enter Tryd.func3, Tryd.ntmps3
  go_wp2_with fail
  refine hgt.mono ?_
  rintro e w2 ⟨⟨B, rfl⟩, hB2⟩
  rw [← hw1] at hB2
  have HB2 : Hid (Below w1.heap.size w1 w2) := hB2
  clear hgt hB2 hw1
  cases B with
  | true =>
    have hc := awakeQ_any w2 (HK.out w2 HB2.out).2.2.2
    go_wp2_with fail
    refine hc.mono ?_
    rintro e w3 ⟨rfl, hB3⟩
    have HE : Hid (Below w.heap.size w w3) := (HK.out w3 (HB2.out.trans (hB3.mono HB2.out.size))).1
    clear hc hB3
    go_wp2
    go_ret
    exact ⟨rfl, HE.out⟩
  | false =>
  obtain ⟨z0, z1, z2, z3, z4, z5, z6, z7, z8, z9, z10, z11, z12, z13, z14⟩ := cells15 (HK.out w2 HB2.out).2.1
  cases hr : rightQ f ps with
  | true =>
    have HR : Hid (rightQ f ps = true) := hr
    have HDL : Hid ((askB f ps).length ≤ 140737488355328) := by have := askB_len HF.out hr; show _ ≤ _; omega
    have hc := put_yes f ps A1 A2 A3 c1 c2 c3 w2 (HK.out w2 HB2.out).2.2.2 (HK.out w2 HB2.out).2.2.1 HF.out HNL.out hr
    clear hr
    go_wp2_with fail
    refine hc.mono ?_
    rintro e w3 ⟨x, rfl, hN⟩
    have HX3 : Hid (Bs w3 x (askB f ps)) := hN.bs
    have HB3 : Hid (Below w1.heap.size w1 w3) := HB2.out.trans (hN.below.mono HB2.out.size)
    obtain ⟨AX, CX, rfl⟩ := bs_form hN.bs
    clear hc hN z0 z1 z2 z3 z4 z5 z6 z7 z8 z9 z10 z11 z12 z13 z14
    obtain ⟨z0, z1, z2, z3, z4, z5, z6, z7, z8, z9, z10, z11, z12, z13, z14⟩ := cells15 (HK.out w3 HB3.out).2.1
    have hc := rput_yes f ps A1 A2 A3 c1 c2 c3 w3 (HK.out w3 HB3.out).2.2.1 HF.out HNL.out HR.out
    go_wp2_with fail
    refine hc.mono ?_
    rintro e w4 ⟨y, rfl, hN⟩
    have HX4 : Hid (Bs w4 (.slice AX (askB f ps).length CX) (askB f ps)) := Bs.below' HX3.out hN.below
    have HY4 : Hid (Bs w4 y (askB f ps)) := hN.bs
    have HB4 : Hid (Below w1.heap.size w1 w4) := HB3.out.trans (hN.below.mono HB3.out.size)
    obtain ⟨AY, CY, rfl⟩ := bs_form hN.bs
    clear hc hN z0 z1 z2 z3 z4 z5 z6 z7 z8 z9 z10 z11 z12 z13 z14 HX3 HB3 HB2
    obtain ⟨z0, z1, z2, z3, z4, z5, z6, z7, z8, z9, z10, z11, z12, z13, z14⟩ := cells15 (HK.out w4 HB4.out).2.1
    have hK4 := HK.out w4 HB4.out
    have rQ := fun d os => Calls.regrown_of (right_x f ps A1 A2 A3 c1 c2 c3 (grow (redrawn w4 d) os) (hK4.2.2.1.grow (below_regrown w4 d os)) HF.out HNL.out (hK4.2.2.2.below (below_regrown w4 d os)) true HR.out)
    have sQ := fun d os => Calls.regrown_of (rright_x f ps A1 A2 A3 c1 c2 c3 (grow (redrawn w4 d) os) (hK4.2.2.1.grow (below_regrown w4 d os)) HF.out HNL.out true HR.out)
    have mQ := fun d os => Calls.regrown_of (same_x (w := grow (redrawn w4 d) os) (Bs.below' HX4.out (below_regrown w4 d os)) (Bs.below' HY4.out (below_regrown w4 d os)) HDL.out)
    have aQ := fun d os => Calls.regrown_of (awakeQ_any (grow (redrawn w4 d) os) (hK4.2.2.2.below (below_regrown w4 d os)))
    have HBf : Hid (Below w.heap.size w w4) := hK4.1
    clear hK4
    have z0 := fun d os => cell_regrown z0 d os
    have z1 := fun d os => cell_regrown z1 d os
    have z2 := fun d os => cell_regrown z2 d os
    have z3 := fun d os => cell_regrown z3 d os
    have z4 := fun d os => cell_regrown z4 d os
    have z5 := fun d os => cell_regrown z5 d os
    have z6 := fun d os => cell_regrown z6 d os
    have z7 := fun d os => cell_regrown z7 d os
    have z8 := fun d os => cell_regrown z8 d os
    have z9 := fun d os => cell_regrown z9 d os
    have z10 := fun d os => cell_regrown z10 d os
    have z11 := fun d os => cell_regrown z11 d os
    have z12 := fun d os => cell_regrown z12 d os
    have z13 := fun d os => cell_regrown z13 d os
    have z14 := fun d os => cell_regrown z14 d os
    go_wp2_with fail
    refine wp_region_quiet_below (by kernel_rfl) (by kernel_rfl) ?_
    repeat (go_big_quiet_step (first | (go_at_call 11; exact rQ _ _) | (go_at_call 12; exact sQ _ _) | (go_at_call 13; exact mQ _ _) | (go_at_call 8; exact aQ _ _)))
    refine wpQuiet_nil ?_
    intro _ hw'
    obtain ⟨⟨dq, osq⟩, hw''⟩ := hw'
    subst hw''
    have HBq : Hid (Below w.heap.size w (grow (redrawn w4 dq) osq)) := below_rgq HBf.out dq osq
    clear z0 z1 z2 z3 z4 z5 z6 z7 z8 z9 z10 z11 z12 z13 z14 rQ sQ mQ aQ
    go_wp2
    go_ret
    exact ⟨rfl, HBq.out⟩
  | false =>
    have HR : Hid (rightQ f ps = false) := hr
    have hc := put_no f ps A1 A2 A3 c1 c2 c3 w2 (HK.out w2 HB2.out).2.2.2 (HK.out w2 HB2.out).2.2.1 HF.out HNL.out hr
    clear hr
    go_wp2_with fail
    refine hc.mono ?_
    rintro e w3 ⟨rfl, hB3⟩
    have HB3 : Hid (Below w1.heap.size w1 w3) := HB2.out.trans (hB3.mono HB2.out.size)
    clear hc hB3 z0 z1 z2 z3 z4 z5 z6 z7 z8 z9 z10 z11 z12 z13 z14
    obtain ⟨z0, z1, z2, z3, z4, z5, z6, z7, z8, z9, z10, z11, z12, z13, z14⟩ := cells15 (HK.out w3 HB3.out).2.1
    have hc := rput_no f ps A1 A2 A3 c1 c2 c3 w3 (HK.out w3 HB3.out).2.2.1 HF.out HNL.out HR.out
    go_wp2_with fail
    refine hc.mono ?_
    rintro e w4 ⟨rfl, hB4⟩
    have HB4 : Hid (Below w1.heap.size w1 w4) := HB3.out.trans (hB4.mono HB3.out.size)
    clear hc hB4 z0 z1 z2 z3 z4 z5 z6 z7 z8 z9 z10 z11 z12 z13 z14 HB3 HB2
    obtain ⟨z0, z1, z2, z3, z4, z5, z6, z7, z8, z9, z10, z11, z12, z13, z14⟩ := cells15 (HK.out w4 HB4.out).2.1
    have hK4 := HK.out w4 HB4.out
    have rQ := fun d os => Calls.regrown_of (right_x f ps A1 A2 A3 c1 c2 c3 (grow (redrawn w4 d) os) (hK4.2.2.1.grow (below_regrown w4 d os)) HF.out HNL.out (hK4.2.2.2.below (below_regrown w4 d os)) false HR.out)
    have sQ := fun d os => Calls.regrown_of (rright_x f ps A1 A2 A3 c1 c2 c3 (grow (redrawn w4 d) os) (hK4.2.2.1.grow (below_regrown w4 d os)) HF.out HNL.out false HR.out)
    have mQ := fun d os => Calls.regrown_of (same_x (w := grow (redrawn w4 d) os) (x := .slice none 0 0) (y := .slice none 0 0) (la := []) (.inl ⟨rfl, rfl⟩) (.inl ⟨rfl, rfl⟩) (by simp))
    have aQ := fun d os => Calls.regrown_of (awakeQ_any (grow (redrawn w4 d) os) (hK4.2.2.2.below (below_regrown w4 d os)))
    have HBf : Hid (Below w.heap.size w w4) := hK4.1
    clear hK4
    have z0 := fun d os => cell_regrown z0 d os
    have z1 := fun d os => cell_regrown z1 d os
    have z2 := fun d os => cell_regrown z2 d os
    have z3 := fun d os => cell_regrown z3 d os
    have z4 := fun d os => cell_regrown z4 d os
    have z5 := fun d os => cell_regrown z5 d os
    have z6 := fun d os => cell_regrown z6 d os
    have z7 := fun d os => cell_regrown z7 d os
    have z8 := fun d os => cell_regrown z8 d os
    have z9 := fun d os => cell_regrown z9 d os
    have z10 := fun d os => cell_regrown z10 d os
    have z11 := fun d os => cell_regrown z11 d os
    have z12 := fun d os => cell_regrown z12 d os
    have z13 := fun d os => cell_regrown z13 d os
    have z14 := fun d os => cell_regrown z14 d os
    go_wp2_with fail
    refine wp_region_quiet_below (by kernel_rfl) (by kernel_rfl) ?_
    repeat (go_big_quiet_step (first | (go_at_call 11; exact rQ _ _) | (go_at_call 12; exact sQ _ _) | (go_at_call 13; exact mQ _ _) | (go_at_call 8; exact aQ _ _)))
    refine wpQuiet_nil ?_
    intro _ hw'
    obtain ⟨⟨dq, osq⟩, hw''⟩ := hw'
    subst hw''
    have HBq : Hid (Below w.heap.size w (grow (redrawn w4 dq) osq)) := below_rgq HBf.out dq osq
    clear z0 z1 z2 z3 z4 z5 z6 z7 z8 z9 z10 z11 z12 z13 z14 rQ sQ mQ aQ
    go_wp2
    go_ret
    exact ⟨rfl, HBq.out⟩
end Go.Proofs.YtmojplgoohnmdaaDoor.AK
