/- The walks of the document's RightEvent and PutEvent, and of wide. -/
import Derived.Test.YtmojplgoohnmdaaDoorRefW
import Derived.Test.YtmojplgoohnmdaaDoorRf6x
import Derived.Test.YtmojplgoohnmdaaDoorRpH
import Derived.Lib.QuietBelow
import Derived.BigQuiet
import Derived.Deep.DrawnRows
import Derived.Deep.RegionHeld3
namespace Go.Proofs.YtmojplgoohnmdaaDoor.AK
set_option linter.unusedSimpArgs false
set_option linter.unusedVariables false
open Go.RowKit Go.Sort
set_option linter.unusedVariables false
set_option linter.unusedSimpArgs false

set_option maxRecDepth 100000 in
set_option maxHeartbeats 2000000 in
theorem rrightE_any (e : Ev) (w : World) (hl : e.path.length ≤ 9223372036854775807) :
    Calls Tryd.prog 47 #[.agg #[.int .u8 e.kind, .int .u8 e.sort, .string (mkS e.path), .int .i64 e.zxid]] w fun a w' => a = .returned (.bool (rightE e)) ∧ Below w.heap.size w w' := by
  obtain ⟨w1, hw1⟩ : ∃ X, X = w.alloc (.cells #[.int .u8 e.kind, .int .u8 e.sort, .string (mkS e.path), .int .i64 e.zxid] 46) := ⟨_, rfl⟩
  have HB1 : Hid (Below w.heap.size w w1) := by show Below _ _ _; rw [hw1]; exact (Below.refl _ _).alloc (Nat.le_refl _) _
  have hn : (mkS e.path).size = e.path.length := by show e.path.toArray.size = _; simp
  unfold rightE
  go_enter Tryd.func47, Tryd.ntmps47
  go_wp2
  all_goals
    go_ret
    rw [← hw1]
    refine ⟨?_, HB1.out⟩
    refine congrArg (fun b => Ending.returned (Value.bool b)) (?_ : (_ : Bool) = _)
    first
      | rfl
      | (symm; simp only [Bool.and_eq_false_iff, decide_eq_false_iff_not]; omega)
      | (symm; rw [Bool.eq_iff_iff]; simp only [Bool.and_eq_true, decide_eq_true_eq]; omega)
set_option maxRecDepth 100000 in
set_option maxHeartbeats 2000000 in
theorem rputE_no (e : Ev) (w : World) (hl : e.path.length ≤ 9223372036854775807) (hr : rightE e = false) :
    Calls Tryd.prog 18 #[.agg #[.int .u8 e.kind, .int .u8 e.sort, .string (mkS e.path), .int .i64 e.zxid]] w fun a w' => a = .returned (.tuple #[.slice none 0 0, .int .i64 4]) ∧ Below w.heap.size w w' := by
  obtain ⟨w1, hw1⟩ : ∃ X, X = w.alloc (.cells #[.int .u8 e.kind, .int .u8 e.sort, .string (mkS e.path), .int .i64 e.zxid] 46) := ⟨_, rfl⟩
  have HB1 : Hid (Below w.heap.size w w1) := by show Below _ _ _; rw [hw1]; exact (Below.refl _ _).alloc (Nat.le_refl _) _
  have hri := rrightE_any e w1 hl
  rw [hr, hw1] at hri
  go_enter Tryd.func18, Tryd.ntmps18
  go_wp2_with fail
  refine hri.mono ?_
  rintro a w2 ⟨rfl, hB2⟩
  rw [← hw1] at hB2
  have HB2 : Hid (Below w.heap.size w w2) := HB1.out.trans (hB2.mono HB1.out.size)
  clear hri hB2 hw1
  go_wp2
  refine bodyPost_ret (v := .tuple #[.slice none 0 0, .int .i64 4]) (by simp [results, Tryd.results18, go_sem]) rfl ?_
  exact ⟨rfl, HB2.out⟩
set_option maxRecDepth 100000 in
set_option maxHeartbeats 4000000 in
theorem rputE_yes (e : Ev) (w : World) (hf : EvFit e) (hr : rightE e = true) :
    Calls Tryd.prog 18 #[.agg #[.int .u8 e.kind, .int .u8 e.sort, .string (mkS e.path), .int .i64 e.zxid]] w fun a w' => ∃ x, a = .returned (.tuple #[x, .int .i64 0]) ∧ New w w' x (eventB e) := by
  have hle := rightE_of hr
  have HF : Hid (EvFit e) := hf
  have HPL : Hid (e.path.length ≤ 220) := hle.2.2.2.2.1
  obtain ⟨w1, hw1⟩ : ∃ X, X = w.alloc (.cells #[.int .u8 e.kind, .int .u8 e.sort, .string (mkS e.path), .int .i64 e.zxid] 46) := ⟨_, rfl⟩
  have hB1 : Below w.heap.size w w1 := by rw [hw1]; exact (Below.refl _ _).alloc (Nat.le_refl _) _
  have HB1 : Hid (Below w.heap.size w w1) := hB1
  have HC1 : Hid (w1.heap[w.heap.size]? = some (.cells #[.int .u8 e.kind, .int .u8 e.sort, .string (mkS e.path), .int .i64 e.zxid] 46 (0, 0))) := by rw [hw1]; exact heap_alloc_new w _
  have hri := rrightE_any e w1 (by have := HPL.out; omega)
  rw [hr, hw1] at hri
  clear hB1 hf hr hle
  go_enter Tryd.func18, Tryd.ntmps18
  go_wp2_with fail
  refine hri.mono ?_
  rintro a w2 ⟨rfl, hB2⟩
  rw [← hw1] at hB2
  have HB2 : Hid (Below w.heap.size w w2) := HB1.out.trans (hB2.mono HB1.out.size)
  have HC2 : Hid (w2.heap[w.heap.size]? = some (.cells #[.int .u8 e.kind, .int .u8 e.sort, .string (mkS e.path), .int .i64 e.zxid] 46 (0, 0))) := by show _ = _; rw [hB2.block _ (heap_lt HC1.out)]; exact HC1.out
  clear hri hB2 hw1 HB1 HC1
  have hnw := rfNewW_any w2 w.heap.size HB2.out.size
  go_wp2_with fail
  refine hnw.mono ?_
  rintro a w3 ⟨rfl, hW3, hB3, hs3⟩
  have HW3 : Hid (WrF w3 w.heap.size w2.heap.size none []) := hW3
  have hgg : w.heap.size ≤ w2.heap.size := HB2.out.size
  have HO3 : Hid (Own w3 w.heap.size (.cells #[.int .u8 e.kind, .int .u8 e.sort, .string (mkS e.path), .int .i64 e.zxid] 46 (0, 0)) w2.heap.size none) := ⟨by rw [hB3.block _ (heap_lt HC2.out)]; exact HC2.out, by have := heap_lt HC2.out; omega, by simp⟩
  have HB3 : Hid (Below w.heap.size w w3) := HB2.out.trans (hB3.mono HB2.out.size)
  clear hnw hW3 hB3 hs3 HB2 HC2
  generalize w2.heap.size = g at HW3 hgg HO3 ⊢
  clear w2
  have hc := rfWByte_any HW3.out e.kind (u8 e.kind) (u8_back HF.out.kind).symm (by simp)
  obtain ⟨z0, z1, z2, z3⟩ := cells4 HO3.out.at'
  go_wp2_with fail
  refine hc.mono ?_
  rintro a w4 ⟨rfl, q4, hW, hP⟩
  have HW4 : Hid (WrF w4 w.heap.size g q4 (([]) ++ [u8 e.kind])) := hW
  have HO4 : Hid (Own w4 w.heap.size (.cells #[.int .u8 e.kind, .int .u8 e.sort, .string (mkS e.path), .int .i64 e.zxid] 46 (0, 0)) g q4) := HO3.out.put hP
  have HB4 : Hid (Below w.heap.size w w4) := HB3.out.trans (putF_below HW3.out hgg hP)
  clear hc hW hP HW3 HO3 HB3 z0 z1 z2 z3 w3
  have hc := rfWByte_any HW4.out e.sort (u8 e.sort) (u8_back HF.out.sort).symm (by simp)
  obtain ⟨z0, z1, z2, z3⟩ := cells4 HO4.out.at'
  go_wp2_with fail
  refine hc.mono ?_
  rintro a w5 ⟨rfl, q5, hW, hP⟩
  have HW5 : Hid (WrF w5 w.heap.size g q5 ((([]) ++ [u8 e.kind]) ++ [u8 e.sort])) := hW
  have HO5 : Hid (Own w5 w.heap.size (.cells #[.int .u8 e.kind, .int .u8 e.sort, .string (mkS e.path), .int .i64 e.zxid] 46 (0, 0)) g q5) := HO4.out.put hP
  have HB5 : Hid (Below w.heap.size w w5) := HB4.out.trans (putF_below HW4.out hgg hP)
  clear hc hW hP HW4 HO4 HB4 z0 z1 z2 z3 w4
  have hc := rfWText_any HW5.out e.path (by have := HPL.out; omega) (by have := HPL.out; have := textB_len (l := e.path) (by have := HPL.out; omega); simp only [List.length_append, List.length_singleton, List.length_nil]; omega)
  obtain ⟨z0, z1, z2, z3⟩ := cells4 HO5.out.at'
  go_wp2_with fail
  refine hc.mono ?_
  rintro a w6 ⟨rfl, q6, hW, hP⟩
  have HW6 : Hid (WrF w6 w.heap.size g q6 (((([]) ++ [u8 e.kind]) ++ [u8 e.sort]) ++ textB e.path)) := hW
  have HO6 : Hid (Own w6 w.heap.size (.cells #[.int .u8 e.kind, .int .u8 e.sort, .string (mkS e.path), .int .i64 e.zxid] 46 (0, 0)) g q6) := HO5.out.put hP
  have HB6 : Hid (Below w.heap.size w w6) := HB5.out.trans (putF_below HW5.out hgg hP)
  clear hc hW hP HW5 HO5 HB5 z0 z1 z2 z3 w5
  have hc := rfWInt_any HW6.out e.zxid HF.out.zxid.1 HF.out.zxid.2 (by have := HPL.out; have := textB_len (l := e.path) (by have := HPL.out; omega); have := numB_len HF.out.zxid; simp only [List.length_append, List.length_singleton, List.length_nil]; omega)
  obtain ⟨z0, z1, z2, z3⟩ := cells4 HO6.out.at'
  go_wp2_with fail
  refine hc.mono ?_
  rintro a w7 ⟨rfl, q7, hW, hP⟩
  have HW7 : Hid (WrF w7 w.heap.size g q7 ((((([]) ++ [u8 e.kind]) ++ [u8 e.sort]) ++ textB e.path) ++ numB e.zxid)) := hW
  have HO7 : Hid (Own w7 w.heap.size (.cells #[.int .u8 e.kind, .int .u8 e.sort, .string (mkS e.path), .int .i64 e.zxid] 46 (0, 0)) g q7) := HO6.out.put hP
  have HB7 : Hid (Below w.heap.size w w7) := HB6.out.trans (putF_below HW6.out hgg hP)
  clear hc hW hP HW6 HO6 HB6 z0 z1 z2 z3 w6
  have HW8 : Hid (WrF w7 w.heap.size g q7 (eventB e)) := by
    show WrF _ _ _ _ _
    unfold eventB
    simpa using HW7.out
  have HDL : Hid ((eventB e).length ≤ 1000) := by
    show _ ≤ _
    have := HPL.out; have := textB_len (l := e.path) (by have := HPL.out; omega)
    have := numB_len HF.out.zxid
    unfold eventB
    simp only [List.length_append, List.length_cons]
    omega
  have hdn := rfWDone_any HW8.out (by have := HDL.out; omega)
  clear HW7
  go_wp2_with fail
  refine hdn.mono ?_
  rintro a w9 ⟨x, rfl, hN⟩
  have HN : Hid (New w w9 x (eventB e)) := ⟨wOwn.base hN.owns HB7.out.size, HB7.out.trans (hN.below.mono HB7.out.size)⟩
  obtain ⟨AX, CX, rfl⟩ := bs_form hN.bs
  clear hdn hN
  go_wp2
  refine bodyPost_ret (v := .tuple #[.slice AX (eventB e).length CX, .int .i64 0]) (by simp [results, Tryd.results18, go_sem]) rfl ?_
  exact ⟨_, rfl, HN.out⟩
def IsBoolR (e : Ending) : Prop := ∃ b, e = .returned (.bool b)
set_option maxRecDepth 100000 in
set_option maxHeartbeats 4000000 in
theorem wide_any (f : Rf) (ps : List Rf) (A1 A2 A3 A4 : Option Addr) (c1 c2 c3 c4 : Nat) (w : World) (hp : RPrts w w.heap.size (.slice A4 f.np c4) ps) (hn : f.np = ps.length) (hl : f.np ≤ 9223372036854775807) :
    Calls Tryd.prog 14 #[.agg #[.int .u8 f.kind, .int .i64 f.xid, .int .i64 f.zxid, .int .i64 f.err, .int .i64 f.session, .int .i64 f.timeout, .string (mkS f.path), .slice A1 f.data.length c1, .int .i64 f.s0, .int .i64 f.s1, .int .i64 f.s2, .int .i64 f.s3, .int .i64 f.s4, .int .i64 f.s5, .int .i64 f.s6, .int .i64 f.s7, .int .i64 f.s8, .int .i64 f.s9, .slice A2 f.list.length c2, .int .i64 f.cver, .slice A3 f.cmems.length c3, .slice A4 f.np c4]] w fun e w' => IsBoolR e ∧ Below w.heap.size w w' := by
  have HP : Hid (RPrts w w.heap.size (.slice A4 f.np c4) ps) := hp
  have HN : Hid (f.np = ps.length) := hn
  have HB1 : Hid (Below w.heap.size w (w.alloc (.cells #[.int .u8 f.kind, .int .i64 f.xid, .int .i64 f.zxid, .int .i64 f.err, .int .i64 f.session, .int .i64 f.timeout, .string (mkS f.path), .slice A1 f.data.length c1, .int .i64 f.s0, .int .i64 f.s1, .int .i64 f.s2, .int .i64 f.s3, .int .i64 f.s4, .int .i64 f.s5, .int .i64 f.s6, .int .i64 f.s7, .int .i64 f.s8, .int .i64 f.s9, .slice A2 f.list.length c2, .int .i64 f.cver, .slice A3 f.cmems.length c3, .slice A4 f.np c4] 43))) := (Below.refl _ _).alloc (Nat.le_refl _) _
  have HC1 : Hid ((w.alloc (.cells #[.int .u8 f.kind, .int .i64 f.xid, .int .i64 f.zxid, .int .i64 f.err, .int .i64 f.session, .int .i64 f.timeout, .string (mkS f.path), .slice A1 f.data.length c1, .int .i64 f.s0, .int .i64 f.s1, .int .i64 f.s2, .int .i64 f.s3, .int .i64 f.s4, .int .i64 f.s5, .int .i64 f.s6, .int .i64 f.s7, .int .i64 f.s8, .int .i64 f.s9, .slice A2 f.list.length c2, .int .i64 f.cver, .slice A3 f.cmems.length c3, .slice A4 f.np c4] 43)).heap[w.heap.size]? = some (.cells #[.int .u8 f.kind, .int .i64 f.xid, .int .i64 f.zxid, .int .i64 f.err, .int .i64 f.session, .int .i64 f.timeout, .string (mkS f.path), .slice A1 f.data.length c1, .int .i64 f.s0, .int .i64 f.s1, .int .i64 f.s2, .int .i64 f.s3, .int .i64 f.s4, .int .i64 f.s5, .int .i64 f.s6, .int .i64 f.s7, .int .i64 f.s8, .int .i64 f.s9, .slice A2 f.list.length c2, .int .i64 f.cver, .slice A3 f.cmems.length c3, .slice A4 f.np c4] 43 (0, 0))) := heap_alloc_new w _
  clear hp hn
  go_enter Tryd.func14, Tryd.ntmps14
  go_wp2_with fail
  go_loopw [3, 4] (fun a c wr => ∃ (n : Int) (k : Nat), k ≤ f.np ∧ a = .int .i64 n ∧ c = .int .i64 k ∧ Below w.heap.size w wr ∧ wr.heap[w.heap.size]? = some (.cells #[.int .u8 f.kind, .int .i64 f.xid, .int .i64 f.zxid, .int .i64 f.err, .int .i64 f.session, .int .i64 f.timeout, .string (mkS f.path), .slice A1 f.data.length c1, .int .i64 f.s0, .int .i64 f.s1, .int .i64 f.s2, .int .i64 f.s3, .int .i64 f.s4, .int .i64 f.s5, .int .i64 f.s6, .int .i64 f.s7, .int .i64 f.s8, .int .i64 f.s9, .slice A2 f.list.length c2, .int .i64 f.cver, .slice A3 f.cmems.length c3, .slice A4 f.np c4] 43 (0, 0))) (fun _ c _ => f.np - (intOf c).toNat)
  case atStart => exact ⟨_, 0, by omega, rfl, rfl, HB1.out, HC1.out⟩
  case round =>
    obtain ⟨n, k, hk, rfl, rfl, hBr, hCr⟩ := hrel
    have HBr : Hid (Below w.heap.size w wr) := hBr
    have HCr : Hid (wr.heap[w.heap.size]? = some (.cells #[.int .u8 f.kind, .int .i64 f.xid, .int .i64 f.zxid, .int .i64 f.err, .int .i64 f.session, .int .i64 f.timeout, .string (mkS f.path), .slice A1 f.data.length c1, .int .i64 f.s0, .int .i64 f.s1, .int .i64 f.s2, .int .i64 f.s3, .int .i64 f.s4, .int .i64 f.s5, .int .i64 f.s6, .int .i64 f.s7, .int .i64 f.s8, .int .i64 f.s9, .slice A2 f.list.length c2, .int .i64 f.cver, .slice A3 f.cmems.length c3, .slice A4 f.np c4] 43 (0, 0))) := hCr
    clear hBr hCr HB1 HC1
    obtain ⟨z0, z1, z2, z3, z4, z5, z6, z7, z8, z9, z10, z11, z12, z13, z14, z15, z16, z17, z18, z19, z20, z21⟩ := cells22 HCr.out
    clear z0 z1 z2 z3 z4 z5 z6 z7 z8 z9 z10 z11 z12 z13 z14 z15 z16 z17 z18 z19 z20
    by_cases hlt : k < f.np
    · by_cases hn : n ≤ 3000
      · have hkl : k < ps.length := by have := HN.out; omega
        obtain ⟨bb, oo, hA4, -, -, B1, B2, B3, B4, d1, d2, d3, d4, hra, -⟩ := (HP.out.below HBr.out).at' k hkl
        generalize (ps[k]'hkl) = p at hra
        have y7 : wr.cell? ⟨bb, oo + k * 22 + 7, none⟩ = some (.slice B1 p.data.length d1) := hra 7 _ rfl
        have y18 : wr.cell? ⟨bb, oo + k * 22 + 18, none⟩ = some (.slice B2 p.list.length d2) := hra 18 _ rfl
        have y21 : wr.cell? ⟨bb, oo + k * 22 + 21, none⟩ = some (.slice B4 p.np d4) := hra 21 _ rfl
        rw [hA4] at z21
        clear hA4 hra
        have y7 := fun d os => cell_regrown y7 d os
        have y18 := fun d os => cell_regrown y18 d os
        have y21 := fun d os => cell_regrown y21 d os
        have x21 := fun d os => cell_regrown z21 d os
        go_wp2_with fail
        refine wp_region_quiet_below (by kernel_rfl) (by kernel_rfl) ?_
        repeat (go_big_quiet_step (fail))
        refine wpQuiet_nil ?_
        intro _ hw'
        obtain ⟨⟨dq, osq⟩, hw''⟩ := hw'
        subst hw''
        have HB3 : Hid (Below w.heap.size w (grow (redrawn wr dq) osq)) := HBr.out.trans ((below_regrown wr dq osq).mono HBr.out.size)
        have HC3 : Hid ((grow (redrawn wr dq) osq).heap[w.heap.size]? = some (.cells #[.int .u8 f.kind, .int .i64 f.xid, .int .i64 f.zxid, .int .i64 f.err, .int .i64 f.session, .int .i64 f.timeout, .string (mkS f.path), .slice A1 f.data.length c1, .int .i64 f.s0, .int .i64 f.s1, .int .i64 f.s2, .int .i64 f.s3, .int .i64 f.s4, .int .i64 f.s5, .int .i64 f.s6, .int .i64 f.s7, .int .i64 f.s8, .int .i64 f.s9, .slice A2 f.list.length c2, .int .i64 f.cver, .slice A3 f.cmems.length c3, .slice A4 f.np c4] 43 (0, 0))) := by
          show _ = _
          rw [(below_regrown wr dq osq).block _ (heap_lt HCr.out)]
          exact HCr.out
        clear y7 y18 y21 x21 z21
        go_wp2_with fail
        exact ⟨⟨_, k + 1, by omega, rfl, by go_num, HB3.out, HC3.out⟩, by simp [intOf]; omega⟩
      · go_wp2_with fail
        all_goals (go_ret; exact ⟨⟨_, rfl⟩, HBr.out⟩)
    · go_wp2_with fail
      all_goals (go_ret; exact ⟨⟨_, rfl⟩, HBr.out⟩)
end Go.Proofs.YtmojplgoohnmdaaDoor.AK
