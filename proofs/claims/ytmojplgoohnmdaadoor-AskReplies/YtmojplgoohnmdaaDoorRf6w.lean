/- The walk of the statement AskReplies. -/
import Derived.Test.YtmojplgoohnmdaaDoorRf6u
import Derived.Test.YtmojplgoohnmdaaDoorRf6v
import Derived.Test.YtmojplgoohnmdaaDoorAkA
namespace Go.Proofs.YtmojplgoohnmdaaDoor.AK
set_option linter.unusedSimpArgs false
set_option linter.unusedVariables false
open Go.RowKit Go.Sort
set_option linter.unusedVariables false
set_option linter.unusedSimpArgs false

theorem eventB_len2 {e : Ev} (hf : EvFit e) (hr : rightE e = true) : (eventB e).length ≤ 1000 := by
  have h1 := (rightE_of hr).2.2.2.2.1
  have h2 := textB_len (l := e.path) (by omega)
  have h3 := numB_len hf.zxid
  unfold eventB
  simp only [List.length_append, List.length_cons]
  omega
theorem same_x2 {x y : Value} {la : List UInt8} {w : World} (hA : Bs w x la) (hB : Bs w y la) (hm : la.length ≤ 140737488355328) : Calls Tryd.prog 13 #[x, y] w fun e w' => e = .returned (.bool true) ∧ Below w.heap.size w w' := by
  have h := same_any hA hB hm
  rw [decide_eq_true rfl] at h
  refine h.mono ?_
  rintro e w' ⟨rfl, q, rfl⟩
  exact ⟨rfl, drewN_below w q⟩
set_option maxRecDepth 100000 in
set_option maxHeartbeats 8000000 in
theorem lrep_yy (f : Rf) (ps : List Rf) (A1 A2 A3 A4 : Option Addr) (c1 c2 c3 c4 : Nat) (w : World) (hv : RVal w f A1 c1 A2 c2 A3 c3) (hp : RPrts w w.heap.size (.slice A4 f.np c4) ps) (hf : RepFit f ps) (hl : RLen f) (hlp : ∀ p ∈ ps, RLen p ∧ p.np ≤ 9223372036854775807) (hnl : f.np ≤ 9223372036854775807) (e : Ev) (hef : EvFit e) (hpe : e.path.length ≤ 9223372036854775807) (hL : QL w) (hr : rightR f ps = true) (hre : rightE e = true) :
    Calls Tryd.prog 4 #[.agg #[.int .u8 f.kind, .int .i64 f.xid, .int .i64 f.zxid, .int .i64 f.err, .int .i64 f.session, .int .i64 f.timeout, .string (mkS f.path), .slice A1 f.data.length c1, .int .i64 f.s0, .int .i64 f.s1, .int .i64 f.s2, .int .i64 f.s3, .int .i64 f.s4, .int .i64 f.s5, .int .i64 f.s6, .int .i64 f.s7, .int .i64 f.s8, .int .i64 f.s9, .slice A2 f.list.length c2, .int .i64 f.cver, .slice A3 f.cmems.length c3, .slice A4 f.np c4], .agg #[.int .u8 e.kind, .int .u8 e.sort, .string (mkS e.path), .int .i64 e.zxid]] w fun a w' => a = .returned (.bool true) ∧ Below w.heap.size w w' := by
  have HF : Hid (RepFit f ps) := hf
  have HR : Hid (rightR f ps = true) := hr
  have HRE : Hid (rightE e = true) := hre
  have HEF : Hid (EvFit e) := hef
  have HPE : Hid (e.path.length ≤ 9223372036854775807) := hpe
  have HLN : Hid (RLen f) := hl
  have HLP : Hid (∀ p ∈ ps, RLen p ∧ p.np ≤ 9223372036854775807) := hlp
  have HNL : Hid (f.np ≤ 9223372036854775807) := hnl
  have HDL : Hid ((replyB f ps).length ≤ 170000) := replyB_len hf hr
  have HEL : Hid ((eventB e).length ≤ 1000) := eventB_len2 hef hre
  obtain ⟨w0, hw0⟩ : ∃ X, X = w.alloc (.cells #[.int .u8 f.kind, .int .i64 f.xid, .int .i64 f.zxid, .int .i64 f.err, .int .i64 f.session, .int .i64 f.timeout, .string (mkS f.path), .slice A1 f.data.length c1, .int .i64 f.s0, .int .i64 f.s1, .int .i64 f.s2, .int .i64 f.s3, .int .i64 f.s4, .int .i64 f.s5, .int .i64 f.s6, .int .i64 f.s7, .int .i64 f.s8, .int .i64 f.s9, .slice A2 f.list.length c2, .int .i64 f.cver, .slice A3 f.cmems.length c3, .slice A4 f.np c4] 43) := ⟨_, rfl⟩
  have hs0 : w0.heap.size = w.heap.size + 1 := by rw [hw0]; simp
  have hB0 : Below w.heap.size w w0 := by rw [hw0]; exact (Below.refl _ _).alloc (Nat.le_refl _) _
  obtain ⟨w1, hw1⟩ : ∃ X, X = w0.alloc (.cells #[.int .u8 e.kind, .int .u8 e.sort, .string (mkS e.path), .int .i64 e.zxid] 46) := ⟨_, rfl⟩
  have hB1 : Below w.heap.size w w1 := by rw [hw1]; exact hB0.alloc hB0.size _
  have hc0 : w1.heap[w.heap.size]? = some (.cells #[.int .u8 f.kind, .int .i64 f.xid, .int .i64 f.zxid, .int .i64 f.err, .int .i64 f.session, .int .i64 f.timeout, .string (mkS f.path), .slice A1 f.data.length c1, .int .i64 f.s0, .int .i64 f.s1, .int .i64 f.s2, .int .i64 f.s3, .int .i64 f.s4, .int .i64 f.s5, .int .i64 f.s6, .int .i64 f.s7, .int .i64 f.s8, .int .i64 f.s9, .slice A2 f.list.length c2, .int .i64 f.cver, .slice A3 f.cmems.length c3, .slice A4 f.np c4] 43 (0, 0)) := by rw [hw1, Below.heap_alloc _ _ _ (by omega), hw0]; exact heap_alloc_new w _
  have hc1 : w1.heap[w.heap.size + 1]? = some (.cells #[.int .u8 e.kind, .int .u8 e.sort, .string (mkS e.path), .int .i64 e.zxid] 46 (0, 0)) := by rw [hw1, ← hs0]; exact heap_alloc_new w0 _
  have HK : Hid (∀ w', Below w1.heap.size w1 w' → Below w.heap.size w w' ∧ w'.heap[w.heap.size]? = some (.cells #[.int .u8 f.kind, .int .i64 f.xid, .int .i64 f.zxid, .int .i64 f.err, .int .i64 f.session, .int .i64 f.timeout, .string (mkS f.path), .slice A1 f.data.length c1, .int .i64 f.s0, .int .i64 f.s1, .int .i64 f.s2, .int .i64 f.s3, .int .i64 f.s4, .int .i64 f.s5, .int .i64 f.s6, .int .i64 f.s7, .int .i64 f.s8, .int .i64 f.s9, .slice A2 f.list.length c2, .int .i64 f.cver, .slice A3 f.cmems.length c3, .slice A4 f.np c4] 43 (0, 0)) ∧ w'.heap[w.heap.size + 1]? = some (.cells #[.int .u8 e.kind, .int .u8 e.sort, .string (mkS e.path), .int .i64 e.zxid] 46 (0, 0)) ∧ RVal w' f A1 c1 A2 c2 A3 c3 ∧ RPrts w' w'.heap.size (.slice A4 f.np c4) ps ∧ QL w') := fun w' hB => by
    have hB' := hB1.trans (hB.mono hB1.size)
    exact ⟨hB', by rw [hB.block _ (heap_lt hc0)]; exact hc0, by rw [hB.block _ (heap_lt hc1)]; exact hc1, hv.grow hB', hp.grow hB', hL.below hB'⟩
  have hwd := wide_any f ps A1 A2 A3 A4 c1 c2 c3 c4 w1 (hp.grow hB1) hf.len hnl
  have hra := rangeL hc0
  rw [hw1, hw0] at hwd hra
  clear hv hf hp hL hl hlp hef hpe hr hre hB0 hB1 hc0 hc1 hs0
  go_enter Tryd.func4, Tryd.ntmps4
  go_wp2_with (refine wpList_load_mid rfl 43 _ rfl w.heap.size 0 rfl [.int .u8 f.kind, .int .i64 f.xid, .int .i64 f.zxid, .int .i64 f.err, .int .i64 f.session, .int .i64 f.timeout, .string (mkS f.path), .slice A1 f.data.length c1, .int .i64 f.s0, .int .i64 f.s1, .int .i64 f.s2, .int .i64 f.s3, .int .i64 f.s4, .int .i64 f.s5, .int .i64 f.s6, .int .i64 f.s7, .int .i64 f.s8, .int .i64 f.s9, .slice A2 f.list.length c2, .int .i64 f.cver, .slice A3 f.cmems.length c3, .slice A4 f.np c4] _ hra Tryd.underlying43 rfl infoR ?_)
  refine hwd.mono ?_
  rintro a w2 ⟨⟨B, rfl⟩, hB2⟩
  rw [← hw0, ← hw1] at hB2
  have HB2 : Hid (Below w1.heap.size w1 w2) := hB2
  clear hwd hB2 hw1 hw0 hra
  cases B with
  | true =>
    have hc := awakeQ_any w2 (HK.out w2 HB2.out).2.2.2.2.2
    go_wp2_with fail
    refine hc.mono ?_
    rintro a w3 ⟨rfl, hB3⟩
    have HE : Hid (Below w.heap.size w w3) := (HK.out w3 (HB2.out.trans (hB3.mono HB2.out.size))).1
    clear hc hB3
    go_wp2
    go_ret
    exact ⟨rfl, HE.out⟩
  | false =>
  have hra := rangeL (HK.out w2 HB2.out).2.1
  have hc := putR_yes f ps A1 A2 A3 A4 c1 c2 c3 c4 w2 (HK.out w2 HB2.out).2.2.2.1 (HK.out w2 HB2.out).2.2.2.2.1 HF.out HLN.out HLP.out HNL.out HR.out
  go_wp2_with (refine wpList_load_mid rfl 43 _ rfl w.heap.size 0 rfl [.int .u8 f.kind, .int .i64 f.xid, .int .i64 f.zxid, .int .i64 f.err, .int .i64 f.session, .int .i64 f.timeout, .string (mkS f.path), .slice A1 f.data.length c1, .int .i64 f.s0, .int .i64 f.s1, .int .i64 f.s2, .int .i64 f.s3, .int .i64 f.s4, .int .i64 f.s5, .int .i64 f.s6, .int .i64 f.s7, .int .i64 f.s8, .int .i64 f.s9, .slice A2 f.list.length c2, .int .i64 f.cver, .slice A3 f.cmems.length c3, .slice A4 f.np c4] _ hra Tryd.underlying43 rfl infoR ?_)
  refine hc.mono ?_
  rintro a w3 ⟨x, rfl, hN⟩
  have hBn := hN.below
  obtain ⟨AX, CX, rfl⟩ := bs_form hN.bs
  have HX3 : Hid (Bs w3 (.slice AX (replyB f ps).length CX) (replyB f ps)) := hN.bs
  have HB3 : Hid (Below w1.heap.size w1 w3) := HB2.out.trans (hBn.mono HB2.out.size)
  clear hra hc hBn HB2 hN 
  have hra := rangeL (HK.out w3 HB3.out).2.1
  have hc := rputR_yes f ps A1 A2 A3 A4 c1 c2 c3 c4 w3 (HK.out w3 HB3.out).2.2.2.1 (HK.out w3 HB3.out).2.2.2.2.1 HF.out HLN.out HLP.out HNL.out HR.out
  go_wp2_with (refine wpList_load_mid rfl 43 _ rfl w.heap.size 0 rfl [.int .u8 f.kind, .int .i64 f.xid, .int .i64 f.zxid, .int .i64 f.err, .int .i64 f.session, .int .i64 f.timeout, .string (mkS f.path), .slice A1 f.data.length c1, .int .i64 f.s0, .int .i64 f.s1, .int .i64 f.s2, .int .i64 f.s3, .int .i64 f.s4, .int .i64 f.s5, .int .i64 f.s6, .int .i64 f.s7, .int .i64 f.s8, .int .i64 f.s9, .slice A2 f.list.length c2, .int .i64 f.cver, .slice A3 f.cmems.length c3, .slice A4 f.np c4] _ hra Tryd.underlying43 rfl infoR ?_)
  refine hc.mono ?_
  rintro a w4 ⟨x, rfl, hN⟩
  have hBn := hN.below
  obtain ⟨AY, CY, rfl⟩ := bs_form hN.bs
  have HY4 : Hid (Bs w4 (.slice AY (replyB f ps).length CY) (replyB f ps)) := hN.bs
  have HB4 : Hid (Below w1.heap.size w1 w4) := HB3.out.trans (hBn.mono HB3.out.size)
  have HX4 : Hid (Bs w4 (.slice AX (replyB f ps).length CX) (replyB f ps)) := Bs.below' HX3.out hBn
  clear hra hc hBn HB3 hN HX3
  obtain ⟨v0, v1, v2, v3⟩ := cells4 (HK.out w4 HB4.out).2.2.1
  have hc := putE_yes e w4 HEF.out HRE.out
  go_wp2_with fail
  refine hc.mono ?_
  rintro a w5 ⟨x, rfl, hN⟩
  have hBn := hN.below
  obtain ⟨AM, CM, rfl⟩ := bs_form hN.bs
  have HM5 : Hid (Bs w5 (.slice AM (eventB e).length CM) (eventB e)) := hN.bs
  have HB5 : Hid (Below w1.heap.size w1 w5) := HB4.out.trans (hBn.mono HB4.out.size)
  have HX5 : Hid (Bs w5 (.slice AX (replyB f ps).length CX) (replyB f ps)) := Bs.below' HX4.out hBn
  have HY5 : Hid (Bs w5 (.slice AY (replyB f ps).length CY) (replyB f ps)) := Bs.below' HY4.out hBn
  clear v0 v1 v2 v3 hc hBn HB4 hN HX4 HY4
  obtain ⟨v0, v1, v2, v3⟩ := cells4 (HK.out w5 HB5.out).2.2.1
  have hc := rputE_yes e w5 HEF.out HRE.out
  go_wp2_with fail
  refine hc.mono ?_
  rintro a w6 ⟨x, rfl, hN⟩
  have hBn := hN.below
  obtain ⟨AO, CO, rfl⟩ := bs_form hN.bs
  have HO6 : Hid (Bs w6 (.slice AO (eventB e).length CO) (eventB e)) := hN.bs
  have HB6 : Hid (Below w1.heap.size w1 w6) := HB5.out.trans (hBn.mono HB5.out.size)
  have HX6 : Hid (Bs w6 (.slice AX (replyB f ps).length CX) (replyB f ps)) := Bs.below' HX5.out hBn
  have HY6 : Hid (Bs w6 (.slice AY (replyB f ps).length CY) (replyB f ps)) := Bs.below' HY5.out hBn
  have HM6 : Hid (Bs w6 (.slice AM (eventB e).length CM) (eventB e)) := Bs.below' HM5.out hBn
  clear v0 v1 v2 v3 hc hBn HB5 hN HX5 HY5 HM5
  have hc := same_x2 HX6.out HY6.out (by have := HDL.out; omega)
  go_wp2_with fail
  refine hc.mono ?_
  rintro a w7 ⟨rfl, hB7⟩
  have hc2 := same_x2 (Bs.below' HM6.out hB7) (Bs.below' HO6.out hB7) (by have := HEL.out; omega)
  have HB7 : Hid (Below w1.heap.size w1 w7) := HB6.out.trans (hB7.mono HB6.out.size)
  clear hc hB7 HB6
  go_wp2_with fail
  refine hc2.mono ?_
  rintro a w8 ⟨rfl, hB8⟩
  have HB8 : Hid (Below w1.heap.size w1 w8) := HB7.out.trans (hB8.mono HB7.out.size)
  clear hc2 hB8 HB7
  have hc := awakeQ_any w8 (HK.out w8 HB8.out).2.2.2.2.2
  go_wp2_with fail
  refine hc.mono ?_
  rintro a w9 ⟨rfl, hB9⟩
  have HE : Hid (Below w.heap.size w w9) := (HK.out w9 (HB8.out.trans (hB9.mono HB8.out.size))).1
  clear hc hB9
  go_wp2
  go_ret
  exact ⟨rfl, HE.out⟩
set_option maxRecDepth 100000 in
set_option maxHeartbeats 8000000 in
theorem lrep_yn (f : Rf) (ps : List Rf) (A1 A2 A3 A4 : Option Addr) (c1 c2 c3 c4 : Nat) (w : World) (hv : RVal w f A1 c1 A2 c2 A3 c3) (hp : RPrts w w.heap.size (.slice A4 f.np c4) ps) (hf : RepFit f ps) (hl : RLen f) (hlp : ∀ p ∈ ps, RLen p ∧ p.np ≤ 9223372036854775807) (hnl : f.np ≤ 9223372036854775807) (e : Ev) (hef : EvFit e) (hpe : e.path.length ≤ 9223372036854775807) (hL : QL w) (hr : rightR f ps = true) (hre : rightE e = false) :
    Calls Tryd.prog 4 #[.agg #[.int .u8 f.kind, .int .i64 f.xid, .int .i64 f.zxid, .int .i64 f.err, .int .i64 f.session, .int .i64 f.timeout, .string (mkS f.path), .slice A1 f.data.length c1, .int .i64 f.s0, .int .i64 f.s1, .int .i64 f.s2, .int .i64 f.s3, .int .i64 f.s4, .int .i64 f.s5, .int .i64 f.s6, .int .i64 f.s7, .int .i64 f.s8, .int .i64 f.s9, .slice A2 f.list.length c2, .int .i64 f.cver, .slice A3 f.cmems.length c3, .slice A4 f.np c4], .agg #[.int .u8 e.kind, .int .u8 e.sort, .string (mkS e.path), .int .i64 e.zxid]] w fun a w' => a = .returned (.bool true) ∧ Below w.heap.size w w' := by
  have HF : Hid (RepFit f ps) := hf
  have HR : Hid (rightR f ps = true) := hr
  have HRE : Hid (rightE e = false) := hre
  have HEF : Hid (EvFit e) := hef
  have HPE : Hid (e.path.length ≤ 9223372036854775807) := hpe
  have HLN : Hid (RLen f) := hl
  have HLP : Hid (∀ p ∈ ps, RLen p ∧ p.np ≤ 9223372036854775807) := hlp
  have HNL : Hid (f.np ≤ 9223372036854775807) := hnl
  have HDL : Hid ((replyB f ps).length ≤ 170000) := replyB_len hf hr

  obtain ⟨w0, hw0⟩ : ∃ X, X = w.alloc (.cells #[.int .u8 f.kind, .int .i64 f.xid, .int .i64 f.zxid, .int .i64 f.err, .int .i64 f.session, .int .i64 f.timeout, .string (mkS f.path), .slice A1 f.data.length c1, .int .i64 f.s0, .int .i64 f.s1, .int .i64 f.s2, .int .i64 f.s3, .int .i64 f.s4, .int .i64 f.s5, .int .i64 f.s6, .int .i64 f.s7, .int .i64 f.s8, .int .i64 f.s9, .slice A2 f.list.length c2, .int .i64 f.cver, .slice A3 f.cmems.length c3, .slice A4 f.np c4] 43) := ⟨_, rfl⟩
  have hs0 : w0.heap.size = w.heap.size + 1 := by rw [hw0]; simp
  have hB0 : Below w.heap.size w w0 := by rw [hw0]; exact (Below.refl _ _).alloc (Nat.le_refl _) _
  obtain ⟨w1, hw1⟩ : ∃ X, X = w0.alloc (.cells #[.int .u8 e.kind, .int .u8 e.sort, .string (mkS e.path), .int .i64 e.zxid] 46) := ⟨_, rfl⟩
  have hB1 : Below w.heap.size w w1 := by rw [hw1]; exact hB0.alloc hB0.size _
  have hc0 : w1.heap[w.heap.size]? = some (.cells #[.int .u8 f.kind, .int .i64 f.xid, .int .i64 f.zxid, .int .i64 f.err, .int .i64 f.session, .int .i64 f.timeout, .string (mkS f.path), .slice A1 f.data.length c1, .int .i64 f.s0, .int .i64 f.s1, .int .i64 f.s2, .int .i64 f.s3, .int .i64 f.s4, .int .i64 f.s5, .int .i64 f.s6, .int .i64 f.s7, .int .i64 f.s8, .int .i64 f.s9, .slice A2 f.list.length c2, .int .i64 f.cver, .slice A3 f.cmems.length c3, .slice A4 f.np c4] 43 (0, 0)) := by rw [hw1, Below.heap_alloc _ _ _ (by omega), hw0]; exact heap_alloc_new w _
  have hc1 : w1.heap[w.heap.size + 1]? = some (.cells #[.int .u8 e.kind, .int .u8 e.sort, .string (mkS e.path), .int .i64 e.zxid] 46 (0, 0)) := by rw [hw1, ← hs0]; exact heap_alloc_new w0 _
  have HK : Hid (∀ w', Below w1.heap.size w1 w' → Below w.heap.size w w' ∧ w'.heap[w.heap.size]? = some (.cells #[.int .u8 f.kind, .int .i64 f.xid, .int .i64 f.zxid, .int .i64 f.err, .int .i64 f.session, .int .i64 f.timeout, .string (mkS f.path), .slice A1 f.data.length c1, .int .i64 f.s0, .int .i64 f.s1, .int .i64 f.s2, .int .i64 f.s3, .int .i64 f.s4, .int .i64 f.s5, .int .i64 f.s6, .int .i64 f.s7, .int .i64 f.s8, .int .i64 f.s9, .slice A2 f.list.length c2, .int .i64 f.cver, .slice A3 f.cmems.length c3, .slice A4 f.np c4] 43 (0, 0)) ∧ w'.heap[w.heap.size + 1]? = some (.cells #[.int .u8 e.kind, .int .u8 e.sort, .string (mkS e.path), .int .i64 e.zxid] 46 (0, 0)) ∧ RVal w' f A1 c1 A2 c2 A3 c3 ∧ RPrts w' w'.heap.size (.slice A4 f.np c4) ps ∧ QL w') := fun w' hB => by
    have hB' := hB1.trans (hB.mono hB1.size)
    exact ⟨hB', by rw [hB.block _ (heap_lt hc0)]; exact hc0, by rw [hB.block _ (heap_lt hc1)]; exact hc1, hv.grow hB', hp.grow hB', hL.below hB'⟩
  have hwd := wide_any f ps A1 A2 A3 A4 c1 c2 c3 c4 w1 (hp.grow hB1) hf.len hnl
  have hra := rangeL hc0
  rw [hw1, hw0] at hwd hra
  clear hv hf hp hL hl hlp hef hpe hr hre hB0 hB1 hc0 hc1 hs0
  go_enter Tryd.func4, Tryd.ntmps4
  go_wp2_with (refine wpList_load_mid rfl 43 _ rfl w.heap.size 0 rfl [.int .u8 f.kind, .int .i64 f.xid, .int .i64 f.zxid, .int .i64 f.err, .int .i64 f.session, .int .i64 f.timeout, .string (mkS f.path), .slice A1 f.data.length c1, .int .i64 f.s0, .int .i64 f.s1, .int .i64 f.s2, .int .i64 f.s3, .int .i64 f.s4, .int .i64 f.s5, .int .i64 f.s6, .int .i64 f.s7, .int .i64 f.s8, .int .i64 f.s9, .slice A2 f.list.length c2, .int .i64 f.cver, .slice A3 f.cmems.length c3, .slice A4 f.np c4] _ hra Tryd.underlying43 rfl infoR ?_)
  refine hwd.mono ?_
  rintro a w2 ⟨⟨B, rfl⟩, hB2⟩
  rw [← hw0, ← hw1] at hB2
  have HB2 : Hid (Below w1.heap.size w1 w2) := hB2
  clear hwd hB2 hw1 hw0 hra
  cases B with
  | true =>
    have hc := awakeQ_any w2 (HK.out w2 HB2.out).2.2.2.2.2
    go_wp2_with fail
    refine hc.mono ?_
    rintro a w3 ⟨rfl, hB3⟩
    have HE : Hid (Below w.heap.size w w3) := (HK.out w3 (HB2.out.trans (hB3.mono HB2.out.size))).1
    clear hc hB3
    go_wp2
    go_ret
    exact ⟨rfl, HE.out⟩
  | false =>
  have hra := rangeL (HK.out w2 HB2.out).2.1
  have hc := putR_yes f ps A1 A2 A3 A4 c1 c2 c3 c4 w2 (HK.out w2 HB2.out).2.2.2.1 (HK.out w2 HB2.out).2.2.2.2.1 HF.out HLN.out HLP.out HNL.out HR.out
  go_wp2_with (refine wpList_load_mid rfl 43 _ rfl w.heap.size 0 rfl [.int .u8 f.kind, .int .i64 f.xid, .int .i64 f.zxid, .int .i64 f.err, .int .i64 f.session, .int .i64 f.timeout, .string (mkS f.path), .slice A1 f.data.length c1, .int .i64 f.s0, .int .i64 f.s1, .int .i64 f.s2, .int .i64 f.s3, .int .i64 f.s4, .int .i64 f.s5, .int .i64 f.s6, .int .i64 f.s7, .int .i64 f.s8, .int .i64 f.s9, .slice A2 f.list.length c2, .int .i64 f.cver, .slice A3 f.cmems.length c3, .slice A4 f.np c4] _ hra Tryd.underlying43 rfl infoR ?_)
  refine hc.mono ?_
  rintro a w3 ⟨x, rfl, hN⟩
  have hBn := hN.below
  obtain ⟨AX, CX, rfl⟩ := bs_form hN.bs
  have HX3 : Hid (Bs w3 (.slice AX (replyB f ps).length CX) (replyB f ps)) := hN.bs
  have HB3 : Hid (Below w1.heap.size w1 w3) := HB2.out.trans (hBn.mono HB2.out.size)
  clear hra hc hBn HB2 hN 
  have hra := rangeL (HK.out w3 HB3.out).2.1
  have hc := rputR_yes f ps A1 A2 A3 A4 c1 c2 c3 c4 w3 (HK.out w3 HB3.out).2.2.2.1 (HK.out w3 HB3.out).2.2.2.2.1 HF.out HLN.out HLP.out HNL.out HR.out
  go_wp2_with (refine wpList_load_mid rfl 43 _ rfl w.heap.size 0 rfl [.int .u8 f.kind, .int .i64 f.xid, .int .i64 f.zxid, .int .i64 f.err, .int .i64 f.session, .int .i64 f.timeout, .string (mkS f.path), .slice A1 f.data.length c1, .int .i64 f.s0, .int .i64 f.s1, .int .i64 f.s2, .int .i64 f.s3, .int .i64 f.s4, .int .i64 f.s5, .int .i64 f.s6, .int .i64 f.s7, .int .i64 f.s8, .int .i64 f.s9, .slice A2 f.list.length c2, .int .i64 f.cver, .slice A3 f.cmems.length c3, .slice A4 f.np c4] _ hra Tryd.underlying43 rfl infoR ?_)
  refine hc.mono ?_
  rintro a w4 ⟨x, rfl, hN⟩
  have hBn := hN.below
  obtain ⟨AY, CY, rfl⟩ := bs_form hN.bs
  have HY4 : Hid (Bs w4 (.slice AY (replyB f ps).length CY) (replyB f ps)) := hN.bs
  have HB4 : Hid (Below w1.heap.size w1 w4) := HB3.out.trans (hBn.mono HB3.out.size)
  have HX4 : Hid (Bs w4 (.slice AX (replyB f ps).length CX) (replyB f ps)) := Bs.below' HX3.out hBn
  clear hra hc hBn HB3 hN HX3
  obtain ⟨v0, v1, v2, v3⟩ := cells4 (HK.out w4 HB4.out).2.2.1
  have hc := putE_no e w4 HPE.out HRE.out
  go_wp2_with fail
  refine hc.mono ?_
  rintro a w5 ⟨rfl, hBn⟩
  have HB5 : Hid (Below w1.heap.size w1 w5) := HB4.out.trans (hBn.mono HB4.out.size)
  have HX5 : Hid (Bs w5 (.slice AX (replyB f ps).length CX) (replyB f ps)) := Bs.below' HX4.out hBn
  have HY5 : Hid (Bs w5 (.slice AY (replyB f ps).length CY) (replyB f ps)) := Bs.below' HY4.out hBn
  clear v0 v1 v2 v3 hc hBn HB4  HX4 HY4
  obtain ⟨v0, v1, v2, v3⟩ := cells4 (HK.out w5 HB5.out).2.2.1
  have hc := rputE_no e w5 HPE.out HRE.out
  go_wp2_with fail
  refine hc.mono ?_
  rintro a w6 ⟨rfl, hBn⟩
  have HB6 : Hid (Below w1.heap.size w1 w6) := HB5.out.trans (hBn.mono HB5.out.size)
  have HX6 : Hid (Bs w6 (.slice AX (replyB f ps).length CX) (replyB f ps)) := Bs.below' HX5.out hBn
  have HY6 : Hid (Bs w6 (.slice AY (replyB f ps).length CY) (replyB f ps)) := Bs.below' HY5.out hBn
  clear v0 v1 v2 v3 hc hBn HB5  HX5 HY5
  have hc := same_x2 HX6.out HY6.out (by have := HDL.out; omega)
  go_wp2_with fail
  refine hc.mono ?_
  rintro a w7 ⟨rfl, hB7⟩
  have hc2 := same_x2 (w := w7) (x := .slice none 0 0) (y := .slice none 0 0) (la := []) (.inl ⟨rfl, rfl⟩) (.inl ⟨rfl, rfl⟩) (by simp)
  have HB7 : Hid (Below w1.heap.size w1 w7) := HB6.out.trans (hB7.mono HB6.out.size)
  clear hc hB7 HB6
  go_wp2_with fail
  refine hc2.mono ?_
  rintro a w8 ⟨rfl, hB8⟩
  have HB8 : Hid (Below w1.heap.size w1 w8) := HB7.out.trans (hB8.mono HB7.out.size)
  clear hc2 hB8 HB7
  have hc := awakeQ_any w8 (HK.out w8 HB8.out).2.2.2.2.2
  go_wp2_with fail
  refine hc.mono ?_
  rintro a w9 ⟨rfl, hB9⟩
  have HE : Hid (Below w.heap.size w w9) := (HK.out w9 (HB8.out.trans (hB9.mono HB8.out.size))).1
  clear hc hB9
  go_wp2
  go_ret
  exact ⟨rfl, HE.out⟩
set_option maxRecDepth 100000 in
set_option maxHeartbeats 8000000 in
theorem lrep_ny (f : Rf) (ps : List Rf) (A1 A2 A3 A4 : Option Addr) (c1 c2 c3 c4 : Nat) (w : World) (hv : RVal w f A1 c1 A2 c2 A3 c3) (hp : RPrts w w.heap.size (.slice A4 f.np c4) ps) (hf : RepFit f ps) (hl : RLen f) (hlp : ∀ p ∈ ps, RLen p ∧ p.np ≤ 9223372036854775807) (hnl : f.np ≤ 9223372036854775807) (e : Ev) (hef : EvFit e) (hpe : e.path.length ≤ 9223372036854775807) (hL : QL w) (hr : rightR f ps = false) (hre : rightE e = true) :
    Calls Tryd.prog 4 #[.agg #[.int .u8 f.kind, .int .i64 f.xid, .int .i64 f.zxid, .int .i64 f.err, .int .i64 f.session, .int .i64 f.timeout, .string (mkS f.path), .slice A1 f.data.length c1, .int .i64 f.s0, .int .i64 f.s1, .int .i64 f.s2, .int .i64 f.s3, .int .i64 f.s4, .int .i64 f.s5, .int .i64 f.s6, .int .i64 f.s7, .int .i64 f.s8, .int .i64 f.s9, .slice A2 f.list.length c2, .int .i64 f.cver, .slice A3 f.cmems.length c3, .slice A4 f.np c4], .agg #[.int .u8 e.kind, .int .u8 e.sort, .string (mkS e.path), .int .i64 e.zxid]] w fun a w' => a = .returned (.bool true) ∧ Below w.heap.size w w' := by
  have HF : Hid (RepFit f ps) := hf
  have HR : Hid (rightR f ps = false) := hr
  have HRE : Hid (rightE e = true) := hre
  have HEF : Hid (EvFit e) := hef
  have HPE : Hid (e.path.length ≤ 9223372036854775807) := hpe
  have HLN : Hid (RLen f) := hl
  have HLP : Hid (∀ p ∈ ps, RLen p ∧ p.np ≤ 9223372036854775807) := hlp
  have HNL : Hid (f.np ≤ 9223372036854775807) := hnl

  have HEL : Hid ((eventB e).length ≤ 1000) := eventB_len2 hef hre
  obtain ⟨w0, hw0⟩ : ∃ X, X = w.alloc (.cells #[.int .u8 f.kind, .int .i64 f.xid, .int .i64 f.zxid, .int .i64 f.err, .int .i64 f.session, .int .i64 f.timeout, .string (mkS f.path), .slice A1 f.data.length c1, .int .i64 f.s0, .int .i64 f.s1, .int .i64 f.s2, .int .i64 f.s3, .int .i64 f.s4, .int .i64 f.s5, .int .i64 f.s6, .int .i64 f.s7, .int .i64 f.s8, .int .i64 f.s9, .slice A2 f.list.length c2, .int .i64 f.cver, .slice A3 f.cmems.length c3, .slice A4 f.np c4] 43) := ⟨_, rfl⟩
  have hs0 : w0.heap.size = w.heap.size + 1 := by rw [hw0]; simp
  have hB0 : Below w.heap.size w w0 := by rw [hw0]; exact (Below.refl _ _).alloc (Nat.le_refl _) _
  obtain ⟨w1, hw1⟩ : ∃ X, X = w0.alloc (.cells #[.int .u8 e.kind, .int .u8 e.sort, .string (mkS e.path), .int .i64 e.zxid] 46) := ⟨_, rfl⟩
  have hB1 : Below w.heap.size w w1 := by rw [hw1]; exact hB0.alloc hB0.size _
  have hc0 : w1.heap[w.heap.size]? = some (.cells #[.int .u8 f.kind, .int .i64 f.xid, .int .i64 f.zxid, .int .i64 f.err, .int .i64 f.session, .int .i64 f.timeout, .string (mkS f.path), .slice A1 f.data.length c1, .int .i64 f.s0, .int .i64 f.s1, .int .i64 f.s2, .int .i64 f.s3, .int .i64 f.s4, .int .i64 f.s5, .int .i64 f.s6, .int .i64 f.s7, .int .i64 f.s8, .int .i64 f.s9, .slice A2 f.list.length c2, .int .i64 f.cver, .slice A3 f.cmems.length c3, .slice A4 f.np c4] 43 (0, 0)) := by rw [hw1, Below.heap_alloc _ _ _ (by omega), hw0]; exact heap_alloc_new w _
  have hc1 : w1.heap[w.heap.size + 1]? = some (.cells #[.int .u8 e.kind, .int .u8 e.sort, .string (mkS e.path), .int .i64 e.zxid] 46 (0, 0)) := by rw [hw1, ← hs0]; exact heap_alloc_new w0 _
  have HK : Hid (∀ w', Below w1.heap.size w1 w' → Below w.heap.size w w' ∧ w'.heap[w.heap.size]? = some (.cells #[.int .u8 f.kind, .int .i64 f.xid, .int .i64 f.zxid, .int .i64 f.err, .int .i64 f.session, .int .i64 f.timeout, .string (mkS f.path), .slice A1 f.data.length c1, .int .i64 f.s0, .int .i64 f.s1, .int .i64 f.s2, .int .i64 f.s3, .int .i64 f.s4, .int .i64 f.s5, .int .i64 f.s6, .int .i64 f.s7, .int .i64 f.s8, .int .i64 f.s9, .slice A2 f.list.length c2, .int .i64 f.cver, .slice A3 f.cmems.length c3, .slice A4 f.np c4] 43 (0, 0)) ∧ w'.heap[w.heap.size + 1]? = some (.cells #[.int .u8 e.kind, .int .u8 e.sort, .string (mkS e.path), .int .i64 e.zxid] 46 (0, 0)) ∧ RVal w' f A1 c1 A2 c2 A3 c3 ∧ RPrts w' w'.heap.size (.slice A4 f.np c4) ps ∧ QL w') := fun w' hB => by
    have hB' := hB1.trans (hB.mono hB1.size)
    exact ⟨hB', by rw [hB.block _ (heap_lt hc0)]; exact hc0, by rw [hB.block _ (heap_lt hc1)]; exact hc1, hv.grow hB', hp.grow hB', hL.below hB'⟩
  have hwd := wide_any f ps A1 A2 A3 A4 c1 c2 c3 c4 w1 (hp.grow hB1) hf.len hnl
  have hra := rangeL hc0
  rw [hw1, hw0] at hwd hra
  clear hv hf hp hL hl hlp hef hpe hr hre hB0 hB1 hc0 hc1 hs0
  go_enter Tryd.func4, Tryd.ntmps4
  go_wp2_with (refine wpList_load_mid rfl 43 _ rfl w.heap.size 0 rfl [.int .u8 f.kind, .int .i64 f.xid, .int .i64 f.zxid, .int .i64 f.err, .int .i64 f.session, .int .i64 f.timeout, .string (mkS f.path), .slice A1 f.data.length c1, .int .i64 f.s0, .int .i64 f.s1, .int .i64 f.s2, .int .i64 f.s3, .int .i64 f.s4, .int .i64 f.s5, .int .i64 f.s6, .int .i64 f.s7, .int .i64 f.s8, .int .i64 f.s9, .slice A2 f.list.length c2, .int .i64 f.cver, .slice A3 f.cmems.length c3, .slice A4 f.np c4] _ hra Tryd.underlying43 rfl infoR ?_)
  refine hwd.mono ?_
  rintro a w2 ⟨⟨B, rfl⟩, hB2⟩
  rw [← hw0, ← hw1] at hB2
  have HB2 : Hid (Below w1.heap.size w1 w2) := hB2
  clear hwd hB2 hw1 hw0 hra
  cases B with
  | true =>
    have hc := awakeQ_any w2 (HK.out w2 HB2.out).2.2.2.2.2
    go_wp2_with fail
    refine hc.mono ?_
    rintro a w3 ⟨rfl, hB3⟩
    have HE : Hid (Below w.heap.size w w3) := (HK.out w3 (HB2.out.trans (hB3.mono HB2.out.size))).1
    clear hc hB3
    go_wp2
    go_ret
    exact ⟨rfl, HE.out⟩
  | false =>
  have hra := rangeL (HK.out w2 HB2.out).2.1
  have hc := putR_no f ps A1 A2 A3 A4 c1 c2 c3 c4 w2 (HK.out w2 HB2.out).2.2.2.1 (HK.out w2 HB2.out).2.2.2.2.1 HF.out HLN.out HLP.out HNL.out HR.out
  go_wp2_with (refine wpList_load_mid rfl 43 _ rfl w.heap.size 0 rfl [.int .u8 f.kind, .int .i64 f.xid, .int .i64 f.zxid, .int .i64 f.err, .int .i64 f.session, .int .i64 f.timeout, .string (mkS f.path), .slice A1 f.data.length c1, .int .i64 f.s0, .int .i64 f.s1, .int .i64 f.s2, .int .i64 f.s3, .int .i64 f.s4, .int .i64 f.s5, .int .i64 f.s6, .int .i64 f.s7, .int .i64 f.s8, .int .i64 f.s9, .slice A2 f.list.length c2, .int .i64 f.cver, .slice A3 f.cmems.length c3, .slice A4 f.np c4] _ hra Tryd.underlying43 rfl infoR ?_)
  refine hc.mono ?_
  rintro a w3 ⟨rfl, hBn⟩
  have HB3 : Hid (Below w1.heap.size w1 w3) := HB2.out.trans (hBn.mono HB2.out.size)
  clear hra hc hBn HB2  
  have hra := rangeL (HK.out w3 HB3.out).2.1
  have hc := rputR_no f ps A1 A2 A3 A4 c1 c2 c3 c4 w3 (HK.out w3 HB3.out).2.2.2.1 (HK.out w3 HB3.out).2.2.2.2.1 HF.out HLN.out HLP.out HNL.out HR.out
  go_wp2_with (refine wpList_load_mid rfl 43 _ rfl w.heap.size 0 rfl [.int .u8 f.kind, .int .i64 f.xid, .int .i64 f.zxid, .int .i64 f.err, .int .i64 f.session, .int .i64 f.timeout, .string (mkS f.path), .slice A1 f.data.length c1, .int .i64 f.s0, .int .i64 f.s1, .int .i64 f.s2, .int .i64 f.s3, .int .i64 f.s4, .int .i64 f.s5, .int .i64 f.s6, .int .i64 f.s7, .int .i64 f.s8, .int .i64 f.s9, .slice A2 f.list.length c2, .int .i64 f.cver, .slice A3 f.cmems.length c3, .slice A4 f.np c4] _ hra Tryd.underlying43 rfl infoR ?_)
  refine hc.mono ?_
  rintro a w4 ⟨rfl, hBn⟩
  have HB4 : Hid (Below w1.heap.size w1 w4) := HB3.out.trans (hBn.mono HB3.out.size)
  clear hra hc hBn HB3  
  obtain ⟨v0, v1, v2, v3⟩ := cells4 (HK.out w4 HB4.out).2.2.1
  have hc := putE_yes e w4 HEF.out HRE.out
  go_wp2_with fail
  refine hc.mono ?_
  rintro a w5 ⟨x, rfl, hN⟩
  have hBn := hN.below
  obtain ⟨AM, CM, rfl⟩ := bs_form hN.bs
  have HM5 : Hid (Bs w5 (.slice AM (eventB e).length CM) (eventB e)) := hN.bs
  have HB5 : Hid (Below w1.heap.size w1 w5) := HB4.out.trans (hBn.mono HB4.out.size)
  clear v0 v1 v2 v3 hc hBn HB4 hN 
  obtain ⟨v0, v1, v2, v3⟩ := cells4 (HK.out w5 HB5.out).2.2.1
  have hc := rputE_yes e w5 HEF.out HRE.out
  go_wp2_with fail
  refine hc.mono ?_
  rintro a w6 ⟨x, rfl, hN⟩
  have hBn := hN.below
  obtain ⟨AO, CO, rfl⟩ := bs_form hN.bs
  have HO6 : Hid (Bs w6 (.slice AO (eventB e).length CO) (eventB e)) := hN.bs
  have HB6 : Hid (Below w1.heap.size w1 w6) := HB5.out.trans (hBn.mono HB5.out.size)
  have HM6 : Hid (Bs w6 (.slice AM (eventB e).length CM) (eventB e)) := Bs.below' HM5.out hBn
  clear v0 v1 v2 v3 hc hBn HB5 hN HM5
  have hc := same_x2 (w := w6) (x := .slice none 0 0) (y := .slice none 0 0) (la := []) (.inl ⟨rfl, rfl⟩) (.inl ⟨rfl, rfl⟩) (by simp)
  go_wp2_with fail
  refine hc.mono ?_
  rintro a w7 ⟨rfl, hB7⟩
  have hc2 := same_x2 (Bs.below' HM6.out hB7) (Bs.below' HO6.out hB7) (by have := HEL.out; omega)
  have HB7 : Hid (Below w1.heap.size w1 w7) := HB6.out.trans (hB7.mono HB6.out.size)
  clear hc hB7 HB6
  go_wp2_with fail
  refine hc2.mono ?_
  rintro a w8 ⟨rfl, hB8⟩
  have HB8 : Hid (Below w1.heap.size w1 w8) := HB7.out.trans (hB8.mono HB7.out.size)
  clear hc2 hB8 HB7
  have hc := awakeQ_any w8 (HK.out w8 HB8.out).2.2.2.2.2
  go_wp2_with fail
  refine hc.mono ?_
  rintro a w9 ⟨rfl, hB9⟩
  have HE : Hid (Below w.heap.size w w9) := (HK.out w9 (HB8.out.trans (hB9.mono HB8.out.size))).1
  clear hc hB9
  go_wp2
  go_ret
  exact ⟨rfl, HE.out⟩
set_option maxRecDepth 100000 in
set_option maxHeartbeats 8000000 in
theorem lrep_nn (f : Rf) (ps : List Rf) (A1 A2 A3 A4 : Option Addr) (c1 c2 c3 c4 : Nat) (w : World) (hv : RVal w f A1 c1 A2 c2 A3 c3) (hp : RPrts w w.heap.size (.slice A4 f.np c4) ps) (hf : RepFit f ps) (hl : RLen f) (hlp : ∀ p ∈ ps, RLen p ∧ p.np ≤ 9223372036854775807) (hnl : f.np ≤ 9223372036854775807) (e : Ev) (hef : EvFit e) (hpe : e.path.length ≤ 9223372036854775807) (hL : QL w) (hr : rightR f ps = false) (hre : rightE e = false) :
    Calls Tryd.prog 4 #[.agg #[.int .u8 f.kind, .int .i64 f.xid, .int .i64 f.zxid, .int .i64 f.err, .int .i64 f.session, .int .i64 f.timeout, .string (mkS f.path), .slice A1 f.data.length c1, .int .i64 f.s0, .int .i64 f.s1, .int .i64 f.s2, .int .i64 f.s3, .int .i64 f.s4, .int .i64 f.s5, .int .i64 f.s6, .int .i64 f.s7, .int .i64 f.s8, .int .i64 f.s9, .slice A2 f.list.length c2, .int .i64 f.cver, .slice A3 f.cmems.length c3, .slice A4 f.np c4], .agg #[.int .u8 e.kind, .int .u8 e.sort, .string (mkS e.path), .int .i64 e.zxid]] w fun a w' => a = .returned (.bool true) ∧ Below w.heap.size w w' := by
  have HF : Hid (RepFit f ps) := hf
  have HR : Hid (rightR f ps = false) := hr
  have HRE : Hid (rightE e = false) := hre
  have HEF : Hid (EvFit e) := hef
  have HPE : Hid (e.path.length ≤ 9223372036854775807) := hpe
  have HLN : Hid (RLen f) := hl
  have HLP : Hid (∀ p ∈ ps, RLen p ∧ p.np ≤ 9223372036854775807) := hlp
  have HNL : Hid (f.np ≤ 9223372036854775807) := hnl


  obtain ⟨w0, hw0⟩ : ∃ X, X = w.alloc (.cells #[.int .u8 f.kind, .int .i64 f.xid, .int .i64 f.zxid, .int .i64 f.err, .int .i64 f.session, .int .i64 f.timeout, .string (mkS f.path), .slice A1 f.data.length c1, .int .i64 f.s0, .int .i64 f.s1, .int .i64 f.s2, .int .i64 f.s3, .int .i64 f.s4, .int .i64 f.s5, .int .i64 f.s6, .int .i64 f.s7, .int .i64 f.s8, .int .i64 f.s9, .slice A2 f.list.length c2, .int .i64 f.cver, .slice A3 f.cmems.length c3, .slice A4 f.np c4] 43) := ⟨_, rfl⟩
  have hs0 : w0.heap.size = w.heap.size + 1 := by rw [hw0]; simp
  have hB0 : Below w.heap.size w w0 := by rw [hw0]; exact (Below.refl _ _).alloc (Nat.le_refl _) _
  obtain ⟨w1, hw1⟩ : ∃ X, X = w0.alloc (.cells #[.int .u8 e.kind, .int .u8 e.sort, .string (mkS e.path), .int .i64 e.zxid] 46) := ⟨_, rfl⟩
  have hB1 : Below w.heap.size w w1 := by rw [hw1]; exact hB0.alloc hB0.size _
  have hc0 : w1.heap[w.heap.size]? = some (.cells #[.int .u8 f.kind, .int .i64 f.xid, .int .i64 f.zxid, .int .i64 f.err, .int .i64 f.session, .int .i64 f.timeout, .string (mkS f.path), .slice A1 f.data.length c1, .int .i64 f.s0, .int .i64 f.s1, .int .i64 f.s2, .int .i64 f.s3, .int .i64 f.s4, .int .i64 f.s5, .int .i64 f.s6, .int .i64 f.s7, .int .i64 f.s8, .int .i64 f.s9, .slice A2 f.list.length c2, .int .i64 f.cver, .slice A3 f.cmems.length c3, .slice A4 f.np c4] 43 (0, 0)) := by rw [hw1, Below.heap_alloc _ _ _ (by omega), hw0]; exact heap_alloc_new w _
  have hc1 : w1.heap[w.heap.size + 1]? = some (.cells #[.int .u8 e.kind, .int .u8 e.sort, .string (mkS e.path), .int .i64 e.zxid] 46 (0, 0)) := by rw [hw1, ← hs0]; exact heap_alloc_new w0 _
  have HK : Hid (∀ w', Below w1.heap.size w1 w' → Below w.heap.size w w' ∧ w'.heap[w.heap.size]? = some (.cells #[.int .u8 f.kind, .int .i64 f.xid, .int .i64 f.zxid, .int .i64 f.err, .int .i64 f.session, .int .i64 f.timeout, .string (mkS f.path), .slice A1 f.data.length c1, .int .i64 f.s0, .int .i64 f.s1, .int .i64 f.s2, .int .i64 f.s3, .int .i64 f.s4, .int .i64 f.s5, .int .i64 f.s6, .int .i64 f.s7, .int .i64 f.s8, .int .i64 f.s9, .slice A2 f.list.length c2, .int .i64 f.cver, .slice A3 f.cmems.length c3, .slice A4 f.np c4] 43 (0, 0)) ∧ w'.heap[w.heap.size + 1]? = some (.cells #[.int .u8 e.kind, .int .u8 e.sort, .string (mkS e.path), .int .i64 e.zxid] 46 (0, 0)) ∧ RVal w' f A1 c1 A2 c2 A3 c3 ∧ RPrts w' w'.heap.size (.slice A4 f.np c4) ps ∧ QL w') := fun w' hB => by
    have hB' := hB1.trans (hB.mono hB1.size)
    exact ⟨hB', by rw [hB.block _ (heap_lt hc0)]; exact hc0, by rw [hB.block _ (heap_lt hc1)]; exact hc1, hv.grow hB', hp.grow hB', hL.below hB'⟩
  have hwd := wide_any f ps A1 A2 A3 A4 c1 c2 c3 c4 w1 (hp.grow hB1) hf.len hnl
  have hra := rangeL hc0
  rw [hw1, hw0] at hwd hra
  clear hv hf hp hL hl hlp hef hpe hr hre hB0 hB1 hc0 hc1 hs0
  go_enter Tryd.func4, Tryd.ntmps4
  go_wp2_with (refine wpList_load_mid rfl 43 _ rfl w.heap.size 0 rfl [.int .u8 f.kind, .int .i64 f.xid, .int .i64 f.zxid, .int .i64 f.err, .int .i64 f.session, .int .i64 f.timeout, .string (mkS f.path), .slice A1 f.data.length c1, .int .i64 f.s0, .int .i64 f.s1, .int .i64 f.s2, .int .i64 f.s3, .int .i64 f.s4, .int .i64 f.s5, .int .i64 f.s6, .int .i64 f.s7, .int .i64 f.s8, .int .i64 f.s9, .slice A2 f.list.length c2, .int .i64 f.cver, .slice A3 f.cmems.length c3, .slice A4 f.np c4] _ hra Tryd.underlying43 rfl infoR ?_)
  refine hwd.mono ?_
  rintro a w2 ⟨⟨B, rfl⟩, hB2⟩
  rw [← hw0, ← hw1] at hB2
  have HB2 : Hid (Below w1.heap.size w1 w2) := hB2
  clear hwd hB2 hw1 hw0 hra
  cases B with
  | true =>
    have hc := awakeQ_any w2 (HK.out w2 HB2.out).2.2.2.2.2
    go_wp2_with fail
    refine hc.mono ?_
    rintro a w3 ⟨rfl, hB3⟩
    have HE : Hid (Below w.heap.size w w3) := (HK.out w3 (HB2.out.trans (hB3.mono HB2.out.size))).1
    clear hc hB3
    go_wp2
    go_ret
    exact ⟨rfl, HE.out⟩
  | false =>
  have hra := rangeL (HK.out w2 HB2.out).2.1
  have hc := putR_no f ps A1 A2 A3 A4 c1 c2 c3 c4 w2 (HK.out w2 HB2.out).2.2.2.1 (HK.out w2 HB2.out).2.2.2.2.1 HF.out HLN.out HLP.out HNL.out HR.out
  go_wp2_with (refine wpList_load_mid rfl 43 _ rfl w.heap.size 0 rfl [.int .u8 f.kind, .int .i64 f.xid, .int .i64 f.zxid, .int .i64 f.err, .int .i64 f.session, .int .i64 f.timeout, .string (mkS f.path), .slice A1 f.data.length c1, .int .i64 f.s0, .int .i64 f.s1, .int .i64 f.s2, .int .i64 f.s3, .int .i64 f.s4, .int .i64 f.s5, .int .i64 f.s6, .int .i64 f.s7, .int .i64 f.s8, .int .i64 f.s9, .slice A2 f.list.length c2, .int .i64 f.cver, .slice A3 f.cmems.length c3, .slice A4 f.np c4] _ hra Tryd.underlying43 rfl infoR ?_)
  refine hc.mono ?_
  rintro a w3 ⟨rfl, hBn⟩
  have HB3 : Hid (Below w1.heap.size w1 w3) := HB2.out.trans (hBn.mono HB2.out.size)
  clear hra hc hBn HB2  
  have hra := rangeL (HK.out w3 HB3.out).2.1
  have hc := rputR_no f ps A1 A2 A3 A4 c1 c2 c3 c4 w3 (HK.out w3 HB3.out).2.2.2.1 (HK.out w3 HB3.out).2.2.2.2.1 HF.out HLN.out HLP.out HNL.out HR.out
  go_wp2_with (refine wpList_load_mid rfl 43 _ rfl w.heap.size 0 rfl [.int .u8 f.kind, .int .i64 f.xid, .int .i64 f.zxid, .int .i64 f.err, .int .i64 f.session, .int .i64 f.timeout, .string (mkS f.path), .slice A1 f.data.length c1, .int .i64 f.s0, .int .i64 f.s1, .int .i64 f.s2, .int .i64 f.s3, .int .i64 f.s4, .int .i64 f.s5, .int .i64 f.s6, .int .i64 f.s7, .int .i64 f.s8, .int .i64 f.s9, .slice A2 f.list.length c2, .int .i64 f.cver, .slice A3 f.cmems.length c3, .slice A4 f.np c4] _ hra Tryd.underlying43 rfl infoR ?_)
  refine hc.mono ?_
  rintro a w4 ⟨rfl, hBn⟩
  have HB4 : Hid (Below w1.heap.size w1 w4) := HB3.out.trans (hBn.mono HB3.out.size)
  clear hra hc hBn HB3  
  obtain ⟨v0, v1, v2, v3⟩ := cells4 (HK.out w4 HB4.out).2.2.1
  have hc := putE_no e w4 HPE.out HRE.out
  go_wp2_with fail
  refine hc.mono ?_
  rintro a w5 ⟨rfl, hBn⟩
  have HB5 : Hid (Below w1.heap.size w1 w5) := HB4.out.trans (hBn.mono HB4.out.size)
  clear v0 v1 v2 v3 hc hBn HB4  
  obtain ⟨v0, v1, v2, v3⟩ := cells4 (HK.out w5 HB5.out).2.2.1
  have hc := rputE_no e w5 HPE.out HRE.out
  go_wp2_with fail
  refine hc.mono ?_
  rintro a w6 ⟨rfl, hBn⟩
  have HB6 : Hid (Below w1.heap.size w1 w6) := HB5.out.trans (hBn.mono HB5.out.size)
  clear v0 v1 v2 v3 hc hBn HB5  
  have hc := same_x2 (w := w6) (x := .slice none 0 0) (y := .slice none 0 0) (la := []) (.inl ⟨rfl, rfl⟩) (.inl ⟨rfl, rfl⟩) (by simp)
  go_wp2_with fail
  refine hc.mono ?_
  rintro a w7 ⟨rfl, hB7⟩
  have hc2 := same_x2 (w := w7) (x := .slice none 0 0) (y := .slice none 0 0) (la := []) (.inl ⟨rfl, rfl⟩) (.inl ⟨rfl, rfl⟩) (by simp)
  have HB7 : Hid (Below w1.heap.size w1 w7) := HB6.out.trans (hB7.mono HB6.out.size)
  clear hc hB7 HB6
  go_wp2_with fail
  refine hc2.mono ?_
  rintro a w8 ⟨rfl, hB8⟩
  have HB8 : Hid (Below w1.heap.size w1 w8) := HB7.out.trans (hB8.mono HB7.out.size)
  clear hc2 hB8 HB7
  have hc := awakeQ_any w8 (HK.out w8 HB8.out).2.2.2.2.2
  go_wp2_with fail
  refine hc.mono ?_
  rintro a w9 ⟨rfl, hB9⟩
  have HE : Hid (Below w.heap.size w w9) := (HK.out w9 (HB8.out.trans (hB9.mono HB8.out.size))).1
  clear hc hB9
  go_wp2
  go_ret
  exact ⟨rfl, HE.out⟩
theorem lreplies_any (f : Rf) (ps : List Rf) (A1 A2 A3 A4 : Option Addr) (c1 c2 c3 c4 : Nat) (w : World) (hv : RVal w f A1 c1 A2 c2 A3 c3) (hp : RPrts w w.heap.size (.slice A4 f.np c4) ps) (hf : RepFit f ps) (hl : RLen f) (hlp : ∀ p ∈ ps, RLen p ∧ p.np ≤ 9223372036854775807) (hnl : f.np ≤ 9223372036854775807) (e : Ev) (hef : EvFit e) (hpe : e.path.length ≤ 9223372036854775807) (hL : QL w) :
    Calls Tryd.prog 4 #[.agg #[.int .u8 f.kind, .int .i64 f.xid, .int .i64 f.zxid, .int .i64 f.err, .int .i64 f.session, .int .i64 f.timeout, .string (mkS f.path), .slice A1 f.data.length c1, .int .i64 f.s0, .int .i64 f.s1, .int .i64 f.s2, .int .i64 f.s3, .int .i64 f.s4, .int .i64 f.s5, .int .i64 f.s6, .int .i64 f.s7, .int .i64 f.s8, .int .i64 f.s9, .slice A2 f.list.length c2, .int .i64 f.cver, .slice A3 f.cmems.length c3, .slice A4 f.np c4], .agg #[.int .u8 e.kind, .int .u8 e.sort, .string (mkS e.path), .int .i64 e.zxid]] w fun a w' => a = .returned (.bool true) ∧ Below w.heap.size w w' := by
  cases hr : rightR f ps with
  | true =>
    cases hre : rightE e with
    | true => exact lrep_yy f ps A1 A2 A3 A4 c1 c2 c3 c4 w hv hp hf hl hlp hnl e hef hpe hL hr hre
    | false => exact lrep_yn f ps A1 A2 A3 A4 c1 c2 c3 c4 w hv hp hf hl hlp hnl e hef hpe hL hr hre
  | false =>
    cases hre : rightE e with
    | true => exact lrep_ny f ps A1 A2 A3 A4 c1 c2 c3 c4 w hv hp hf hl hlp hnl e hef hpe hL hr hre
    | false => exact lrep_nn f ps A1 A2 A3 A4 c1 c2 c3 c4 w hv hp hf hl hlp hnl e hef hpe hL hr hre
end Go.Proofs.YtmojplgoohnmdaaDoor.AK
