/- The walks of PutReply, and of isPut, for a reply that has neither list nor parts. -/
import Derived.Test.YtmojplgoohnmdaaDoorRpB
import Derived.Test.YtmojplgoohnmdaaDoorAkE
namespace Go.Proofs.YtmojplgoohnmdaaDoor.AK
set_option linter.unusedSimpArgs false
set_option linter.unusedVariables false
open Go.RowKit
set_option linter.unusedVariables false
set_option linter.unusedSimpArgs false

theorem fitR_len {f : Rf} (h : FitR f) : RLen f := ⟨by have := h.path; omega, by have := h.data; omega, by have := h.ln; omega, fun t ht => by have := h.ls t ht; omega⟩
set_option maxRecDepth 100000 in
set_option maxHeartbeats 4000000 in
theorem putR_leaf (f : Rf) (A1 A2 A3 A4 : Option Addr) (c1 c2 c3 c4 : Nat) (w : World) (hv : RVal w f A1 c1 A2 c2 A3 c3) (hf : RFit f) (hr : fitR f = true) (hnp : f.np = 0) (hli : f.list = []) :
    Calls Tryd.prog 15 #[.agg #[.int .u8 f.kind, .int .i64 f.xid, .int .i64 f.zxid, .int .i64 f.err, .int .i64 f.session, .int .i64 f.timeout, .string (mkS f.path), .slice A1 f.data.length c1, .int .i64 f.s0, .int .i64 f.s1, .int .i64 f.s2, .int .i64 f.s3, .int .i64 f.s4, .int .i64 f.s5, .int .i64 f.s6, .int .i64 f.s7, .int .i64 f.s8, .int .i64 f.s9, .slice A2 0 c2, .int .i64 f.cver, .slice A3 f.cmems.length c3, .slice A4 0 c4]] w fun e w' => ∃ x, e = .returned (.tuple #[x, .int .i64 0]) ∧ New w w' x (bodyR f ++ numB 0) := by
  have HF : Hid (RFit f) := hf
  have HFR : Hid (FitR f) := fitR_of hr
  have HV : Hid (RVal w f A1 c1 A2 c2 A3 c3) := hv
  have HNP : Hid (f.np = 0) := hnp
  have HLI : Hid (f.list = []) := hli
  obtain ⟨w1, hw1⟩ : ∃ X, X = w.alloc (.cells #[.int .u8 f.kind, .int .i64 f.xid, .int .i64 f.zxid, .int .i64 f.err, .int .i64 f.session, .int .i64 f.timeout, .string (mkS f.path), .slice A1 f.data.length c1, .int .i64 f.s0, .int .i64 f.s1, .int .i64 f.s2, .int .i64 f.s3, .int .i64 f.s4, .int .i64 f.s5, .int .i64 f.s6, .int .i64 f.s7, .int .i64 f.s8, .int .i64 f.s9, .slice A2 0 c2, .int .i64 f.cver, .slice A3 f.cmems.length c3, .slice A4 0 c4] 43) := ⟨_, rfl⟩
  have hB1 : Below w.heap.size w w1 := by rw [hw1]; exact (Below.refl _ _).alloc (Nat.le_refl _) _
  have HB1 : Hid (Below w.heap.size w w1) := hB1
  have HC1 : Hid (w1.heap[w.heap.size]? = some (.cells #[.int .u8 f.kind, .int .i64 f.xid, .int .i64 f.zxid, .int .i64 f.err, .int .i64 f.session, .int .i64 f.timeout, .string (mkS f.path), .slice A1 f.data.length c1, .int .i64 f.s0, .int .i64 f.s1, .int .i64 f.s2, .int .i64 f.s3, .int .i64 f.s4, .int .i64 f.s5, .int .i64 f.s6, .int .i64 f.s7, .int .i64 f.s8, .int .i64 f.s9, .slice A2 0 c2, .int .i64 f.cver, .slice A3 f.cmems.length c3, .slice A4 0 c4] 43 (0, 0))) := by rw [hw1]; exact heap_alloc_new w _
  have hri := rightReply_nil f A1 A2 A3 A4 c1 c2 c3 c4 w1 (hv.grow hB1) (fitR_len HFR.out) hnp
  have hll : f.list.length = 0 := by rw [hli]; rfl
  rw [hr, hll, hw1] at hri
  have hra := rangeL HC1.out
  rw [hw1] at hra
  clear hB1 hv hf hr hnp hli hll
  go_enter Tryd.func15, Tryd.ntmps15
  go_wp2_with (refine wpList_load_mid rfl 43 _ rfl w.heap.size 0 rfl [.int .u8 f.kind, .int .i64 f.xid, .int .i64 f.zxid, .int .i64 f.err, .int .i64 f.session, .int .i64 f.timeout, .string (mkS f.path), .slice A1 f.data.length c1, .int .i64 f.s0, .int .i64 f.s1, .int .i64 f.s2, .int .i64 f.s3, .int .i64 f.s4, .int .i64 f.s5, .int .i64 f.s6, .int .i64 f.s7, .int .i64 f.s8, .int .i64 f.s9, .slice A2 0 c2, .int .i64 f.cver, .slice A3 f.cmems.length c3, .slice A4 0 c4] _ hra Tryd.underlying43 rfl infoR ?_)
  refine hri.mono ?_
  rintro e w2 ⟨rfl, hB2⟩
  rw [← hw1] at hB2
  have HB2 : Hid (Below w.heap.size w w2) := HB1.out.trans (hB2.mono HB1.out.size)
  have HC2 : Hid (w2.heap[w.heap.size]? = some (.cells #[.int .u8 f.kind, .int .i64 f.xid, .int .i64 f.zxid, .int .i64 f.err, .int .i64 f.session, .int .i64 f.timeout, .string (mkS f.path), .slice A1 f.data.length c1, .int .i64 f.s0, .int .i64 f.s1, .int .i64 f.s2, .int .i64 f.s3, .int .i64 f.s4, .int .i64 f.s5, .int .i64 f.s6, .int .i64 f.s7, .int .i64 f.s8, .int .i64 f.s9, .slice A2 0 c2, .int .i64 f.cver, .slice A3 f.cmems.length c3, .slice A4 0 c4] 43 (0, 0))) := by show _ = _; rw [hB2.block _ (heap_lt HC1.out)]; exact HC1.out
  clear hri hB2 hw1 HB1 HC1 hra w1
  have hnw := newWriter_any w2 w.heap.size HB2.out.size
  go_wp2_with fail
  refine hnw.mono ?_
  rintro e w3 ⟨rfl, hW3, hB3, hs3⟩
  have HW3 : Hid (WrAt w3 w.heap.size w2.heap.size none []) := hW3
  have hgg : w.heap.size ≤ w2.heap.size := HB2.out.size
  have HC3 : Hid (w3.heap[w.heap.size]? = some (.cells #[.int .u8 f.kind, .int .i64 f.xid, .int .i64 f.zxid, .int .i64 f.err, .int .i64 f.session, .int .i64 f.timeout, .string (mkS f.path), .slice A1 f.data.length c1, .int .i64 f.s0, .int .i64 f.s1, .int .i64 f.s2, .int .i64 f.s3, .int .i64 f.s4, .int .i64 f.s5, .int .i64 f.s6, .int .i64 f.s7, .int .i64 f.s8, .int .i64 f.s9, .slice A2 0 c2, .int .i64 f.cver, .slice A3 f.cmems.length c3, .slice A4 0 c4] 43 (0, 0))) := by show _ = _; rw [hB3.block _ (heap_lt HC2.out)]; exact HC2.out
  have HB3 : Hid (Below w.heap.size w w3) := HB2.out.trans (hB3.mono HB2.out.size)
  clear hnw hW3 hB3 hs3 HB2 HC2
  generalize w2.heap.size = g at HW3 hgg ⊢
  clear w2
  have hv3 := HV.out.grow HB3.out
  have hpr := putReply_leaf HW3.out hgg (by simp) f HF.out HFR.out A1 A2 A3 A4 c1 c2 c3 c4 ⟨hv3.bs, fun k hk => HV.out.bs.lt hk, hv3.tx, fun k hk => HV.out.tx.lt hk, hv3.ms, fun k hk => HV.out.ms.lt hk⟩ HNP.out HLI.out
  have hra := rangeL HC3.out
  clear hv3
  go_wp2_with (refine wpList_load_mid rfl 43 _ rfl w.heap.size 0 rfl [.int .u8 f.kind, .int .i64 f.xid, .int .i64 f.zxid, .int .i64 f.err, .int .i64 f.session, .int .i64 f.timeout, .string (mkS f.path), .slice A1 f.data.length c1, .int .i64 f.s0, .int .i64 f.s1, .int .i64 f.s2, .int .i64 f.s3, .int .i64 f.s4, .int .i64 f.s5, .int .i64 f.s6, .int .i64 f.s7, .int .i64 f.s8, .int .i64 f.s9, .slice A2 0 c2, .int .i64 f.cver, .slice A3 f.cmems.length c3, .slice A4 0 c4] _ hra Tryd.underlying43 rfl infoR ?_)
  refine hpr.mono ?_
  rintro e w4 ⟨rfl, q4, hW4, hP4⟩
  have HB4 : Hid (Below w.heap.size w w4) := HB3.out.trans (put_below HW3.out hgg hP4)
  have HW4 : Hid (WrAt w4 w.heap.size g q4 (bodyR f ++ numB 0)) := by show WrAt _ _ _ _ _; simpa using hW4
  have HDL : Hid ((bodyR f ++ numB 0).length ≤ 130000) := by
    show _ ≤ _
    have h1 := bodyR_len HF.out HFR.out
    have h2 := numB_len (n := 0) I64_0
    have h3 := HFR.out.ln
    simp only [List.length_append]
    omega
  clear hpr hW4 hP4 HW3 HB3 HC3 hra
  have hdn := wDone_any HW4.out (by have := HDL.out; omega)
  go_wp2_with fail
  refine hdn.mono ?_
  rintro e w5 ⟨x, rfl, hN⟩
  have HN : Hid (New w w5 x (bodyR f ++ numB 0)) := ⟨wOwn.base hN.owns HB4.out.size, HB4.out.trans (hN.below.mono HB4.out.size)⟩
  obtain ⟨AX, CX, rfl⟩ := bs_form hN.bs
  clear hdn hN
  go_wp2
  refine bodyPost_ret (v := .tuple #[.slice AX (bodyR f ++ numB 0).length CX, .int .i64 0]) (by simp [results, Tryd.results15, go_sem]) rfl ?_
  exact ⟨_, rfl, HN.out⟩
set_option maxRecDepth 100000 in
set_option maxHeartbeats 4000000 in
theorem isPutR_leaf (f : Rf) (A1 A2 A3 A4 : Option Addr) (c1 c2 c3 c4 : Nat) (w : World) (hv : RVal w f A1 c1 A2 c2 A3 c3) (hf : RFit f) (hr : fitR f = true) (hnp : f.np = 0) (hli : f.list = []) (y : Value) (hB : Bs w y (bodyR f ++ numB 0)) :
    Calls Tryd.prog 59 #[.func (.func 15) #[] #[], .agg #[.int .u8 f.kind, .int .i64 f.xid, .int .i64 f.zxid, .int .i64 f.err, .int .i64 f.session, .int .i64 f.timeout, .string (mkS f.path), .slice A1 f.data.length c1, .int .i64 f.s0, .int .i64 f.s1, .int .i64 f.s2, .int .i64 f.s3, .int .i64 f.s4, .int .i64 f.s5, .int .i64 f.s6, .int .i64 f.s7, .int .i64 f.s8, .int .i64 f.s9, .slice A2 0 c2, .int .i64 f.cver, .slice A3 f.cmems.length c3, .slice A4 0 c4], y] w fun e w' => e = .returned (.bool true) ∧ Below w.heap.size w w' := by
  obtain ⟨w1, hw1⟩ : ∃ X, X = w.alloc (.cells #[.int .u8 f.kind, .int .i64 f.xid, .int .i64 f.zxid, .int .i64 f.err, .int .i64 f.session, .int .i64 f.timeout, .string (mkS f.path), .slice A1 f.data.length c1, .int .i64 f.s0, .int .i64 f.s1, .int .i64 f.s2, .int .i64 f.s3, .int .i64 f.s4, .int .i64 f.s5, .int .i64 f.s6, .int .i64 f.s7, .int .i64 f.s8, .int .i64 f.s9, .slice A2 0 c2, .int .i64 f.cver, .slice A3 f.cmems.length c3, .slice A4 0 c4] 43) := ⟨_, rfl⟩
  have hB1 : Below w.heap.size w w1 := by rw [hw1]; exact (Below.refl _ _).alloc (Nat.le_refl _) _
  have HB1 : Hid (Below w.heap.size w w1) := hB1
  have HC1 : Hid (w1.heap[w.heap.size]? = some (.cells #[.int .u8 f.kind, .int .i64 f.xid, .int .i64 f.zxid, .int .i64 f.err, .int .i64 f.session, .int .i64 f.timeout, .string (mkS f.path), .slice A1 f.data.length c1, .int .i64 f.s0, .int .i64 f.s1, .int .i64 f.s2, .int .i64 f.s3, .int .i64 f.s4, .int .i64 f.s5, .int .i64 f.s6, .int .i64 f.s7, .int .i64 f.s8, .int .i64 f.s9, .slice A2 0 c2, .int .i64 f.cver, .slice A3 f.cmems.length c3, .slice A4 0 c4] 43 (0, 0))) := by rw [hw1]; exact heap_alloc_new w _
  have hyes := putR_leaf f A1 A2 A3 A4 c1 c2 c3 c4 w1 (hv.grow hB1) hf hr hnp hli
  have HB : Hid (Bs w y (bodyR f ++ numB 0)) := hB
  obtain ⟨AY, CY, rfl⟩ := bs_form hB
  rw [hw1] at hyes
  have hra := rangeL HC1.out
  rw [hw1] at hra
  clear hB hf hv hr hnp hli hB1
  generalize bodyR f ++ numB 0 = L at hyes HB ⊢
  go_enter Tryd.func59, Tryd.ntmps59
  go_wp2_with (refine wpList_load_mid rfl 43 _ rfl w.heap.size 0 rfl [.int .u8 f.kind, .int .i64 f.xid, .int .i64 f.zxid, .int .i64 f.err, .int .i64 f.session, .int .i64 f.timeout, .string (mkS f.path), .slice A1 f.data.length c1, .int .i64 f.s0, .int .i64 f.s1, .int .i64 f.s2, .int .i64 f.s3, .int .i64 f.s4, .int .i64 f.s5, .int .i64 f.s6, .int .i64 f.s7, .int .i64 f.s8, .int .i64 f.s9, .slice A2 0 c2, .int .i64 f.cver, .slice A3 f.cmems.length c3, .slice A4 0 c4] _ hra Tryd.underlying43 rfl infoR ?_)
  refine hyes.mono ?_
  rintro a w2 ⟨x, rfl, hN⟩
  rw [← hw1] at hN
  have HB2 : Hid (Below w.heap.size w w2) := HB1.out.trans (hN.below.mono HB1.out.size)
  have heq := equal_any hN.bs (Bs.below' HB.out HB2.out)
  rw [decide_eq_true rfl] at heq
  obtain ⟨AX, CX, rfl⟩ := bs_form hN.bs
  clear hyes hN hw1 hra
  go_wp2_with fail
  refine heq.mono ?_
  rintro a w3 ⟨rfl, rfl⟩
  clear heq
  go_wp2_with fail
  go_ret
  exact ⟨rfl, HB2.out⟩
end Go.Proofs.YtmojplgoohnmdaaDoor.AK
