/- The walk of PutReply. -/
import Derived.Test.YtmojplgoohnmdaaDoorRpG
namespace Go.Proofs.YtmojplgoohnmdaaDoor.AK
set_option linter.unusedSimpArgs false
set_option linter.unusedVariables false
open Go.RowKit
set_option linter.unusedVariables false
set_option linter.unusedSimpArgs false

theorem RPrts.grow {w w' : World} {v : Value} {ps : List Rf} (h : RPrts w w.heap.size v ps) (hb : Below w.heap.size w w') : RPrts w' w'.heap.size v ps := by
  have h := h.below hb
  have := hb.size
  rcases h with h | h | ⟨p0, b, o, c, e, q1, q2, q3, q4⟩
  · exact .inl h
  · exact .inr (.inl h)
  · exact .inr (.inr ⟨p0, b, o, c, e, q1, by omega, Nat.le_refl _, fun j hj => by
      obtain ⟨A1, A2, A3, A4, c1, c2, c3, c4, r1, r2⟩ := q4 j hj
      exact ⟨A1, A2, A3, A4, c1, c2, c3, c4, r1, r2.bs, fun k hk => by have := r2.bsB k hk; omega, r2.tx, fun k hk => by have := r2.txB k hk; omega, r2.ms, fun k hk => by have := r2.msB k hk; omega⟩⟩)
set_option maxRecDepth 100000 in
set_option maxHeartbeats 4000000 in
theorem putR_no (f : Rf) (ps : List Rf) (A1 A2 A3 A4 : Option Addr) (c1 c2 c3 c4 : Nat) (w : World) (hv : RVal w f A1 c1 A2 c2 A3 c3) (hp : RPrts w w.heap.size (.slice A4 f.np c4) ps) (hf : RepFit f ps) (hl : RLen f) (hlp : ∀ p ∈ ps, RLen p ∧ p.np ≤ 9223372036854775807) (hnl : f.np ≤ 9223372036854775807) (hr : rightR f ps = false) :
    Calls Tryd.prog 15 #[.agg #[.int .u8 f.kind, .int .i64 f.xid, .int .i64 f.zxid, .int .i64 f.err, .int .i64 f.session, .int .i64 f.timeout, .string (mkS f.path), .slice A1 f.data.length c1, .int .i64 f.s0, .int .i64 f.s1, .int .i64 f.s2, .int .i64 f.s3, .int .i64 f.s4, .int .i64 f.s5, .int .i64 f.s6, .int .i64 f.s7, .int .i64 f.s8, .int .i64 f.s9, .slice A2 f.list.length c2, .int .i64 f.cver, .slice A3 f.cmems.length c3, .slice A4 f.np c4]] w fun e w' => e = .returned (.tuple #[.slice none 0 0, .int .i64 4]) ∧ Below w.heap.size w w' := by
  obtain ⟨w1, hw1⟩ : ∃ X, X = w.alloc (.cells #[.int .u8 f.kind, .int .i64 f.xid, .int .i64 f.zxid, .int .i64 f.err, .int .i64 f.session, .int .i64 f.timeout, .string (mkS f.path), .slice A1 f.data.length c1, .int .i64 f.s0, .int .i64 f.s1, .int .i64 f.s2, .int .i64 f.s3, .int .i64 f.s4, .int .i64 f.s5, .int .i64 f.s6, .int .i64 f.s7, .int .i64 f.s8, .int .i64 f.s9, .slice A2 f.list.length c2, .int .i64 f.cver, .slice A3 f.cmems.length c3, .slice A4 f.np c4] 43) := ⟨_, rfl⟩
  have hB1 : Below w.heap.size w w1 := by rw [hw1]; exact (Below.refl _ _).alloc (Nat.le_refl _) _
  have HB1 : Hid (Below w.heap.size w w1) := hB1
  have HC1 : Hid (w1.heap[w.heap.size]? = some (.cells #[.int .u8 f.kind, .int .i64 f.xid, .int .i64 f.zxid, .int .i64 f.err, .int .i64 f.session, .int .i64 f.timeout, .string (mkS f.path), .slice A1 f.data.length c1, .int .i64 f.s0, .int .i64 f.s1, .int .i64 f.s2, .int .i64 f.s3, .int .i64 f.s4, .int .i64 f.s5, .int .i64 f.s6, .int .i64 f.s7, .int .i64 f.s8, .int .i64 f.s9, .slice A2 f.list.length c2, .int .i64 f.cver, .slice A3 f.cmems.length c3, .slice A4 f.np c4] 43 (0, 0))) := by rw [hw1]; exact heap_alloc_new w _
  have hri := rightReply_any f ps A1 A2 A3 A4 c1 c2 c3 c4 w1 (hv.grow hB1) (hp.grow hB1) hf.len hl hlp hnl
  rw [hr, hw1] at hri
  have hra := rangeL HC1.out
  rw [hw1] at hra
  clear hB1 hv hf hr hp hl hlp
  go_enter Tryd.func15, Tryd.ntmps15
  go_wp2_with (refine wpList_load_mid rfl 43 _ rfl w.heap.size 0 rfl [.int .u8 f.kind, .int .i64 f.xid, .int .i64 f.zxid, .int .i64 f.err, .int .i64 f.session, .int .i64 f.timeout, .string (mkS f.path), .slice A1 f.data.length c1, .int .i64 f.s0, .int .i64 f.s1, .int .i64 f.s2, .int .i64 f.s3, .int .i64 f.s4, .int .i64 f.s5, .int .i64 f.s6, .int .i64 f.s7, .int .i64 f.s8, .int .i64 f.s9, .slice A2 f.list.length c2, .int .i64 f.cver, .slice A3 f.cmems.length c3, .slice A4 f.np c4] _ hra Tryd.underlying43 rfl infoR ?_)
  refine hri.mono ?_
  rintro e w2 ⟨rfl, hB2⟩
  rw [← hw1] at hB2
  have HB2 : Hid (Below w.heap.size w w2) := HB1.out.trans (hB2.mono HB1.out.size)
  clear hri hB2 hw1 HB1 HC1 hra w1
  go_wp2
  refine bodyPost_ret (v := .tuple #[.slice none 0 0, .int .i64 4]) (by simp [results, Tryd.results15, go_sem]) rfl ?_
  exact ⟨rfl, HB2.out⟩
set_option maxRecDepth 100000 in
set_option maxHeartbeats 4000000 in
theorem putR_yes (f : Rf) (ps : List Rf) (A1 A2 A3 A4 : Option Addr) (c1 c2 c3 c4 : Nat) (w : World) (hv : RVal w f A1 c1 A2 c2 A3 c3) (hp : RPrts w w.heap.size (.slice A4 f.np c4) ps) (hf : RepFit f ps) (hl : RLen f) (hlp : ∀ p ∈ ps, RLen p ∧ p.np ≤ 9223372036854775807) (hnl : f.np ≤ 9223372036854775807) (hr : rightR f ps = true) :
    Calls Tryd.prog 15 #[.agg #[.int .u8 f.kind, .int .i64 f.xid, .int .i64 f.zxid, .int .i64 f.err, .int .i64 f.session, .int .i64 f.timeout, .string (mkS f.path), .slice A1 f.data.length c1, .int .i64 f.s0, .int .i64 f.s1, .int .i64 f.s2, .int .i64 f.s3, .int .i64 f.s4, .int .i64 f.s5, .int .i64 f.s6, .int .i64 f.s7, .int .i64 f.s8, .int .i64 f.s9, .slice A2 f.list.length c2, .int .i64 f.cver, .slice A3 f.cmems.length c3, .slice A4 f.np c4]] w fun e w' => ∃ x, e = .returned (.tuple #[x, .int .i64 0]) ∧ New w w' x (replyB f ps) := by
  have HF : Hid (RepFit f ps) := hf
  have HR : Hid (rightR f ps = true) := hr
  have HV : Hid (RVal w f A1 c1 A2 c2 A3 c3) := hv
  have HP : Hid (RPrts w w.heap.size (.slice A4 f.np c4) ps) := hp
  obtain ⟨w1, hw1⟩ : ∃ X, X = w.alloc (.cells #[.int .u8 f.kind, .int .i64 f.xid, .int .i64 f.zxid, .int .i64 f.err, .int .i64 f.session, .int .i64 f.timeout, .string (mkS f.path), .slice A1 f.data.length c1, .int .i64 f.s0, .int .i64 f.s1, .int .i64 f.s2, .int .i64 f.s3, .int .i64 f.s4, .int .i64 f.s5, .int .i64 f.s6, .int .i64 f.s7, .int .i64 f.s8, .int .i64 f.s9, .slice A2 f.list.length c2, .int .i64 f.cver, .slice A3 f.cmems.length c3, .slice A4 f.np c4] 43) := ⟨_, rfl⟩
  have hB1 : Below w.heap.size w w1 := by rw [hw1]; exact (Below.refl _ _).alloc (Nat.le_refl _) _
  have HB1 : Hid (Below w.heap.size w w1) := hB1
  have HC1 : Hid (w1.heap[w.heap.size]? = some (.cells #[.int .u8 f.kind, .int .i64 f.xid, .int .i64 f.zxid, .int .i64 f.err, .int .i64 f.session, .int .i64 f.timeout, .string (mkS f.path), .slice A1 f.data.length c1, .int .i64 f.s0, .int .i64 f.s1, .int .i64 f.s2, .int .i64 f.s3, .int .i64 f.s4, .int .i64 f.s5, .int .i64 f.s6, .int .i64 f.s7, .int .i64 f.s8, .int .i64 f.s9, .slice A2 f.list.length c2, .int .i64 f.cver, .slice A3 f.cmems.length c3, .slice A4 f.np c4] 43 (0, 0))) := by rw [hw1]; exact heap_alloc_new w _
  have hri := rightReply_any f ps A1 A2 A3 A4 c1 c2 c3 c4 w1 (hv.grow hB1) (hp.grow hB1) hf.len hl hlp hnl
  rw [hr, hw1] at hri
  have hra := rangeL HC1.out
  rw [hw1] at hra
  clear hB1 hv hf hr hp hl hlp
  go_enter Tryd.func15, Tryd.ntmps15
  go_wp2_with (refine wpList_load_mid rfl 43 _ rfl w.heap.size 0 rfl [.int .u8 f.kind, .int .i64 f.xid, .int .i64 f.zxid, .int .i64 f.err, .int .i64 f.session, .int .i64 f.timeout, .string (mkS f.path), .slice A1 f.data.length c1, .int .i64 f.s0, .int .i64 f.s1, .int .i64 f.s2, .int .i64 f.s3, .int .i64 f.s4, .int .i64 f.s5, .int .i64 f.s6, .int .i64 f.s7, .int .i64 f.s8, .int .i64 f.s9, .slice A2 f.list.length c2, .int .i64 f.cver, .slice A3 f.cmems.length c3, .slice A4 f.np c4] _ hra Tryd.underlying43 rfl infoR ?_)
  refine hri.mono ?_
  rintro e w2 ⟨rfl, hB2⟩
  rw [← hw1] at hB2
  have HB2 : Hid (Below w.heap.size w w2) := HB1.out.trans (hB2.mono HB1.out.size)
  have HC2 : Hid (w2.heap[w.heap.size]? = some (.cells #[.int .u8 f.kind, .int .i64 f.xid, .int .i64 f.zxid, .int .i64 f.err, .int .i64 f.session, .int .i64 f.timeout, .string (mkS f.path), .slice A1 f.data.length c1, .int .i64 f.s0, .int .i64 f.s1, .int .i64 f.s2, .int .i64 f.s3, .int .i64 f.s4, .int .i64 f.s5, .int .i64 f.s6, .int .i64 f.s7, .int .i64 f.s8, .int .i64 f.s9, .slice A2 f.list.length c2, .int .i64 f.cver, .slice A3 f.cmems.length c3, .slice A4 f.np c4] 43 (0, 0))) := by show _ = _; rw [hB2.block _ (heap_lt HC1.out)]; exact HC1.out
  clear hri hB2 hw1 HB1 HC1 hra w1
  have hnw := newWriter_any w2 w.heap.size HB2.out.size
  go_wp2_with fail
  refine hnw.mono ?_
  rintro e w3 ⟨rfl, hW3, hB3, hs3⟩
  have HW3 : Hid (WrAt w3 w.heap.size w2.heap.size none []) := hW3
  have hgg : w.heap.size ≤ w2.heap.size := HB2.out.size
  have HC3 : Hid (w3.heap[w.heap.size]? = some (.cells #[.int .u8 f.kind, .int .i64 f.xid, .int .i64 f.zxid, .int .i64 f.err, .int .i64 f.session, .int .i64 f.timeout, .string (mkS f.path), .slice A1 f.data.length c1, .int .i64 f.s0, .int .i64 f.s1, .int .i64 f.s2, .int .i64 f.s3, .int .i64 f.s4, .int .i64 f.s5, .int .i64 f.s6, .int .i64 f.s7, .int .i64 f.s8, .int .i64 f.s9, .slice A2 f.list.length c2, .int .i64 f.cver, .slice A3 f.cmems.length c3, .slice A4 f.np c4] 43 (0, 0))) := by show _ = _; rw [hB3.block _ (heap_lt HC2.out)]; exact HC2.out
  have HB3 : Hid (Below w.heap.size w w3) := HB2.out.trans (hB3.mono HB2.out.size)
  clear hnw hW3 hB3 hs3 HB2 HC2
  generalize w2.heap.size = g at HW3 hgg ⊢
  clear w2
  have hv3 := HV.out.grow HB3.out
  obtain ⟨g1, g2, g3⟩ := rightR_of HR.out
  have hpr := putReply_any HW3.out hgg (by simp) f HF.out.top (fitR_of g1) A1 A2 A3 A4 c1 c2 c3 c4 ⟨hv3.bs, fun k hk => HV.out.bs.lt hk, hv3.tx, fun k hk => HV.out.tx.lt hk, hv3.ms, fun k hk => HV.out.ms.lt hk⟩ ps (HP.out.below HB3.out) HF.out.len g2 (fun p hq => ⟨HF.out.all p hq, (g3 p hq).1, (g3 p hq).2.1, (g3 p hq).2.2⟩)
  have hra := rangeL HC3.out
  clear hv3 g1 g2 g3
  go_wp2_with (refine wpList_load_mid rfl 43 _ rfl w.heap.size 0 rfl [.int .u8 f.kind, .int .i64 f.xid, .int .i64 f.zxid, .int .i64 f.err, .int .i64 f.session, .int .i64 f.timeout, .string (mkS f.path), .slice A1 f.data.length c1, .int .i64 f.s0, .int .i64 f.s1, .int .i64 f.s2, .int .i64 f.s3, .int .i64 f.s4, .int .i64 f.s5, .int .i64 f.s6, .int .i64 f.s7, .int .i64 f.s8, .int .i64 f.s9, .slice A2 f.list.length c2, .int .i64 f.cver, .slice A3 f.cmems.length c3, .slice A4 f.np c4] _ hra Tryd.underlying43 rfl infoR ?_)
  refine hpr.mono ?_
  rintro e w4 ⟨rfl, q4, hW4, hP4⟩
  have HB4 : Hid (Below w.heap.size w w4) := HB3.out.trans (put_below HW3.out hgg hP4)
  have HW4 : Hid (WrAt w4 w.heap.size g q4 (replyB f ps)) := by show WrAt _ _ _ _ _; simpa using hW4
  have HDL : Hid ((replyB f ps).length ≤ 170000) := replyB_len HF.out HR.out
  clear hpr hW4 hP4 HW3 HB3 HC3 hra
  have hdn := wDone_any HW4.out (by have := HDL.out; omega)
  go_wp2_with fail
  refine hdn.mono ?_
  rintro e w5 ⟨x, rfl, hN⟩
  have HN : Hid (New w w5 x (replyB f ps)) := ⟨wOwn.base hN.owns HB4.out.size, HB4.out.trans (hN.below.mono HB4.out.size)⟩
  obtain ⟨AX, CX, rfl⟩ := bs_form hN.bs
  clear hdn hN
  go_wp2
  refine bodyPost_ret (v := .tuple #[.slice AX (replyB f ps).length CX, .int .i64 0]) (by simp [results, Tryd.results15, go_sem]) rfl ?_
  exact ⟨_, rfl, HN.out⟩
end Go.Proofs.YtmojplgoohnmdaaDoor.AK
