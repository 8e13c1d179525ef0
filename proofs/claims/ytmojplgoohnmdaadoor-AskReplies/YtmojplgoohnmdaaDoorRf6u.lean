/- The walk of the document's own PutReply. -/
import Derived.Test.YtmojplgoohnmdaaDoorRf6t
import Derived.Test.YtmojplgoohnmdaaDoorRf6s
namespace Go.Proofs.YtmojplgoohnmdaaDoor.AK
set_option linter.unusedSimpArgs false
set_option linter.unusedVariables false
open Go.RowKit
set_option linter.unusedVariables false
set_option linter.unusedSimpArgs false

theorem rreply_leaf {w : World} {base g : Nat} {q : Option Nat} {l : List UInt8} (h : WrF w base g q l) (hg : base ≤ g) (hl : l.length ≤ 200000) (f : Rf) (hf : RFit f) (hw : FitR f) (A1 A2 A3 A4 : Option Addr) (c1 c2 c3 c4 : Nat) (hr : RRest w base f A1 c1 A2 c2 A3 c3) (hnp : f.np = 0) :
    Calls Tryd.prog 44 #[.pointer (some ⟨g, 0, none⟩), .agg #[.int .u8 f.kind, .int .i64 f.xid, .int .i64 f.zxid, .int .i64 f.err, .int .i64 f.session, .int .i64 f.timeout, .string (mkS f.path), .slice A1 f.data.length c1, .int .i64 f.s0, .int .i64 f.s1, .int .i64 f.s2, .int .i64 f.s3, .int .i64 f.s4, .int .i64 f.s5, .int .i64 f.s6, .int .i64 f.s7, .int .i64 f.s8, .int .i64 f.s9, .slice A2 f.list.length c2, .int .i64 f.cver, .slice A3 f.cmems.length c3, .slice A4 f.np c4]] w fun e w' => e = .returned (.tuple #[]) ∧ ∃ q', WrF w' base g q' (l ++ (bodyR f ++ numB 0)) ∧ Put g q w w' q' := by
  have h1 := rreply_core h hg (200000) (by omega) hl f hf hw A1 A2 A3 A4 c1 c2 c3 c4 hr [] (.inl rfl) hnp (by omega) (fun p hp => by simp at hp) (fun p hp => by simp at hp)
  have e : replyB f [] = bodyR f ++ numB 0 := by simp [replyB, prtsR]
  rw [e] at h1
  exact h1
theorem rreply_any {w : World} {base g : Nat} {q : Option Nat} {l : List UInt8} (h : WrF w base g q l) (hg : base ≤ g) (hl : l.length ≤ 1000) (f : Rf) (hf : RFit f) (hw : FitR f) (A1 A2 A3 A4 : Option Addr) (c1 c2 c3 c4 : Nat) (hr : RRest w base f A1 c1 A2 c2 A3 c3) (ps : List Rf) (hp : RPrts w base (.slice A4 f.np c4) ps) (hnp : f.np = ps.length) (h16 : f.np ≤ 16) (hps : ∀ p ∈ ps, RFit p ∧ p.np = 0 ∧ p.list = [] ∧ fitR p = true) :
    Calls Tryd.prog 44 #[.pointer (some ⟨g, 0, none⟩), .agg #[.int .u8 f.kind, .int .i64 f.xid, .int .i64 f.zxid, .int .i64 f.err, .int .i64 f.session, .int .i64 f.timeout, .string (mkS f.path), .slice A1 f.data.length c1, .int .i64 f.s0, .int .i64 f.s1, .int .i64 f.s2, .int .i64 f.s3, .int .i64 f.s4, .int .i64 f.s5, .int .i64 f.s6, .int .i64 f.s7, .int .i64 f.s8, .int .i64 f.s9, .slice A2 f.list.length c2, .int .i64 f.cver, .slice A3 f.cmems.length c3, .slice A4 f.np c4]] w fun e w' => e = .returned (.tuple #[]) ∧ ∃ q', WrF w' base g q' (l ++ replyB f ps) ∧ Put g q w w' q' :=
  rreply_core h hg 1000 (by omega) hl f hf hw A1 A2 A3 A4 c1 c2 c3 c4 hr ps (.inr hp) hnp h16 hps (fun p hpm w' q' l' B1 B2 B3 B4 d1 d2 d3 d4 hW hR hL => rreply_leaf hW hg (by omega) p (hps p hpm).1 (fitR_of (hps p hpm).2.2.2) B1 B2 B3 B4 d1 d2 d3 d4 hR (hps p hpm).2.1)
set_option maxRecDepth 100000 in
set_option maxHeartbeats 4000000 in
theorem rputR_no (f : Rf) (ps : List Rf) (A1 A2 A3 A4 : Option Addr) (c1 c2 c3 c4 : Nat) (w : World) (hv : RVal w f A1 c1 A2 c2 A3 c3) (hp : RPrts w w.heap.size (.slice A4 f.np c4) ps) (hf : RepFit f ps) (hl : RLen f) (hlp : ∀ p ∈ ps, RLen p ∧ p.np ≤ 9223372036854775807) (hnl : f.np ≤ 9223372036854775807) (hr : rightR f ps = false) :
    Calls Tryd.prog 16 #[.agg #[.int .u8 f.kind, .int .i64 f.xid, .int .i64 f.zxid, .int .i64 f.err, .int .i64 f.session, .int .i64 f.timeout, .string (mkS f.path), .slice A1 f.data.length c1, .int .i64 f.s0, .int .i64 f.s1, .int .i64 f.s2, .int .i64 f.s3, .int .i64 f.s4, .int .i64 f.s5, .int .i64 f.s6, .int .i64 f.s7, .int .i64 f.s8, .int .i64 f.s9, .slice A2 f.list.length c2, .int .i64 f.cver, .slice A3 f.cmems.length c3, .slice A4 f.np c4]] w fun e w' => e = .returned (.tuple #[.slice none 0 0, .int .i64 4]) ∧ Below w.heap.size w w' := by
  obtain ⟨w1, hw1⟩ : ∃ X, X = w.alloc (.cells #[.int .u8 f.kind, .int .i64 f.xid, .int .i64 f.zxid, .int .i64 f.err, .int .i64 f.session, .int .i64 f.timeout, .string (mkS f.path), .slice A1 f.data.length c1, .int .i64 f.s0, .int .i64 f.s1, .int .i64 f.s2, .int .i64 f.s3, .int .i64 f.s4, .int .i64 f.s5, .int .i64 f.s6, .int .i64 f.s7, .int .i64 f.s8, .int .i64 f.s9, .slice A2 f.list.length c2, .int .i64 f.cver, .slice A3 f.cmems.length c3, .slice A4 f.np c4] 43) := ⟨_, rfl⟩
  have hB1 : Below w.heap.size w w1 := by rw [hw1]; exact (Below.refl _ _).alloc (Nat.le_refl _) _
  have HB1 : Hid (Below w.heap.size w w1) := hB1
  have HC1 : Hid (w1.heap[w.heap.size]? = some (.cells #[.int .u8 f.kind, .int .i64 f.xid, .int .i64 f.zxid, .int .i64 f.err, .int .i64 f.session, .int .i64 f.timeout, .string (mkS f.path), .slice A1 f.data.length c1, .int .i64 f.s0, .int .i64 f.s1, .int .i64 f.s2, .int .i64 f.s3, .int .i64 f.s4, .int .i64 f.s5, .int .i64 f.s6, .int .i64 f.s7, .int .i64 f.s8, .int .i64 f.s9, .slice A2 f.list.length c2, .int .i64 f.cver, .slice A3 f.cmems.length c3, .slice A4 f.np c4] 43 (0, 0))) := by rw [hw1]; exact heap_alloc_new w _
  have hri := rrR_any f A1 A2 A3 A4 c1 c2 c3 c4 w1 (hv.grow hB1) hl hnl ps (hp.grow hB1) hf.len hlp
  rw [hr, hw1] at hri
  have hra := rangeL HC1.out
  rw [hw1] at hra
  clear hB1 hv hf hr hp hl hlp
  go_enter Tryd.func16, Tryd.ntmps16
  go_wp2_with (refine wpList_load_mid rfl 43 _ rfl w.heap.size 0 rfl [.int .u8 f.kind, .int .i64 f.xid, .int .i64 f.zxid, .int .i64 f.err, .int .i64 f.session, .int .i64 f.timeout, .string (mkS f.path), .slice A1 f.data.length c1, .int .i64 f.s0, .int .i64 f.s1, .int .i64 f.s2, .int .i64 f.s3, .int .i64 f.s4, .int .i64 f.s5, .int .i64 f.s6, .int .i64 f.s7, .int .i64 f.s8, .int .i64 f.s9, .slice A2 f.list.length c2, .int .i64 f.cver, .slice A3 f.cmems.length c3, .slice A4 f.np c4] _ hra Tryd.underlying43 rfl infoR ?_)
  refine hri.mono ?_
  rintro e w2 ⟨rfl, hB2⟩
  rw [← hw1] at hB2
  have HB2 : Hid (Below w.heap.size w w2) := HB1.out.trans (hB2.mono HB1.out.size)
  clear hri hB2 hw1 HB1 HC1 hra w1
  go_wp2
  refine bodyPost_ret (v := .tuple #[.slice none 0 0, .int .i64 4]) (by simp [results, Tryd.results16, go_sem]) rfl ?_
  exact ⟨rfl, HB2.out⟩
set_option maxRecDepth 100000 in
set_option maxHeartbeats 4000000 in
theorem rputR_yes (f : Rf) (ps : List Rf) (A1 A2 A3 A4 : Option Addr) (c1 c2 c3 c4 : Nat) (w : World) (hv : RVal w f A1 c1 A2 c2 A3 c3) (hp : RPrts w w.heap.size (.slice A4 f.np c4) ps) (hf : RepFit f ps) (hl : RLen f) (hlp : ∀ p ∈ ps, RLen p ∧ p.np ≤ 9223372036854775807) (hnl : f.np ≤ 9223372036854775807) (hr : rightR f ps = true) :
    Calls Tryd.prog 16 #[.agg #[.int .u8 f.kind, .int .i64 f.xid, .int .i64 f.zxid, .int .i64 f.err, .int .i64 f.session, .int .i64 f.timeout, .string (mkS f.path), .slice A1 f.data.length c1, .int .i64 f.s0, .int .i64 f.s1, .int .i64 f.s2, .int .i64 f.s3, .int .i64 f.s4, .int .i64 f.s5, .int .i64 f.s6, .int .i64 f.s7, .int .i64 f.s8, .int .i64 f.s9, .slice A2 f.list.length c2, .int .i64 f.cver, .slice A3 f.cmems.length c3, .slice A4 f.np c4]] w fun e w' => ∃ x, e = .returned (.tuple #[x, .int .i64 0]) ∧ New w w' x (replyB f ps) := by
  have HF : Hid (RepFit f ps) := hf
  have HR : Hid (rightR f ps = true) := hr
  have HV : Hid (RVal w f A1 c1 A2 c2 A3 c3) := hv
  have HP : Hid (RPrts w w.heap.size (.slice A4 f.np c4) ps) := hp
  obtain ⟨w1, hw1⟩ : ∃ X, X = w.alloc (.cells #[.int .u8 f.kind, .int .i64 f.xid, .int .i64 f.zxid, .int .i64 f.err, .int .i64 f.session, .int .i64 f.timeout, .string (mkS f.path), .slice A1 f.data.length c1, .int .i64 f.s0, .int .i64 f.s1, .int .i64 f.s2, .int .i64 f.s3, .int .i64 f.s4, .int .i64 f.s5, .int .i64 f.s6, .int .i64 f.s7, .int .i64 f.s8, .int .i64 f.s9, .slice A2 f.list.length c2, .int .i64 f.cver, .slice A3 f.cmems.length c3, .slice A4 f.np c4] 43) := ⟨_, rfl⟩
  have hB1 : Below w.heap.size w w1 := by rw [hw1]; exact (Below.refl _ _).alloc (Nat.le_refl _) _
  have HB1 : Hid (Below w.heap.size w w1) := hB1
  have HC1 : Hid (w1.heap[w.heap.size]? = some (.cells #[.int .u8 f.kind, .int .i64 f.xid, .int .i64 f.zxid, .int .i64 f.err, .int .i64 f.session, .int .i64 f.timeout, .string (mkS f.path), .slice A1 f.data.length c1, .int .i64 f.s0, .int .i64 f.s1, .int .i64 f.s2, .int .i64 f.s3, .int .i64 f.s4, .int .i64 f.s5, .int .i64 f.s6, .int .i64 f.s7, .int .i64 f.s8, .int .i64 f.s9, .slice A2 f.list.length c2, .int .i64 f.cver, .slice A3 f.cmems.length c3, .slice A4 f.np c4] 43 (0, 0))) := by rw [hw1]; exact heap_alloc_new w _
  have hri := rrR_any f A1 A2 A3 A4 c1 c2 c3 c4 w1 (hv.grow hB1) hl hnl ps (hp.grow hB1) hf.len hlp
  rw [hr, hw1] at hri
  have hra := rangeL HC1.out
  rw [hw1] at hra
  clear hB1 hv hf hr hp hl hlp
  go_enter Tryd.func16, Tryd.ntmps16
  go_wp2_with (refine wpList_load_mid rfl 43 _ rfl w.heap.size 0 rfl [.int .u8 f.kind, .int .i64 f.xid, .int .i64 f.zxid, .int .i64 f.err, .int .i64 f.session, .int .i64 f.timeout, .string (mkS f.path), .slice A1 f.data.length c1, .int .i64 f.s0, .int .i64 f.s1, .int .i64 f.s2, .int .i64 f.s3, .int .i64 f.s4, .int .i64 f.s5, .int .i64 f.s6, .int .i64 f.s7, .int .i64 f.s8, .int .i64 f.s9, .slice A2 f.list.length c2, .int .i64 f.cver, .slice A3 f.cmems.length c3, .slice A4 f.np c4] _ hra Tryd.underlying43 rfl infoR ?_)
  refine hri.mono ?_
  rintro e w2 ⟨rfl, hB2⟩
  rw [← hw1] at hB2
  have HB2 : Hid (Below w.heap.size w w2) := HB1.out.trans (hB2.mono HB1.out.size)
  have HC2 : Hid (w2.heap[w.heap.size]? = some (.cells #[.int .u8 f.kind, .int .i64 f.xid, .int .i64 f.zxid, .int .i64 f.err, .int .i64 f.session, .int .i64 f.timeout, .string (mkS f.path), .slice A1 f.data.length c1, .int .i64 f.s0, .int .i64 f.s1, .int .i64 f.s2, .int .i64 f.s3, .int .i64 f.s4, .int .i64 f.s5, .int .i64 f.s6, .int .i64 f.s7, .int .i64 f.s8, .int .i64 f.s9, .slice A2 f.list.length c2, .int .i64 f.cver, .slice A3 f.cmems.length c3, .slice A4 f.np c4] 43 (0, 0))) := by show _ = _; rw [hB2.block _ (heap_lt HC1.out)]; exact HC1.out
  clear hri hB2 hw1 HB1 HC1 hra w1
  have hnw := rfNewW_any w2 w.heap.size HB2.out.size
  go_wp2_with fail
  refine hnw.mono ?_
  rintro e w3 ⟨rfl, hW3, hB3, hs3⟩
  have HW3 : Hid (WrF w3 w.heap.size w2.heap.size none []) := hW3
  have hgg : w.heap.size ≤ w2.heap.size := HB2.out.size
  have HC3 : Hid (w3.heap[w.heap.size]? = some (.cells #[.int .u8 f.kind, .int .i64 f.xid, .int .i64 f.zxid, .int .i64 f.err, .int .i64 f.session, .int .i64 f.timeout, .string (mkS f.path), .slice A1 f.data.length c1, .int .i64 f.s0, .int .i64 f.s1, .int .i64 f.s2, .int .i64 f.s3, .int .i64 f.s4, .int .i64 f.s5, .int .i64 f.s6, .int .i64 f.s7, .int .i64 f.s8, .int .i64 f.s9, .slice A2 f.list.length c2, .int .i64 f.cver, .slice A3 f.cmems.length c3, .slice A4 f.np c4] 43 (0, 0))) := by show _ = _; rw [hB3.block _ (heap_lt HC2.out)]; exact HC2.out
  have HB3 : Hid (Below w.heap.size w w3) := HB2.out.trans (hB3.mono HB2.out.size)
  clear hnw hW3 hB3 hs3 HB2 HC2
  generalize w2.heap.size = g at HW3 hgg ⊢
  clear w2
  have hv3 := HV.out.grow HB3.out
  obtain ⟨g1, g2, g3⟩ := rightR_of HR.out
  have hpr := rreply_any HW3.out hgg (by simp) f HF.out.top (fitR_of g1) A1 A2 A3 A4 c1 c2 c3 c4 ⟨hv3.bs, fun k hk => HV.out.bs.lt hk, hv3.tx, fun k hk => HV.out.tx.lt hk, hv3.ms, fun k hk => HV.out.ms.lt hk⟩ ps (HP.out.below HB3.out) HF.out.len g2 (fun p hq => ⟨HF.out.all p hq, (g3 p hq).1, (g3 p hq).2.1, (g3 p hq).2.2⟩)
  have hra := rangeL HC3.out
  clear hv3 g1 g2 g3
  go_wp2_with (refine wpList_load_mid rfl 43 _ rfl w.heap.size 0 rfl [.int .u8 f.kind, .int .i64 f.xid, .int .i64 f.zxid, .int .i64 f.err, .int .i64 f.session, .int .i64 f.timeout, .string (mkS f.path), .slice A1 f.data.length c1, .int .i64 f.s0, .int .i64 f.s1, .int .i64 f.s2, .int .i64 f.s3, .int .i64 f.s4, .int .i64 f.s5, .int .i64 f.s6, .int .i64 f.s7, .int .i64 f.s8, .int .i64 f.s9, .slice A2 f.list.length c2, .int .i64 f.cver, .slice A3 f.cmems.length c3, .slice A4 f.np c4] _ hra Tryd.underlying43 rfl infoR ?_)
  refine hpr.mono ?_
  rintro e w4 ⟨rfl, q4, hW4, hP4⟩
  have HB4 : Hid (Below w.heap.size w w4) := HB3.out.trans (putF_below HW3.out hgg hP4)
  have HW4 : Hid (WrF w4 w.heap.size g q4 (replyB f ps)) := by show WrF _ _ _ _ _; simpa using hW4
  have HDL : Hid ((replyB f ps).length ≤ 170000) := replyB_len HF.out HR.out
  clear hpr hW4 hP4 HW3 HB3 HC3 hra
  have hdn := rfWDone_any HW4.out (by have := HDL.out; omega)
  go_wp2_with fail
  refine hdn.mono ?_
  rintro e w5 ⟨x, rfl, hN⟩
  have HN : Hid (New w w5 x (replyB f ps)) := ⟨wOwn.base hN.owns HB4.out.size, HB4.out.trans (hN.below.mono HB4.out.size)⟩
  obtain ⟨AX, CX, rfl⟩ := bs_form hN.bs
  clear hdn hN
  go_wp2
  refine bodyPost_ret (v := .tuple #[.slice AX (replyB f ps).length CX, .int .i64 0]) (by simp [results, Tryd.results16, go_sem]) rfl ?_
  exact ⟨_, rfl, HN.out⟩
end Go.Proofs.YtmojplgoohnmdaaDoor.AK
