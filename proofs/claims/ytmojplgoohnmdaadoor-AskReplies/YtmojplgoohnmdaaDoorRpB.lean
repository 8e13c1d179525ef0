/- The walks of rightReply without parts, and of putReply for a reply that has neither list nor parts. -/
import Derived.Test.YtmojplgoohnmdaaDoorRpA
import Derived.Test.YtmojplgoohnmdaaDoorAkX
import Derived.Deep.MidRow
namespace Go.Proofs.YtmojplgoohnmdaaDoor.AK
set_option linter.unusedSimpArgs false
set_option linter.unusedVariables false
open Go.RowKit
set_option linter.unusedVariables false
set_option linter.unusedSimpArgs false

theorem infoR : (Tryd.prog.info? 43).map (·.size) = some 22 := by kernel_rfl
theorem rangeL {w : World} {p : Nat} {cs : Array Value} {T : TypeId} (h : w.heap[p]? = some (.cells cs T (0, 0))) : w.rangeAt p 0 cs.toList := by
  intro j v hj
  rw [cell_at h, Nat.zero_add, ← Array.getElem?_toList]
  exact hj
set_option maxRecDepth 100000 in
set_option maxHeartbeats 2000000 in
theorem rightReply_nil (f : Rf) (A1 A2 A3 A4 : Option Addr) (c1 c2 c3 c4 : Nat) (w : World) (hv : RVal w f A1 c1 A2 c2 A3 c3) (hl : RLen f) (hn : f.np = 0) :
    Calls Tryd.prog 41 #[.agg #[.int .u8 f.kind, .int .i64 f.xid, .int .i64 f.zxid, .int .i64 f.err, .int .i64 f.session, .int .i64 f.timeout, .string (mkS f.path), .slice A1 f.data.length c1, .int .i64 f.s0, .int .i64 f.s1, .int .i64 f.s2, .int .i64 f.s3, .int .i64 f.s4, .int .i64 f.s5, .int .i64 f.s6, .int .i64 f.s7, .int .i64 f.s8, .int .i64 f.s9, .slice A2 f.list.length c2, .int .i64 f.cver, .slice A3 f.cmems.length c3, .slice A4 0 c4]] w fun e w' => e = .returned (.bool (fitR f)) ∧ Below w.heap.size w w' := by
  obtain ⟨w1, hw1⟩ : ∃ X, X = w.alloc (.cells #[.int .u8 f.kind, .int .i64 f.xid, .int .i64 f.zxid, .int .i64 f.err, .int .i64 f.session, .int .i64 f.timeout, .string (mkS f.path), .slice A1 f.data.length c1, .int .i64 f.s0, .int .i64 f.s1, .int .i64 f.s2, .int .i64 f.s3, .int .i64 f.s4, .int .i64 f.s5, .int .i64 f.s6, .int .i64 f.s7, .int .i64 f.s8, .int .i64 f.s9, .slice A2 f.list.length c2, .int .i64 f.cver, .slice A3 f.cmems.length c3, .slice A4 0 c4] 43) := ⟨_, rfl⟩
  have hB1 : Below w.heap.size w w1 := by rw [hw1]; exact (Below.refl _ _).alloc (Nat.le_refl _) _
  have HB1 : Hid (Below w.heap.size w w1) := hB1
  have HC1 : Hid (w1.heap[w.heap.size]? = some (.cells #[.int .u8 f.kind, .int .i64 f.xid, .int .i64 f.zxid, .int .i64 f.err, .int .i64 f.session, .int .i64 f.timeout, .string (mkS f.path), .slice A1 f.data.length c1, .int .i64 f.s0, .int .i64 f.s1, .int .i64 f.s2, .int .i64 f.s3, .int .i64 f.s4, .int .i64 f.s5, .int .i64 f.s6, .int .i64 f.s7, .int .i64 f.s8, .int .i64 f.s9, .slice A2 f.list.length c2, .int .i64 f.cver, .slice A3 f.cmems.length c3, .slice A4 0 c4] 43 (0, 0))) := by rw [hw1]; exact heap_alloc_new w _
  have hfr := fitsReply_any f A1 A2 A3 A4 c1 c2 c3 c4 w1 (hv.grow hB1) hl
  rw [hn] at hfr
  rw [hw1] at hfr
  generalize fitR f = U at hfr ⊢
  clear hv hl hB1 hn
  go_enter Tryd.func41, Tryd.ntmps41
  have hra := rangeL HC1.out
  rw [hw1] at hra
  go_wp2_with (refine wpList_load_mid rfl 43 _ rfl w.heap.size 0 rfl [.int .u8 f.kind, .int .i64 f.xid, .int .i64 f.zxid, .int .i64 f.err, .int .i64 f.session, .int .i64 f.timeout, .string (mkS f.path), .slice A1 f.data.length c1, .int .i64 f.s0, .int .i64 f.s1, .int .i64 f.s2, .int .i64 f.s3, .int .i64 f.s4, .int .i64 f.s5, .int .i64 f.s6, .int .i64 f.s7, .int .i64 f.s8, .int .i64 f.s9, .slice A2 f.list.length c2, .int .i64 f.cver, .slice A3 f.cmems.length c3, .slice A4 0 c4] _ hra Tryd.underlying43 rfl infoR ?_)
  refine hfr.mono ?_
  rintro e w2 ⟨rfl, hB2⟩
  rw [← hw1] at hB2
  have HB2 : Hid (Below w.heap.size w w2) := HB1.out.trans (hB2.mono HB1.out.size)
  have HC2 : Hid (w2.heap[w.heap.size]? = some (.cells #[.int .u8 f.kind, .int .i64 f.xid, .int .i64 f.zxid, .int .i64 f.err, .int .i64 f.session, .int .i64 f.timeout, .string (mkS f.path), .slice A1 f.data.length c1, .int .i64 f.s0, .int .i64 f.s1, .int .i64 f.s2, .int .i64 f.s3, .int .i64 f.s4, .int .i64 f.s5, .int .i64 f.s6, .int .i64 f.s7, .int .i64 f.s8, .int .i64 f.s9, .slice A2 f.list.length c2, .int .i64 f.cver, .slice A3 f.cmems.length c3, .slice A4 0 c4] 43 (0, 0))) := by show _ = _; rw [hB2.block _ (heap_lt HC1.out)]; exact HC1.out
  clear hfr hB2 hw1 HB1 HC1 hra w1
  obtain ⟨z0, z1, z2, z3, z4, z5, z6, z7, z8, z9, z10, z11, z12, z13, z14, z15, z16, z17, z18, z19, z20, z21⟩ := cells22 HC2.out
  cases U with
  | false =>
    go_wp2_with fail
    go_ret
    exact ⟨rfl, HB2.out⟩
  | true =>
    go_wp2_with fail
    refine wp_loop_rounds 1 ?_
    rw [rounds_succ]
    go_wp2
    go_ret
    exact ⟨rfl, HB2.out⟩
/- What a config is put as. -/
theorem ensPut_any {w : World} {A3 : Option Addr} {c3 : Nat} (f : Rf) (h : Mems w (.slice A3 f.cmems.length c3) f.cmems) :
    Calls Tryd.prog 80 #[.agg #[.int .i64 f.cver, .slice A3 f.cmems.length c3]] w fun e w' => ∃ A C code, e = .returned (.tuple #[.slice A (cfgR f).length C, .int .i64 code]) ∧ Bs w' (.slice A (cfgR f).length C) (cfgR f) ∧ Below w.heap.size w w' ∧ ∀ k, bk (.slice A (cfgR f).length C) = some k → w.heap.size ≤ k := by
  by_cases hc : chk f.cver f.cmems = 0
  · refine (Go.Proofs.YtmojplgoohnmdaaDoor.put_yes h f.cver hc).mono ?_
    rintro e w' ⟨x, rfl, hN⟩
    have e1 : cfgR f = cfgB f.cver f.cmems := if_pos hc
    rw [e1]
    obtain ⟨A, C, rfl⟩ := bs_form hN.bs
    exact ⟨A, C, 0, rfl, hN.bs, hN.below, fun k hk => (hN.at k hk).1⟩
  · refine (Go.Proofs.YtmojplgoohnmdaaDoor.put_no h f.cver hc).mono ?_
    rintro e w' ⟨rfl, hB⟩
    have e1 : cfgR f = [] := if_neg hc
    rw [e1]
    exact ⟨none, 0, _, rfl, .inl ⟨rfl, rfl⟩, hB, fun k hk => by simp [bk] at hk⟩
/- What a reply's slices hold, all of it below block B. -/
structure RRest (w : World) (B : Nat) (f : Rf) (A1 : Option Addr) (c1 : Nat) (A2 : Option Addr) (c2 : Nat) (A3 : Option Addr) (c3 : Nat) : Prop where
  bs : Bs w (.slice A1 f.data.length c1) f.data
  bsB : ∀ k, bk (.slice A1 f.data.length c1) = some k → k < B
  tx : Txs w (.slice A2 f.list.length c2) f.list
  txB : ∀ k, bk (.slice A2 f.list.length c2) = some k → k < B
  ms : Mems w (.slice A3 f.cmems.length c3) f.cmems
  msB : ∀ k, bk (.slice A3 f.cmems.length c3) = some k → k < B
theorem RRest.below {w w' : World} {B : Nat} {f : Rf} {A1 A2 A3 : Option Addr} {c1 c2 c3 : Nat} (h : RRest w B f A1 c1 A2 c2 A3 c3) (hb : Below B w w') : RRest w' B f A1 c1 A2 c2 A3 c3 :=
  ⟨Bs.below h.bs hb h.bsB, h.bsB, h.tx.below hb h.txB, h.txB, h.ms.below hb h.msB, h.msB⟩
/- The state of a putting reply: the writer, its parameter's block p, what the slices hold. -/
structure PS (f : Rf) (A1 : Option Addr) (c1 : Nat) (A2 : Option Addr) (c2 : Nat) (A3 : Option Addr) (c3 : Nat) (A4 : Option Addr) (c4 : Nat) (w0 : World) (base g p : Nat) (q0 : Option Nat) (w : World) (q : Option Nat) (l : List UInt8) : Prop where
  wr : WrAt w base g q l
  put : Put g q0 w0 w q
  own : Own w p (.cells #[.int .u8 f.kind, .int .i64 f.xid, .int .i64 f.zxid, .int .i64 f.err, .int .i64 f.session, .int .i64 f.timeout, .string (mkS f.path), .slice A1 f.data.length c1, .int .i64 f.s0, .int .i64 f.s1, .int .i64 f.s2, .int .i64 f.s3, .int .i64 f.s4, .int .i64 f.s5, .int .i64 f.s6, .int .i64 f.s7, .int .i64 f.s8, .int .i64 f.s9, .slice A2 0 c2, .int .i64 f.cver, .slice A3 f.cmems.length c3, .slice A4 0 c4] 43 (0, 0)) g q
  hg : base ≤ g
  rest : RRest w base f A1 c1 A2 c2 A3 c3
theorem WrAt.base' {w : World} {base g : Nat} {q : Option Nat} {l : List UInt8} (h : WrAt w base g q l) : base ≤ w.heap.size := by obtain ⟨v, _, _, _, _, hb⟩ := h; exact hb
theorem PS.step {f : Rf} {A1 A2 A3 A4 : Option Addr} {c1 c2 c3 c4 : Nat} {w0 w w' : World} {base g p : Nat} {q0 q q' : Option Nat} {l l' : List UInt8} (h : PS f A1 c1 A2 c2 A3 c3 A4 c4 w0 base g p q0 w q l) (hW : WrAt w' base g q' l') (hP : Put g q w w' q') : PS f A1 c1 A2 c2 A3 c3 A4 c4 w0 base g p q0 w' q' l' :=
  ⟨hW, h.put.trans hP, h.own.put hP, h.hg, h.rest.below (put_below h.wr h.hg hP)⟩
theorem PS.below {f : Rf} {A1 A2 A3 A4 : Option Addr} {c1 c2 c3 c4 : Nat} {w0 w w' : World} {base g p : Nat} {q0 q : Option Nat} {l : List UInt8} (h : PS f A1 c1 A2 c2 A3 c3 A4 c4 w0 base g p q0 w q l) (hB : Below w.heap.size w w') : PS f A1 c1 A2 c2 A3 c3 A4 c4 w0 base g p q0 w' q l :=
  h.step (WrAt.below h.wr hB) (Put.below hB)
theorem putInts_five {w : World} {base g : Nat} {q : Option Nat} {l : List UInt8} (h : WrAt w base g q l) (hg : base ≤ g) (hl : l.length ≤ 1000000) (f : Rf) (hi : ∀ n ∈ headR f, I64 n) :
    Calls Tryd.prog 28 #[.pointer (some ⟨g, 0, none⟩), .slice (some ⟨w.heap.size, 0, none⟩) 5 5] (w.alloc (.cells #[.int .i64 f.xid, .int .i64 f.zxid, .int .i64 f.err, .int .i64 f.session, .int .i64 f.timeout] 2)) fun e w' => e = .returned (.tuple #[]) ∧ ∃ q', WrAt w' base g q' (l ++ numsB (headR f)) ∧ Put g q w w' q' := by
  have hB : Below w.heap.size w (w.alloc (.cells #[.int .i64 f.xid, .int .i64 f.zxid, .int .i64 f.err, .int .i64 f.session, .int .i64 f.timeout] 2)) := (Below.refl _ _).alloc (Nat.le_refl _) _
  refine (putInts_any (ns := headR f) (WrAt.below h hB) hg hl (nums5 w _ _ _ _ _) (by simp) (by have := RowAt.lt h; omega) (fun e => by have := (RowAt.qlt h _ e).2; omega) (by simp [headR]) hi).mono ?_
  rintro e w' ⟨rfl, q', hW, hP⟩
  exact ⟨rfl, q', hW, (Put.below hB).trans hP⟩
set_option maxRecDepth 100000 in
set_option maxHeartbeats 8000000 in
theorem putReply_leaf {w : World} {base g : Nat} {q : Option Nat} {l : List UInt8} (h : WrAt w base g q l) (hg : base ≤ g) (hl : l.length ≤ 200000) (f : Rf) (hf : RFit f) (hw : FitR f) (A1 A2 A3 A4 : Option Addr) (c1 c2 c3 c4 : Nat) (hr : RRest w base f A1 c1 A2 c2 A3 c3) (hnp : f.np = 0) (hli : f.list = []) :
    Calls Tryd.prog 42 #[.pointer (some ⟨g, 0, none⟩), .agg #[.int .u8 f.kind, .int .i64 f.xid, .int .i64 f.zxid, .int .i64 f.err, .int .i64 f.session, .int .i64 f.timeout, .string (mkS f.path), .slice A1 f.data.length c1, .int .i64 f.s0, .int .i64 f.s1, .int .i64 f.s2, .int .i64 f.s3, .int .i64 f.s4, .int .i64 f.s5, .int .i64 f.s6, .int .i64 f.s7, .int .i64 f.s8, .int .i64 f.s9, .slice A2 0 c2, .int .i64 f.cver, .slice A3 f.cmems.length c3, .slice A4 0 c4]] w fun e w' => e = .returned (.tuple #[]) ∧ ∃ q', WrAt w' base g q' (l ++ (bodyR f ++ numB 0)) ∧ Put g q w w' q' := by
  have HF : Hid (RFit f) := hf
  have HWI : Hid (FitR f) := hw
  obtain ⟨w1, hw1⟩ : ∃ X, X = w.alloc (.cells #[.int .u8 f.kind, .int .i64 f.xid, .int .i64 f.zxid, .int .i64 f.err, .int .i64 f.session, .int .i64 f.timeout, .string (mkS f.path), .slice A1 f.data.length c1, .int .i64 f.s0, .int .i64 f.s1, .int .i64 f.s2, .int .i64 f.s3, .int .i64 f.s4, .int .i64 f.s5, .int .i64 f.s6, .int .i64 f.s7, .int .i64 f.s8, .int .i64 f.s9, .slice A2 0 c2, .int .i64 f.cver, .slice A3 f.cmems.length c3, .slice A4 0 c4] 43) := ⟨_, rfl⟩
  have hB1 : Below w.heap.size w w1 := by rw [hw1]; exact (Below.refl _ _).alloc (Nat.le_refl _) _
  have HS : Hid (PS f A1 c1 A2 c2 A3 c3 A4 c4 w base g w.heap.size q w1 q l) := ⟨WrAt.below h hB1, Put.below hB1, ⟨by rw [hw1]; exact heap_alloc_new w _, by have := RowAt.lt h; omega, fun e => by have := (RowAt.qlt h _ e).2; omega⟩, hg, hr.below (hB1.mono (WrAt.base' h))⟩
  have HL : Hid (l.length ≤ 200000) := hl
  have hwb := wByte_any HS.out.wr f.kind (u8 f.kind) (u8_back hf.kind).symm (by omega)
  rw [hw1] at hwb
  have HLI : Hid (f.list = []) := hli
  have HNP : Hid (f.np = 0) := hnp
  clear h hr hf hw hl hB1 hli hnp
  go_enter Tryd.func42, Tryd.ntmps42
  go_wp2_with fail
  refine hwb.mono ?_
  rintro e w2 ⟨rfl, q2, hW, hP⟩
  rw [← hw1] at hP
  have HS2 : Hid (PS f A1 c1 A2 c2 A3 c3 A4 c4 w base g w.heap.size q w2 q2 (l ++ [u8 f.kind])) := HS.out.step hW hP
  have HL2 : Hid ((l ++ [u8 f.kind]).length ≤ 200001) := by show _ ≤ _; have := HL.out; simp only [List.length_append, List.length_singleton]; omega
  clear hwb hW hP HS HL hw1 w1
  generalize hl2 : l ++ [u8 f.kind] = l2 at HS2 HL2
  have HE2 : Hid (l2 = l ++ [u8 f.kind]) := hl2.symm
  clear hl2
  obtain ⟨z0, z1, z2, z3, z4, z5, z6, z7, z8, z9, z10, z11, z12, z13, z14, z15, z16, z17, z18, z19, z20, z21⟩ := cells22 HS2.out.own.at'
  have hc := putInts_five HS2.out.wr hg (by have := HL2.out; omega) f HF.out.head
  go_wp2_with fail
  refine hc.mono ?_
  rintro e w3 ⟨rfl, q3, hW, hP⟩
  have hnl := numsB_len (headR f) HF.out.head
  have HL3 : Hid ((l2 ++ numsB (headR f)).length ≤ 200100) := by show _ ≤ _; have := HL2.out; have : (headR f).length = 5 := rfl; simp only [List.length_append]; omega
  have HS3 : Hid (PS f A1 c1 A2 c2 A3 c3 A4 c4 w base g w.heap.size q w3 q3 (l2 ++ numsB (headR f))) := HS2.out.step hW hP
  clear hc hW hP hnl HS2 HL2 z0 z1 z2 z3 z4 z5 z6 z7 z8 z9 z10 z11 z12 z13 z14 z15 z16 z17 z18 z19 z20 z21
  generalize hl3 : l2 ++ numsB (headR f) = l3 at HS3 HL3
  have HE3 : Hid (l3 = l2 ++ numsB (headR f)) := hl3.symm
  clear hl3
  obtain ⟨z0, z1, z2, z3, z4, z5, z6, z7, z8, z9, z10, z11, z12, z13, z14, z15, z16, z17, z18, z19, z20, z21⟩ := cells22 HS3.out.own.at'
  have hx := textB_len (l := f.path) (by have := HWI.out.path; omega)
  have hc := wText_any HS3.out.wr f.path (by have := HWI.out.path; omega) (by have := HL3.out; have := HWI.out.path; omega)
  have HL4 : Hid ((l3 ++ textB f.path).length ≤ 200400) := by show _ ≤ _; have := HL3.out; have := HWI.out.path; simp only [List.length_append]; omega
  clear hx
  go_wp2_with fail
  refine hc.mono ?_
  rintro e w4 ⟨rfl, q4, hW, hP⟩
  have HS4 : Hid (PS f A1 c1 A2 c2 A3 c3 A4 c4 w base g w.heap.size q w4 q4 (l3 ++ textB f.path)) := HS3.out.step hW hP
  clear hc hW hP HS3 HL3 z0 z1 z2 z3 z4 z5 z6 z7 z8 z9 z10 z11 z12 z13 z14 z15 z16 z17 z18 z19 z20 z21
  generalize hl4 : l3 ++ textB f.path = l4 at HS4 HL4
  have HE4 : Hid (l4 = l3 ++ textB f.path) := hl4.symm
  clear hl4
  obtain ⟨z0, z1, z2, z3, z4, z5, z6, z7, z8, z9, z10, z11, z12, z13, z14, z15, z16, z17, z18, z19, z20, z21⟩ := cells22 HS4.out.own.at'
  have hx := textB_len (l := f.data) (by have := HWI.out.data; omega)
  have hc := wBytes_any HS4.out.wr HS4.out.rest.bs (by have := HWI.out.data; omega) (by have := HL4.out; have := HWI.out.data; omega) (fun e => by have := HS4.out.rest.bsB g e; omega) (fun j hj e => by have := HS4.out.rest.bsB j e; have := (RowAt.qlt HS4.out.wr j hj).1; omega)
  have HL5 : Hid ((l4 ++ textB f.data).length ≤ 201500) := by show _ ≤ _; have := HL4.out; have := HWI.out.data; simp only [List.length_append]; omega
  clear hx
  go_wp2_with fail
  refine hc.mono ?_
  rintro e w5 ⟨rfl, q5, hW, hP⟩
  have HS5 : Hid (PS f A1 c1 A2 c2 A3 c3 A4 c4 w base g w.heap.size q w5 q5 (l4 ++ textB f.data)) := HS4.out.step hW hP
  clear hc hW hP HS4 HL4 z0 z1 z2 z3 z4 z5 z6 z7 z8 z9 z10 z11 z12 z13 z14 z15 z16 z17 z18 z19 z20 z21
  generalize hl5 : l4 ++ textB f.data = l5 at HS5 HL5
  have HE5 : Hid (l5 = l4 ++ textB f.data) := hl5.symm
  clear hl5
  obtain ⟨z0, z1, z2, z3, z4, z5, z6, z7, z8, z9, z10, z11, z12, z13, z14, z15, z16, z17, z18, z19, z20, z21⟩ := cells22 HS5.out.own.at'
  have hc := numbersOf_any f.s0 f.s1 f.s2 f.s3 f.s4 f.s5 f.s6 f.s7 f.s8 f.s9 w5
  go_wp2_with fail
  refine hc.mono ?_
  rintro e w6 ⟨rfl, hB6⟩
  have HS6 : Hid (PS f A1 c1 A2 c2 A3 c3 A4 c4 w base g w.heap.size q w6 q5 l5) := HS5.out.below hB6
  clear hc hB6 HS5 z0 z1 z2 z3 z4 z5 z6 z7 z8 z9 z10 z11 z12 z13 z14 z15 z16 z17 z18 z19 z20 z21
  obtain ⟨w7, hw7⟩ : ∃ X, X = w6.alloc (.cells #[.int .i64 f.s0, .int .i64 f.s1, .int .i64 f.s2, .int .i64 f.s3, .int .i64 f.s4, .int .i64 f.s5, .int .i64 f.s6, .int .i64 f.s7, .int .i64 f.s8, .int .i64 f.s9] 123) := ⟨_, rfl⟩
  have hB7 : Below w6.heap.size w6 w7 := by rw [hw7]; exact (Below.refl _ _).alloc (Nat.le_refl _) _
  have HS7 : Hid (PS f A1 c1 A2 c2 A3 c3 A4 c4 w base g w.heap.size q w7 q5 l5) := HS6.out.below hB7
  have hst : w7.heap[w6.heap.size]? = some (.cells #[.int .i64 f.s0, .int .i64 f.s1, .int .i64 f.s2, .int .i64 f.s3, .int .i64 f.s4, .int .i64 f.s5, .int .i64 f.s6, .int .i64 f.s7, .int .i64 f.s8, .int .i64 f.s9] 123 (0, 0)) := by rw [hw7]; exact heap_alloc_new w6 _
  have hc : Calls Tryd.prog 28 #[.pointer (some ⟨g, 0, none⟩), .slice (some ⟨w6.heap.size, 0, none⟩) 10 10] w7 fun e w' => e = .returned (.tuple #[]) ∧ ∃ q', WrAt w' base g q' (l5 ++ numsB (statR f)) ∧ Put g q5 w7 w' q' :=
    putInts_any (ns := statR f) HS7.out.wr hg (by have := HL5.out; omega) (nums10 hst) (heap_lt hst) (by have := RowAt.lt HS6.out.wr; omega) (fun e => by have := (RowAt.qlt HS6.out.wr _ e).2; omega) (by simp [statR]) HF.out.stat
  have hnl := numsB_len (statR f) HF.out.stat
  have HL8 : Hid ((l5 ++ numsB (statR f)).length ≤ 201700) := by show _ ≤ _; have := HL5.out; have : (statR f).length = 10 := rfl; simp only [List.length_append]; omega
  rw [hw7] at hc
  clear hnl hst hB7
  go_wp2_with fail
  refine hc.mono ?_
  rintro e w8 ⟨rfl, q8, hW, hP⟩
  rw [← hw7] at hP
  have HS8 : Hid (PS f A1 c1 A2 c2 A3 c3 A4 c4 w base g w.heap.size q w8 q8 (l5 ++ numsB (statR f))) := HS7.out.step hW hP
  clear hc hW hP HS6 HS7 HL5 hw7 w7
  generalize hl8 : l5 ++ numsB (statR f) = l8 at HS8 HL8
  have HE8 : Hid (l8 = l5 ++ numsB (statR f)) := hl8.symm
  clear hl8
  obtain ⟨z0, z1, z2, z3, z4, z5, z6, z7, z8, z9, z10, z11, z12, z13, z14, z15, z16, z17, z18, z19, z20, z21⟩ := cells22 HS8.out.own.at'
  have hc := putInts_one HS8.out.wr hg (by have := HL8.out; omega) 0 I64_0
  have hx := numB_len (n := 0) I64_0
  have HL9 : Hid ((l8 ++ numB 0).length ≤ 201800) := by show _ ≤ _; have := HL8.out; simp only [List.length_append]; omega
  clear hx
  go_wp2_with fail
  refine hc.mono ?_
  rintro e w9 ⟨rfl, q9, hW, hP⟩
  have HS9 : Hid (PS f A1 c1 A2 c2 A3 c3 A4 c4 w base g w.heap.size q w9 q9 (l8 ++ numB 0)) := HS8.out.step hW hP
  clear hc hW hP HS8 HL8 z0 z1 z2 z3 z4 z5 z6 z7 z8 z9 z10 z11 z12 z13 z14 z15 z16 z17 z18 z19 z20 z21
  generalize hl9 : l8 ++ numB 0 = l9 at HS9 HL9
  have HE9 : Hid (l9 = l8 ++ numB 0) := hl9.symm
  clear hl9
  obtain ⟨z0, z1, z2, z3, z4, z5, z6, z7, z8, z9, z10, z11, z12, z13, z14, z15, z16, z17, z18, z19, z20, z21⟩ := cells22 HS9.out.own.at'
  go_wp2_with fail
  refine wp_loop_rounds 1 ?_
  rw [rounds_succ]
  have hc := ensPut_any f HS9.out.rest.ms
  go_wp2_with fail
  refine hc.mono ?_
  rintro e w10 ⟨AX, CX, code, rfl, hbx, hB10, hkx⟩
  have HS10 : Hid (PS f A1 c1 A2 c2 A3 c3 A4 c4 w base g w.heap.size q w10 q9 l9) := HS9.out.below hB10
  have hx := textB_len (l := cfgR f) (by have := cfgR_len f; omega)
  have hx2 := cfgR_len f
  have hc' := wBytes_any HS10.out.wr hbx (by omega) (by have := HL9.out; omega) (fun e => by have := hkx g e; have := RowAt.lt HS9.out.wr; omega) (fun j hj e => by have := hkx j e; have := (RowAt.qlt HS9.out.wr j hj).2; omega)
  have HL11 : Hid ((l9 ++ textB (cfgR f)).length ≤ 203000) := by show _ ≤ _; have := HL9.out; simp only [List.length_append]; omega
  clear hx hx2 hc hbx hB10 hkx HS9 HL9 z0 z1 z2 z3 z4 z5 z6 z7 z8 z9 z10 z11 z12 z13 z14 z15 z16 z17 z18 z19 z20 z21
  go_wp2_with fail
  refine hc'.mono ?_
  rintro e w11 ⟨rfl, q11, hW, hP⟩
  have HS11 : Hid (PS f A1 c1 A2 c2 A3 c3 A4 c4 w base g w.heap.size q w11 q11 (l9 ++ textB (cfgR f))) := HS10.out.step hW hP
  clear hc' hW hP HS10
  generalize hl11 : l9 ++ textB (cfgR f) = l11 at HS11 HL11
  have HE11 : Hid (l11 = l9 ++ textB (cfgR f)) := hl11.symm
  clear hl11
  obtain ⟨z0, z1, z2, z3, z4, z5, z6, z7, z8, z9, z10, z11, z12, z13, z14, z15, z16, z17, z18, z19, z20, z21⟩ := cells22 HS11.out.own.at'
  have hc := putInts_one HS11.out.wr hg (by have := HL11.out; omega) 0 I64_0
  go_wp2_with fail
  refine hc.mono ?_
  rintro e w12 ⟨rfl, q12, hW, hP⟩
  have HS12 : Hid (PS f A1 c1 A2 c2 A3 c3 A4 c4 w base g w.heap.size q w12 q12 (l11 ++ numB 0)) := HS11.out.step hW hP
  clear hc hW hP HS11 HL11 z0 z1 z2 z3 z4 z5 z6 z7 z8 z9 z10 z11 z12 z13 z14 z15 z16 z17 z18 z19 z20 z21
  obtain ⟨z0, z1, z2, z3, z4, z5, z6, z7, z8, z9, z10, z11, z12, z13, z14, z15, z16, z17, z18, z19, z20, z21⟩ := cells22 HS12.out.own.at'
  go_wp2_with fail
  refine wp_loop_rounds 1 ?_
  rw [rounds_succ]
  have HWE : Hid (WrAt w12 base g q12 (l ++ (bodyR f ++ numB 0))) := by
    show WrAt _ _ _ _ _
    have e : l ++ (bodyR f ++ numB 0) = l11 ++ numB 0 := by
      rw [HE11.out, HE9.out, HE8.out, HE5.out, HE4.out, HE3.out, HE2.out]
      unfold bodyR
      rw [HLI.out]
      simp [textsB]
    rw [e]
    exact HS12.out.wr
  have HPE : Hid (Put g q w w12 q12) := HS12.out.put
  clear HS12 z0 z1 z2 z3 z4 z5 z6 z7 z8 z9 z10 z11 z12 z13 z14 z15 z16 z17 z18 z19 z20 z21
  go_wp2
  go_end0
  exact ⟨rfl, q12, HWE.out, HPE.out⟩
end Go.Proofs.YtmojplgoohnmdaaDoor.AK
