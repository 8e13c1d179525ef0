/- The document's body of a call with parts. -/
import Derived.Test.YtmojplgoohnmdaaDoorRf6g
namespace Go.Proofs.YtmojplgoohnmdaaDoor.AK
set_option linter.unusedSimpArgs false
set_option linter.unusedVariables false
open Go.RowKit
set_option linter.unusedVariables false
set_option linter.unusedSimpArgs false

set_option maxRecDepth 100000 in
set_option maxHeartbeats 8000000 in
theorem rbodyMulti {w : World} {base g : Nat} {q : Option Nat} {l : List UInt8} (h : WrF w base g q l) (hg : base ≤ g) (hl : l.length ≤ 5000) (f : Qf) (hf : QFit f) (hw : Within f) (A1 A2 A3 : Option Addr) (c1 c2 c3 : Nat) (hr : QRest w base f A1 c1 A2 c2) (ps : List Qf) (hP : QPrts w base (.slice A3 f.np c3) ps) (hnp : f.np = ps.length) (hps : ∀ p ∈ ps, QFit p ∧ partQ p = true) (hn : ps.length ≤ 16) (hO : ∀ w', Calls Tryd.prog 73 #[.int .u8 f.kind] w' fun e w'' => e = .returned (.tuple #[.agg #[.bool false, .bool false, .bool false, .bool false, .bool false, .bool false, .bool false, .bool false, .bool false, .bool true], .bool true]) ∧ Below w'.heap.size w' w'') :
    Calls Tryd.prog 34 #[.pointer (some ⟨g, 0, none⟩), .agg #[.int .u8 f.kind, .int .i64 f.xid, .int .i64 f.session, .int .i64 f.turn, .string (mkS f.path), .slice A1 f.data.length c1, .int .i64 f.flags, .int .i64 f.version, .bool f.watch, .int .u8 f.sort, .int .i64 f.last, .int .i64 f.timeout, .int .i64 f.frm, .slice A2 f.mems.length c2, .slice A3 f.np c3]] w fun e w' => e = .returned (.tuple #[]) ∧ ∃ q', WrF w' base g q' (l ++ (numB ps.length ++ prtsQ ps)) ∧ Put g q w w' q' := by
  have HF : Hid (QFit f) := hf
  have HPP : Hid (QPrts w base (.slice A3 f.np c3) ps) := hP
  have HNP : Hid (f.np = ps.length) := hnp
  have HPS : Hid (∀ p ∈ ps, QFit p ∧ partQ p = true) := hps
  have HN16 : Hid (ps.length ≤ 16) := hn
  have HWI : Hid (Within f) := hw
  have HL : Hid (l.length ≤ 5000) := hl
  obtain ⟨w1, hw1⟩ : ∃ X, X = w.alloc (.cells #[.int .u8 f.kind, .int .i64 f.xid, .int .i64 f.session, .int .i64 f.turn, .string (mkS f.path), .slice A1 f.data.length c1, .int .i64 f.flags, .int .i64 f.version, .bool f.watch, .int .u8 f.sort, .int .i64 f.last, .int .i64 f.timeout, .int .i64 f.frm, .slice A2 f.mems.length c2, .slice A3 f.np c3] 29) := ⟨_, rfl⟩
  have HW1 : Hid (w1 = w.alloc (.cells #[.int .u8 f.kind, .int .i64 f.xid, .int .i64 f.session, .int .i64 f.turn, .string (mkS f.path), .slice A1 f.data.length c1, .int .i64 f.flags, .int .i64 f.version, .bool f.watch, .int .u8 f.sort, .int .i64 f.last, .int .i64 f.timeout, .int .i64 f.frm, .slice A2 f.mems.length c2, .slice A3 f.np c3] 29)) := hw1
  have HH : Hid (WrF w base g q l) := h
  have HH2 : Hid (WrF w base g q l) := h
  have HR : Hid (QRest w base f A1 c1 A2 c2) := hr
  have ho := hO w1
  rw [hw1] at ho
  clear hO hf hw hl h hr hP hnp hps hn
  go_enter Tryd.func34, Tryd.ntmps34
  go_wp2_with fail
  refine ho.mono ?_
  rintro e w2 ⟨rfl, hB2⟩
  rw [← hw1] at hB2
  obtain ⟨w3, hw3⟩ : ∃ X, X = w2.alloc (.cells #[.bool false, .bool false, .bool false, .bool false, .bool false, .bool false, .bool false, .bool false, .bool false, .bool true] 114) := ⟨_, rfl⟩
  have HS3 : Hid (PB f A1 c1 A2 c2 A3 c3 #[.bool false, .bool false, .bool false, .bool false, .bool false, .bool false, .bool false, .bool false, .bool false, .bool true] w base g w.heap.size w2.heap.size q w3 q l) := PB.start HH.out hg HR.out HW1.out hB2 hw3
  clear ho hB2 hw1 HW1 HH HR w1
  obtain ⟨z0, z1, z2, z3, z4, z5, z6, z7, z8, z9, z10, z11, z12, z13, z14⟩ := cells15 HS3.out.own.at'
  rw [hw3] at z0 z1 z2 z3 z4 z5 z6 z7 z8 z9 z10 z11 z12 z13 z14
  have hc := rfWInt_any HS3.out.wr (f.np : Int) (by omega) (by have := HNP.out; have := HN16.out; omega) (by have := HL.out; have := numB_len (n := (f.np : Int)) (I64_nat (by have := HNP.out; have := HN16.out; omega)); omega)
  rw [hw3] at hc
  go_wp2_with fail
  refine hc.mono ?_
  rintro e w4 ⟨rfl, q4, hW, hP⟩
  rw [← hw3] at hP
  have HS4 : Hid (PB f A1 c1 A2 c2 A3 c3 #[.bool false, .bool false, .bool false, .bool false, .bool false, .bool false, .bool false, .bool false, .bool false, .bool true] w base g w.heap.size w2.heap.size q w4 q4 (l ++ numB f.np)) := HS3.out.step hW hP
  have HL4 : Hid ((l ++ numB (f.np : Int)).length ≤ 5100) := by show _ ≤ _; have := HL.out; have := numB_len (n := (f.np : Int)) (I64_nat (by have := HNP.out; have := HN16.out; omega)); simp only [List.length_append]; omega
  have HB4 : Hid (Below base w w4) := putF_below HH2.out hg HS4.out.put
  clear hc hW hP HS3 HL z0 z1 z2 z3 z4 z5 z6 z7 z8 z9 z10 z11 z12 z13 z14 hw3 w3
  obtain ⟨z0, z1, z2, z3, z4, z5, z6, z7, z8, z9, z10, z11, z12, z13, z14⟩ := cells15 HS4.out.own.at'
  obtain ⟨y0, y1, y2, y3, y4, y5, y6, y7, y8, y9⟩ := cells10 HS4.out.hh.at'
  go_wp2_with fail
  go_loopw [8] (fun c wr => ∃ (k : Nat) (q' : Option Nat), k ≤ f.np ∧ c = .int .i64 k ∧ PB f A1 c1 A2 c2 A3 c3 #[.bool false, .bool false, .bool false, .bool false, .bool false, .bool false, .bool false, .bool false, .bool false, .bool true] w base g w.heap.size w2.heap.size q wr q' ((l ++ numB f.np) ++ prtsQ (ps.take k)) ∧ Below base w wr) (fun c _ => f.np - (intOf c).toNat)
  case atStart => exact ⟨0, q4, by omega, rfl, by simpa [prtsQ] using HS4.out, HB4.out⟩
  case round =>
    obtain ⟨k, q', hk, rfl, hSr, hBr⟩ := hrel
    have HSr : Hid (PB f A1 c1 A2 c2 A3 c3 #[.bool false, .bool false, .bool false, .bool false, .bool false, .bool false, .bool false, .bool false, .bool false, .bool true] w base g w.heap.size w2.heap.size q wr q' ((l ++ numB f.np) ++ prtsQ (ps.take k))) := hSr
    have HBr : Hid (Below base w wr) := hBr
    clear hSr hBr HS4 HB4 z0 z1 z2 z3 z4 z5 z6 z7 z8 z9 z10 z11 z12 z13 z14 y0 y1 y2 y3 y4 y5 y6 y7 y8 y9
    obtain ⟨z0, z1, z2, z3, z4, z5, z6, z7, z8, z9, z10, z11, z12, z13, z14⟩ := cells15 HSr.out.own.at'
    obtain ⟨y0, y1, y2, y3, y4, y5, y6, y7, y8, y9⟩ := cells10 HSr.out.hh.at'
    by_cases hlt : k < f.np
    · have hkl : k < ps.length := by have := HNP.out; omega
      obtain ⟨bb, oo, hA3, -, -, B1, d1, B2, d2, B3, d3, hcl, hdr⟩ := (HPP.out.below HBr.out).at' k hkl
      have hff := HPS.out _ (List.getElem_mem hkl)
      have hpl := prtsQ_len (ps.take k) (fun p hp => HPS.out p (List.mem_of_mem_take hp))
      have hplk : (ps.take k).length = k := by rw [List.length_take]; omega
      have HLK : Hid (((l ++ numB (f.np : Int)) ++ prtsQ (ps.take k)).length ≤ 40000) := by
        show _ ≤ _
        have := HL4.out
        have := HN16.out
        rw [List.length_append]
        rw [hplk] at hpl
        omega
      have HSN : Hid (prtsQ (ps.take (k + 1)) = prtsQ (ps.take k) ++ (u8 (ps[k]'hkl).kind :: bodyQ (ps[k]'hkl))) := prts_snoc ps hkl
      generalize (ps[k]'hkl) = p at hcl hdr hff HSN
      have HFF : Hid (QFit p ∧ partQ p = true) := hff
      have HDR : Hid (QRest wr base p B1 d1 B2 d2) := hdr
      obtain ⟨v0, v1, v2, v3, v4, v5, v6, v7, v8, v9, v10, v11, v12, v13, v14⟩ := hcl
      have HCL : Hid (QCells wr bb (oo + k * 15) p B1 d1 B2 d2 B3 d3) := ⟨v0, v1, v2, v3, v4, v5, v6, v7, v8, v9, v10, v11, v12, v13, v14⟩
      have HBB : Hid (bb < base) := by
        have h := (HPP.out.below HBr.out).at' k hkl
        obtain ⟨b', o', e', hb', -, -⟩ := h
        rw [hA3] at e'
        cases e'
        exact hb'
      rw [hA3] at z14
      generalize hll : (l ++ numB (f.np : Int)) ++ prtsQ (ps.take k) = lk at HSr HLK
      have HLL : Hid (lk = (l ++ numB (f.np : Int)) ++ prtsQ (ps.take k)) := hll.symm
      have hc := rfWByte_any HSr.out.wr p.kind (u8 p.kind) (u8_back hff.1.kind).symm (by have := HLK.out; omega)
      have HA3 : Hid (A3 = some ⟨bb, oo, none⟩) := hA3
      clear hA3 hff hdr hpl hplk hll
      go_wp2_with fail
      refine hc.mono ?_
      rintro e w5 ⟨rfl, q5, hW, hP⟩
      have hB5 := putF_below HSr.out.wr hg hP
      have HS5 : Hid (PB f A1 c1 A2 c2 A3 c3 #[.bool false, .bool false, .bool false, .bool false, .bool false, .bool false, .bool false, .bool false, .bool false, .bool true] w base g w.heap.size w2.heap.size q w5 q5 (lk ++ [u8 p.kind])) := HSr.out.step hW hP
      have HB5 : Hid (Below base w w5) := HBr.out.trans hB5
      have HD5 : Hid (QRest w5 base p B1 d1 B2 d2) := HDR.out.below hB5
      have hcl5 := HCL.out.keep (w' := w5) (fun o' => hB5.cell (p := ⟨bb, o', none⟩) HBB.out)
      clear hc hW hP hB5 HSr HBr HDR HCL z0 z1 z2 z3 z4 z5 z6 z7 z8 z9 z10 z11 z12 z13 z14 y0 y1 y2 y3 y4 y5 y6 y7 y8 y9 v0 v1 v2 v3 v4 v5 v6 v7 v8 v9 v10 v11 v12 v13 v14
      obtain ⟨v0, v1, v2, v3, v4, v5, v6, v7, v8, v9, v10, v11, v12, v13, v14⟩ := hcl5
      obtain ⟨z0, z1, z2, z3, z4, z5, z6, z7, z8, z9, z10, z11, z12, z13, z14⟩ := cells15 HS5.out.own.at'
      rw [HA3.out] at z14
      have hpt := part_of HFF.out.2
      have hpk : okQ p.kind = true ∧ p.kind ≠ 11 := by
        have h12 := hpt.1
        rw [part_ok HFF.out.1.kind.1] at h12
        simp only [Bool.and_eq_true, decide_eq_true_eq] at h12
        refine ⟨?_, by omega⟩
        unfold okQ
        simp only [Bool.and_eq_true, decide_eq_true_eq]
        omega
      have hc := rbody_leaf HS5.out.wr hg (by have := HLK.out; simp only [List.length_append, List.length_singleton]; omega) p HFF.out.1 (fit_of hpt.2.2.2.2).2 B1 B2 B3 d1 d2 d3 HD5.out hpk.1 hpk.2
      clear hpt hpk
      go_wp2_with fail
      refine hc.mono ?_
      rintro e w6 ⟨rfl, q6, hW, hP⟩
      have HB6 : Hid (Below base w w6) := HB5.out.trans (putF_below HS5.out.wr hg hP)
      have HS6 : Hid (PB f A1 c1 A2 c2 A3 c3 #[.bool false, .bool false, .bool false, .bool false, .bool false, .bool false, .bool false, .bool false, .bool false, .bool true] w base g w.heap.size w2.heap.size q w6 q6 ((l ++ numB f.np) ++ prtsQ (ps.take (k + 1)))) := by
        have ee : (l ++ numB (f.np : Int)) ++ prtsQ (ps.take (k + 1)) = (lk ++ [u8 p.kind]) ++ bodyQ p := by
          rw [HSN.out, HLL.out]; simp
        show PB _ _ _ _ _ _ _ _ _ _ _ _ _ _ _ _ _
        rw [ee]
        exact HS5.out.step hW hP
      clear hc hW hP HS5 HB5 HD5 z0 z1 z2 z3 z4 z5 z6 z7 z8 z9 z10 z11 z12 z13 z14 v0 v1 v2 v3 v4 v5 v6 v7 v8 v9 v10 v11 v12 v13 v14
      have h16 : f.np ≤ 16 := by have := HNP.out; have := HN16.out; omega
      go_wp2_with fail
      exact ⟨⟨k + 1, q6, by omega, by go_num, HS6.out, HB6.out⟩, by simp [intOf]; omega⟩
    · have hkn : k = f.np := by omega
      have HWE : Hid (WrF wr base g q' (l ++ (numB ps.length ++ prtsQ ps))) := by
        show WrF _ _ _ _ _
        have ee : l ++ (numB (ps.length : Int) ++ prtsQ ps) = (l ++ numB (f.np : Int)) ++ prtsQ (ps.take k) := by
          rw [hkn, HNP.out, List.take_length]; simp
        rw [ee]
        exact HSr.out.wr
      have HPE : Hid (Put g q w wr q') := HSr.out.put
      clear HSr
      go_wp2
      go_end0
      exact ⟨rfl, q', HWE.out, HPE.out⟩
end Go.Proofs.YtmojplgoohnmdaaDoor.AK
