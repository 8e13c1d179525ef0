/- The document's body of a call that has members. -/
import Derived.Test.YtmojplgoohnmdaaDoorRf6d
namespace Go.Proofs.YtmojplgoohnmdaaDoor.AK
set_option linter.unusedSimpArgs false
set_option linter.unusedVariables false
open Go.RowKit
set_option linter.unusedVariables false
set_option linter.unusedSimpArgs false

set_option maxRecDepth 100000 in
set_option maxHeartbeats 8000000 in
theorem rbodyConfig {w : World} {base g : Nat} {q : Option Nat} {l : List UInt8} (h : WrF w base g q l) (hg : base ≤ g) (hl : l.length ≤ 800000) (f : Qf) (hf : QFit f) (hw : Within f) (A1 A2 A3 : Option Addr) (c1 c2 c3 : Nat) (hr : QRest w base f A1 c1 A2 c2) (hO : ∀ w', Calls Tryd.prog 73 #[.int .u8 f.kind] w' fun e w'' => e = .returned (.tuple #[.agg #[.bool false, .bool false, .bool false, .bool false, .bool false, .bool false, .bool false, .bool false, .bool true, .bool false], .bool true]) ∧ Below w'.heap.size w' w'') :
    Calls Tryd.prog 34 #[.pointer (some ⟨g, 0, none⟩), .agg #[.int .u8 f.kind, .int .i64 f.xid, .int .i64 f.session, .int .i64 f.turn, .string (mkS f.path), .slice A1 f.data.length c1, .int .i64 f.flags, .int .i64 f.version, .bool f.watch, .int .u8 f.sort, .int .i64 f.last, .int .i64 f.timeout, .int .i64 f.frm, .slice A2 f.mems.length c2, .slice A3 f.np c3]] w fun e w' => e = .returned (.tuple #[]) ∧ ∃ q', WrF w' base g q' (l ++ (numB f.frm ++ memsQ f.mems)) ∧ Put g q w w' q' := by
  have HF : Hid (QFit f) := hf
  have HWI : Hid (Within f) := hw
  have HL : Hid (l.length ≤ 800000) := hl
  obtain ⟨w1, hw1⟩ : ∃ X, X = w.alloc (.cells #[.int .u8 f.kind, .int .i64 f.xid, .int .i64 f.session, .int .i64 f.turn, .string (mkS f.path), .slice A1 f.data.length c1, .int .i64 f.flags, .int .i64 f.version, .bool f.watch, .int .u8 f.sort, .int .i64 f.last, .int .i64 f.timeout, .int .i64 f.frm, .slice A2 f.mems.length c2, .slice A3 f.np c3] 29) := ⟨_, rfl⟩
  have HW1 : Hid (w1 = w.alloc (.cells #[.int .u8 f.kind, .int .i64 f.xid, .int .i64 f.session, .int .i64 f.turn, .string (mkS f.path), .slice A1 f.data.length c1, .int .i64 f.flags, .int .i64 f.version, .bool f.watch, .int .u8 f.sort, .int .i64 f.last, .int .i64 f.timeout, .int .i64 f.frm, .slice A2 f.mems.length c2, .slice A3 f.np c3] 29)) := hw1
  have HH : Hid (WrF w base g q l) := h
  have HR : Hid (QRest w base f A1 c1 A2 c2) := hr
  have ho := hO w1
  rw [hw1] at ho
  clear hO hf hw hl h hr
  go_enter Tryd.func34, Tryd.ntmps34
  go_wp2_with fail
  refine ho.mono ?_
  rintro e w2 ⟨rfl, hB2⟩
  rw [← hw1] at hB2
  obtain ⟨w3, hw3⟩ : ∃ X, X = w2.alloc (.cells #[.bool false, .bool false, .bool false, .bool false, .bool false, .bool false, .bool false, .bool false, .bool true, .bool false] 114) := ⟨_, rfl⟩
  have HS3 : Hid (PB f A1 c1 A2 c2 A3 c3 #[.bool false, .bool false, .bool false, .bool false, .bool false, .bool false, .bool false, .bool false, .bool true, .bool false] w base g w.heap.size w2.heap.size q w3 q l) := PB.start HH.out hg HR.out HW1.out hB2 hw3
  clear ho hB2 hw1 HW1 HH HR w1
  obtain ⟨z0, z1, z2, z3, z4, z5, z6, z7, z8, z9, z10, z11, z12, z13, z14⟩ := cells15 HS3.out.own.at'
  rw [hw3] at z0 z1 z2 z3 z4 z5 z6 z7 z8 z9 z10 z11 z12 z13 z14
  have hc := rfWInt_any HS3.out.wr f.frm HF.out.frm.1 HF.out.frm.2 (by have := HL.out; have := numB_len HF.out.frm; omega)
  rw [hw3] at hc
  go_wp2_with fail
  refine hc.mono ?_
  rintro e w4 ⟨rfl, q1, hW, hP⟩
  rw [← hw3] at hP
  have HS3' : Hid (PB f A1 c1 A2 c2 A3 c3 #[.bool false, .bool false, .bool false, .bool false, .bool false, .bool false, .bool false, .bool false, .bool true, .bool false] w base g w.heap.size w2.heap.size q w4 q1 (l ++ numB f.frm)) := HS3.out.step hW hP
  have HL' : Hid ((l ++ numB f.frm).length ≤ 800010) := by show _ ≤ _; have := HL.out; have := numB_len HF.out.frm; simp only [List.length_append, List.length_singleton]; omega
  clear hc hW hP HS3 HL z0 z1 z2 z3 z4 z5 z6 z7 z8 z9 z10 z11 z12 z13 z14  hw3 w3
  generalize hl1 : l ++ numB f.frm = l1 at HS3' HL'
  have HE1 : Hid (l1 = l ++ numB f.frm) := hl1.symm
  clear hl1
  have HL := HL'
  have HS4 := HS3'
  clear HL' HS3'
  obtain ⟨z0, z1, z2, z3, z4, z5, z6, z7, z8, z9, z10, z11, z12, z13, z14⟩ := cells15 HS4.out.own.at'
  obtain ⟨y0, y1, y2, y3, y4, y5, y6, y7, y8, y9⟩ := cells10 HS4.out.hh.at'
  have hn7 := HWI.out.mems
  have hc := rfWInt_any HS4.out.wr (f.mems.length : Int) (by omega) (by omega) (by have := HL.out; have := numB_len (n := (f.mems.length : Int)) (I64_nat (by omega)); omega)
  go_wp2_with fail
  refine hc.mono ?_
  rintro e w5 ⟨rfl, q5, hW, hP⟩
  have HS5 : Hid (PB f A1 c1 A2 c2 A3 c3 #[.bool false, .bool false, .bool false, .bool false, .bool false, .bool false, .bool false, .bool false, .bool true, .bool false] w base g w.heap.size w2.heap.size q w5 q5 (l1 ++ numB f.mems.length)) := HS4.out.step hW hP
  have HL5 : Hid ((l1 ++ numB (f.mems.length : Int)).length ≤ 800100) := by show _ ≤ _; have := HL.out; have := numB_len (n := (f.mems.length : Int)) (I64_nat (by omega)); simp only [List.length_append]; omega
  clear hc hW hP HS4 HL z0 z1 z2 z3 z4 z5 z6 z7 z8 z9 z10 z11 z12 z13 z14 y0 y1 y2 y3 y4 y5 y6 y7 y8 y9 w4
  obtain ⟨z0, z1, z2, z3, z4, z5, z6, z7, z8, z9, z10, z11, z12, z13, z14⟩ := cells15 HS5.out.own.at'
  obtain ⟨y0, y1, y2, y3, y4, y5, y6, y7, y8, y9⟩ := cells10 HS5.out.hh.at'
  go_wp2_with fail
  go_loopw [6] (fun c wr => ∃ (k : Nat) (q' : Option Nat), k ≤ f.mems.length ∧ c = .int .i64 k ∧ PB f A1 c1 A2 c2 A3 c3 #[.bool false, .bool false, .bool false, .bool false, .bool false, .bool false, .bool false, .bool false, .bool true, .bool false] w base g w.heap.size w2.heap.size q wr q' ((l1 ++ numB f.mems.length) ++ memsB (f.mems.take k))) (fun c _ => f.mems.length - (intOf c).toNat)
  case atStart => exact ⟨0, q5, by omega, rfl, by simpa [memsB] using HS5.out⟩
  case round =>
    obtain ⟨k, q', hk, rfl, hSr⟩ := hrel
    have HSr : Hid (PB f A1 c1 A2 c2 A3 c3 #[.bool false, .bool false, .bool false, .bool false, .bool false, .bool false, .bool false, .bool false, .bool true, .bool false] w base g w.heap.size w2.heap.size q wr q' ((l1 ++ numB f.mems.length) ++ memsB (f.mems.take k))) := hSr
    clear hSr HS5 z0 z1 z2 z3 z4 z5 z6 z7 z8 z9 z10 z11 z12 z13 z14 y0 y1 y2 y3 y4 y5 y6 y7 y8 y9
    obtain ⟨z0, z1, z2, z3, z4, z5, z6, z7, z8, z9, z10, z11, z12, z13, z14⟩ := cells15 HSr.out.own.at'
    obtain ⟨y0, y1, y2, y3, y4, y5, y6, y7, y8, y9⟩ := cells10 HSr.out.hh.at'
    by_cases hlt : k < f.mems.length
    · obtain ⟨bb, oo, hA2, hb, m0, m1, m2, m3⟩ := HSr.out.rest.ms.at' k hlt
      have hff := HF.out.mems _ (List.getElem_mem hlt)
      have hpl := memsB_len (f.mems.take k) (fun p hp => HF.out.mems p (List.mem_of_mem_take hp))
      have hplk : (f.mems.take k).length = k := by rw [List.length_take]; omega
      have HLK : Hid (((l1 ++ numB (f.mems.length : Int)) ++ memsB (f.mems.take k)).length ≤ 801000) := by
        show _ ≤ _
        have := HL5.out
        rw [List.length_append]
        rw [hplk] at hpl
        omega
      have HSN : Hid (memsB (f.mems.take (k + 1)) = memsB (f.mems.take k) ++ memB (f.mems[k]'hlt)) := by show _ = _; rw [List.take_succ_eq_append_getElem hlt, memsB_snoc]
      generalize (f.mems[k]'hlt) = m at m0 m1 m2 m3 hff HSN
      obtain ⟨mi, mr, mw, mg⟩ := m
      dsimp only at m0 m1 m2 m3
      have hi := hff.id
      have hro := hff.role
      have hwt := hff.weight
      have hgr := hff.group
      dsimp only at hi hro hwt hgr
      have hwm : wrap64 mr = mr := by unfold wrap64; omega
      have HI : Hid (I64 mi ∧ I64 mr ∧ I64 mw ∧ I64 mg) := ⟨hi, ⟨by omega, by omega⟩, hwt, hgr⟩
      rw [hA2] at z13
      clear hA2
      obtain ⟨w6, hw6⟩ : ∃ X, X = wr.alloc (.cells #[.int .i64 mi, .int .u8 mr, .int .i64 mw, .int .i64 mg] 119) := ⟨_, rfl⟩
      have hB6 : Below wr.heap.size wr w6 := by rw [hw6]; exact (Below.refl _ _).alloc (Nat.le_refl _) _
      have HS6 : Hid (PB f A1 c1 A2 c2 A3 c3 #[.bool false, .bool false, .bool false, .bool false, .bool false, .bool false, .bool false, .bool false, .bool true, .bool false] w base g w.heap.size w2.heap.size q w6 q' ((l1 ++ numB f.mems.length) ++ memsB (f.mems.take k))) := HSr.out.below hB6
      have HM6 : Hid (Own w6 wr.heap.size (.cells #[.int .i64 mi, .int .u8 mr, .int .i64 mw, .int .i64 mg] 119 (0, 0)) g q') := ⟨by rw [hw6]; exact heap_alloc_new wr _, by have := RowAt.lt HSr.out.wr; omega, fun e => by have := (RowAt.qlt HSr.out.wr _ e).2; omega⟩
      generalize hll : (l1 ++ numB (f.mems.length : Int)) ++ memsB (f.mems.take k) = lk at HS6 HLK
      have HLL : Hid (lk = (l1 ++ numB (f.mems.length : Int)) ++ memsB (f.mems.take k)) := hll.symm
      have hc := rfWInt_any HS6.out.wr mi HI.out.1.1 HI.out.1.2 (by have := HLK.out; have := numB_len HI.out.1; omega)
      rw [hw6] at hc
      clear hff hi hro hwt hgr hB6 hpl hplk hll HSr
      go_wp2_with fail
      refine hc.mono ?_
      rintro e w7 ⟨rfl, q7, hW, hP⟩
      rw [← hw6] at hP
      have HS7 : Hid (PB f A1 c1 A2 c2 A3 c3 #[.bool false, .bool false, .bool false, .bool false, .bool false, .bool false, .bool false, .bool false, .bool true, .bool false] w base g w.heap.size w2.heap.size q w7 q7 (lk ++ numB mi)) := HS6.out.step hW hP
      have HM7 : Hid (Own w7 wr.heap.size (.cells #[.int .i64 mi, .int .u8 mr, .int .i64 mw, .int .i64 mg] 119 (0, 0)) g q7) := HM6.out.put hP
      clear hc hW hP HS6 HM6 hw6 m0 m1 m2 m3 z0 z1 z2 z3 z4 z5 z6 z7 z8 z9 z10 z11 z12 z13 z14 y0 y1 y2 y3 y4 y5 y6 y7 y8 y9 w6
      generalize wr.heap.size = pm at HM7 ⊢
      obtain ⟨m0, m1, m2, m3⟩ := cells4 HM7.out.at'
      have hc := rfWInt_any HS7.out.wr mr HI.out.2.1.1 HI.out.2.1.2 (by have := HLK.out; have := numB_len HI.out.1; have := numB_len HI.out.2.1; have := numB_len HI.out.2.2.1; have := numB_len HI.out.2.2.2; simp only [List.length_append]; omega)
      go_wp2_with fail
      refine hc.mono ?_
      rintro e w8 ⟨rfl, q8, hW, hP⟩
      have HS8 : Hid (PB f A1 c1 A2 c2 A3 c3 #[.bool false, .bool false, .bool false, .bool false, .bool false, .bool false, .bool false, .bool false, .bool true, .bool false] w base g w.heap.size w2.heap.size q w8 q8 ((lk ++ numB mi) ++ numB mr)) := HS7.out.step hW hP
      have HM8 : Hid (Own w8 pm (.cells #[.int .i64 mi, .int .u8 mr, .int .i64 mw, .int .i64 mg] 119 (0, 0)) g q8) := HM7.out.put hP
      clear hc hW hP HS7 HM7 m0 m1 m2 m3 w7
      obtain ⟨m0, m1, m2, m3⟩ := cells4 HM8.out.at'
      have hc := rfWInt_any HS8.out.wr mw HI.out.2.2.1.1 HI.out.2.2.1.2 (by have := HLK.out; have := numB_len HI.out.1; have := numB_len HI.out.2.1; have := numB_len HI.out.2.2.1; have := numB_len HI.out.2.2.2; simp only [List.length_append]; omega)
      go_wp2_with fail
      refine hc.mono ?_
      rintro e w9 ⟨rfl, q9, hW, hP⟩
      have HS9 : Hid (PB f A1 c1 A2 c2 A3 c3 #[.bool false, .bool false, .bool false, .bool false, .bool false, .bool false, .bool false, .bool false, .bool true, .bool false] w base g w.heap.size w2.heap.size q w9 q9 (((lk ++ numB mi) ++ numB mr) ++ numB mw)) := HS8.out.step hW hP
      have HM9 : Hid (Own w9 pm (.cells #[.int .i64 mi, .int .u8 mr, .int .i64 mw, .int .i64 mg] 119 (0, 0)) g q9) := HM8.out.put hP
      clear hc hW hP HS8 HM8 m0 m1 m2 m3 w8
      obtain ⟨m0, m1, m2, m3⟩ := cells4 HM9.out.at'
      have hc := rfWInt_any HS9.out.wr mg HI.out.2.2.2.1 HI.out.2.2.2.2 (by have := HLK.out; have := numB_len HI.out.1; have := numB_len HI.out.2.1; have := numB_len HI.out.2.2.1; have := numB_len HI.out.2.2.2; simp only [List.length_append]; omega)
      go_wp2_with fail
      refine hc.mono ?_
      rintro e w10 ⟨rfl, q10, hW, hP⟩
      have HS10 : Hid (PB f A1 c1 A2 c2 A3 c3 #[.bool false, .bool false, .bool false, .bool false, .bool false, .bool false, .bool false, .bool false, .bool true, .bool false] w base g w.heap.size w2.heap.size q w10 q10 ((((lk ++ numB mi) ++ numB mr) ++ numB mw) ++ numB mg)) := HS9.out.step hW hP
      have HM10 : Hid (Own w10 pm (.cells #[.int .i64 mi, .int .u8 mr, .int .i64 mw, .int .i64 mg] 119 (0, 0)) g q10) := HM9.out.put hP
      clear hc hW hP HS9 HM9 m0 m1 m2 m3 w9
      obtain ⟨z0, z1, z2, z3, z4, z5, z6, z7, z8, z9, z10, z11, z12, z13, z14⟩ := cells15 HS10.out.own.at'
      have HS11 : Hid (PB f A1 c1 A2 c2 A3 c3 #[.bool false, .bool false, .bool false, .bool false, .bool false, .bool false, .bool false, .bool false, .bool true, .bool false] w base g w.heap.size w2.heap.size q w10 q10 ((l1 ++ numB f.mems.length) ++ memsB (f.mems.take (k + 1)))) := by
        have ee : (l1 ++ numB (f.mems.length : Int)) ++ memsB (f.mems.take (k + 1)) = (((lk ++ numB mi) ++ numB mr) ++ numB mw) ++ numB mg := by
          rw [HSN.out, HLL.out]; simp [memB]
        show PB _ _ _ _ _ _ _ _ _ _ _ _ _ _ _ _ _
        rw [ee]
        exact HS10.out
      clear HS10 HM10
      go_wp2_with fail
      exact ⟨⟨k + 1, q10, by omega, by go_num, HS11.out⟩, by simp [intOf]; omega⟩
    · have hkn : k = f.mems.length := by omega
      have HWE : Hid (WrF wr base g q' (l ++ (numB f.frm ++ memsQ f.mems))) := by
        show WrF _ _ _ _ _
        have ee : l ++ (numB f.frm ++ memsQ f.mems) = (l1 ++ numB (f.mems.length : Int)) ++ memsB (f.mems.take k) := by
          rw [HE1.out, hkn, List.take_length]; simp [memsQ]
        rw [ee]
        exact HSr.out.wr
      have HPE : Hid (Put g q w wr q') := HSr.out.put
      clear HSr
      go_wp2
      go_end0
      exact ⟨rfl, q', HWE.out, HPE.out⟩
end Go.Proofs.YtmojplgoohnmdaaDoor.AK
