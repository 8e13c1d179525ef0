/- The document's body of a call, by patterns. -/
import Derived.Test.YtmojplgoohnmdaaDoorRf6d
namespace Go.Proofs.YtmojplgoohnmdaaDoor.AK
set_option linter.unusedSimpArgs false
set_option linter.unusedVariables false
open Go.RowKit
set_option linter.unusedVariables false
set_option linter.unusedSimpArgs false

set_option maxRecDepth 100000 in
set_option maxHeartbeats 8000000 in
theorem rbodyOpen {w : World} {base g : Nat} {q : Option Nat} {l : List UInt8} (h : WrF w base g q l) (hg : base ≤ g) (hl : l.length ≤ 800000) (f : Qf) (hf : QFit f) (hw : Within f) (A1 A2 A3 : Option Addr) (c1 c2 c3 : Nat) (hr : QRest w base f A1 c1 A2 c2) (hO : ∀ w', Calls Tryd.prog 73 #[.int .u8 f.kind] w' fun e w'' => e = .returned (.tuple #[.agg #[.bool false, .bool false, .bool false, .bool false, .bool false, .bool false, .bool true, .bool true, .bool false, .bool false], .bool true]) ∧ Below w'.heap.size w' w'') :
    Calls Tryd.prog 34 #[.pointer (some ⟨g, 0, none⟩), .agg #[.int .u8 f.kind, .int .i64 f.xid, .int .i64 f.session, .int .i64 f.turn, .string (mkS f.path), .slice A1 f.data.length c1, .int .i64 f.flags, .int .i64 f.version, .bool f.watch, .int .u8 f.sort, .int .i64 f.last, .int .i64 f.timeout, .int .i64 f.frm, .slice A2 f.mems.length c2, .slice A3 f.np c3]] w fun e w' => e = .returned (.tuple #[]) ∧ ∃ q', WrF w' base g q' (l ++ (numB f.last ++ (numB f.timeout))) ∧ Put g q w w' q' := by
  have HF : Hid (QFit f) := hf
  have HWI : Hid (Within f) := hw
  have HL : Hid (l.length ≤ 800000) := hl
  obtain ⟨w1, hw1⟩ : ∃ X, X = w.alloc (.cells #[.int .u8 f.kind, .int .i64 f.xid, .int .i64 f.session, .int .i64 f.turn, .string (mkS f.path), .slice A1 f.data.length c1, .int .i64 f.flags, .int .i64 f.version, .bool f.watch, .int .u8 f.sort, .int .i64 f.last, .int .i64 f.timeout, .int .i64 f.frm, .slice A2 f.mems.length c2, .slice A3 f.np c3] 29) := ⟨_, rfl⟩
  have HW1 : Hid (w1 = w.alloc (.cells #[.int .u8 f.kind, .int .i64 f.xid, .int .i64 f.session, .int .i64 f.turn, .string (mkS f.path), .slice A1 f.data.length c1, .int .i64 f.flags, .int .i64 f.version, .bool f.watch, .int .u8 f.sort, .int .i64 f.last, .int .i64 f.timeout, .int .i64 f.frm, .slice A2 f.mems.length c2, .slice A3 f.np c3] 29)) := hw1
  have HH : Hid (WrF w base g q l) := h
  have HR : Hid (QRest w base f A1 c1 A2 c2) := hr
  have ho := hO w1
  rw [hw1] at ho
  clear hO hf hw hl h hr
  go_enter Tryd.func34, Tryd.ntmps34
  go_wp2_with fail
  refine ho.mono ?_
  rintro e w2 ⟨rfl, hB2⟩
  rw [← hw1] at hB2
  obtain ⟨w3, hw3⟩ : ∃ X, X = w2.alloc (.cells #[.bool false, .bool false, .bool false, .bool false, .bool false, .bool false, .bool true, .bool true, .bool false, .bool false] 114) := ⟨_, rfl⟩
  have HS3 : Hid (PB f A1 c1 A2 c2 A3 c3 #[.bool false, .bool false, .bool false, .bool false, .bool false, .bool false, .bool true, .bool true, .bool false, .bool false] w base g w.heap.size w2.heap.size q w3 q l) := PB.start HH.out hg HR.out HW1.out hB2 hw3
  clear ho hB2 hw1 HW1 HH HR w1
  obtain ⟨z0, z1, z2, z3, z4, z5, z6, z7, z8, z9, z10, z11, z12, z13, z14⟩ := cells15 HS3.out.own.at'
  rw [hw3] at z0 z1 z2 z3 z4 z5 z6 z7 z8 z9 z10 z11 z12 z13 z14
  have hc := rfWInt_any HS3.out.wr f.last HF.out.last.1 HF.out.last.2 (by have := HL.out; have := numB_len HF.out.last; omega)
  rw [hw3] at hc
  go_wp2_with fail
  refine hc.mono ?_
  rintro e w4 ⟨rfl, q1, hW, hP⟩
  rw [← hw3] at hP
  have HS3' : Hid (PB f A1 c1 A2 c2 A3 c3 #[.bool false, .bool false, .bool false, .bool false, .bool false, .bool false, .bool true, .bool true, .bool false, .bool false] w base g w.heap.size w2.heap.size q w4 q1 (l ++ numB f.last)) := HS3.out.step hW hP
  have HL' : Hid ((l ++ numB f.last).length ≤ 800010) := by show _ ≤ _; have := HL.out; have := numB_len HF.out.last; simp only [List.length_append, List.length_singleton]; omega
  clear hc hW hP HS3 HL z0 z1 z2 z3 z4 z5 z6 z7 z8 z9 z10 z11 z12 z13 z14  hw3 w3
  generalize hl1 : l ++ numB f.last = l1 at HS3' HL'
  have HE1 : Hid (l1 = l ++ numB f.last) := hl1.symm
  clear hl1
  have HL := HL'
  have HS4 := HS3'
  clear HL' HS3'
  obtain ⟨z0, z1, z2, z3, z4, z5, z6, z7, z8, z9, z10, z11, z12, z13, z14⟩ := cells15 HS4.out.own.at'
  obtain ⟨y0, y1, y2, y3, y4, y5, y6, y7, y8, y9⟩ := cells10 HS4.out.hh.at'
  have hc := rfWInt_any HS4.out.wr f.timeout HF.out.timeout.1 HF.out.timeout.2 (by have := HL.out; have := numB_len HF.out.timeout; omega)
  go_wp2_with fail
  refine hc.mono ?_
  rintro e w5 ⟨rfl, q2, hW, hP⟩
  have HS4' : Hid (PB f A1 c1 A2 c2 A3 c3 #[.bool false, .bool false, .bool false, .bool false, .bool false, .bool false, .bool true, .bool true, .bool false, .bool false] w base g w.heap.size w2.heap.size q w5 q2 (l1 ++ numB f.timeout)) := HS4.out.step hW hP
  have HL' : Hid ((l1 ++ numB f.timeout).length ≤ 800020) := by show _ ≤ _; have := HL.out; have := numB_len HF.out.timeout; simp only [List.length_append, List.length_singleton]; omega
  clear hc hW hP HS4 HL z0 z1 z2 z3 z4 z5 z6 z7 z8 z9 z10 z11 z12 z13 z14 y0 y1 y2 y3 y4 y5 y6 y7 y8 y9  w4
  generalize hl2 : l1 ++ numB f.timeout = l2 at HS4' HL'
  have HE2 : Hid (l2 = l1 ++ numB f.timeout) := hl2.symm
  clear hl2
  have HL := HL'
  have HS5 := HS4'
  clear HL' HS4'
  obtain ⟨z0, z1, z2, z3, z4, z5, z6, z7, z8, z9, z10, z11, z12, z13, z14⟩ := cells15 HS5.out.own.at'
  obtain ⟨y0, y1, y2, y3, y4, y5, y6, y7, y8, y9⟩ := cells10 HS5.out.hh.at'
  have HWE : Hid (WrF w5 base g q2 (l ++ (numB f.last ++ (numB f.timeout)))) := by
    show WrF _ _ _ _ _
    have ee : l ++ (numB f.last ++ (numB f.timeout)) = l2 := by
      rw [HE2.out, HE1.out]; simp
    rw [ee]
    exact HS5.out.wr
  have HPE : Hid (Put g q w w5 q2) := HS5.out.put
  clear HS5
  go_wp2
  go_end0
  exact ⟨rfl, q2, HWE.out, HPE.out⟩
set_option maxRecDepth 100000 in
set_option maxHeartbeats 8000000 in
theorem rbodyNone {w : World} {base g : Nat} {q : Option Nat} {l : List UInt8} (h : WrF w base g q l) (hg : base ≤ g) (hl : l.length ≤ 800000) (f : Qf) (hf : QFit f) (hw : Within f) (A1 A2 A3 : Option Addr) (c1 c2 c3 : Nat) (hr : QRest w base f A1 c1 A2 c2) (hO : ∀ w', Calls Tryd.prog 73 #[.int .u8 f.kind] w' fun e w'' => e = .returned (.tuple #[.agg #[.bool false, .bool false, .bool false, .bool false, .bool false, .bool false, .bool false, .bool false, .bool false, .bool false], .bool true]) ∧ Below w'.heap.size w' w'') :
    Calls Tryd.prog 34 #[.pointer (some ⟨g, 0, none⟩), .agg #[.int .u8 f.kind, .int .i64 f.xid, .int .i64 f.session, .int .i64 f.turn, .string (mkS f.path), .slice A1 f.data.length c1, .int .i64 f.flags, .int .i64 f.version, .bool f.watch, .int .u8 f.sort, .int .i64 f.last, .int .i64 f.timeout, .int .i64 f.frm, .slice A2 f.mems.length c2, .slice A3 f.np c3]] w fun e w' => e = .returned (.tuple #[]) ∧ ∃ q', WrF w' base g q' (l ++ ([])) ∧ Put g q w w' q' := by
  have HF : Hid (QFit f) := hf
  have HWI : Hid (Within f) := hw
  have HL : Hid (l.length ≤ 800000) := hl
  obtain ⟨w1, hw1⟩ : ∃ X, X = w.alloc (.cells #[.int .u8 f.kind, .int .i64 f.xid, .int .i64 f.session, .int .i64 f.turn, .string (mkS f.path), .slice A1 f.data.length c1, .int .i64 f.flags, .int .i64 f.version, .bool f.watch, .int .u8 f.sort, .int .i64 f.last, .int .i64 f.timeout, .int .i64 f.frm, .slice A2 f.mems.length c2, .slice A3 f.np c3] 29) := ⟨_, rfl⟩
  have HW1 : Hid (w1 = w.alloc (.cells #[.int .u8 f.kind, .int .i64 f.xid, .int .i64 f.session, .int .i64 f.turn, .string (mkS f.path), .slice A1 f.data.length c1, .int .i64 f.flags, .int .i64 f.version, .bool f.watch, .int .u8 f.sort, .int .i64 f.last, .int .i64 f.timeout, .int .i64 f.frm, .slice A2 f.mems.length c2, .slice A3 f.np c3] 29)) := hw1
  have HH : Hid (WrF w base g q l) := h
  have HR : Hid (QRest w base f A1 c1 A2 c2) := hr
  have ho := hO w1
  rw [hw1] at ho
  clear hO hf hw hl h hr
  go_enter Tryd.func34, Tryd.ntmps34
  go_wp2_with fail
  refine ho.mono ?_
  rintro e w2 ⟨rfl, hB2⟩
  rw [← hw1] at hB2
  obtain ⟨w3, hw3⟩ : ∃ X, X = w2.alloc (.cells #[.bool false, .bool false, .bool false, .bool false, .bool false, .bool false, .bool false, .bool false, .bool false, .bool false] 114) := ⟨_, rfl⟩
  have HS3 : Hid (PB f A1 c1 A2 c2 A3 c3 #[.bool false, .bool false, .bool false, .bool false, .bool false, .bool false, .bool false, .bool false, .bool false, .bool false] w base g w.heap.size w2.heap.size q w3 q l) := PB.start HH.out hg HR.out HW1.out hB2 hw3
  clear ho hB2 hw1 HW1 HH HR w1
  obtain ⟨z0, z1, z2, z3, z4, z5, z6, z7, z8, z9, z10, z11, z12, z13, z14⟩ := cells15 HS3.out.own.at'
  rw [hw3] at z0 z1 z2 z3 z4 z5 z6 z7 z8 z9 z10 z11 z12 z13 z14
  have HWE : Hid (WrF w3 base g q (l ++ ([]))) := by
    show WrF _ _ _ _ _
    have ee : l ++ ([]) = l := by
      simp
    rw [ee]
    exact HS3.out.wr
  have HPE : Hid (Put g q w w3 q) := HS3.out.put
  rw [hw3] at HWE HPE
  clear HS3
  go_wp2
  go_end0
  exact ⟨rfl, q, HWE.out, HPE.out⟩
set_option maxRecDepth 100000 in
set_option maxHeartbeats 8000000 in
theorem rbodyCreate {w : World} {base g : Nat} {q : Option Nat} {l : List UInt8} (h : WrF w base g q l) (hg : base ≤ g) (hl : l.length ≤ 800000) (f : Qf) (hf : QFit f) (hw : Within f) (A1 A2 A3 : Option Addr) (c1 c2 c3 : Nat) (hr : QRest w base f A1 c1 A2 c2) (hO : ∀ w', Calls Tryd.prog 73 #[.int .u8 f.kind] w' fun e w'' => e = .returned (.tuple #[.agg #[.bool true, .bool true, .bool true, .bool false, .bool false, .bool false, .bool false, .bool false, .bool false, .bool false], .bool true]) ∧ Below w'.heap.size w' w'') :
    Calls Tryd.prog 34 #[.pointer (some ⟨g, 0, none⟩), .agg #[.int .u8 f.kind, .int .i64 f.xid, .int .i64 f.session, .int .i64 f.turn, .string (mkS f.path), .slice A1 f.data.length c1, .int .i64 f.flags, .int .i64 f.version, .bool f.watch, .int .u8 f.sort, .int .i64 f.last, .int .i64 f.timeout, .int .i64 f.frm, .slice A2 f.mems.length c2, .slice A3 f.np c3]] w fun e w' => e = .returned (.tuple #[]) ∧ ∃ q', WrF w' base g q' (l ++ (textB f.path ++ (textB f.data ++ (numB f.flags)))) ∧ Put g q w w' q' := by
  have HF : Hid (QFit f) := hf
  have HWI : Hid (Within f) := hw
  have HL : Hid (l.length ≤ 800000) := hl
  obtain ⟨w1, hw1⟩ : ∃ X, X = w.alloc (.cells #[.int .u8 f.kind, .int .i64 f.xid, .int .i64 f.session, .int .i64 f.turn, .string (mkS f.path), .slice A1 f.data.length c1, .int .i64 f.flags, .int .i64 f.version, .bool f.watch, .int .u8 f.sort, .int .i64 f.last, .int .i64 f.timeout, .int .i64 f.frm, .slice A2 f.mems.length c2, .slice A3 f.np c3] 29) := ⟨_, rfl⟩
  have HW1 : Hid (w1 = w.alloc (.cells #[.int .u8 f.kind, .int .i64 f.xid, .int .i64 f.session, .int .i64 f.turn, .string (mkS f.path), .slice A1 f.data.length c1, .int .i64 f.flags, .int .i64 f.version, .bool f.watch, .int .u8 f.sort, .int .i64 f.last, .int .i64 f.timeout, .int .i64 f.frm, .slice A2 f.mems.length c2, .slice A3 f.np c3] 29)) := hw1
  have HH : Hid (WrF w base g q l) := h
  have HR : Hid (QRest w base f A1 c1 A2 c2) := hr
  have ho := hO w1
  rw [hw1] at ho
  clear hO hf hw hl h hr
  go_enter Tryd.func34, Tryd.ntmps34
  go_wp2_with fail
  refine ho.mono ?_
  rintro e w2 ⟨rfl, hB2⟩
  rw [← hw1] at hB2
  obtain ⟨w3, hw3⟩ : ∃ X, X = w2.alloc (.cells #[.bool true, .bool true, .bool true, .bool false, .bool false, .bool false, .bool false, .bool false, .bool false, .bool false] 114) := ⟨_, rfl⟩
  have HS3 : Hid (PB f A1 c1 A2 c2 A3 c3 #[.bool true, .bool true, .bool true, .bool false, .bool false, .bool false, .bool false, .bool false, .bool false, .bool false] w base g w.heap.size w2.heap.size q w3 q l) := PB.start HH.out hg HR.out HW1.out hB2 hw3
  clear ho hB2 hw1 HW1 HH HR w1
  obtain ⟨z0, z1, z2, z3, z4, z5, z6, z7, z8, z9, z10, z11, z12, z13, z14⟩ := cells15 HS3.out.own.at'
  rw [hw3] at z0 z1 z2 z3 z4 z5 z6 z7 z8 z9 z10 z11 z12 z13 z14
  have hc := rfWText_any HS3.out.wr f.path (by have := HWI.out.path; omega) (by have := HL.out; have := HWI.out.path; have := textB_len (l := f.path) (by have := HWI.out.path; omega); omega)
  rw [hw3] at hc
  go_wp2_with fail
  refine hc.mono ?_
  rintro e w4 ⟨rfl, q1, hW, hP⟩
  rw [← hw3] at hP
  have HS3' : Hid (PB f A1 c1 A2 c2 A3 c3 #[.bool true, .bool true, .bool true, .bool false, .bool false, .bool false, .bool false, .bool false, .bool false, .bool false] w base g w.heap.size w2.heap.size q w4 q1 (l ++ textB f.path)) := HS3.out.step hW hP
  have HL' : Hid ((l ++ textB f.path).length ≤ 800240) := by show _ ≤ _; have := HL.out; have := textB_len (l := f.path) (by have := HWI.out.path; omega); have := HWI.out.path; simp only [List.length_append, List.length_singleton]; omega
  clear hc hW hP HS3 HL z0 z1 z2 z3 z4 z5 z6 z7 z8 z9 z10 z11 z12 z13 z14  hw3 w3
  generalize hl1 : l ++ textB f.path = l1 at HS3' HL'
  have HE1 : Hid (l1 = l ++ textB f.path) := hl1.symm
  clear hl1
  have HL := HL'
  have HS4 := HS3'
  clear HL' HS3'
  obtain ⟨z0, z1, z2, z3, z4, z5, z6, z7, z8, z9, z10, z11, z12, z13, z14⟩ := cells15 HS4.out.own.at'
  obtain ⟨y0, y1, y2, y3, y4, y5, y6, y7, y8, y9⟩ := cells10 HS4.out.hh.at'
  have hc := rfWBytes_any HS4.out.wr HS4.out.rest.bs (by have := HWI.out.data; omega) (by have := HL.out; have := HWI.out.data; have := textB_len (l := f.data) (by have := HWI.out.data; omega); omega)
  go_wp2_with fail
  refine hc.mono ?_
  rintro e w5 ⟨rfl, q2, hW, hP⟩
  have HS4' : Hid (PB f A1 c1 A2 c2 A3 c3 #[.bool true, .bool true, .bool true, .bool false, .bool false, .bool false, .bool false, .bool false, .bool false, .bool false] w base g w.heap.size w2.heap.size q w5 q2 (l1 ++ textB f.data)) := HS4.out.step hW hP
  have HL' : Hid ((l1 ++ textB f.data).length ≤ 801260) := by show _ ≤ _; have := HL.out; have := textB_len (l := f.data) (by have := HWI.out.data; omega); have := HWI.out.data; simp only [List.length_append, List.length_singleton]; omega
  clear hc hW hP HS4 HL z0 z1 z2 z3 z4 z5 z6 z7 z8 z9 z10 z11 z12 z13 z14 y0 y1 y2 y3 y4 y5 y6 y7 y8 y9  w4
  generalize hl2 : l1 ++ textB f.data = l2 at HS4' HL'
  have HE2 : Hid (l2 = l1 ++ textB f.data) := hl2.symm
  clear hl2
  have HL := HL'
  have HS5 := HS4'
  clear HL' HS4'
  obtain ⟨z0, z1, z2, z3, z4, z5, z6, z7, z8, z9, z10, z11, z12, z13, z14⟩ := cells15 HS5.out.own.at'
  obtain ⟨y0, y1, y2, y3, y4, y5, y6, y7, y8, y9⟩ := cells10 HS5.out.hh.at'
  have hc := rfWInt_any HS5.out.wr f.flags HF.out.flags.1 HF.out.flags.2 (by have := HL.out; have := numB_len HF.out.flags; omega)
  go_wp2_with fail
  refine hc.mono ?_
  rintro e w6 ⟨rfl, q3, hW, hP⟩
  have HS5' : Hid (PB f A1 c1 A2 c2 A3 c3 #[.bool true, .bool true, .bool true, .bool false, .bool false, .bool false, .bool false, .bool false, .bool false, .bool false] w base g w.heap.size w2.heap.size q w6 q3 (l2 ++ numB f.flags)) := HS5.out.step hW hP
  have HL' : Hid ((l2 ++ numB f.flags).length ≤ 801270) := by show _ ≤ _; have := HL.out; have := numB_len HF.out.flags; simp only [List.length_append, List.length_singleton]; omega
  clear hc hW hP HS5 HL z0 z1 z2 z3 z4 z5 z6 z7 z8 z9 z10 z11 z12 z13 z14 y0 y1 y2 y3 y4 y5 y6 y7 y8 y9  w5
  generalize hl3 : l2 ++ numB f.flags = l3 at HS5' HL'
  have HE3 : Hid (l3 = l2 ++ numB f.flags) := hl3.symm
  clear hl3
  have HL := HL'
  have HS6 := HS5'
  clear HL' HS5'
  obtain ⟨z0, z1, z2, z3, z4, z5, z6, z7, z8, z9, z10, z11, z12, z13, z14⟩ := cells15 HS6.out.own.at'
  obtain ⟨y0, y1, y2, y3, y4, y5, y6, y7, y8, y9⟩ := cells10 HS6.out.hh.at'
  have HWE : Hid (WrF w6 base g q3 (l ++ (textB f.path ++ (textB f.data ++ (numB f.flags))))) := by
    show WrF _ _ _ _ _
    have ee : l ++ (textB f.path ++ (textB f.data ++ (numB f.flags))) = l3 := by
      rw [HE3.out, HE2.out, HE1.out]; simp
    rw [ee]
    exact HS6.out.wr
  have HPE : Hid (Put g q w w6 q3) := HS6.out.put
  clear HS6
  go_wp2
  go_end0
  exact ⟨rfl, q3, HWE.out, HPE.out⟩
set_option maxRecDepth 100000 in
set_option maxHeartbeats 8000000 in
theorem rbodyDel {w : World} {base g : Nat} {q : Option Nat} {l : List UInt8} (h : WrF w base g q l) (hg : base ≤ g) (hl : l.length ≤ 800000) (f : Qf) (hf : QFit f) (hw : Within f) (A1 A2 A3 : Option Addr) (c1 c2 c3 : Nat) (hr : QRest w base f A1 c1 A2 c2) (hO : ∀ w', Calls Tryd.prog 73 #[.int .u8 f.kind] w' fun e w'' => e = .returned (.tuple #[.agg #[.bool true, .bool false, .bool false, .bool true, .bool false, .bool false, .bool false, .bool false, .bool false, .bool false], .bool true]) ∧ Below w'.heap.size w' w'') :
    Calls Tryd.prog 34 #[.pointer (some ⟨g, 0, none⟩), .agg #[.int .u8 f.kind, .int .i64 f.xid, .int .i64 f.session, .int .i64 f.turn, .string (mkS f.path), .slice A1 f.data.length c1, .int .i64 f.flags, .int .i64 f.version, .bool f.watch, .int .u8 f.sort, .int .i64 f.last, .int .i64 f.timeout, .int .i64 f.frm, .slice A2 f.mems.length c2, .slice A3 f.np c3]] w fun e w' => e = .returned (.tuple #[]) ∧ ∃ q', WrF w' base g q' (l ++ (textB f.path ++ (numB f.version))) ∧ Put g q w w' q' := by
  have HF : Hid (QFit f) := hf
  have HWI : Hid (Within f) := hw
  have HL : Hid (l.length ≤ 800000) := hl
  obtain ⟨w1, hw1⟩ : ∃ X, X = w.alloc (.cells #[.int .u8 f.kind, .int .i64 f.xid, .int .i64 f.session, .int .i64 f.turn, .string (mkS f.path), .slice A1 f.data.length c1, .int .i64 f.flags, .int .i64 f.version, .bool f.watch, .int .u8 f.sort, .int .i64 f.last, .int .i64 f.timeout, .int .i64 f.frm, .slice A2 f.mems.length c2, .slice A3 f.np c3] 29) := ⟨_, rfl⟩
  have HW1 : Hid (w1 = w.alloc (.cells #[.int .u8 f.kind, .int .i64 f.xid, .int .i64 f.session, .int .i64 f.turn, .string (mkS f.path), .slice A1 f.data.length c1, .int .i64 f.flags, .int .i64 f.version, .bool f.watch, .int .u8 f.sort, .int .i64 f.last, .int .i64 f.timeout, .int .i64 f.frm, .slice A2 f.mems.length c2, .slice A3 f.np c3] 29)) := hw1
  have HH : Hid (WrF w base g q l) := h
  have HR : Hid (QRest w base f A1 c1 A2 c2) := hr
  have ho := hO w1
  rw [hw1] at ho
  clear hO hf hw hl h hr
  go_enter Tryd.func34, Tryd.ntmps34
  go_wp2_with fail
  refine ho.mono ?_
  rintro e w2 ⟨rfl, hB2⟩
  rw [← hw1] at hB2
  obtain ⟨w3, hw3⟩ : ∃ X, X = w2.alloc (.cells #[.bool true, .bool false, .bool false, .bool true, .bool false, .bool false, .bool false, .bool false, .bool false, .bool false] 114) := ⟨_, rfl⟩
  have HS3 : Hid (PB f A1 c1 A2 c2 A3 c3 #[.bool true, .bool false, .bool false, .bool true, .bool false, .bool false, .bool false, .bool false, .bool false, .bool false] w base g w.heap.size w2.heap.size q w3 q l) := PB.start HH.out hg HR.out HW1.out hB2 hw3
  clear ho hB2 hw1 HW1 HH HR w1
  obtain ⟨z0, z1, z2, z3, z4, z5, z6, z7, z8, z9, z10, z11, z12, z13, z14⟩ := cells15 HS3.out.own.at'
  rw [hw3] at z0 z1 z2 z3 z4 z5 z6 z7 z8 z9 z10 z11 z12 z13 z14
  have hc := rfWText_any HS3.out.wr f.path (by have := HWI.out.path; omega) (by have := HL.out; have := HWI.out.path; have := textB_len (l := f.path) (by have := HWI.out.path; omega); omega)
  rw [hw3] at hc
  go_wp2_with fail
  refine hc.mono ?_
  rintro e w4 ⟨rfl, q1, hW, hP⟩
  rw [← hw3] at hP
  have HS3' : Hid (PB f A1 c1 A2 c2 A3 c3 #[.bool true, .bool false, .bool false, .bool true, .bool false, .bool false, .bool false, .bool false, .bool false, .bool false] w base g w.heap.size w2.heap.size q w4 q1 (l ++ textB f.path)) := HS3.out.step hW hP
  have HL' : Hid ((l ++ textB f.path).length ≤ 800240) := by show _ ≤ _; have := HL.out; have := textB_len (l := f.path) (by have := HWI.out.path; omega); have := HWI.out.path; simp only [List.length_append, List.length_singleton]; omega
  clear hc hW hP HS3 HL z0 z1 z2 z3 z4 z5 z6 z7 z8 z9 z10 z11 z12 z13 z14  hw3 w3
  generalize hl1 : l ++ textB f.path = l1 at HS3' HL'
  have HE1 : Hid (l1 = l ++ textB f.path) := hl1.symm
  clear hl1
  have HL := HL'
  have HS4 := HS3'
  clear HL' HS3'
  obtain ⟨z0, z1, z2, z3, z4, z5, z6, z7, z8, z9, z10, z11, z12, z13, z14⟩ := cells15 HS4.out.own.at'
  obtain ⟨y0, y1, y2, y3, y4, y5, y6, y7, y8, y9⟩ := cells10 HS4.out.hh.at'
  have hc := rfWInt_any HS4.out.wr f.version HF.out.version.1 HF.out.version.2 (by have := HL.out; have := numB_len HF.out.version; omega)
  go_wp2_with fail
  refine hc.mono ?_
  rintro e w5 ⟨rfl, q2, hW, hP⟩
  have HS4' : Hid (PB f A1 c1 A2 c2 A3 c3 #[.bool true, .bool false, .bool false, .bool true, .bool false, .bool false, .bool false, .bool false, .bool false, .bool false] w base g w.heap.size w2.heap.size q w5 q2 (l1 ++ numB f.version)) := HS4.out.step hW hP
  have HL' : Hid ((l1 ++ numB f.version).length ≤ 800250) := by show _ ≤ _; have := HL.out; have := numB_len HF.out.version; simp only [List.length_append, List.length_singleton]; omega
  clear hc hW hP HS4 HL z0 z1 z2 z3 z4 z5 z6 z7 z8 z9 z10 z11 z12 z13 z14 y0 y1 y2 y3 y4 y5 y6 y7 y8 y9  w4
  generalize hl2 : l1 ++ numB f.version = l2 at HS4' HL'
  have HE2 : Hid (l2 = l1 ++ numB f.version) := hl2.symm
  clear hl2
  have HL := HL'
  have HS5 := HS4'
  clear HL' HS4'
  obtain ⟨z0, z1, z2, z3, z4, z5, z6, z7, z8, z9, z10, z11, z12, z13, z14⟩ := cells15 HS5.out.own.at'
  obtain ⟨y0, y1, y2, y3, y4, y5, y6, y7, y8, y9⟩ := cells10 HS5.out.hh.at'
  have HWE : Hid (WrF w5 base g q2 (l ++ (textB f.path ++ (numB f.version)))) := by
    show WrF _ _ _ _ _
    have ee : l ++ (textB f.path ++ (numB f.version)) = l2 := by
      rw [HE2.out, HE1.out]; simp
    rw [ee]
    exact HS5.out.wr
  have HPE : Hid (Put g q w w5 q2) := HS5.out.put
  clear HS5
  go_wp2
  go_end0
  exact ⟨rfl, q2, HWE.out, HPE.out⟩
set_option maxRecDepth 100000 in
set_option maxHeartbeats 8000000 in
theorem rbodySet {w : World} {base g : Nat} {q : Option Nat} {l : List UInt8} (h : WrF w base g q l) (hg : base ≤ g) (hl : l.length ≤ 800000) (f : Qf) (hf : QFit f) (hw : Within f) (A1 A2 A3 : Option Addr) (c1 c2 c3 : Nat) (hr : QRest w base f A1 c1 A2 c2) (hO : ∀ w', Calls Tryd.prog 73 #[.int .u8 f.kind] w' fun e w'' => e = .returned (.tuple #[.agg #[.bool true, .bool true, .bool false, .bool true, .bool false, .bool false, .bool false, .bool false, .bool false, .bool false], .bool true]) ∧ Below w'.heap.size w' w'') :
    Calls Tryd.prog 34 #[.pointer (some ⟨g, 0, none⟩), .agg #[.int .u8 f.kind, .int .i64 f.xid, .int .i64 f.session, .int .i64 f.turn, .string (mkS f.path), .slice A1 f.data.length c1, .int .i64 f.flags, .int .i64 f.version, .bool f.watch, .int .u8 f.sort, .int .i64 f.last, .int .i64 f.timeout, .int .i64 f.frm, .slice A2 f.mems.length c2, .slice A3 f.np c3]] w fun e w' => e = .returned (.tuple #[]) ∧ ∃ q', WrF w' base g q' (l ++ (textB f.path ++ (textB f.data ++ (numB f.version)))) ∧ Put g q w w' q' := by
  have HF : Hid (QFit f) := hf
  have HWI : Hid (Within f) := hw
  have HL : Hid (l.length ≤ 800000) := hl
  obtain ⟨w1, hw1⟩ : ∃ X, X = w.alloc (.cells #[.int .u8 f.kind, .int .i64 f.xid, .int .i64 f.session, .int .i64 f.turn, .string (mkS f.path), .slice A1 f.data.length c1, .int .i64 f.flags, .int .i64 f.version, .bool f.watch, .int .u8 f.sort, .int .i64 f.last, .int .i64 f.timeout, .int .i64 f.frm, .slice A2 f.mems.length c2, .slice A3 f.np c3] 29) := ⟨_, rfl⟩
  have HW1 : Hid (w1 = w.alloc (.cells #[.int .u8 f.kind, .int .i64 f.xid, .int .i64 f.session, .int .i64 f.turn, .string (mkS f.path), .slice A1 f.data.length c1, .int .i64 f.flags, .int .i64 f.version, .bool f.watch, .int .u8 f.sort, .int .i64 f.last, .int .i64 f.timeout, .int .i64 f.frm, .slice A2 f.mems.length c2, .slice A3 f.np c3] 29)) := hw1
  have HH : Hid (WrF w base g q l) := h
  have HR : Hid (QRest w base f A1 c1 A2 c2) := hr
  have ho := hO w1
  rw [hw1] at ho
  clear hO hf hw hl h hr
  go_enter Tryd.func34, Tryd.ntmps34
  go_wp2_with fail
  refine ho.mono ?_
  rintro e w2 ⟨rfl, hB2⟩
  rw [← hw1] at hB2
  obtain ⟨w3, hw3⟩ : ∃ X, X = w2.alloc (.cells #[.bool true, .bool true, .bool false, .bool true, .bool false, .bool false, .bool false, .bool false, .bool false, .bool false] 114) := ⟨_, rfl⟩
  have HS3 : Hid (PB f A1 c1 A2 c2 A3 c3 #[.bool true, .bool true, .bool false, .bool true, .bool false, .bool false, .bool false, .bool false, .bool false, .bool false] w base g w.heap.size w2.heap.size q w3 q l) := PB.start HH.out hg HR.out HW1.out hB2 hw3
  clear ho hB2 hw1 HW1 HH HR w1
  obtain ⟨z0, z1, z2, z3, z4, z5, z6, z7, z8, z9, z10, z11, z12, z13, z14⟩ := cells15 HS3.out.own.at'
  rw [hw3] at z0 z1 z2 z3 z4 z5 z6 z7 z8 z9 z10 z11 z12 z13 z14
  have hc := rfWText_any HS3.out.wr f.path (by have := HWI.out.path; omega) (by have := HL.out; have := HWI.out.path; have := textB_len (l := f.path) (by have := HWI.out.path; omega); omega)
  rw [hw3] at hc
  go_wp2_with fail
  refine hc.mono ?_
  rintro e w4 ⟨rfl, q1, hW, hP⟩
  rw [← hw3] at hP
  have HS3' : Hid (PB f A1 c1 A2 c2 A3 c3 #[.bool true, .bool true, .bool false, .bool true, .bool false, .bool false, .bool false, .bool false, .bool false, .bool false] w base g w.heap.size w2.heap.size q w4 q1 (l ++ textB f.path)) := HS3.out.step hW hP
  have HL' : Hid ((l ++ textB f.path).length ≤ 800240) := by show _ ≤ _; have := HL.out; have := textB_len (l := f.path) (by have := HWI.out.path; omega); have := HWI.out.path; simp only [List.length_append, List.length_singleton]; omega
  clear hc hW hP HS3 HL z0 z1 z2 z3 z4 z5 z6 z7 z8 z9 z10 z11 z12 z13 z14  hw3 w3
  generalize hl1 : l ++ textB f.path = l1 at HS3' HL'
  have HE1 : Hid (l1 = l ++ textB f.path) := hl1.symm
  clear hl1
  have HL := HL'
  have HS4 := HS3'
  clear HL' HS3'
  obtain ⟨z0, z1, z2, z3, z4, z5, z6, z7, z8, z9, z10, z11, z12, z13, z14⟩ := cells15 HS4.out.own.at'
  obtain ⟨y0, y1, y2, y3, y4, y5, y6, y7, y8, y9⟩ := cells10 HS4.out.hh.at'
  have hc := rfWBytes_any HS4.out.wr HS4.out.rest.bs (by have := HWI.out.data; omega) (by have := HL.out; have := HWI.out.data; have := textB_len (l := f.data) (by have := HWI.out.data; omega); omega)
  go_wp2_with fail
  refine hc.mono ?_
  rintro e w5 ⟨rfl, q2, hW, hP⟩
  have HS4' : Hid (PB f A1 c1 A2 c2 A3 c3 #[.bool true, .bool true, .bool false, .bool true, .bool false, .bool false, .bool false, .bool false, .bool false, .bool false] w base g w.heap.size w2.heap.size q w5 q2 (l1 ++ textB f.data)) := HS4.out.step hW hP
  have HL' : Hid ((l1 ++ textB f.data).length ≤ 801260) := by show _ ≤ _; have := HL.out; have := textB_len (l := f.data) (by have := HWI.out.data; omega); have := HWI.out.data; simp only [List.length_append, List.length_singleton]; omega
  clear hc hW hP HS4 HL z0 z1 z2 z3 z4 z5 z6 z7 z8 z9 z10 z11 z12 z13 z14 y0 y1 y2 y3 y4 y5 y6 y7 y8 y9  w4
  generalize hl2 : l1 ++ textB f.data = l2 at HS4' HL'
  have HE2 : Hid (l2 = l1 ++ textB f.data) := hl2.symm
  clear hl2
  have HL := HL'
  have HS5 := HS4'
  clear HL' HS4'
  obtain ⟨z0, z1, z2, z3, z4, z5, z6, z7, z8, z9, z10, z11, z12, z13, z14⟩ := cells15 HS5.out.own.at'
  obtain ⟨y0, y1, y2, y3, y4, y5, y6, y7, y8, y9⟩ := cells10 HS5.out.hh.at'
  have hc := rfWInt_any HS5.out.wr f.version HF.out.version.1 HF.out.version.2 (by have := HL.out; have := numB_len HF.out.version; omega)
  go_wp2_with fail
  refine hc.mono ?_
  rintro e w6 ⟨rfl, q3, hW, hP⟩
  have HS5' : Hid (PB f A1 c1 A2 c2 A3 c3 #[.bool true, .bool true, .bool false, .bool true, .bool false, .bool false, .bool false, .bool false, .bool false, .bool false] w base g w.heap.size w2.heap.size q w6 q3 (l2 ++ numB f.version)) := HS5.out.step hW hP
  have HL' : Hid ((l2 ++ numB f.version).length ≤ 801270) := by show _ ≤ _; have := HL.out; have := numB_len HF.out.version; simp only [List.length_append, List.length_singleton]; omega
  clear hc hW hP HS5 HL z0 z1 z2 z3 z4 z5 z6 z7 z8 z9 z10 z11 z12 z13 z14 y0 y1 y2 y3 y4 y5 y6 y7 y8 y9  w5
  generalize hl3 : l2 ++ numB f.version = l3 at HS5' HL'
  have HE3 : Hid (l3 = l2 ++ numB f.version) := hl3.symm
  clear hl3
  have HL := HL'
  have HS6 := HS5'
  clear HL' HS5'
  obtain ⟨z0, z1, z2, z3, z4, z5, z6, z7, z8, z9, z10, z11, z12, z13, z14⟩ := cells15 HS6.out.own.at'
  obtain ⟨y0, y1, y2, y3, y4, y5, y6, y7, y8, y9⟩ := cells10 HS6.out.hh.at'
  have HWE : Hid (WrF w6 base g q3 (l ++ (textB f.path ++ (textB f.data ++ (numB f.version))))) := by
    show WrF _ _ _ _ _
    have ee : l ++ (textB f.path ++ (textB f.data ++ (numB f.version))) = l3 := by
      rw [HE3.out, HE2.out, HE1.out]; simp
    rw [ee]
    exact HS6.out.wr
  have HPE : Hid (Put g q w w6 q3) := HS6.out.put
  clear HS6
  go_wp2
  go_end0
  exact ⟨rfl, q3, HWE.out, HPE.out⟩
set_option maxRecDepth 100000 in
set_option maxHeartbeats 8000000 in
theorem rbodyGet {w : World} {base g : Nat} {q : Option Nat} {l : List UInt8} (h : WrF w base g q l) (hg : base ≤ g) (hl : l.length ≤ 800000) (f : Qf) (hf : QFit f) (hw : Within f) (A1 A2 A3 : Option Addr) (c1 c2 c3 : Nat) (hr : QRest w base f A1 c1 A2 c2) (hO : ∀ w', Calls Tryd.prog 73 #[.int .u8 f.kind] w' fun e w'' => e = .returned (.tuple #[.agg #[.bool true, .bool false, .bool false, .bool false, .bool true, .bool false, .bool false, .bool false, .bool false, .bool false], .bool true]) ∧ Below w'.heap.size w' w'') :
    Calls Tryd.prog 34 #[.pointer (some ⟨g, 0, none⟩), .agg #[.int .u8 f.kind, .int .i64 f.xid, .int .i64 f.session, .int .i64 f.turn, .string (mkS f.path), .slice A1 f.data.length c1, .int .i64 f.flags, .int .i64 f.version, .bool f.watch, .int .u8 f.sort, .int .i64 f.last, .int .i64 f.timeout, .int .i64 f.frm, .slice A2 f.mems.length c2, .slice A3 f.np c3]] w fun e w' => e = .returned (.tuple #[]) ∧ ∃ q', WrF w' base g q' (l ++ (textB f.path ++ ([wb f.watch]))) ∧ Put g q w w' q' := by
  have HF : Hid (QFit f) := hf
  obtain ⟨WV, hWV⟩ : ∃ z : Int, z = ((wb f.watch).toNat : Int) := ⟨_, rfl⟩
  have HWV : Hid (WV = ((wb f.watch).toNat : Int)) := hWV
  clear hWV
  have HWI : Hid (Within f) := hw
  have HL : Hid (l.length ≤ 800000) := hl
  obtain ⟨w1, hw1⟩ : ∃ X, X = w.alloc (.cells #[.int .u8 f.kind, .int .i64 f.xid, .int .i64 f.session, .int .i64 f.turn, .string (mkS f.path), .slice A1 f.data.length c1, .int .i64 f.flags, .int .i64 f.version, .bool f.watch, .int .u8 f.sort, .int .i64 f.last, .int .i64 f.timeout, .int .i64 f.frm, .slice A2 f.mems.length c2, .slice A3 f.np c3] 29) := ⟨_, rfl⟩
  have HW1 : Hid (w1 = w.alloc (.cells #[.int .u8 f.kind, .int .i64 f.xid, .int .i64 f.session, .int .i64 f.turn, .string (mkS f.path), .slice A1 f.data.length c1, .int .i64 f.flags, .int .i64 f.version, .bool f.watch, .int .u8 f.sort, .int .i64 f.last, .int .i64 f.timeout, .int .i64 f.frm, .slice A2 f.mems.length c2, .slice A3 f.np c3] 29)) := hw1
  have HH : Hid (WrF w base g q l) := h
  have HR : Hid (QRest w base f A1 c1 A2 c2) := hr
  have ho := hO w1
  rw [hw1] at ho
  clear hO hf hw hl h hr
  go_enter Tryd.func34, Tryd.ntmps34
  go_wp2_with fail
  refine ho.mono ?_
  rintro e w2 ⟨rfl, hB2⟩
  rw [← hw1] at hB2
  obtain ⟨w3, hw3⟩ : ∃ X, X = w2.alloc (.cells #[.bool true, .bool false, .bool false, .bool false, .bool true, .bool false, .bool false, .bool false, .bool false, .bool false] 114) := ⟨_, rfl⟩
  have HS3 : Hid (PB f A1 c1 A2 c2 A3 c3 #[.bool true, .bool false, .bool false, .bool false, .bool true, .bool false, .bool false, .bool false, .bool false, .bool false] w base g w.heap.size w2.heap.size q w3 q l) := PB.start HH.out hg HR.out HW1.out hB2 hw3
  clear ho hB2 hw1 HW1 HH HR w1
  obtain ⟨z0, z1, z2, z3, z4, z5, z6, z7, z8, z9, z10, z11, z12, z13, z14⟩ := cells15 HS3.out.own.at'
  rw [hw3] at z0 z1 z2 z3 z4 z5 z6 z7 z8 z9 z10 z11 z12 z13 z14
  have hc := rfWText_any HS3.out.wr f.path (by have := HWI.out.path; omega) (by have := HL.out; have := HWI.out.path; have := textB_len (l := f.path) (by have := HWI.out.path; omega); omega)
  rw [hw3] at hc
  go_wp2_with fail
  refine hc.mono ?_
  rintro e w4 ⟨rfl, q1, hW, hP⟩
  rw [← hw3] at hP
  have HS3' : Hid (PB f A1 c1 A2 c2 A3 c3 #[.bool true, .bool false, .bool false, .bool false, .bool true, .bool false, .bool false, .bool false, .bool false, .bool false] w base g w.heap.size w2.heap.size q w4 q1 (l ++ textB f.path)) := HS3.out.step hW hP
  have HL' : Hid ((l ++ textB f.path).length ≤ 800240) := by show _ ≤ _; have := HL.out; have := textB_len (l := f.path) (by have := HWI.out.path; omega); have := HWI.out.path; simp only [List.length_append, List.length_singleton]; omega
  clear hc hW hP HS3 HL z0 z1 z2 z3 z4 z5 z6 z7 z8 z9 z10 z11 z12 z13 z14  hw3 w3
  generalize hl1 : l ++ textB f.path = l1 at HS3' HL'
  have HE1 : Hid (l1 = l ++ textB f.path) := hl1.symm
  clear hl1
  have HL := HL'
  have HS4 := HS3'
  clear HL' HS3'
  obtain ⟨z0, z1, z2, z3, z4, z5, z6, z7, z8, z9, z10, z11, z12, z13, z14⟩ := cells15 HS4.out.own.at'
  obtain ⟨y0, y1, y2, y3, y4, y5, y6, y7, y8, y9⟩ := cells10 HS4.out.hh.at'
  rcases Bool.eq_false_or_eq_true f.watch with hwt | hwt
  · have hWV : WV = 1 := by rw [HWV.out, hwt]; rfl
    rw [hwt] at z8
    clear hwt
    have hc := rfWByte_any HS4.out.wr WV (wb f.watch) HWV.out (by have := HL.out; omega)
    rw [hWV] at hc
    clear hWV
    go_wp2_with fail
    refine hc.mono ?_
    rintro e w5 ⟨rfl, q2, hW, hP⟩
    have HS4' : Hid (PB f A1 c1 A2 c2 A3 c3 #[.bool true, .bool false, .bool false, .bool false, .bool true, .bool false, .bool false, .bool false, .bool false, .bool false] w base g w.heap.size w2.heap.size q w5 q2 (l1 ++ [wb f.watch])) := HS4.out.step hW hP
    have HL' : Hid ((l1 ++ [wb f.watch]).length ≤ 800241) := by show _ ≤ _; have := HL.out; skip; simp only [List.length_append, List.length_singleton]; omega
    clear hc hW hP HS4 HL z0 z1 z2 z3 z4 z5 z6 z7 z8 z9 z10 z11 z12 z13 z14 y0 y1 y2 y3 y4 y5 y6 y7 y8 y9  w4
    generalize hl2 : l1 ++ [wb f.watch] = l2 at HS4' HL'
    have HE2 : Hid (l2 = l1 ++ [wb f.watch]) := hl2.symm
    clear hl2
    have HL := HL'
    have HS5 := HS4'
    clear HL' HS4'
    obtain ⟨z0, z1, z2, z3, z4, z5, z6, z7, z8, z9, z10, z11, z12, z13, z14⟩ := cells15 HS5.out.own.at'
    obtain ⟨y0, y1, y2, y3, y4, y5, y6, y7, y8, y9⟩ := cells10 HS5.out.hh.at'
    have HWE : Hid (WrF w5 base g q2 (l ++ (textB f.path ++ ([wb f.watch])))) := by
      show WrF _ _ _ _ _
      have ee : l ++ (textB f.path ++ ([wb f.watch])) = l2 := by
        rw [HE2.out, HE1.out]; simp
      rw [ee]
      exact HS5.out.wr
    have HPE : Hid (Put g q w w5 q2) := HS5.out.put
    clear HS5
    go_wp2
    go_end0
    exact ⟨rfl, q2, HWE.out, HPE.out⟩
  · have hWV : WV = 0 := by rw [HWV.out, hwt]; rfl
    rw [hwt] at z8
    clear hwt
    have hc := rfWByte_any HS4.out.wr WV (wb f.watch) HWV.out (by have := HL.out; omega)
    rw [hWV] at hc
    clear hWV
    go_wp2_with fail
    refine hc.mono ?_
    rintro e w5 ⟨rfl, q2, hW, hP⟩
    have HS4' : Hid (PB f A1 c1 A2 c2 A3 c3 #[.bool true, .bool false, .bool false, .bool false, .bool true, .bool false, .bool false, .bool false, .bool false, .bool false] w base g w.heap.size w2.heap.size q w5 q2 (l1 ++ [wb f.watch])) := HS4.out.step hW hP
    have HL' : Hid ((l1 ++ [wb f.watch]).length ≤ 800241) := by show _ ≤ _; have := HL.out; skip; simp only [List.length_append, List.length_singleton]; omega
    clear hc hW hP HS4 HL z0 z1 z2 z3 z4 z5 z6 z7 z8 z9 z10 z11 z12 z13 z14 y0 y1 y2 y3 y4 y5 y6 y7 y8 y9  w4
    generalize hl2 : l1 ++ [wb f.watch] = l2 at HS4' HL'
    have HE2 : Hid (l2 = l1 ++ [wb f.watch]) := hl2.symm
    clear hl2
    have HL := HL'
    have HS5 := HS4'
    clear HL' HS4'
    obtain ⟨z0, z1, z2, z3, z4, z5, z6, z7, z8, z9, z10, z11, z12, z13, z14⟩ := cells15 HS5.out.own.at'
    obtain ⟨y0, y1, y2, y3, y4, y5, y6, y7, y8, y9⟩ := cells10 HS5.out.hh.at'
    have HWE : Hid (WrF w5 base g q2 (l ++ (textB f.path ++ ([wb f.watch])))) := by
      show WrF _ _ _ _ _
      have ee : l ++ (textB f.path ++ ([wb f.watch])) = l2 := by
        rw [HE2.out, HE1.out]; simp
      rw [ee]
      exact HS5.out.wr
    have HPE : Hid (Put g q w w5 q2) := HS5.out.put
    clear HS5
    go_wp2
    go_end0
    exact ⟨rfl, q2, HWE.out, HPE.out⟩
set_option maxRecDepth 100000 in
set_option maxHeartbeats 8000000 in
theorem rbodyWatch {w : World} {base g : Nat} {q : Option Nat} {l : List UInt8} (h : WrF w base g q l) (hg : base ≤ g) (hl : l.length ≤ 800000) (f : Qf) (hf : QFit f) (hw : Within f) (A1 A2 A3 : Option Addr) (c1 c2 c3 : Nat) (hr : QRest w base f A1 c1 A2 c2) (hO : ∀ w', Calls Tryd.prog 73 #[.int .u8 f.kind] w' fun e w'' => e = .returned (.tuple #[.agg #[.bool true, .bool false, .bool false, .bool false, .bool false, .bool true, .bool true, .bool false, .bool false, .bool false], .bool true]) ∧ Below w'.heap.size w' w'') :
    Calls Tryd.prog 34 #[.pointer (some ⟨g, 0, none⟩), .agg #[.int .u8 f.kind, .int .i64 f.xid, .int .i64 f.session, .int .i64 f.turn, .string (mkS f.path), .slice A1 f.data.length c1, .int .i64 f.flags, .int .i64 f.version, .bool f.watch, .int .u8 f.sort, .int .i64 f.last, .int .i64 f.timeout, .int .i64 f.frm, .slice A2 f.mems.length c2, .slice A3 f.np c3]] w fun e w' => e = .returned (.tuple #[]) ∧ ∃ q', WrF w' base g q' (l ++ (textB f.path ++ ([u8 f.sort] ++ (numB f.last)))) ∧ Put g q w w' q' := by
  have HF : Hid (QFit f) := hf
  have HWI : Hid (Within f) := hw
  have HL : Hid (l.length ≤ 800000) := hl
  obtain ⟨w1, hw1⟩ : ∃ X, X = w.alloc (.cells #[.int .u8 f.kind, .int .i64 f.xid, .int .i64 f.session, .int .i64 f.turn, .string (mkS f.path), .slice A1 f.data.length c1, .int .i64 f.flags, .int .i64 f.version, .bool f.watch, .int .u8 f.sort, .int .i64 f.last, .int .i64 f.timeout, .int .i64 f.frm, .slice A2 f.mems.length c2, .slice A3 f.np c3] 29) := ⟨_, rfl⟩
  have HW1 : Hid (w1 = w.alloc (.cells #[.int .u8 f.kind, .int .i64 f.xid, .int .i64 f.session, .int .i64 f.turn, .string (mkS f.path), .slice A1 f.data.length c1, .int .i64 f.flags, .int .i64 f.version, .bool f.watch, .int .u8 f.sort, .int .i64 f.last, .int .i64 f.timeout, .int .i64 f.frm, .slice A2 f.mems.length c2, .slice A3 f.np c3] 29)) := hw1
  have HH : Hid (WrF w base g q l) := h
  have HR : Hid (QRest w base f A1 c1 A2 c2) := hr
  have ho := hO w1
  rw [hw1] at ho
  clear hO hf hw hl h hr
  go_enter Tryd.func34, Tryd.ntmps34
  go_wp2_with fail
  refine ho.mono ?_
  rintro e w2 ⟨rfl, hB2⟩
  rw [← hw1] at hB2
  obtain ⟨w3, hw3⟩ : ∃ X, X = w2.alloc (.cells #[.bool true, .bool false, .bool false, .bool false, .bool false, .bool true, .bool true, .bool false, .bool false, .bool false] 114) := ⟨_, rfl⟩
  have HS3 : Hid (PB f A1 c1 A2 c2 A3 c3 #[.bool true, .bool false, .bool false, .bool false, .bool false, .bool true, .bool true, .bool false, .bool false, .bool false] w base g w.heap.size w2.heap.size q w3 q l) := PB.start HH.out hg HR.out HW1.out hB2 hw3
  clear ho hB2 hw1 HW1 HH HR w1
  obtain ⟨z0, z1, z2, z3, z4, z5, z6, z7, z8, z9, z10, z11, z12, z13, z14⟩ := cells15 HS3.out.own.at'
  rw [hw3] at z0 z1 z2 z3 z4 z5 z6 z7 z8 z9 z10 z11 z12 z13 z14
  have hc := rfWText_any HS3.out.wr f.path (by have := HWI.out.path; omega) (by have := HL.out; have := HWI.out.path; have := textB_len (l := f.path) (by have := HWI.out.path; omega); omega)
  rw [hw3] at hc
  go_wp2_with fail
  refine hc.mono ?_
  rintro e w4 ⟨rfl, q1, hW, hP⟩
  rw [← hw3] at hP
  have HS3' : Hid (PB f A1 c1 A2 c2 A3 c3 #[.bool true, .bool false, .bool false, .bool false, .bool false, .bool true, .bool true, .bool false, .bool false, .bool false] w base g w.heap.size w2.heap.size q w4 q1 (l ++ textB f.path)) := HS3.out.step hW hP
  have HL' : Hid ((l ++ textB f.path).length ≤ 800240) := by show _ ≤ _; have := HL.out; have := textB_len (l := f.path) (by have := HWI.out.path; omega); have := HWI.out.path; simp only [List.length_append, List.length_singleton]; omega
  clear hc hW hP HS3 HL z0 z1 z2 z3 z4 z5 z6 z7 z8 z9 z10 z11 z12 z13 z14  hw3 w3
  generalize hl1 : l ++ textB f.path = l1 at HS3' HL'
  have HE1 : Hid (l1 = l ++ textB f.path) := hl1.symm
  clear hl1
  have HL := HL'
  have HS4 := HS3'
  clear HL' HS3'
  obtain ⟨z0, z1, z2, z3, z4, z5, z6, z7, z8, z9, z10, z11, z12, z13, z14⟩ := cells15 HS4.out.own.at'
  obtain ⟨y0, y1, y2, y3, y4, y5, y6, y7, y8, y9⟩ := cells10 HS4.out.hh.at'
  have hc := rfWByte_any HS4.out.wr f.sort (u8 f.sort) (u8_back HF.out.sort).symm (by have := HL.out; omega)
  go_wp2_with fail
  refine hc.mono ?_
  rintro e w5 ⟨rfl, q2, hW, hP⟩
  have HS4' : Hid (PB f A1 c1 A2 c2 A3 c3 #[.bool true, .bool false, .bool false, .bool false, .bool false, .bool true, .bool true, .bool false, .bool false, .bool false] w base g w.heap.size w2.heap.size q w5 q2 (l1 ++ [u8 f.sort])) := HS4.out.step hW hP
  have HL' : Hid ((l1 ++ [u8 f.sort]).length ≤ 800241) := by show _ ≤ _; have := HL.out; skip; simp only [List.length_append, List.length_singleton]; omega
  clear hc hW hP HS4 HL z0 z1 z2 z3 z4 z5 z6 z7 z8 z9 z10 z11 z12 z13 z14 y0 y1 y2 y3 y4 y5 y6 y7 y8 y9  w4
  generalize hl2 : l1 ++ [u8 f.sort] = l2 at HS4' HL'
  have HE2 : Hid (l2 = l1 ++ [u8 f.sort]) := hl2.symm
  clear hl2
  have HL := HL'
  have HS5 := HS4'
  clear HL' HS4'
  obtain ⟨z0, z1, z2, z3, z4, z5, z6, z7, z8, z9, z10, z11, z12, z13, z14⟩ := cells15 HS5.out.own.at'
  obtain ⟨y0, y1, y2, y3, y4, y5, y6, y7, y8, y9⟩ := cells10 HS5.out.hh.at'
  have hc := rfWInt_any HS5.out.wr f.last HF.out.last.1 HF.out.last.2 (by have := HL.out; have := numB_len HF.out.last; omega)
  go_wp2_with fail
  refine hc.mono ?_
  rintro e w6 ⟨rfl, q3, hW, hP⟩
  have HS5' : Hid (PB f A1 c1 A2 c2 A3 c3 #[.bool true, .bool false, .bool false, .bool false, .bool false, .bool true, .bool true, .bool false, .bool false, .bool false] w base g w.heap.size w2.heap.size q w6 q3 (l2 ++ numB f.last)) := HS5.out.step hW hP
  have HL' : Hid ((l2 ++ numB f.last).length ≤ 800251) := by show _ ≤ _; have := HL.out; have := numB_len HF.out.last; simp only [List.length_append, List.length_singleton]; omega
  clear hc hW hP HS5 HL z0 z1 z2 z3 z4 z5 z6 z7 z8 z9 z10 z11 z12 z13 z14 y0 y1 y2 y3 y4 y5 y6 y7 y8 y9  w5
  generalize hl3 : l2 ++ numB f.last = l3 at HS5' HL'
  have HE3 : Hid (l3 = l2 ++ numB f.last) := hl3.symm
  clear hl3
  have HL := HL'
  have HS6 := HS5'
  clear HL' HS5'
  obtain ⟨z0, z1, z2, z3, z4, z5, z6, z7, z8, z9, z10, z11, z12, z13, z14⟩ := cells15 HS6.out.own.at'
  obtain ⟨y0, y1, y2, y3, y4, y5, y6, y7, y8, y9⟩ := cells10 HS6.out.hh.at'
  have HWE : Hid (WrF w6 base g q3 (l ++ (textB f.path ++ ([u8 f.sort] ++ (numB f.last))))) := by
    show WrF _ _ _ _ _
    have ee : l ++ (textB f.path ++ ([u8 f.sort] ++ (numB f.last))) = l3 := by
      rw [HE3.out, HE2.out, HE1.out]; simp
    rw [ee]
    exact HS6.out.wr
  have HPE : Hid (Put g q w w6 q3) := HS6.out.put
  clear HS6
  go_wp2
  go_end0
  exact ⟨rfl, q3, HWE.out, HPE.out⟩
end Go.Proofs.YtmojplgoohnmdaaDoor.AK
