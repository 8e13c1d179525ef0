/- The walks of the document's own body of a deed: the kinds without parts. -/
import Derived.Test.YtmfednhommbikaaGreatDoorDdQ
import Derived.Test.YtmfednhommbikaaGreatDoorRf5a
import Derived.Test.YtmfednhommbikaaGreatDoorRefX
import Derived.Test.YtmfednhommbikaaGreatDoorRf5d
import Derived.Test.YtmfednhommbikaaGreatDoorDdS
namespace Go.Proofs.YtmfednhommbikaaGreatDoor.DD
set_option linter.unusedVariables false
open Go.RowKit
set_option linter.unusedVariables false

theorem WrF.below {w w' : World} {base g : Nat} {q : Option Nat} {l : List UInt8} (h : WrF w base g q l) (hb : Below w.heap.size w w') : WrF w' base g q l := RowAt.keep h (Chg.of_below hb) (fun e => e) (fun _ _ e => e)
theorem BsF.put {w w' : World} {base g : Nat} {q q' : Option Nat} {v : Value} {b l : List UInt8} (h : Bs w v b) (hw : WrF w base g q l) (hg : base ≤ g) (hb : ∀ k, bk v = some k → k < base) (hp : Put g q w w' q') : Bs w' v b :=
  h.keep hp.chg (fun k hk e => by
    have := hb k hk
    rcases e with e | e
    · omega
    · have := (RowAt.qlt hw k e).1; omega)
theorem putF_below {w w' : World} {base g : Nat} {q q' : Option Nat} {l : List UInt8} (h : WrF w base g q l) (hg : base ≤ g) (hp : Put g q w w' q') : Below base w w' := by
  obtain ⟨v, _, _, _, _, hb⟩ := h
  exact hp.chg.below (fun k e => by
    rcases e with e | e
    · omega
    · have := (RowAt.qlt ⟨v, by assumption, by assumption, by assumption, by assumption, hb⟩ k e).1; omega) hb
set_option maxRecDepth 100000 in
set_option maxHeartbeats 4000000 in
theorem rbody1 {w : World} {base g : Nat} {q : Option Nat} {l : List UInt8} (h : WrF w base g q l) (hg : base ≤ g) (hl : l.length ≤ 1000000) (f : Fl) (hf : FlFit f) (A1 A2 A3 : Option Addr) (c1 c2 c3 : Nat)  (hpl : f.path.length ≤ 200) (hdl : f.data.length ≤ 1000) (hbs : Bs w (.slice A1 f.data.length c1) f.data) (hbB : ∀ k, bk (.slice A1 f.data.length c1) = some k → k < base) :
    Calls Tryz.prog 41 #[.pointer (some ⟨g, 0, none⟩), .agg #[.int .i64 f.zxid, .int .u8 1, .int .i64 f.session, .int .i64 f.turn, .int .i64 f.xid, .int .i64 f.time, .string (mkS f.path), .slice A1 f.data.length c1, .int .i64 f.owner, .int .i64 f.version, .int .i64 f.cversion, .int .i64 f.timeout, .int .i64 f.err, .int .i64 f.cver, .slice A2 f.mems.length c2, .slice A3 f.np c3]] w fun e w' => e = .returned (.tuple #[]) ∧ ∃ q', WrF w' base g q' (l ++ (textB f.path ++ (textB f.data ++ (numB f.owner ++ numB f.cversion)))) ∧ Put g q w w' q' := by
  have HF : Hid (FlFit f) := hf
  have hgl : g < w.heap.size := RowAt.lt h
  have hql := RowAt.qlt h
  obtain ⟨w1, hw1⟩ : ∃ X, X = w.alloc (.cells #[.int .i64 f.zxid, .int .u8 1, .int .i64 f.session, .int .i64 f.turn, .int .i64 f.xid, .int .i64 f.time, .string (mkS f.path), .slice A1 f.data.length c1, .int .i64 f.owner, .int .i64 f.version, .int .i64 f.cversion, .int .i64 f.timeout, .int .i64 f.err, .int .i64 f.cver, .slice A2 f.mems.length c2, .slice A3 f.np c3] 31) := ⟨_, rfl⟩
  have HO1 : Hid (Own w1 w.heap.size (.cells #[.int .i64 f.zxid, .int .u8 1, .int .i64 f.session, .int .i64 f.turn, .int .i64 f.xid, .int .i64 f.time, .string (mkS f.path), .slice A1 f.data.length c1, .int .i64 f.owner, .int .i64 f.version, .int .i64 f.cversion, .int .i64 f.timeout, .int .i64 f.err, .int .i64 f.cver, .slice A2 f.mems.length c2, .slice A3 f.np c3] 31 (0, 0)) g q) := ⟨by rw [hw1]; exact heap_alloc_new w _, by omega, fun e => by have := (hql _ e).2; omega⟩
  have HP1 : Hid (Put g q w w1 q) := by rw [hw1]; exact Put.alloc _ _ _ _
  have HW1 : Hid (WrF w1 base g q l) := by rw [hw1]; exact RowAt.alloc h _
  have HL1 : Hid (l.length ≤ 1000000) := hl
  have HB1 : Hid (Below w.heap.size w w1) := by rw [hw1]; exact (Below.refl _ _).alloc (Nat.le_refl _) _
  have HS1 : Hid (Bs w1 (.slice A1 f.data.length c1) f.data) := by rw [hw1]; exact hbs.alloc _
  clear h hf hgl hql hl hbs
  have hx := textB_len f.path (by omega)
  have ht := rfWText_any HW1.out f.path (by omega) (by have := HL1.out; omega)
  rw [hw1] at ht
  go_enter Tryz.func41, Tryz.ntmps41
  go_wp2_with fail
  refine ht.mono ?_
  rintro e w2 ⟨rfl, q2, hW, hP⟩
  rw [← hw1] at hP
  have HW2 : Hid (WrF w2 base g q2 (l ++ textB f.path)) := hW
  have HP2 : Hid (Put g q w w2 q2) := HP1.out.trans hP
  have HO2 : Hid (Own w2 w.heap.size (.cells #[.int .i64 f.zxid, .int .u8 1, .int .i64 f.session, .int .i64 f.turn, .int .i64 f.xid, .int .i64 f.time, .string (mkS f.path), .slice A1 f.data.length c1, .int .i64 f.owner, .int .i64 f.version, .int .i64 f.cversion, .int .i64 f.timeout, .int .i64 f.err, .int .i64 f.cver, .slice A2 f.mems.length c2, .slice A3 f.np c3] 31 (0, 0)) g q2) := HO1.out.put hP
  have HL2 : Hid ((l ++ textB f.path).length ≤ 1000220) := by show _ ≤ _; rw [List.length_append]; have := HL1.out; omega
  have HS2 : Hid (Bs w2 (.slice A1 f.data.length c1) f.data) := BsF.put HS1.out HW1.out hg hbB hP
  clear ht hW hP hx HW1 HP1 HO1 HL1 HS1 hw1
  obtain ⟨z0, z1, z2, z3, z4, z5, z6, z7, z8, z9, z10, z11, z12, z13, z14, z15⟩ := cells16 HO2.out.at'
  have hx := textB_len f.data (by omega)
  have ht := rfWBytes_any HW2.out HS2.out (by omega) (by have := HL2.out; omega)
  go_wp2_with fail
  refine ht.mono ?_
  rintro e w3 ⟨rfl, q3, hW, hP⟩
  have HW3 : Hid (WrF w3 base g q3 ((l ++ textB f.path) ++ textB f.data)) := hW
  have HP3 : Hid (Put g q w w3 q3) := HP2.out.trans hP
  have HO3 : Hid (Own w3 w.heap.size (.cells #[.int .i64 f.zxid, .int .u8 1, .int .i64 f.session, .int .i64 f.turn, .int .i64 f.xid, .int .i64 f.time, .string (mkS f.path), .slice A1 f.data.length c1, .int .i64 f.owner, .int .i64 f.version, .int .i64 f.cversion, .int .i64 f.timeout, .int .i64 f.err, .int .i64 f.cver, .slice A2 f.mems.length c2, .slice A3 f.np c3] 31 (0, 0)) g q3) := HO2.out.put hP
  have HL3 : Hid (((l ++ textB f.path) ++ textB f.data).length ≤ 1001240) := by show _ ≤ _; rw [List.length_append]; have := HL2.out; omega
  have HS3 : Hid (Bs w3 (.slice A1 f.data.length c1) f.data) := BsF.put HS2.out HW2.out hg hbB hP
  clear ht hW hP hx HW2 HP2 HO2 HL2 HS2 z0 z1 z2 z3 z4 z5 z6 z7 z8 z9 z10 z11 z12 z13 z14 z15
  obtain ⟨z0, z1, z2, z3, z4, z5, z6, z7, z8, z9, z10, z11, z12, z13, z14, z15⟩ := cells16 HO3.out.at'
  have hr := HF.out.owner
  have hx := numB_len f.owner hr.1 hr.2
  have ht := rfWInt_any HW3.out f.owner hr.1 hr.2 (by have := HL3.out; omega)
  go_wp2_with fail
  refine ht.mono ?_
  rintro e w4 ⟨rfl, q4, hW, hP⟩
  have HW4 : Hid (WrF w4 base g q4 (((l ++ textB f.path) ++ textB f.data) ++ numB f.owner)) := hW
  have HP4 : Hid (Put g q w w4 q4) := HP3.out.trans hP
  have HO4 : Hid (Own w4 w.heap.size (.cells #[.int .i64 f.zxid, .int .u8 1, .int .i64 f.session, .int .i64 f.turn, .int .i64 f.xid, .int .i64 f.time, .string (mkS f.path), .slice A1 f.data.length c1, .int .i64 f.owner, .int .i64 f.version, .int .i64 f.cversion, .int .i64 f.timeout, .int .i64 f.err, .int .i64 f.cver, .slice A2 f.mems.length c2, .slice A3 f.np c3] 31 (0, 0)) g q4) := HO3.out.put hP
  have HL4 : Hid ((((l ++ textB f.path) ++ textB f.data) ++ numB f.owner).length ≤ 1001250) := by show _ ≤ _; rw [List.length_append]; have := HL3.out; omega
  have HS4 : Hid (Bs w4 (.slice A1 f.data.length c1) f.data) := BsF.put HS3.out HW3.out hg hbB hP
  clear ht hW hP hx HW3 HP3 HO3 HL3 HS3 hr z0 z1 z2 z3 z4 z5 z6 z7 z8 z9 z10 z11 z12 z13 z14 z15
  obtain ⟨z0, z1, z2, z3, z4, z5, z6, z7, z8, z9, z10, z11, z12, z13, z14, z15⟩ := cells16 HO4.out.at'
  have hr := HF.out.cversion
  have hx := numB_len f.cversion hr.1 hr.2
  have ht := rfWInt_any HW4.out f.cversion hr.1 hr.2 (by have := HL4.out; omega)
  go_wp2_with fail
  refine ht.mono ?_
  rintro e w5 ⟨rfl, q5, hW, hP⟩
  have HW5 : Hid (WrF w5 base g q5 ((((l ++ textB f.path) ++ textB f.data) ++ numB f.owner) ++ numB f.cversion)) := hW
  have HP5 : Hid (Put g q w w5 q5) := HP4.out.trans hP
  have HO5 : Hid (Own w5 w.heap.size (.cells #[.int .i64 f.zxid, .int .u8 1, .int .i64 f.session, .int .i64 f.turn, .int .i64 f.xid, .int .i64 f.time, .string (mkS f.path), .slice A1 f.data.length c1, .int .i64 f.owner, .int .i64 f.version, .int .i64 f.cversion, .int .i64 f.timeout, .int .i64 f.err, .int .i64 f.cver, .slice A2 f.mems.length c2, .slice A3 f.np c3] 31 (0, 0)) g q5) := HO4.out.put hP
  have HL5 : Hid (((((l ++ textB f.path) ++ textB f.data) ++ numB f.owner) ++ numB f.cversion).length ≤ 1001260) := by show _ ≤ _; rw [List.length_append]; have := HL4.out; omega
  have HS5 : Hid (Bs w5 (.slice A1 f.data.length c1) f.data) := BsF.put HS4.out HW4.out hg hbB hP
  clear ht hW hP hx HW4 HP4 HO4 HL4 HS4 hr z0 z1 z2 z3 z4 z5 z6 z7 z8 z9 z10 z11 z12 z13 z14 z15
  go_wp2
  go_end0
  exact ⟨rfl, q5, by simpa using HW5.out, HP5.out⟩
set_option maxRecDepth 100000 in
set_option maxHeartbeats 4000000 in
theorem rbody2 {w : World} {base g : Nat} {q : Option Nat} {l : List UInt8} (h : WrF w base g q l) (hg : base ≤ g) (hl : l.length ≤ 1000000) (f : Fl) (hf : FlFit f) (A1 A2 A3 : Option Addr) (c1 c2 c3 : Nat)  (hpl : f.path.length ≤ 200) :
    Calls Tryz.prog 41 #[.pointer (some ⟨g, 0, none⟩), .agg #[.int .i64 f.zxid, .int .u8 2, .int .i64 f.session, .int .i64 f.turn, .int .i64 f.xid, .int .i64 f.time, .string (mkS f.path), .slice A1 f.data.length c1, .int .i64 f.owner, .int .i64 f.version, .int .i64 f.cversion, .int .i64 f.timeout, .int .i64 f.err, .int .i64 f.cver, .slice A2 f.mems.length c2, .slice A3 f.np c3]] w fun e w' => e = .returned (.tuple #[]) ∧ ∃ q', WrF w' base g q' (l ++ (textB f.path ++ numB f.cversion)) ∧ Put g q w w' q' := by
  have HF : Hid (FlFit f) := hf
  have hgl : g < w.heap.size := RowAt.lt h
  have hql := RowAt.qlt h
  obtain ⟨w1, hw1⟩ : ∃ X, X = w.alloc (.cells #[.int .i64 f.zxid, .int .u8 2, .int .i64 f.session, .int .i64 f.turn, .int .i64 f.xid, .int .i64 f.time, .string (mkS f.path), .slice A1 f.data.length c1, .int .i64 f.owner, .int .i64 f.version, .int .i64 f.cversion, .int .i64 f.timeout, .int .i64 f.err, .int .i64 f.cver, .slice A2 f.mems.length c2, .slice A3 f.np c3] 31) := ⟨_, rfl⟩
  have HO1 : Hid (Own w1 w.heap.size (.cells #[.int .i64 f.zxid, .int .u8 2, .int .i64 f.session, .int .i64 f.turn, .int .i64 f.xid, .int .i64 f.time, .string (mkS f.path), .slice A1 f.data.length c1, .int .i64 f.owner, .int .i64 f.version, .int .i64 f.cversion, .int .i64 f.timeout, .int .i64 f.err, .int .i64 f.cver, .slice A2 f.mems.length c2, .slice A3 f.np c3] 31 (0, 0)) g q) := ⟨by rw [hw1]; exact heap_alloc_new w _, by omega, fun e => by have := (hql _ e).2; omega⟩
  have HP1 : Hid (Put g q w w1 q) := by rw [hw1]; exact Put.alloc _ _ _ _
  have HW1 : Hid (WrF w1 base g q l) := by rw [hw1]; exact RowAt.alloc h _
  have HL1 : Hid (l.length ≤ 1000000) := hl
  have HB1 : Hid (Below w.heap.size w w1) := by rw [hw1]; exact (Below.refl _ _).alloc (Nat.le_refl _) _
  clear h hf hgl hql hl
  have hx := textB_len f.path (by omega)
  have ht := rfWText_any HW1.out f.path (by omega) (by have := HL1.out; omega)
  rw [hw1] at ht
  go_enter Tryz.func41, Tryz.ntmps41
  go_wp2_with fail
  refine ht.mono ?_
  rintro e w2 ⟨rfl, q2, hW, hP⟩
  rw [← hw1] at hP
  have HW2 : Hid (WrF w2 base g q2 (l ++ textB f.path)) := hW
  have HP2 : Hid (Put g q w w2 q2) := HP1.out.trans hP
  have HO2 : Hid (Own w2 w.heap.size (.cells #[.int .i64 f.zxid, .int .u8 2, .int .i64 f.session, .int .i64 f.turn, .int .i64 f.xid, .int .i64 f.time, .string (mkS f.path), .slice A1 f.data.length c1, .int .i64 f.owner, .int .i64 f.version, .int .i64 f.cversion, .int .i64 f.timeout, .int .i64 f.err, .int .i64 f.cver, .slice A2 f.mems.length c2, .slice A3 f.np c3] 31 (0, 0)) g q2) := HO1.out.put hP
  have HL2 : Hid ((l ++ textB f.path).length ≤ 1000220) := by show _ ≤ _; rw [List.length_append]; have := HL1.out; omega
  clear ht hW hP hx HW1 HP1 HO1 HL1 hw1
  obtain ⟨z0, z1, z2, z3, z4, z5, z6, z7, z8, z9, z10, z11, z12, z13, z14, z15⟩ := cells16 HO2.out.at'
  have hr := HF.out.cversion
  have hx := numB_len f.cversion hr.1 hr.2
  have ht := rfWInt_any HW2.out f.cversion hr.1 hr.2 (by have := HL2.out; omega)
  go_wp2_with fail
  refine ht.mono ?_
  rintro e w3 ⟨rfl, q3, hW, hP⟩
  have HW3 : Hid (WrF w3 base g q3 ((l ++ textB f.path) ++ numB f.cversion)) := hW
  have HP3 : Hid (Put g q w w3 q3) := HP2.out.trans hP
  have HO3 : Hid (Own w3 w.heap.size (.cells #[.int .i64 f.zxid, .int .u8 2, .int .i64 f.session, .int .i64 f.turn, .int .i64 f.xid, .int .i64 f.time, .string (mkS f.path), .slice A1 f.data.length c1, .int .i64 f.owner, .int .i64 f.version, .int .i64 f.cversion, .int .i64 f.timeout, .int .i64 f.err, .int .i64 f.cver, .slice A2 f.mems.length c2, .slice A3 f.np c3] 31 (0, 0)) g q3) := HO2.out.put hP
  have HL3 : Hid (((l ++ textB f.path) ++ numB f.cversion).length ≤ 1000230) := by show _ ≤ _; rw [List.length_append]; have := HL2.out; omega
  clear ht hW hP hx HW2 HP2 HO2 HL2 hr z0 z1 z2 z3 z4 z5 z6 z7 z8 z9 z10 z11 z12 z13 z14 z15
  go_wp2
  go_end0
  exact ⟨rfl, q3, by simpa using HW3.out, HP3.out⟩
set_option maxRecDepth 100000 in
set_option maxHeartbeats 4000000 in
theorem rbody3 {w : World} {base g : Nat} {q : Option Nat} {l : List UInt8} (h : WrF w base g q l) (hg : base ≤ g) (hl : l.length ≤ 1000000) (f : Fl) (hf : FlFit f) (A1 A2 A3 : Option Addr) (c1 c2 c3 : Nat)  (hpl : f.path.length ≤ 200) (hdl : f.data.length ≤ 1000) (hbs : Bs w (.slice A1 f.data.length c1) f.data) (hbB : ∀ k, bk (.slice A1 f.data.length c1) = some k → k < base) :
    Calls Tryz.prog 41 #[.pointer (some ⟨g, 0, none⟩), .agg #[.int .i64 f.zxid, .int .u8 3, .int .i64 f.session, .int .i64 f.turn, .int .i64 f.xid, .int .i64 f.time, .string (mkS f.path), .slice A1 f.data.length c1, .int .i64 f.owner, .int .i64 f.version, .int .i64 f.cversion, .int .i64 f.timeout, .int .i64 f.err, .int .i64 f.cver, .slice A2 f.mems.length c2, .slice A3 f.np c3]] w fun e w' => e = .returned (.tuple #[]) ∧ ∃ q', WrF w' base g q' (l ++ (textB f.path ++ (textB f.data ++ numB f.version))) ∧ Put g q w w' q' := by
  have HF : Hid (FlFit f) := hf
  have hgl : g < w.heap.size := RowAt.lt h
  have hql := RowAt.qlt h
  obtain ⟨w1, hw1⟩ : ∃ X, X = w.alloc (.cells #[.int .i64 f.zxid, .int .u8 3, .int .i64 f.session, .int .i64 f.turn, .int .i64 f.xid, .int .i64 f.time, .string (mkS f.path), .slice A1 f.data.length c1, .int .i64 f.owner, .int .i64 f.version, .int .i64 f.cversion, .int .i64 f.timeout, .int .i64 f.err, .int .i64 f.cver, .slice A2 f.mems.length c2, .slice A3 f.np c3] 31) := ⟨_, rfl⟩
  have HO1 : Hid (Own w1 w.heap.size (.cells #[.int .i64 f.zxid, .int .u8 3, .int .i64 f.session, .int .i64 f.turn, .int .i64 f.xid, .int .i64 f.time, .string (mkS f.path), .slice A1 f.data.length c1, .int .i64 f.owner, .int .i64 f.version, .int .i64 f.cversion, .int .i64 f.timeout, .int .i64 f.err, .int .i64 f.cver, .slice A2 f.mems.length c2, .slice A3 f.np c3] 31 (0, 0)) g q) := ⟨by rw [hw1]; exact heap_alloc_new w _, by omega, fun e => by have := (hql _ e).2; omega⟩
  have HP1 : Hid (Put g q w w1 q) := by rw [hw1]; exact Put.alloc _ _ _ _
  have HW1 : Hid (WrF w1 base g q l) := by rw [hw1]; exact RowAt.alloc h _
  have HL1 : Hid (l.length ≤ 1000000) := hl
  have HB1 : Hid (Below w.heap.size w w1) := by rw [hw1]; exact (Below.refl _ _).alloc (Nat.le_refl _) _
  have HS1 : Hid (Bs w1 (.slice A1 f.data.length c1) f.data) := by rw [hw1]; exact hbs.alloc _
  clear h hf hgl hql hl hbs
  have hx := textB_len f.path (by omega)
  have ht := rfWText_any HW1.out f.path (by omega) (by have := HL1.out; omega)
  rw [hw1] at ht
  go_enter Tryz.func41, Tryz.ntmps41
  go_wp2_with fail
  refine ht.mono ?_
  rintro e w2 ⟨rfl, q2, hW, hP⟩
  rw [← hw1] at hP
  have HW2 : Hid (WrF w2 base g q2 (l ++ textB f.path)) := hW
  have HP2 : Hid (Put g q w w2 q2) := HP1.out.trans hP
  have HO2 : Hid (Own w2 w.heap.size (.cells #[.int .i64 f.zxid, .int .u8 3, .int .i64 f.session, .int .i64 f.turn, .int .i64 f.xid, .int .i64 f.time, .string (mkS f.path), .slice A1 f.data.length c1, .int .i64 f.owner, .int .i64 f.version, .int .i64 f.cversion, .int .i64 f.timeout, .int .i64 f.err, .int .i64 f.cver, .slice A2 f.mems.length c2, .slice A3 f.np c3] 31 (0, 0)) g q2) := HO1.out.put hP
  have HL2 : Hid ((l ++ textB f.path).length ≤ 1000220) := by show _ ≤ _; rw [List.length_append]; have := HL1.out; omega
  have HS2 : Hid (Bs w2 (.slice A1 f.data.length c1) f.data) := BsF.put HS1.out HW1.out hg hbB hP
  clear ht hW hP hx HW1 HP1 HO1 HL1 HS1 hw1
  obtain ⟨z0, z1, z2, z3, z4, z5, z6, z7, z8, z9, z10, z11, z12, z13, z14, z15⟩ := cells16 HO2.out.at'
  have hx := textB_len f.data (by omega)
  have ht := rfWBytes_any HW2.out HS2.out (by omega) (by have := HL2.out; omega)
  go_wp2_with fail
  refine ht.mono ?_
  rintro e w3 ⟨rfl, q3, hW, hP⟩
  have HW3 : Hid (WrF w3 base g q3 ((l ++ textB f.path) ++ textB f.data)) := hW
  have HP3 : Hid (Put g q w w3 q3) := HP2.out.trans hP
  have HO3 : Hid (Own w3 w.heap.size (.cells #[.int .i64 f.zxid, .int .u8 3, .int .i64 f.session, .int .i64 f.turn, .int .i64 f.xid, .int .i64 f.time, .string (mkS f.path), .slice A1 f.data.length c1, .int .i64 f.owner, .int .i64 f.version, .int .i64 f.cversion, .int .i64 f.timeout, .int .i64 f.err, .int .i64 f.cver, .slice A2 f.mems.length c2, .slice A3 f.np c3] 31 (0, 0)) g q3) := HO2.out.put hP
  have HL3 : Hid (((l ++ textB f.path) ++ textB f.data).length ≤ 1001240) := by show _ ≤ _; rw [List.length_append]; have := HL2.out; omega
  have HS3 : Hid (Bs w3 (.slice A1 f.data.length c1) f.data) := BsF.put HS2.out HW2.out hg hbB hP
  clear ht hW hP hx HW2 HP2 HO2 HL2 HS2 z0 z1 z2 z3 z4 z5 z6 z7 z8 z9 z10 z11 z12 z13 z14 z15
  obtain ⟨z0, z1, z2, z3, z4, z5, z6, z7, z8, z9, z10, z11, z12, z13, z14, z15⟩ := cells16 HO3.out.at'
  have hr := HF.out.version
  have hx := numB_len f.version hr.1 hr.2
  have ht := rfWInt_any HW3.out f.version hr.1 hr.2 (by have := HL3.out; omega)
  go_wp2_with fail
  refine ht.mono ?_
  rintro e w4 ⟨rfl, q4, hW, hP⟩
  have HW4 : Hid (WrF w4 base g q4 (((l ++ textB f.path) ++ textB f.data) ++ numB f.version)) := hW
  have HP4 : Hid (Put g q w w4 q4) := HP3.out.trans hP
  have HO4 : Hid (Own w4 w.heap.size (.cells #[.int .i64 f.zxid, .int .u8 3, .int .i64 f.session, .int .i64 f.turn, .int .i64 f.xid, .int .i64 f.time, .string (mkS f.path), .slice A1 f.data.length c1, .int .i64 f.owner, .int .i64 f.version, .int .i64 f.cversion, .int .i64 f.timeout, .int .i64 f.err, .int .i64 f.cver, .slice A2 f.mems.length c2, .slice A3 f.np c3] 31 (0, 0)) g q4) := HO3.out.put hP
  have HL4 : Hid ((((l ++ textB f.path) ++ textB f.data) ++ numB f.version).length ≤ 1001250) := by show _ ≤ _; rw [List.length_append]; have := HL3.out; omega
  have HS4 : Hid (Bs w4 (.slice A1 f.data.length c1) f.data) := BsF.put HS3.out HW3.out hg hbB hP
  clear ht hW hP hx HW3 HP3 HO3 HL3 HS3 hr z0 z1 z2 z3 z4 z5 z6 z7 z8 z9 z10 z11 z12 z13 z14 z15
  go_wp2
  go_end0
  exact ⟨rfl, q4, by simpa using HW4.out, HP4.out⟩
set_option maxRecDepth 100000 in
set_option maxHeartbeats 4000000 in
theorem rbody4 {w : World} {base g : Nat} {q : Option Nat} {l : List UInt8} (h : WrF w base g q l) (hg : base ≤ g) (hl : l.length ≤ 1000000) (f : Fl) (hf : FlFit f) (A1 A2 A3 : Option Addr) (c1 c2 c3 : Nat)  :
    Calls Tryz.prog 41 #[.pointer (some ⟨g, 0, none⟩), .agg #[.int .i64 f.zxid, .int .u8 4, .int .i64 f.session, .int .i64 f.turn, .int .i64 f.xid, .int .i64 f.time, .string (mkS f.path), .slice A1 f.data.length c1, .int .i64 f.owner, .int .i64 f.version, .int .i64 f.cversion, .int .i64 f.timeout, .int .i64 f.err, .int .i64 f.cver, .slice A2 f.mems.length c2, .slice A3 f.np c3]] w fun e w' => e = .returned (.tuple #[]) ∧ ∃ q', WrF w' base g q' (l ++ (numB f.timeout)) ∧ Put g q w w' q' := by
  have HF : Hid (FlFit f) := hf
  have hgl : g < w.heap.size := RowAt.lt h
  have hql := RowAt.qlt h
  obtain ⟨w1, hw1⟩ : ∃ X, X = w.alloc (.cells #[.int .i64 f.zxid, .int .u8 4, .int .i64 f.session, .int .i64 f.turn, .int .i64 f.xid, .int .i64 f.time, .string (mkS f.path), .slice A1 f.data.length c1, .int .i64 f.owner, .int .i64 f.version, .int .i64 f.cversion, .int .i64 f.timeout, .int .i64 f.err, .int .i64 f.cver, .slice A2 f.mems.length c2, .slice A3 f.np c3] 31) := ⟨_, rfl⟩
  have HO1 : Hid (Own w1 w.heap.size (.cells #[.int .i64 f.zxid, .int .u8 4, .int .i64 f.session, .int .i64 f.turn, .int .i64 f.xid, .int .i64 f.time, .string (mkS f.path), .slice A1 f.data.length c1, .int .i64 f.owner, .int .i64 f.version, .int .i64 f.cversion, .int .i64 f.timeout, .int .i64 f.err, .int .i64 f.cver, .slice A2 f.mems.length c2, .slice A3 f.np c3] 31 (0, 0)) g q) := ⟨by rw [hw1]; exact heap_alloc_new w _, by omega, fun e => by have := (hql _ e).2; omega⟩
  have HP1 : Hid (Put g q w w1 q) := by rw [hw1]; exact Put.alloc _ _ _ _
  have HW1 : Hid (WrF w1 base g q l) := by rw [hw1]; exact RowAt.alloc h _
  have HL1 : Hid (l.length ≤ 1000000) := hl
  have HB1 : Hid (Below w.heap.size w w1) := by rw [hw1]; exact (Below.refl _ _).alloc (Nat.le_refl _) _
  clear h hf hgl hql hl
  have hr := HF.out.timeout
  have hx := numB_len f.timeout hr.1 hr.2
  have ht := rfWInt_any HW1.out f.timeout hr.1 hr.2 (by have := HL1.out; omega)
  rw [hw1] at ht
  go_enter Tryz.func41, Tryz.ntmps41
  go_wp2_with fail
  refine ht.mono ?_
  rintro e w2 ⟨rfl, q2, hW, hP⟩
  rw [← hw1] at hP
  have HW2 : Hid (WrF w2 base g q2 (l ++ numB f.timeout)) := hW
  have HP2 : Hid (Put g q w w2 q2) := HP1.out.trans hP
  have HO2 : Hid (Own w2 w.heap.size (.cells #[.int .i64 f.zxid, .int .u8 4, .int .i64 f.session, .int .i64 f.turn, .int .i64 f.xid, .int .i64 f.time, .string (mkS f.path), .slice A1 f.data.length c1, .int .i64 f.owner, .int .i64 f.version, .int .i64 f.cversion, .int .i64 f.timeout, .int .i64 f.err, .int .i64 f.cver, .slice A2 f.mems.length c2, .slice A3 f.np c3] 31 (0, 0)) g q2) := HO1.out.put hP
  have HL2 : Hid ((l ++ numB f.timeout).length ≤ 1000010) := by show _ ≤ _; rw [List.length_append]; have := HL1.out; omega
  clear ht hW hP hx HW1 HP1 HO1 HL1 hr hw1
  go_wp2
  go_end0
  exact ⟨rfl, q2, by simpa using HW2.out, HP2.out⟩
set_option maxRecDepth 100000 in
set_option maxHeartbeats 4000000 in
theorem rbody9 {w : World} {base g : Nat} {q : Option Nat} {l : List UInt8} (h : WrF w base g q l) (hg : base ≤ g) (hl : l.length ≤ 1000000) (f : Fl) (hf : FlFit f) (A1 A2 A3 : Option Addr) (c1 c2 c3 : Nat)  :
    Calls Tryz.prog 41 #[.pointer (some ⟨g, 0, none⟩), .agg #[.int .i64 f.zxid, .int .u8 9, .int .i64 f.session, .int .i64 f.turn, .int .i64 f.xid, .int .i64 f.time, .string (mkS f.path), .slice A1 f.data.length c1, .int .i64 f.owner, .int .i64 f.version, .int .i64 f.cversion, .int .i64 f.timeout, .int .i64 f.err, .int .i64 f.cver, .slice A2 f.mems.length c2, .slice A3 f.np c3]] w fun e w' => e = .returned (.tuple #[]) ∧ ∃ q', WrF w' base g q' (l ++ (numB f.err)) ∧ Put g q w w' q' := by
  have HF : Hid (FlFit f) := hf
  have hgl : g < w.heap.size := RowAt.lt h
  have hql := RowAt.qlt h
  obtain ⟨w1, hw1⟩ : ∃ X, X = w.alloc (.cells #[.int .i64 f.zxid, .int .u8 9, .int .i64 f.session, .int .i64 f.turn, .int .i64 f.xid, .int .i64 f.time, .string (mkS f.path), .slice A1 f.data.length c1, .int .i64 f.owner, .int .i64 f.version, .int .i64 f.cversion, .int .i64 f.timeout, .int .i64 f.err, .int .i64 f.cver, .slice A2 f.mems.length c2, .slice A3 f.np c3] 31) := ⟨_, rfl⟩
  have HO1 : Hid (Own w1 w.heap.size (.cells #[.int .i64 f.zxid, .int .u8 9, .int .i64 f.session, .int .i64 f.turn, .int .i64 f.xid, .int .i64 f.time, .string (mkS f.path), .slice A1 f.data.length c1, .int .i64 f.owner, .int .i64 f.version, .int .i64 f.cversion, .int .i64 f.timeout, .int .i64 f.err, .int .i64 f.cver, .slice A2 f.mems.length c2, .slice A3 f.np c3] 31 (0, 0)) g q) := ⟨by rw [hw1]; exact heap_alloc_new w _, by omega, fun e => by have := (hql _ e).2; omega⟩
  have HP1 : Hid (Put g q w w1 q) := by rw [hw1]; exact Put.alloc _ _ _ _
  have HW1 : Hid (WrF w1 base g q l) := by rw [hw1]; exact RowAt.alloc h _
  have HL1 : Hid (l.length ≤ 1000000) := hl
  have HB1 : Hid (Below w.heap.size w w1) := by rw [hw1]; exact (Below.refl _ _).alloc (Nat.le_refl _) _
  clear h hf hgl hql hl
  have hr := HF.out.err
  have hx := numB_len f.err hr.1 hr.2
  have ht := rfWInt_any HW1.out f.err hr.1 hr.2 (by have := HL1.out; omega)
  rw [hw1] at ht
  go_enter Tryz.func41, Tryz.ntmps41
  go_wp2_with fail
  refine ht.mono ?_
  rintro e w2 ⟨rfl, q2, hW, hP⟩
  rw [← hw1] at hP
  have HW2 : Hid (WrF w2 base g q2 (l ++ numB f.err)) := hW
  have HP2 : Hid (Put g q w w2 q2) := HP1.out.trans hP
  have HO2 : Hid (Own w2 w.heap.size (.cells #[.int .i64 f.zxid, .int .u8 9, .int .i64 f.session, .int .i64 f.turn, .int .i64 f.xid, .int .i64 f.time, .string (mkS f.path), .slice A1 f.data.length c1, .int .i64 f.owner, .int .i64 f.version, .int .i64 f.cversion, .int .i64 f.timeout, .int .i64 f.err, .int .i64 f.cver, .slice A2 f.mems.length c2, .slice A3 f.np c3] 31 (0, 0)) g q2) := HO1.out.put hP
  have HL2 : Hid ((l ++ numB f.err).length ≤ 1000010) := by show _ ≤ _; rw [List.length_append]; have := HL1.out; omega
  clear ht hW hP hx HW1 HP1 HO1 HL1 hr hw1
  go_wp2
  go_end0
  exact ⟨rfl, q2, by simpa using HW2.out, HP2.out⟩
set_option maxRecDepth 100000 in
set_option maxHeartbeats 4000000 in
theorem rbody6 {w : World} {base g : Nat} {q : Option Nat} {l : List UInt8} (h : WrF w base g q l) (hg : base ≤ g) (hl : l.length ≤ 1000000) (f : Fl) (hf : FlFit f) (A1 A2 A3 : Option Addr) (c1 c2 c3 : Nat) :
    Calls Tryz.prog 41 #[.pointer (some ⟨g, 0, none⟩), .agg #[.int .i64 f.zxid, .int .u8 6, .int .i64 f.session, .int .i64 f.turn, .int .i64 f.xid, .int .i64 f.time, .string (mkS f.path), .slice A1 f.data.length c1, .int .i64 f.owner, .int .i64 f.version, .int .i64 f.cversion, .int .i64 f.timeout, .int .i64 f.err, .int .i64 f.cver, .slice A2 f.mems.length c2, .slice A3 f.np c3]] w fun e w' => e = .returned (.tuple #[]) ∧ ∃ q', WrF w' base g q' (l ++ []) ∧ Put g q w w' q' := by
  have HF : Hid (FlFit f) := hf
  have hgl : g < w.heap.size := RowAt.lt h
  have hql := RowAt.qlt h
  obtain ⟨w1, hw1⟩ : ∃ X, X = w.alloc (.cells #[.int .i64 f.zxid, .int .u8 6, .int .i64 f.session, .int .i64 f.turn, .int .i64 f.xid, .int .i64 f.time, .string (mkS f.path), .slice A1 f.data.length c1, .int .i64 f.owner, .int .i64 f.version, .int .i64 f.cversion, .int .i64 f.timeout, .int .i64 f.err, .int .i64 f.cver, .slice A2 f.mems.length c2, .slice A3 f.np c3] 31) := ⟨_, rfl⟩
  have HO1 : Hid (Own w1 w.heap.size (.cells #[.int .i64 f.zxid, .int .u8 6, .int .i64 f.session, .int .i64 f.turn, .int .i64 f.xid, .int .i64 f.time, .string (mkS f.path), .slice A1 f.data.length c1, .int .i64 f.owner, .int .i64 f.version, .int .i64 f.cversion, .int .i64 f.timeout, .int .i64 f.err, .int .i64 f.cver, .slice A2 f.mems.length c2, .slice A3 f.np c3] 31 (0, 0)) g q) := ⟨by rw [hw1]; exact heap_alloc_new w _, by omega, fun e => by have := (hql _ e).2; omega⟩
  have HP1 : Hid (Put g q w w1 q) := by rw [hw1]; exact Put.alloc _ _ _ _
  have HW1 : Hid (WrF w1 base g q l) := by rw [hw1]; exact RowAt.alloc h _
  have HL1 : Hid (l.length ≤ 1000000) := hl
  have HB1 : Hid (Below w.heap.size w w1) := by rw [hw1]; exact (Below.refl _ _).alloc (Nat.le_refl _) _
  clear h hf hgl hql hl
  go_enter Tryz.func41, Tryz.ntmps41
  go_wp2
  go_end0
  rw [← hw1]
  exact ⟨rfl, q, by simpa using HW1.out, HP1.out⟩
theorem rbody_leaf {w : World} {base g : Nat} {q : Option Nat} {l : List UInt8} (h : WrF w base g q l) (hg : base ≤ g) (hl : l.length ≤ 1000000) (f : Fl) (hf : FlFit f) (hlf : leafB f = true) (A1 A2 A3 : Option Addr) (c1 c2 c3 : Nat) (hr : DRest w base f A1 c1 A2 c2) :
    Calls Tryz.prog 41 #[.pointer (some ⟨g, 0, none⟩), .agg #[.int .i64 f.zxid, .int .u8 f.kind, .int .i64 f.session, .int .i64 f.turn, .int .i64 f.xid, .int .i64 f.time, .string (mkS f.path), .slice A1 f.data.length c1, .int .i64 f.owner, .int .i64 f.version, .int .i64 f.cversion, .int .i64 f.timeout, .int .i64 f.err, .int .i64 f.cver, .slice A2 f.mems.length c2, .slice A3 f.np c3]] w fun e w' => e = .returned (.tuple #[]) ∧ ∃ q', WrF w' base g q' (l ++ bodyB f) ∧ Put g q w w' q' := by
  obtain ⟨hn, hc, hp⟩ := leaf_parts hlf
  have hpl := PA.right_len hp
  have hdl := (com_parts hc).2.1
  unfold bodyB
  rcases node_kind hn with e | e | e
  · simp only [e, if_true, Int.reduceEq, if_false]
    exact rbody1 h hg hl f hf A1 A2 A3 c1 c2 c3 hpl hdl hr.bs hr.bsB
  · simp only [e, if_true, Int.reduceEq, if_false]
    exact rbody2 h hg hl f hf A1 A2 A3 c1 c2 c3 hpl
  · simp only [e, if_true, Int.reduceEq, if_false]
    exact rbody3 h hg hl f hf A1 A2 A3 c1 c2 c3 hpl hdl hr.bs hr.bsB
end Go.Proofs.YtmfednhommbikaaGreatDoor.DD
/- The walks of the document's own rows of parts, and of a deed's body. -/
namespace Go.Proofs.YtmfednhommbikaaGreatDoor.DD
set_option linter.unusedVariables false
open Go.RowKit
set_option linter.unusedVariables false

set_option maxRecDepth 100000 in
set_option maxHeartbeats 4000000 in
theorem rrows_any {w : World} {base g : Nat} {q : Option Nat} {l : List UInt8} (h : WrF w base g q l) (hg : base ≤ g) (hl : l.length ≤ 5000) {v : Value} {ps : List Fl} (hP : Prts w base v ps) (hn : ps.length ≤ 500) (hf : ∀ p ∈ ps, FlFit p ∧ leafB p = true) :
    Calls Tryz.prog 76 #[.pointer (some ⟨g, 0, none⟩), v] w fun e w' => e = .returned (.tuple #[]) ∧ ∃ q', WrF w' base g q' (l ++ (numB ps.length ++ prtsB ps)) ∧ Put g q w w' q' := by
  have HP : Hid (Prts w base v ps) := hP
  have HF : Hid (∀ p ∈ ps, FlFit p ∧ leafB p = true) := hf
  have HW : Hid (WrF w base g q l) := h
  obtain ⟨A, C, rfl⟩ := hP.form
  clear h hf hP
  generalize hm : ps.length = n at hn HP ⊢
  have HN : Hid (ps.length = n) := hm
  clear hm
  have hnl := numB_len (n : Int) (by omega) (by omega)
  have hwi := rfWInt_any HW.out (n : Int) (by omega) (by omega) (by omega)
  go_enter Tryz.func76, Tryz.ntmps76
  go_wp2_with fail
  refine hwi.mono ?_
  rintro e w1 ⟨rfl, q1, hW1, hP1⟩
  have HW1 : Hid (WrF w1 base g q1 (l ++ numB n)) := hW1
  have HWW : Hid (WrF w base g q l) := HW.out
  have HP1 : Hid (Put g q w w1 q1) := hP1
  have HB1 : Hid (Below base w w1) := putF_below HW.out hg hP1
  have HNL : Hid ((l ++ numB (n : Int)).length ≤ 5010) := by show _ ≤ _; rw [List.length_append]; omega
  clear hwi hW1 hP1 HW hnl
  go_wp2_with fail
  go_loopw [4] (fun c wr => ∃ (k : Nat) (q' : Option Nat), k ≤ n ∧ c = .int .i64 k ∧ WrF wr base g q' ((l ++ numB n) ++ prtsB (ps.take k)) ∧ Put g q w wr q' ∧ Below base w wr) (fun c _ => n - (intOf c).toNat)
  case atStart => exact ⟨0, q1, by omega, rfl, by simpa [prtsB] using HW1.out, HP1.out, HB1.out⟩
  case round =>
    obtain ⟨k, q', hk, rfl, hWr, hPr, hBr⟩ := hrel
    have HWr : Hid (WrF wr base g q' ((l ++ numB n) ++ prtsB (ps.take k))) := hWr
    have HPr : Hid (Put g q w wr q') := hPr
    have HBr : Hid (Below base w wr) := hBr
    clear hWr hPr hBr HW1 HP1 HB1
    by_cases hlt : k < n
    · have hkl : k < ps.length := by have := HN.out; omega
      obtain ⟨b, o, rfl, hbb, -, A1, c1, A2, c2, A3, c3, hcl, hdr⟩ := (HP.out.below HBr.out).at' k hkl
      have hff := HF.out _ (List.getElem_mem hkl)
      have hpl := prts_len (ps.take k) (fun p hp => HF.out p (List.mem_of_mem_take hp))
      have hplk : (ps.take k).length = k := by rw [List.length_take]; omega
      have HLEN : Hid ((((l ++ numB (n : Int)) ++ prtsB (ps.take k))).length ≤ 640000) := by
        show _ ≤ _
        have := HNL.out
        rw [List.length_append]
        rw [hplk] at hpl
        omega
      have HS : Hid (prtsB (ps.take (k + 1)) = prtsB (ps.take k) ++ (u8 (ps[k]'hkl).kind :: bodyB (ps[k]'hkl))) := prts_snoc ps hkl
      clear hpl hplk
      generalize (ps[k]'hkl) = f at hcl hdr hff HS
      have HD : Hid (DRest wr base f A1 c1 A2 c2) := hdr
      have HFF : Hid (FlFit f ∧ leafB f = true) := hff
      have hfk := hff.1.kind
      have HCL : Hid (DCells wr b (o + k * 16) f A1 c1 A2 c2 A3 c3) := hcl
      obtain ⟨z0, z1, z2, z3, z4, z5, z6, z7, z8, z9, z10, z11, z12, z13, z14, z15⟩ := hcl
      have hwb := rfWByte_any HWr.out f.kind (u8 f.kind) (u8_back hfk).symm (by have := HLEN.out; omega)
      clear hff hdr
      go_wp2_with fail
      refine hwb.mono ?_
      rintro e w3 ⟨rfl, q3, hW3, hP3⟩
      have hB3 := putF_below HWr.out hg hP3
      have HW3 : Hid (WrF w3 base g q3 (((l ++ numB n) ++ prtsB (ps.take k)) ++ [u8 f.kind])) := hW3
      have HP3 : Hid (Put g q w w3 q3) := HPr.out.trans hP3
      have hcl := HCL.out.keep (fun o' => hB3.cell (p := ⟨b, o', none⟩) hbb)
      have hpf := rbody_leaf hW3 hg (by have := HLEN.out; simp only [List.length_append, List.length_singleton] at *; omega) f HFF.out.1 HFF.out.2 A1 A2 A3 c1 c2 c3 (HD.out.below hB3)
      clear hwb hW3 hP3 hB3 HCL z0 z1 z2 z3 z4 z5 z6 z7 z8 z9 z10 z11 z12 z13 z14 z15 HWr HPr HBr
      obtain ⟨z0, z1, z2, z3, z4, z5, z6, z7, z8, z9, z10, z11, z12, z13, z14, z15⟩ := hcl
      go_wp2_with fail
      refine hpf.mono ?_
      rintro e w4 ⟨rfl, q4, hW4, hP4⟩
      have HW4 : Hid (WrF w4 base g q4 ((l ++ numB n) ++ prtsB (ps.take (k + 1)))) := by
        show WrF _ _ _ _ _
        rw [HS.out]
        simpa using hW4
      have HB4 : Hid (Below base w w4) := (putF_below HWW.out hg HP3.out).trans (putF_below HW3.out hg hP4)
      have HP4 : Hid (Put g q w w4 q4) := HP3.out.trans hP4
      clear hpf hW4 hP4 z0 z1 z2 z3 z4 z5 z6 z7 z8 z9 z10 z11 z12 z13 z14 z15 HW3 HP3
      go_wp2
      exact ⟨⟨k + 1, q4, by omega, by go_num, HW4.out, HP4.out, HB4.out⟩, by simp [intOf]; omega⟩
    · have hkn : k = n := by omega
      have HE : Hid (((l ++ numB (n : Int)) ++ prtsB (ps.take k)) = l ++ (numB (n : Int) ++ prtsB ps)) := by
        show _ = _
        rw [hkn, ← HN.out, List.take_length, List.append_assoc]
      rw [HE.out] at HWr
      clear HE
      go_wp2
      go_end0
      exact ⟨rfl, q', HWr.out, HPr.out⟩
set_option maxRecDepth 100000 in
set_option maxHeartbeats 4000000 in
theorem rbody5 {w : World} {base g : Nat} {q : Option Nat} {l : List UInt8} (h : WrF w base g q l) (hg : base ≤ g) (hl : l.length ≤ 1000) (f : Fl) (hf : FlFit f) (A1 A2 A3 : Option Addr) (c1 c2 c3 : Nat) (ps : List Fl) (hP : Prts w base (.slice A3 f.np c3) ps) (hn : ps.length ≤ 500) (hps : ∀ p ∈ ps, FlFit p ∧ leafB p = true) :
    Calls Tryz.prog 41 #[.pointer (some ⟨g, 0, none⟩), .agg #[.int .i64 f.zxid, .int .u8 5, .int .i64 f.session, .int .i64 f.turn, .int .i64 f.xid, .int .i64 f.time, .string (mkS f.path), .slice A1 f.data.length c1, .int .i64 f.owner, .int .i64 f.version, .int .i64 f.cversion, .int .i64 f.timeout, .int .i64 f.err, .int .i64 f.cver, .slice A2 f.mems.length c2, .slice A3 f.np c3]] w fun e w' => e = .returned (.tuple #[]) ∧ ∃ q', WrF w' base g q' (l ++ (numB f.owner ++ (numB ps.length ++ prtsB ps))) ∧ Put g q w w' q' := by
  have HF : Hid (FlFit f) := hf
  have hgl : g < w.heap.size := RowAt.lt h
  have hql := RowAt.qlt h
  obtain ⟨w1, hw1⟩ : ∃ X, X = w.alloc (.cells #[.int .i64 f.zxid, .int .u8 5, .int .i64 f.session, .int .i64 f.turn, .int .i64 f.xid, .int .i64 f.time, .string (mkS f.path), .slice A1 f.data.length c1, .int .i64 f.owner, .int .i64 f.version, .int .i64 f.cversion, .int .i64 f.timeout, .int .i64 f.err, .int .i64 f.cver, .slice A2 f.mems.length c2, .slice A3 f.np c3] 31) := ⟨_, rfl⟩
  have HO1 : Hid (Own w1 w.heap.size (.cells #[.int .i64 f.zxid, .int .u8 5, .int .i64 f.session, .int .i64 f.turn, .int .i64 f.xid, .int .i64 f.time, .string (mkS f.path), .slice A1 f.data.length c1, .int .i64 f.owner, .int .i64 f.version, .int .i64 f.cversion, .int .i64 f.timeout, .int .i64 f.err, .int .i64 f.cver, .slice A2 f.mems.length c2, .slice A3 f.np c3] 31 (0, 0)) g q) := ⟨by rw [hw1]; exact heap_alloc_new w _, by omega, fun e => by have := (hql _ e).2; omega⟩
  have HP1 : Hid (Put g q w w1 q) := by rw [hw1]; exact Put.alloc _ _ _ _
  have HW1 : Hid (WrF w1 base g q l) := by rw [hw1]; exact RowAt.alloc h _
  have HL1 : Hid (l.length ≤ 1000) := hl
  have HB1 : Hid (Below w.heap.size w w1) := by rw [hw1]; exact (Below.refl _ _).alloc (Nat.le_refl _) _
  have HR1 : Hid (Prts w1 base (.slice A3 f.np c3) ps) := hP.below (HB1.out.mono (by obtain ⟨v, _, _, _, _, hb⟩ := h; exact hb))
  have HPS : Hid _ := hps
  clear h hf hgl hql hl hP hps
  have hr := HF.out.owner
  have hx := numB_len f.owner hr.1 hr.2
  have ht := rfWInt_any HW1.out f.owner hr.1 hr.2 (by have := HL1.out; omega)
  rw [hw1] at ht
  go_enter Tryz.func41, Tryz.ntmps41
  go_wp2_with fail
  refine ht.mono ?_
  rintro e w2 ⟨rfl, q2, hW, hP⟩
  rw [← hw1] at hP
  have HR2 : Hid (Prts w2 base (.slice A3 f.np c3) ps) := HR1.out.below (putF_below HW1.out hg hP)
  have HW2 : Hid (WrF w2 base g q2 (l ++ numB f.owner)) := hW
  have HP2 : Hid (Put g q w w2 q2) := HP1.out.trans hP
  have HO2 : Hid (Own w2 w.heap.size (.cells #[.int .i64 f.zxid, .int .u8 5, .int .i64 f.session, .int .i64 f.turn, .int .i64 f.xid, .int .i64 f.time, .string (mkS f.path), .slice A1 f.data.length c1, .int .i64 f.owner, .int .i64 f.version, .int .i64 f.cversion, .int .i64 f.timeout, .int .i64 f.err, .int .i64 f.cver, .slice A2 f.mems.length c2, .slice A3 f.np c3] 31 (0, 0)) g q2) := HO1.out.put hP
  have HL2 : Hid ((l ++ numB f.owner).length ≤ 1010) := by show _ ≤ _; rw [List.length_append]; have := HL1.out; omega
  clear ht hW hP hx hr HW1 HP1 HO1 HL1 HR1 HB1 hw1
  obtain ⟨z0, z1, z2, z3, z4, z5, z6, z7, z8, z9, z10, z11, z12, z13, z14, z15⟩ := cells16 HO2.out.at'
  have ht := rrows_any HW2.out hg (by have := HL2.out; omega) HR2.out hn HPS.out
  go_wp2_with fail
  refine ht.mono ?_
  rintro e w3 ⟨rfl, q3, hW, hP⟩
  have HW3 : Hid (WrF w3 base g q3 ((l ++ numB f.owner) ++ (numB ps.length ++ prtsB ps))) := hW
  have HP3 : Hid (Put g q w w3 q3) := HP2.out.trans hP
  clear ht hW hP z0 z1 z2 z3 z4 z5 z6 z7 z8 z9 z10 z11 z12 z13 z14 z15 HW2 HP2 HO2
  go_wp2
  go_end0
  exact ⟨rfl, q3, by simpa using HW3.out, HP3.out⟩
set_option maxRecDepth 100000 in
set_option maxHeartbeats 4000000 in
theorem rbody8 {w : World} {base g : Nat} {q : Option Nat} {l : List UInt8} (h : WrF w base g q l) (hg : base ≤ g) (hl : l.length ≤ 1000) (f : Fl) (hf : FlFit f) (A1 A2 A3 : Option Addr) (c1 c2 c3 : Nat) (ps : List Fl) (hP : Prts w base (.slice A3 f.np c3) ps) (hn : ps.length ≤ 500) (hps : ∀ p ∈ ps, FlFit p ∧ leafB p = true) :
    Calls Tryz.prog 41 #[.pointer (some ⟨g, 0, none⟩), .agg #[.int .i64 f.zxid, .int .u8 8, .int .i64 f.session, .int .i64 f.turn, .int .i64 f.xid, .int .i64 f.time, .string (mkS f.path), .slice A1 f.data.length c1, .int .i64 f.owner, .int .i64 f.version, .int .i64 f.cversion, .int .i64 f.timeout, .int .i64 f.err, .int .i64 f.cver, .slice A2 f.mems.length c2, .slice A3 f.np c3]] w fun e w' => e = .returned (.tuple #[]) ∧ ∃ q', WrF w' base g q' (l ++ (numB ps.length ++ prtsB ps)) ∧ Put g q w w' q' := by
  have HF : Hid (FlFit f) := hf
  have hgl : g < w.heap.size := RowAt.lt h
  have hql := RowAt.qlt h
  obtain ⟨w1, hw1⟩ : ∃ X, X = w.alloc (.cells #[.int .i64 f.zxid, .int .u8 8, .int .i64 f.session, .int .i64 f.turn, .int .i64 f.xid, .int .i64 f.time, .string (mkS f.path), .slice A1 f.data.length c1, .int .i64 f.owner, .int .i64 f.version, .int .i64 f.cversion, .int .i64 f.timeout, .int .i64 f.err, .int .i64 f.cver, .slice A2 f.mems.length c2, .slice A3 f.np c3] 31) := ⟨_, rfl⟩
  have HO1 : Hid (Own w1 w.heap.size (.cells #[.int .i64 f.zxid, .int .u8 8, .int .i64 f.session, .int .i64 f.turn, .int .i64 f.xid, .int .i64 f.time, .string (mkS f.path), .slice A1 f.data.length c1, .int .i64 f.owner, .int .i64 f.version, .int .i64 f.cversion, .int .i64 f.timeout, .int .i64 f.err, .int .i64 f.cver, .slice A2 f.mems.length c2, .slice A3 f.np c3] 31 (0, 0)) g q) := ⟨by rw [hw1]; exact heap_alloc_new w _, by omega, fun e => by have := (hql _ e).2; omega⟩
  have HP1 : Hid (Put g q w w1 q) := by rw [hw1]; exact Put.alloc _ _ _ _
  have HW1 : Hid (WrF w1 base g q l) := by rw [hw1]; exact RowAt.alloc h _
  have HL1 : Hid (l.length ≤ 1000) := hl
  have HB1 : Hid (Below w.heap.size w w1) := by rw [hw1]; exact (Below.refl _ _).alloc (Nat.le_refl _) _
  have HR1 : Hid (Prts w1 base (.slice A3 f.np c3) ps) := hP.below (HB1.out.mono (by obtain ⟨v, _, _, _, _, hb⟩ := h; exact hb))
  have HPS : Hid _ := hps
  clear h hf hgl hql hl hP hps
  have ht := rrows_any HW1.out hg (by have := HL1.out; omega) HR1.out hn HPS.out
  rw [hw1] at ht
  go_enter Tryz.func41, Tryz.ntmps41
  go_wp2_with fail
  refine ht.mono ?_
  rintro e w3 ⟨rfl, q3, hW, hP⟩
  rw [← hw1] at hP
  have HW3 : Hid (WrF w3 base g q3 (l ++ (numB ps.length ++ prtsB ps))) := hW
  have HP3 : Hid (Put g q w w3 q3) := HP1.out.trans hP
  clear ht hW hP hw1 HW1 HP1 HO1
  go_wp2
  go_end0
  exact ⟨rfl, q3, by simpa using HW3.out, HP3.out⟩
set_option maxRecDepth 100000 in
set_option maxHeartbeats 4000000 in
theorem rbody7 {w : World} {base g : Nat} {q : Option Nat} {l : List UInt8} (h : WrF w base g q l) (hg : base ≤ g) (hl : l.length ≤ 1000) (f : Fl) (hf : FlFit f) (A1 A2 A3 : Option Addr) (c1 c2 c3 : Nat) (hb : base ≤ w.heap.size) (hms : Mems w (.slice A2 f.mems.length c2) f.mems) (hc : chk f.cver f.mems = 0) :
    Calls Tryz.prog 41 #[.pointer (some ⟨g, 0, none⟩), .agg #[.int .i64 f.zxid, .int .u8 7, .int .i64 f.session, .int .i64 f.turn, .int .i64 f.xid, .int .i64 f.time, .string (mkS f.path), .slice A1 f.data.length c1, .int .i64 f.owner, .int .i64 f.version, .int .i64 f.cversion, .int .i64 f.timeout, .int .i64 f.err, .int .i64 f.cver, .slice A2 f.mems.length c2, .slice A3 f.np c3]] w fun e w' => e = .returned (.tuple #[]) ∧ ∃ q', WrF w' base g q' (l ++ textB (cfgB f.cver f.mems)) ∧ Put g q w w' q' := by
  have HF : Hid (FlFit f) := hf
  have hgl : g < w.heap.size := RowAt.lt h
  have hql := RowAt.qlt h
  obtain ⟨w1, hw1⟩ : ∃ X, X = w.alloc (.cells #[.int .i64 f.zxid, .int .u8 7, .int .i64 f.session, .int .i64 f.turn, .int .i64 f.xid, .int .i64 f.time, .string (mkS f.path), .slice A1 f.data.length c1, .int .i64 f.owner, .int .i64 f.version, .int .i64 f.cversion, .int .i64 f.timeout, .int .i64 f.err, .int .i64 f.cver, .slice A2 f.mems.length c2, .slice A3 f.np c3] 31) := ⟨_, rfl⟩
  have HO1 : Hid (Own w1 w.heap.size (.cells #[.int .i64 f.zxid, .int .u8 7, .int .i64 f.session, .int .i64 f.turn, .int .i64 f.xid, .int .i64 f.time, .string (mkS f.path), .slice A1 f.data.length c1, .int .i64 f.owner, .int .i64 f.version, .int .i64 f.cversion, .int .i64 f.timeout, .int .i64 f.err, .int .i64 f.cver, .slice A2 f.mems.length c2, .slice A3 f.np c3] 31 (0, 0)) g q) := ⟨by rw [hw1]; exact heap_alloc_new w _, by omega, fun e => by have := (hql _ e).2; omega⟩
  have HP1 : Hid (Put g q w w1 q) := by rw [hw1]; exact Put.alloc _ _ _ _
  have HW1 : Hid (WrF w1 base g q l) := by rw [hw1]; exact RowAt.alloc h _
  have HL1 : Hid (l.length ≤ 1000) := hl
  have HB1 : Hid (Below w.heap.size w w1) := by rw [hw1]; exact (Below.refl _ _).alloc (Nat.le_refl _) _
  have hM1 : Mems w1 (.slice A2 f.mems.length c2) f.mems := hms.below' HB1.out
  have hpt := rf4Put_yes hM1 f.cver hc
  have hcl := cfgB_len' hc
  rw [hw1] at hpt
  clear h hf hgl hql hl hM1 hms hc
  go_enter Tryz.func41, Tryz.ntmps41
  go_wp2_with fail
  refine hpt.mono ?_
  rintro e w2 ⟨x, rfl, hN⟩
  rw [← hw1] at hN
  obtain ⟨AX, CX, rfl⟩ := bs_form hN.bs
  have HW2 : Hid (WrF w2 base g q l) := WrF.below HW1.out hN.below
  have HP2 : Hid (Put g q w w2 q) := HP1.out.trans (Put.below hN.below)
  have hbs := hN.bs
  have hat := hN.at
  have HL2 : Hid (l.length ≤ 1000) := HL1.out
  have hx : (textB (cfgB f.cver f.mems)).length ≤ (cfgB f.cver f.mems).length + 10 := by
    unfold textB
    have := numB_len ((cfgB f.cver f.mems).length : Int) (by omega) (by omega)
    rw [List.length_append]; omega
  have ht := rfWBytes_any HW2.out hbs (by omega) (by have := HL2.out; omega)
  clear hpt hN hw1 HW1 HP1 HO1 HL1 hbs hat hcl hx
  go_wp2_with fail
  refine ht.mono ?_
  rintro e w3 ⟨rfl, q3, hW, hP⟩
  have HW3 : Hid (WrF w3 base g q3 (l ++ textB (cfgB f.cver f.mems))) := hW
  have HP3 : Hid (Put g q w w3 q3) := HP2.out.trans hP
  clear ht hW hP HW2 HP2
  go_wp2
  go_end0
  exact ⟨rfl, q3, HW3.out, HP3.out⟩
theorem rbody_any {w : World} {base g : Nat} {q : Option Nat} {l : List UInt8} (h : WrF w base g q l) (hg : base ≤ g) (hl : l.length ≤ 1000) (f : Fl) (ps : List Fl) (hf : DedFit f ps) (hfit : fitsB f ps = true) (A1 A2 A3 : Option Addr) (c1 c2 c3 : Nat) (hr : DRest w base f A1 c1 A2 c2) (hP : Prts w base (.slice A3 f.np c3) ps) :
    Calls Tryz.prog 41 #[.pointer (some ⟨g, 0, none⟩), .agg #[.int .i64 f.zxid, .int .u8 f.kind, .int .i64 f.session, .int .i64 f.turn, .int .i64 f.xid, .int .i64 f.time, .string (mkS f.path), .slice A1 f.data.length c1, .int .i64 f.owner, .int .i64 f.version, .int .i64 f.cversion, .int .i64 f.timeout, .int .i64 f.err, .int .i64 f.cver, .slice A2 f.mems.length c2, .slice A3 f.np c3]] w fun e w' => e = .returned (.tuple #[]) ∧ ∃ q', WrF w' base g q' (l ++ (bodyB f ++ tailB f ps)) ∧ Put g q w w' q' := by
  have hb : base ≤ w.heap.size := by obtain ⟨v, _, _, _, _, hb⟩ := h; exact hb
  by_cases hn : isNode f.kind = true
  · have hlf := (fits_com hfit).2 hn
    have e : tailB f ps = [] := by unfold tailB; rw [node_parts hn]; rfl
    rw [e, List.append_nil]
    exact rbody_leaf h hg (by omega) f hf.top hlf A1 A2 A3 c1 c2 c3 hr
  · have hk := fits_kind hfit
    have e1 : f.kind ≠ 1 := fun e => hn (by rw [e]; rfl)
    have e2 : f.kind ≠ 2 := fun e => hn (by rw [e]; rfl)
    have e3 : f.kind ≠ 3 := fun e => hn (by rw [e]; rfl)
    unfold bodyB tailB
    rcases hk with e | e | e | e | e | e | e | e | e
    · exact absurd e e1
    · exact absurd e e2
    · exact absurd e e3
    · have hp : hasParts f.kind = false := by rw [e]; rfl
      rw [hp]
      simp only [e, if_true, Int.reduceEq, if_false, Bool.false_eq_true, List.append_nil]
      exact rbody4 h hg (by omega) f hf.top A1 A2 A3 c1 c2 c3
    · have hp : hasParts f.kind = true := by rw [e]; rfl
      have hps := fits_parts hfit hp
      rw [hp]
      simp only [e, if_true, Int.reduceEq, if_false]
      exact rbody5 h hg hl f hf.top A1 A2 A3 c1 c2 c3 ps hP hps.1 (fun p hp => ⟨hf.all p hp, (hps.2 p hp).2.2⟩)
    · have hp : hasParts f.kind = false := by rw [e]; rfl
      rw [hp]
      simp only [e, Int.reduceEq, if_false, Bool.false_eq_true, List.append_nil]
      have h6 := rbody6 h hg (by omega) f hf.top A1 A2 A3 c1 c2 c3
      simp only [List.append_nil] at h6
      exact h6
    · have hp : hasParts f.kind = false := by rw [e]; rfl
      rw [hp]
      simp only [e, if_true, Int.reduceEq, if_false, Bool.false_eq_true, List.append_nil]
      exact rbody7 h hg hl f hf.top A1 A2 A3 c1 c2 c3 hb hr.ms (fits_cfg hfit e).2
    · have hp : hasParts f.kind = true := by rw [e]; rfl
      have hps := fits_parts hfit hp
      rw [hp]
      simp only [e, if_true, Int.reduceEq, if_false, List.nil_append]
      exact rbody8 h hg hl f hf.top A1 A2 A3 c1 c2 c3 ps hP hps.1 (fun p hp => ⟨hf.all p hp, (hps.2 p hp).2.2⟩)
    · have hp : hasParts f.kind = false := by rw [e]; rfl
      rw [hp]
      simp only [e, if_true, Int.reduceEq, if_false, Bool.false_eq_true, List.append_nil]
      exact rbody9 h hg (by omega) f hf.top A1 A2 A3 c1 c2 c3
end Go.Proofs.YtmfednhommbikaaGreatDoor.DD
/- The walk of the document's own Put. -/
namespace Go.Proofs.YtmfednhommbikaaGreatDoor.DD
set_option linter.unusedVariables false
open Go.RowKit
set_option linter.unusedVariables false

set_option maxRecDepth 100000 in
set_option maxHeartbeats 2000000 in
theorem rput_no (f : Fl) (ps : List Fl) (A1 A2 A3 : Option Addr) (c1 c2 c3 : Nat) (w : World) (hL : PA.Laid w) (hv : DVal w f ps A1 c1 A2 c2 A3 c3) (hf : DedFit f ps) (hl : f.np ≤ 9223372036854775807) (hr : rightD f ps = false) :
    Calls Tryz.prog 17 #[.agg #[.int .i64 f.zxid, .int .u8 f.kind, .int .i64 f.session, .int .i64 f.turn, .int .i64 f.xid, .int .i64 f.time, .string (mkS f.path), .slice A1 f.data.length c1, .int .i64 f.owner, .int .i64 f.version, .int .i64 f.cversion, .int .i64 f.timeout, .int .i64 f.err, .int .i64 f.cver, .slice A2 f.mems.length c2, .slice A3 f.np c3]] w fun e w' => e = .returned (.tuple #[.slice none 0 0, .int .i64 4]) ∧ Below w.heap.size w w' := by
  obtain ⟨w1, hw1⟩ : ∃ X, X = w.alloc (.cells #[.int .i64 f.zxid, .int .u8 f.kind, .int .i64 f.session, .int .i64 f.turn, .int .i64 f.xid, .int .i64 f.time, .string (mkS f.path), .slice A1 f.data.length c1, .int .i64 f.owner, .int .i64 f.version, .int .i64 f.cversion, .int .i64 f.timeout, .int .i64 f.err, .int .i64 f.cver, .slice A2 f.mems.length c2, .slice A3 f.np c3] 31) := ⟨_, rfl⟩
  have hB1 : Below w.heap.size w w1 := by rw [hw1]; exact (Below.refl _ _).alloc (Nat.le_refl _) _
  have HB1 : Hid (Below w.heap.size w w1) := hB1
  have hri := rright_any f ps A1 A2 A3 c1 c2 c3 w1 (hL.below hB1) (hv.grow hB1) hf hl
  rw [hr, hw1] at hri
  clear hB1 hL hv hf hr
  go_enter Tryz.func17, Tryz.ntmps17
  go_wp2_with fail
  refine hri.mono ?_
  rintro e w2 ⟨rfl, hB2⟩
  rw [← hw1] at hB2
  have HB2 : Hid (Below w.heap.size w w2) := HB1.out.trans (hB2.mono HB1.out.size)
  clear hri hB2 hw1
  go_wp2
  refine bodyPost_ret (v := .tuple #[.slice none 0 0, .int .i64 4]) (by simp [results, Tryz.results17, go_sem]) rfl ?_
  exact ⟨rfl, HB2.out⟩
set_option maxRecDepth 100000 in
set_option maxHeartbeats 4000000 in
theorem rput_yes (f : Fl) (ps : List Fl) (A1 A2 A3 : Option Addr) (c1 c2 c3 : Nat) (w : World) (hL : PA.Laid w) (hv : DVal w f ps A1 c1 A2 c2 A3 c3) (hf : DedFit f ps) (hl : f.np ≤ 9223372036854775807) (hr : rightD f ps = true) :
    Calls Tryz.prog 17 #[.agg #[.int .i64 f.zxid, .int .u8 f.kind, .int .i64 f.session, .int .i64 f.turn, .int .i64 f.xid, .int .i64 f.time, .string (mkS f.path), .slice A1 f.data.length c1, .int .i64 f.owner, .int .i64 f.version, .int .i64 f.cversion, .int .i64 f.timeout, .int .i64 f.err, .int .i64 f.cver, .slice A2 f.mems.length c2, .slice A3 f.np c3]] w fun e w' => ∃ x, e = .returned (.tuple #[x, .int .i64 0]) ∧ New w w' x (deedB f ps) := by
  have HFIT : Hid (fitsB f ps = true) := rightD_fits hr
  have HF : Hid (DedFit f ps) := hf
  have HV : Hid (DVal w f ps A1 c1 A2 c2 A3 c3) := hv
  obtain ⟨w1, hw1⟩ : ∃ X, X = w.alloc (.cells #[.int .i64 f.zxid, .int .u8 f.kind, .int .i64 f.session, .int .i64 f.turn, .int .i64 f.xid, .int .i64 f.time, .string (mkS f.path), .slice A1 f.data.length c1, .int .i64 f.owner, .int .i64 f.version, .int .i64 f.cversion, .int .i64 f.timeout, .int .i64 f.err, .int .i64 f.cver, .slice A2 f.mems.length c2, .slice A3 f.np c3] 31) := ⟨_, rfl⟩
  have hB1 : Below w.heap.size w w1 := by rw [hw1]; exact (Below.refl _ _).alloc (Nat.le_refl _) _
  have HB1 : Hid (Below w.heap.size w w1) := hB1
  have HC1 : Hid (w1.heap[w.heap.size]? = some (.cells #[.int .i64 f.zxid, .int .u8 f.kind, .int .i64 f.session, .int .i64 f.turn, .int .i64 f.xid, .int .i64 f.time, .string (mkS f.path), .slice A1 f.data.length c1, .int .i64 f.owner, .int .i64 f.version, .int .i64 f.cversion, .int .i64 f.timeout, .int .i64 f.err, .int .i64 f.cver, .slice A2 f.mems.length c2, .slice A3 f.np c3] 31 (0, 0))) := by rw [hw1]; exact heap_alloc_new w _
  have hri := rright_any f ps A1 A2 A3 c1 c2 c3 w1 (hL.below hB1) (hv.grow hB1) hf hl
  rw [hr, hw1] at hri
  clear hB1 hL hv hf hr
  go_enter Tryz.func17, Tryz.ntmps17
  go_wp2_with fail
  refine hri.mono ?_
  rintro e w2 ⟨rfl, hB2⟩
  rw [← hw1] at hB2
  have HB2 : Hid (Below w.heap.size w w2) := HB1.out.trans (hB2.mono HB1.out.size)
  have HC2 : Hid (w2.heap[w.heap.size]? = some (.cells #[.int .i64 f.zxid, .int .u8 f.kind, .int .i64 f.session, .int .i64 f.turn, .int .i64 f.xid, .int .i64 f.time, .string (mkS f.path), .slice A1 f.data.length c1, .int .i64 f.owner, .int .i64 f.version, .int .i64 f.cversion, .int .i64 f.timeout, .int .i64 f.err, .int .i64 f.cver, .slice A2 f.mems.length c2, .slice A3 f.np c3] 31 (0, 0))) := by show _ = _; rw [hB2.block _ (heap_lt HC1.out)]; exact HC1.out
  clear hri hB2 hw1 HB1 HC1
  have hnw := rfNewW_any w2 w.heap.size HB2.out.size
  go_wp2_with fail
  refine hnw.mono ?_
  rintro e w3 ⟨rfl, hW3, hB3, hs3⟩
  have HW3 : Hid (WrF w3 w.heap.size w2.heap.size none []) := hW3
  have hgg : w.heap.size ≤ w2.heap.size := HB2.out.size
  have HO3 : Hid (Own w3 w.heap.size (.cells #[.int .i64 f.zxid, .int .u8 f.kind, .int .i64 f.session, .int .i64 f.turn, .int .i64 f.xid, .int .i64 f.time, .string (mkS f.path), .slice A1 f.data.length c1, .int .i64 f.owner, .int .i64 f.version, .int .i64 f.cversion, .int .i64 f.timeout, .int .i64 f.err, .int .i64 f.cver, .slice A2 f.mems.length c2, .slice A3 f.np c3] 31 (0, 0)) w2.heap.size none) := ⟨by rw [hB3.block _ (heap_lt HC2.out)]; exact HC2.out, by have := heap_lt HC2.out; omega, by simp⟩
  have HB3 : Hid (Below w.heap.size w w3) := HB2.out.trans (hB3.mono HB2.out.size)
  clear hnw hW3 hB3 hs3 HB2 HC2
  generalize w2.heap.size = g at HW3 hgg HO3 ⊢
  clear w2
  have hfk := HF.out.top.kind
  have hwb := rfWByte_any HW3.out f.kind (u8 f.kind) (u8_back hfk).symm (by simp)
  obtain ⟨z0, z1, z2, z3, z4, z5, z6, z7, z8, z9, z10, z11, z12, z13, z14, z15⟩ := cells16 HO3.out.at'
  go_wp2_with fail
  refine hwb.mono ?_
  rintro e w4 ⟨rfl, q4, hW4, hP4⟩
  have HW4 : Hid (WrF w4 w.heap.size g q4 ([] ++ [u8 f.kind])) := hW4
  have HL4 : Hid (([] ++ [u8 f.kind]).length ≤ 1) := by show _ ≤ _; simp
  have HO4 : Hid (Own w4 w.heap.size (.cells #[.int .i64 f.zxid, .int .u8 f.kind, .int .i64 f.session, .int .i64 f.turn, .int .i64 f.xid, .int .i64 f.time, .string (mkS f.path), .slice A1 f.data.length c1, .int .i64 f.owner, .int .i64 f.version, .int .i64 f.cversion, .int .i64 f.timeout, .int .i64 f.err, .int .i64 f.cver, .slice A2 f.mems.length c2, .slice A3 f.np c3] 31 (0, 0)) g q4) := HO3.out.put hP4
  have HB4 : Hid (Below w.heap.size w w4) := HB3.out.trans (putF_below HW3.out hgg hP4)
  clear hwb hW4 hP4 HW3 HO3 HB3 z0 z1 z2 z3 z4 z5 z6 z7 z8 z9 z10 z11 z12 z13 z14 z15
  have hr := HF.out.top.zxid
  have hx := numB_len f.zxid hr.1 hr.2
  have ht := rfWInt_any HW4.out f.zxid hr.1 hr.2 (by have := HL4.out; omega)
  obtain ⟨z0, z1, z2, z3, z4, z5, z6, z7, z8, z9, z10, z11, z12, z13, z14, z15⟩ := cells16 HO4.out.at'
  go_wp2_with fail
  refine ht.mono ?_
  rintro e w5 ⟨rfl, q5, hW, hP⟩
  have HW5 : Hid (WrF w5 w.heap.size g q5 (([] ++ [u8 f.kind]) ++ numB f.zxid)) := hW
  have HL5 : Hid ((([] ++ [u8 f.kind]) ++ numB f.zxid).length ≤ 11) := by show _ ≤ _; rw [List.length_append]; have := HL4.out; omega
  have HO5 : Hid (Own w5 w.heap.size (.cells #[.int .i64 f.zxid, .int .u8 f.kind, .int .i64 f.session, .int .i64 f.turn, .int .i64 f.xid, .int .i64 f.time, .string (mkS f.path), .slice A1 f.data.length c1, .int .i64 f.owner, .int .i64 f.version, .int .i64 f.cversion, .int .i64 f.timeout, .int .i64 f.err, .int .i64 f.cver, .slice A2 f.mems.length c2, .slice A3 f.np c3] 31 (0, 0)) g q5) := HO4.out.put hP
  have HB5 : Hid (Below w.heap.size w w5) := HB4.out.trans (putF_below HW4.out hgg hP)
  clear ht hW hP hx hr HW4 HO4 HB4 HL4 z0 z1 z2 z3 z4 z5 z6 z7 z8 z9 z10 z11 z12 z13 z14 z15
  have hr := HF.out.top.session
  have hx := numB_len f.session hr.1 hr.2
  have ht := rfWInt_any HW5.out f.session hr.1 hr.2 (by have := HL5.out; omega)
  obtain ⟨z0, z1, z2, z3, z4, z5, z6, z7, z8, z9, z10, z11, z12, z13, z14, z15⟩ := cells16 HO5.out.at'
  go_wp2_with fail
  refine ht.mono ?_
  rintro e w6 ⟨rfl, q6, hW, hP⟩
  have HW6 : Hid (WrF w6 w.heap.size g q6 ((([] ++ [u8 f.kind]) ++ numB f.zxid) ++ numB f.session)) := hW
  have HL6 : Hid (((([] ++ [u8 f.kind]) ++ numB f.zxid) ++ numB f.session).length ≤ 21) := by show _ ≤ _; rw [List.length_append]; have := HL5.out; omega
  have HO6 : Hid (Own w6 w.heap.size (.cells #[.int .i64 f.zxid, .int .u8 f.kind, .int .i64 f.session, .int .i64 f.turn, .int .i64 f.xid, .int .i64 f.time, .string (mkS f.path), .slice A1 f.data.length c1, .int .i64 f.owner, .int .i64 f.version, .int .i64 f.cversion, .int .i64 f.timeout, .int .i64 f.err, .int .i64 f.cver, .slice A2 f.mems.length c2, .slice A3 f.np c3] 31 (0, 0)) g q6) := HO5.out.put hP
  have HB6 : Hid (Below w.heap.size w w6) := HB5.out.trans (putF_below HW5.out hgg hP)
  clear ht hW hP hx hr HW5 HO5 HB5 HL5 z0 z1 z2 z3 z4 z5 z6 z7 z8 z9 z10 z11 z12 z13 z14 z15
  have hr := HF.out.top.turn
  have hx := numB_len f.turn hr.1 hr.2
  have ht := rfWInt_any HW6.out f.turn hr.1 hr.2 (by have := HL6.out; omega)
  obtain ⟨z0, z1, z2, z3, z4, z5, z6, z7, z8, z9, z10, z11, z12, z13, z14, z15⟩ := cells16 HO6.out.at'
  go_wp2_with fail
  refine ht.mono ?_
  rintro e w7 ⟨rfl, q7, hW, hP⟩
  have HW7 : Hid (WrF w7 w.heap.size g q7 (((([] ++ [u8 f.kind]) ++ numB f.zxid) ++ numB f.session) ++ numB f.turn)) := hW
  have HL7 : Hid ((((([] ++ [u8 f.kind]) ++ numB f.zxid) ++ numB f.session) ++ numB f.turn).length ≤ 31) := by show _ ≤ _; rw [List.length_append]; have := HL6.out; omega
  have HO7 : Hid (Own w7 w.heap.size (.cells #[.int .i64 f.zxid, .int .u8 f.kind, .int .i64 f.session, .int .i64 f.turn, .int .i64 f.xid, .int .i64 f.time, .string (mkS f.path), .slice A1 f.data.length c1, .int .i64 f.owner, .int .i64 f.version, .int .i64 f.cversion, .int .i64 f.timeout, .int .i64 f.err, .int .i64 f.cver, .slice A2 f.mems.length c2, .slice A3 f.np c3] 31 (0, 0)) g q7) := HO6.out.put hP
  have HB7 : Hid (Below w.heap.size w w7) := HB6.out.trans (putF_below HW6.out hgg hP)
  clear ht hW hP hx hr HW6 HO6 HB6 HL6 z0 z1 z2 z3 z4 z5 z6 z7 z8 z9 z10 z11 z12 z13 z14 z15
  have hr := HF.out.top.xid
  have hx := numB_len f.xid hr.1 hr.2
  have ht := rfWInt_any HW7.out f.xid hr.1 hr.2 (by have := HL7.out; omega)
  obtain ⟨z0, z1, z2, z3, z4, z5, z6, z7, z8, z9, z10, z11, z12, z13, z14, z15⟩ := cells16 HO7.out.at'
  go_wp2_with fail
  refine ht.mono ?_
  rintro e w8 ⟨rfl, q8, hW, hP⟩
  have HW8 : Hid (WrF w8 w.heap.size g q8 ((((([] ++ [u8 f.kind]) ++ numB f.zxid) ++ numB f.session) ++ numB f.turn) ++ numB f.xid)) := hW
  have HL8 : Hid (((((([] ++ [u8 f.kind]) ++ numB f.zxid) ++ numB f.session) ++ numB f.turn) ++ numB f.xid).length ≤ 41) := by show _ ≤ _; rw [List.length_append]; have := HL7.out; omega
  have HO8 : Hid (Own w8 w.heap.size (.cells #[.int .i64 f.zxid, .int .u8 f.kind, .int .i64 f.session, .int .i64 f.turn, .int .i64 f.xid, .int .i64 f.time, .string (mkS f.path), .slice A1 f.data.length c1, .int .i64 f.owner, .int .i64 f.version, .int .i64 f.cversion, .int .i64 f.timeout, .int .i64 f.err, .int .i64 f.cver, .slice A2 f.mems.length c2, .slice A3 f.np c3] 31 (0, 0)) g q8) := HO7.out.put hP
  have HB8 : Hid (Below w.heap.size w w8) := HB7.out.trans (putF_below HW7.out hgg hP)
  clear ht hW hP hx hr HW7 HO7 HB7 HL7 z0 z1 z2 z3 z4 z5 z6 z7 z8 z9 z10 z11 z12 z13 z14 z15
  have hr := HF.out.top.time
  have hx := numB_len f.time hr.1 hr.2
  have ht := rfWInt_any HW8.out f.time hr.1 hr.2 (by have := HL8.out; omega)
  obtain ⟨z0, z1, z2, z3, z4, z5, z6, z7, z8, z9, z10, z11, z12, z13, z14, z15⟩ := cells16 HO8.out.at'
  go_wp2_with fail
  refine ht.mono ?_
  rintro e w9 ⟨rfl, q9, hW, hP⟩
  have HW9 : Hid (WrF w9 w.heap.size g q9 (((((([] ++ [u8 f.kind]) ++ numB f.zxid) ++ numB f.session) ++ numB f.turn) ++ numB f.xid) ++ numB f.time)) := hW
  have HL9 : Hid ((((((([] ++ [u8 f.kind]) ++ numB f.zxid) ++ numB f.session) ++ numB f.turn) ++ numB f.xid) ++ numB f.time).length ≤ 51) := by show _ ≤ _; rw [List.length_append]; have := HL8.out; omega
  have HO9 : Hid (Own w9 w.heap.size (.cells #[.int .i64 f.zxid, .int .u8 f.kind, .int .i64 f.session, .int .i64 f.turn, .int .i64 f.xid, .int .i64 f.time, .string (mkS f.path), .slice A1 f.data.length c1, .int .i64 f.owner, .int .i64 f.version, .int .i64 f.cversion, .int .i64 f.timeout, .int .i64 f.err, .int .i64 f.cver, .slice A2 f.mems.length c2, .slice A3 f.np c3] 31 (0, 0)) g q9) := HO8.out.put hP
  have HB9 : Hid (Below w.heap.size w w9) := HB8.out.trans (putF_below HW8.out hgg hP)
  clear ht hW hP hx hr HW8 HO8 HB8 HL8 z0 z1 z2 z3 z4 z5 z6 z7 z8 z9 z10 z11 z12 z13 z14 z15
  have HDR : Hid (DRest w9 w.heap.size f A1 c1 A2 c2 ∧ Prts w9 w.heap.size (.slice A3 f.np c3) ps) := by
    have hd : DRest w w.heap.size f A1 c1 A2 c2 := ⟨HV.out.bs, fun k hk => HV.out.bs.lt hk, HV.out.ms, fun k hk => HV.out.ms.lt hk⟩
    exact ⟨hd.below HB9.out, HV.out.pr.below HB9.out⟩
  have hpf := rbody_any HW9.out hgg (by have := HL9.out; omega) f ps HF.out HFIT.out A1 A2 A3 c1 c2 c3 HDR.out.1 HDR.out.2
  obtain ⟨z0, z1, z2, z3, z4, z5, z6, z7, z8, z9, z10, z11, z12, z13, z14, z15⟩ := cells16 HO9.out.at'
  go_wp2_with fail
  refine hpf.mono ?_
  rintro e w10 ⟨rfl, q10, hW10, hP10⟩
  have HB10 : Hid (Below w.heap.size w w10) := HB9.out.trans (putF_below HW9.out hgg hP10)
  have HW10 : Hid (WrF w10 w.heap.size g q10 (deedB f ps)) := by
    show WrF _ _ _ _ _
    unfold deedB
    simpa using hW10
  have HDL : Hid ((deedB f ps).length ≤ 700000) := deed_len HF.out HFIT.out
  clear hpf hW10 hP10 HDR HW9 HO9 HB9 HL9 z0 z1 z2 z3 z4 z5 z6 z7 z8 z9 z10 z11 z12 z13 z14 z15
  have hdn := rfWDone_any HW10.out (by have := HDL.out; omega)
  go_wp2_with fail
  refine hdn.mono ?_
  rintro e w11 ⟨x, rfl, hN⟩
  have HN : Hid (New w w11 x (deedB f ps)) := ⟨owns_base hN.owns HB10.out.size, HB10.out.trans (hN.below.mono HB10.out.size)⟩
  obtain ⟨AX, CX, rfl⟩ := bs_form hN.bs
  clear hdn hN
  go_wp2
  refine bodyPost_ret (v := .tuple #[.slice AX (deedB f ps).length CX, .int .i64 0]) (by simp [results, Tryz.results17, go_sem]) rfl ?_
  exact ⟨_, rfl, HN.out⟩
end Go.Proofs.YtmfednhommbikaaGreatDoor.DD
