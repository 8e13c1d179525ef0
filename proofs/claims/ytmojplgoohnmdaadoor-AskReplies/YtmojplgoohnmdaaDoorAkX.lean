/- The walk of PutAsk. -/
import Derived.Test.YtmojplgoohnmdaaDoorAkV
namespace Go.Proofs.YtmojplgoohnmdaaDoor.AK
set_option linter.unusedVariables false
open Go.RowKit
set_option linter.unusedVariables false

theorem nums3 (w : World) (a b c : Int) : NumsAt (w.alloc (.cells #[.int .i64 a, .int .i64 b, .int .i64 c] 2)) w.heap.size [a, b, c] := by
  intro j hj
  rw [cell_at (heap_alloc_new w _)]
  simp only [List.length_cons, List.length_nil] at hj
  obtain rfl | rfl | rfl : j = 0 ∨ j = 1 ∨ j = 2 := by omega
  all_goals rfl
theorem putInts_three {w : World} {base g : Nat} {q : Option Nat} {l : List UInt8} (h : WrAt w base g q l) (hg : base ≤ g) (hl : l.length ≤ 1000000) (a b c : Int) (ha : I64 a) (hb : I64 b) (hc : I64 c) :
    Calls Tryd.prog 28 #[.pointer (some ⟨g, 0, none⟩), .slice (some ⟨w.heap.size, 0, none⟩) 3 3] (w.alloc (.cells #[.int .i64 a, .int .i64 b, .int .i64 c] 2)) fun e w' => e = .returned (.tuple #[]) ∧ ∃ q', WrAt w' base g q' (l ++ (numB a ++ (numB b ++ numB c))) ∧ Put g q w w' q' := by
  have hB : Below w.heap.size w (w.alloc (.cells #[.int .i64 a, .int .i64 b, .int .i64 c] 2)) := (Below.refl _ _).alloc (Nat.le_refl _) _
  refine (putInts_any (WrAt.below h hB) hg hl (nums3 w a b c) (by simp) (by have := RowAt.lt h; omega) (fun e => by have := (RowAt.qlt h _ e).2; omega) (by simp) (fun n hn => by
    simp only [List.mem_cons, List.not_mem_nil, or_false] at hn
    rcases hn with rfl | rfl | rfl
    · exact ha
    · exact hb
    · exact hc)).mono ?_
  rintro e w' ⟨rfl, q', hW, hP⟩
  exact ⟨rfl, q', by simpa [numsB] using hW, (Put.below hB).trans hP⟩
theorem wOwn.base {w : World} {base base' n : Nat} {v : Value} {xs : List Value} (h : w.ownsRow base 5 1 v n xs) (hb : base' ≤ base) : w.ownsRow base' 5 1 v n xs := by
  refine ⟨h.1, ?_⟩
  rcases h.2 with h | ⟨b, cap, cur, hv, hbb, hb2, hr⟩
  · exact .inl h
  · exact .inr ⟨b, cap, cur, hv, by omega, hb2, hr⟩
set_option maxRecDepth 100000 in
set_option maxHeartbeats 2000000 in
theorem put_no (f : Qf) (ps : List Qf) (A1 A2 A3 : Option Addr) (c1 c2 c3 : Nat) (w : World) (hL : QL w) (hv : QVal w f ps A1 c1 A2 c2 A3 c3) (hf : AskFit f ps) (hl : f.np ≤ 9223372036854775807) (hr : rightQ f ps = false) :
    Calls Tryd.prog 9 #[.agg #[.int .u8 f.kind, .int .i64 f.xid, .int .i64 f.session, .int .i64 f.turn, .string (mkS f.path), .slice A1 f.data.length c1, .int .i64 f.flags, .int .i64 f.version, .bool f.watch, .int .u8 f.sort, .int .i64 f.last, .int .i64 f.timeout, .int .i64 f.frm, .slice A2 f.mems.length c2, .slice A3 f.np c3]] w fun e w' => e = .returned (.tuple #[.slice none 0 0, .int .i64 4]) ∧ Below w.heap.size w w' := by
  obtain ⟨w1, hw1⟩ : ∃ X, X = w.alloc (.cells #[.int .u8 f.kind, .int .i64 f.xid, .int .i64 f.session, .int .i64 f.turn, .string (mkS f.path), .slice A1 f.data.length c1, .int .i64 f.flags, .int .i64 f.version, .bool f.watch, .int .u8 f.sort, .int .i64 f.last, .int .i64 f.timeout, .int .i64 f.frm, .slice A2 f.mems.length c2, .slice A3 f.np c3] 29) := ⟨_, rfl⟩
  have hB1 : Below w.heap.size w w1 := by rw [hw1]; exact (Below.refl _ _).alloc (Nat.le_refl _) _
  have HB1 : Hid (Below w.heap.size w w1) := hB1
  have hri := right_any f ps A1 A2 A3 c1 c2 c3 w1 (hL.below hB1) (hv.grow hB1) hf hl
  rw [hr, hw1] at hri
  clear hB1 hL hv hf hr
  go_enter Tryd.func9, Tryd.ntmps9
  go_wp2_with fail
  refine hri.mono ?_
  rintro e w2 ⟨rfl, hB2⟩
  rw [← hw1] at hB2
  have HB2 : Hid (Below w.heap.size w w2) := HB1.out.trans (hB2.mono HB1.out.size)
  clear hri hB2 hw1
  go_wp2
  refine bodyPost_ret (v := .tuple #[.slice none 0 0, .int .i64 4]) (by simp [results, Tryd.results9, go_sem]) rfl ?_
  exact ⟨rfl, HB2.out⟩
set_option maxRecDepth 100000 in
set_option maxHeartbeats 4000000 in
theorem put_yes (f : Qf) (ps : List Qf) (A1 A2 A3 : Option Addr) (c1 c2 c3 : Nat) (w : World) (hL : QL w) (hv : QVal w f ps A1 c1 A2 c2 A3 c3) (hf : AskFit f ps) (hl : f.np ≤ 9223372036854775807) (hr : rightQ f ps = true) :
    Calls Tryd.prog 9 #[.agg #[.int .u8 f.kind, .int .i64 f.xid, .int .i64 f.session, .int .i64 f.turn, .string (mkS f.path), .slice A1 f.data.length c1, .int .i64 f.flags, .int .i64 f.version, .bool f.watch, .int .u8 f.sort, .int .i64 f.last, .int .i64 f.timeout, .int .i64 f.frm, .slice A2 f.mems.length c2, .slice A3 f.np c3]] w fun e w' => ∃ x, e = .returned (.tuple #[x, .int .i64 0]) ∧ New w w' x (askB f ps) := by
  have HR : Hid (rightQ f ps = true) := hr
  have HF : Hid (AskFit f ps) := hf
  have HV : Hid (QVal w f ps A1 c1 A2 c2 A3 c3) := hv
  have HL : Hid (QL w) := hL
  obtain ⟨w1, hw1⟩ : ∃ X, X = w.alloc (.cells #[.int .u8 f.kind, .int .i64 f.xid, .int .i64 f.session, .int .i64 f.turn, .string (mkS f.path), .slice A1 f.data.length c1, .int .i64 f.flags, .int .i64 f.version, .bool f.watch, .int .u8 f.sort, .int .i64 f.last, .int .i64 f.timeout, .int .i64 f.frm, .slice A2 f.mems.length c2, .slice A3 f.np c3] 29) := ⟨_, rfl⟩
  have hB1 : Below w.heap.size w w1 := by rw [hw1]; exact (Below.refl _ _).alloc (Nat.le_refl _) _
  have HB1 : Hid (Below w.heap.size w w1) := hB1
  have HC1 : Hid (w1.heap[w.heap.size]? = some (.cells #[.int .u8 f.kind, .int .i64 f.xid, .int .i64 f.session, .int .i64 f.turn, .string (mkS f.path), .slice A1 f.data.length c1, .int .i64 f.flags, .int .i64 f.version, .bool f.watch, .int .u8 f.sort, .int .i64 f.last, .int .i64 f.timeout, .int .i64 f.frm, .slice A2 f.mems.length c2, .slice A3 f.np c3] 29 (0, 0))) := by rw [hw1]; exact heap_alloc_new w _
  have hri := right_any f ps A1 A2 A3 c1 c2 c3 w1 (hL.below hB1) (hv.grow hB1) hf hl
  rw [hr, hw1] at hri
  clear hB1 hL hv hf hr
  go_enter Tryd.func9, Tryd.ntmps9
  go_wp2_with fail
  refine hri.mono ?_
  rintro e w2 ⟨rfl, hB2⟩
  rw [← hw1] at hB2
  have HB2 : Hid (Below w.heap.size w w2) := HB1.out.trans (hB2.mono HB1.out.size)
  have HC2 : Hid (w2.heap[w.heap.size]? = some (.cells #[.int .u8 f.kind, .int .i64 f.xid, .int .i64 f.session, .int .i64 f.turn, .string (mkS f.path), .slice A1 f.data.length c1, .int .i64 f.flags, .int .i64 f.version, .bool f.watch, .int .u8 f.sort, .int .i64 f.last, .int .i64 f.timeout, .int .i64 f.frm, .slice A2 f.mems.length c2, .slice A3 f.np c3] 29 (0, 0))) := by show _ = _; rw [hB2.block _ (heap_lt HC1.out)]; exact HC1.out
  clear hri hB2 hw1 HB1 HC1
  have hnw := newWriter_any w2 w.heap.size HB2.out.size
  go_wp2_with fail
  refine hnw.mono ?_
  rintro e w3 ⟨rfl, hW3, hB3, hs3⟩
  have HW3 : Hid (WrAt w3 w.heap.size w2.heap.size none []) := hW3
  have hgg : w.heap.size ≤ w2.heap.size := HB2.out.size
  have HO3 : Hid (Own w3 w.heap.size (.cells #[.int .u8 f.kind, .int .i64 f.xid, .int .i64 f.session, .int .i64 f.turn, .string (mkS f.path), .slice A1 f.data.length c1, .int .i64 f.flags, .int .i64 f.version, .bool f.watch, .int .u8 f.sort, .int .i64 f.last, .int .i64 f.timeout, .int .i64 f.frm, .slice A2 f.mems.length c2, .slice A3 f.np c3] 29 (0, 0)) w2.heap.size none) := ⟨by rw [hB3.block _ (heap_lt HC2.out)]; exact HC2.out, by have := heap_lt HC2.out; omega, by simp⟩
  have HB3 : Hid (Below w.heap.size w w3) := HB2.out.trans (hB3.mono HB2.out.size)
  clear hnw hW3 hB3 hs3 HB2 HC2
  generalize w2.heap.size = g at HW3 hgg HO3 ⊢
  clear w2
  have hwb := wByte_any HW3.out f.kind (u8 f.kind) (u8_back HF.out.top.kind).symm (by simp)
  obtain ⟨z0, z1, z2, z3, z4, z5, z6, z7, z8, z9, z10, z11, z12, z13, z14⟩ := cells15 HO3.out.at'
  go_wp2_with fail
  refine hwb.mono ?_
  rintro e w4 ⟨rfl, q4, hW4, hP4⟩
  have HW4 : Hid (WrAt w4 w.heap.size g q4 ([] ++ [u8 f.kind])) := hW4
  have HO4 : Hid (Own w4 w.heap.size (.cells #[.int .u8 f.kind, .int .i64 f.xid, .int .i64 f.session, .int .i64 f.turn, .string (mkS f.path), .slice A1 f.data.length c1, .int .i64 f.flags, .int .i64 f.version, .bool f.watch, .int .u8 f.sort, .int .i64 f.last, .int .i64 f.timeout, .int .i64 f.frm, .slice A2 f.mems.length c2, .slice A3 f.np c3] 29 (0, 0)) g q4) := HO3.out.put hP4
  have HB4 : Hid (Below w.heap.size w w4) := HB3.out.trans (put_below HW3.out hgg hP4)
  clear hwb hW4 hP4 HW3 HO3 HB3 z0 z1 z2 z3 z4 z5 z6 z7 z8 z9 z10 z11 z12 z13 z14
  obtain ⟨z0, z1, z2, z3, z4, z5, z6, z7, z8, z9, z10, z11, z12, z13, z14⟩ := cells15 HO4.out.at'
  have hp3 := putInts_three HW4.out hgg (by simp) f.xid f.session f.turn HF.out.top.xid HF.out.top.session HF.out.top.turn
  have n1 := numB_len HF.out.top.xid
  have n2 := numB_len HF.out.top.session
  have n3 := numB_len HF.out.top.turn
  as_aux_lemma =>
  go_wp2_with fail
  refine hp3.mono ?_
  rintro e w5 ⟨rfl, q5, hW5, hP5⟩
  have HW5 : Hid (WrAt w5 w.heap.size g q5 (([] ++ [u8 f.kind]) ++ (numB f.xid ++ (numB f.session ++ numB f.turn)))) := hW5
  have HL5 : Hid ((([] ++ [u8 f.kind]) ++ (numB f.xid ++ (numB f.session ++ numB f.turn))).length ≤ 31) := by show _ ≤ _; simp only [List.length_append, List.length_singleton, List.length_nil]; omega
  have HO5 : Hid (Own w5 w.heap.size (.cells #[.int .u8 f.kind, .int .i64 f.xid, .int .i64 f.session, .int .i64 f.turn, .string (mkS f.path), .slice A1 f.data.length c1, .int .i64 f.flags, .int .i64 f.version, .bool f.watch, .int .u8 f.sort, .int .i64 f.last, .int .i64 f.timeout, .int .i64 f.frm, .slice A2 f.mems.length c2, .slice A3 f.np c3] 29 (0, 0)) g q5) := HO4.out.put hP5
  have HB5 : Hid (Below w.heap.size w w5) := HB4.out.trans (put_below HW4.out hgg hP5)
  clear hp3 hW5 hP5 HW4 HO4 HB4 n1 n2 n3 z0 z1 z2 z3 z4 z5 z6 z7 z8 z9 z10 z11 z12 z13 z14
  obtain ⟨z0, z1, z2, z3, z4, z5, z6, z7, z8, z9, z10, z11, z12, z13, z14⟩ := cells15 HO5.out.at'
  have hdr : QRest w w.heap.size f A1 c1 A2 c2 := ⟨HV.out.bs, fun k hk => HV.out.bs.lt hk, HV.out.ms, fun k hk => HV.out.ms.lt hk⟩
  have hpf := putFields_any HW5.out hgg (by have := HL5.out; omega) f ps HF.out HR.out A1 A2 A3 c1 c2 c3 (HL.out.below HB5.out) HL.out.gt (hdr.below HB5.out) (HV.out.pr.below HB5.out)
  clear hdr
  as_aux_lemma =>
  go_wp2_with fail
  refine hpf.mono ?_
  rintro e w6 ⟨rfl, q6, hW6, hP6⟩
  have HB6 : Hid (Below w.heap.size w w6) := HB5.out.trans (put_below HW5.out hgg hP6)
  have HW6 : Hid (WrAt w6 w.heap.size g q6 (askB f ps)) := by
    show WrAt _ _ _ _ _
    unfold askB
    simpa using hW6
  have HDL : Hid ((askB f ps).length ≤ 30000) := askB_len HF.out HR.out
  clear hpf hW6 hP6 HW5 HO5 HB5 HL5 z0 z1 z2 z3 z4 z5 z6 z7 z8 z9 z10 z11 z12 z13 z14
  have hdn := wDone_any HW6.out (by have := HDL.out; omega)
  as_aux_lemma =>
  go_wp2_with fail
  refine hdn.mono ?_
  rintro e w7 ⟨x, rfl, hN⟩
  have HN : Hid (New w w7 x (askB f ps)) := ⟨wOwn.base hN.owns HB6.out.size, HB6.out.trans (hN.below.mono HB6.out.size)⟩
  obtain ⟨AX, CX, rfl⟩ := bs_form hN.bs
  clear hdn hN
  go_wp2
  refine bodyPost_ret (v := .tuple #[.slice AX (askB f ps).length CX, .int .i64 0]) (by simp [results, Tryd.results9, go_sem]) rfl ?_
  exact ⟨_, rfl, HN.out⟩
end Go.Proofs.YtmojplgoohnmdaaDoor.AK
