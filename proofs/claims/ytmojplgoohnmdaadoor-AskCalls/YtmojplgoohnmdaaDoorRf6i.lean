/- The walk of the document's PutAsk. -/
import Derived.Test.YtmojplgoohnmdaaDoorRf6h
import Derived.Test.YtmojplgoohnmdaaDoorRf6c
namespace Go.Proofs.YtmojplgoohnmdaaDoor.AK
set_option linter.unusedSimpArgs false
set_option linter.unusedVariables false
open Go.RowKit
set_option linter.unusedVariables false
set_option linter.unusedSimpArgs false

theorem rbody_any {w : World} {base g : Nat} {q : Option Nat} {l : List UInt8} (h : WrF w base g q l) (hg : base ≤ g) (hl : l.length ≤ 1000) (f : Qf) (ps : List Qf) (hf : AskFit f ps) (hr : rightQ f ps = true) (A1 A2 A3 : Option Addr) (c1 c2 c3 : Nat) (hd : QRest w base f A1 c1 A2 c2) (hP : QPrts w base (.slice A3 f.np c3) ps) :
    Calls Tryd.prog 34 #[.pointer (some ⟨g, 0, none⟩), .agg #[.int .u8 f.kind, .int .i64 f.xid, .int .i64 f.session, .int .i64 f.turn, .string (mkS f.path), .slice A1 f.data.length c1, .int .i64 f.flags, .int .i64 f.version, .bool f.watch, .int .u8 f.sort, .int .i64 f.last, .int .i64 f.timeout, .int .i64 f.frm, .slice A2 f.mems.length c2, .slice A3 f.np c3]] w fun e w' => e = .returned (.tuple #[]) ∧ ∃ q', WrF w' base g q' (l ++ (bodyQ f ++ tailQ f ps)) ∧ Put g q w w' q' := by
  obtain ⟨h11, _, _, _, hfit, hps⟩ := right_of hr
  have hfw := (fit_of hfit).2
  have hok : okQ f.kind = true := by
    rw [call_ok hf.top.kind.1] at h11
    simp only [Bool.and_eq_true] at h11
    exact h11.1
  by_cases e : f.kind = 11
  · have hb : bodyQ f = [] := by
      obtain ⟨b0, b1, b2, b3, b4, b5, b6, b7, b8, b9, b10, b11, b12⟩ := bits11
      unfold bodyQ; rw [e]; simp [oB, b0, b1, b2, b3, b4, b5, b6, b7, b8, b9]
    have ht : tailQ f ps = numB ps.length ++ prtsQ ps := by
      have h10 : has 11 10 = true := by decide +kernel
      unfold tailQ oB; rw [e, h10, if_pos rfl]
    rw [hb, ht, List.nil_append]
    exact rbodyMulti h hg (by omega) f hf.top hfw A1 A2 A3 c1 c2 c3 hd ps hP hf.len (fun p hp => ⟨hf.all p hp, hps p hp⟩) (by have := hf.len; have := hfw.np; omega) (fun w' => by rw [e]; exact rOf11c w')
  · have h10 : has f.kind 10 = false := by
      by_cases hbig : 15 ≤ f.kind
      · exact has_big hbig 10
      · have key : ∀ k : Fin 15, k.val ≠ 11 → has (k.val : Int) 10 = false := by decide +kernel
        have := key ⟨f.kind.toNat, by have := hf.top.kind; omega⟩ (by dsimp only; have := hf.top.kind; omega)
        dsimp only at this
        rwa [Int.toNat_of_nonneg hf.top.kind.1] at this
    have ht : tailQ f ps = [] := by unfold tailQ oB; rw [h10]; rfl
    rw [ht, List.append_nil]
    exact rbody_leaf h hg (by omega) f hf.top hfw A1 A2 A3 c1 c2 c3 hd hok e
set_option maxRecDepth 100000 in
set_option maxHeartbeats 2000000 in
theorem rput_no (f : Qf) (ps : List Qf) (A1 A2 A3 : Option Addr) (c1 c2 c3 : Nat) (w : World) (hv : QVal w f ps A1 c1 A2 c2 A3 c3) (hf : AskFit f ps) (hl : f.np ≤ 9223372036854775807) (hr : rightQ f ps = false) :
    Calls Tryd.prog 10 #[.agg #[.int .u8 f.kind, .int .i64 f.xid, .int .i64 f.session, .int .i64 f.turn, .string (mkS f.path), .slice A1 f.data.length c1, .int .i64 f.flags, .int .i64 f.version, .bool f.watch, .int .u8 f.sort, .int .i64 f.last, .int .i64 f.timeout, .int .i64 f.frm, .slice A2 f.mems.length c2, .slice A3 f.np c3]] w fun e w' => e = .returned (.tuple #[.slice none 0 0, .int .i64 4]) ∧ Below w.heap.size w w' := by
  obtain ⟨w1, hw1⟩ : ∃ X, X = w.alloc (.cells #[.int .u8 f.kind, .int .i64 f.xid, .int .i64 f.session, .int .i64 f.turn, .string (mkS f.path), .slice A1 f.data.length c1, .int .i64 f.flags, .int .i64 f.version, .bool f.watch, .int .u8 f.sort, .int .i64 f.last, .int .i64 f.timeout, .int .i64 f.frm, .slice A2 f.mems.length c2, .slice A3 f.np c3] 29) := ⟨_, rfl⟩
  have hB1 : Below w.heap.size w w1 := by rw [hw1]; exact (Below.refl _ _).alloc (Nat.le_refl _) _
  have HB1 : Hid (Below w.heap.size w w1) := hB1
  have hri := rright_any f ps A1 A2 A3 c1 c2 c3 w1 (hv.grow hB1) hf hl
  rw [docRight_eq hf, hr, hw1] at hri
  clear hB1 hv hf hr
  go_enter Tryd.func10, Tryd.ntmps10
  go_wp2_with fail
  refine hri.mono ?_
  rintro e w2 ⟨rfl, hB2⟩
  rw [← hw1] at hB2
  have HB2 : Hid (Below w.heap.size w w2) := HB1.out.trans (hB2.mono HB1.out.size)
  clear hri hB2 hw1
  go_wp2
  refine bodyPost_ret (v := .tuple #[.slice none 0 0, .int .i64 4]) (by simp [results, Tryd.results10, go_sem]) rfl ?_
  exact ⟨rfl, HB2.out⟩
set_option maxRecDepth 100000 in
set_option maxHeartbeats 4000000 in
theorem rput_yes (f : Qf) (ps : List Qf) (A1 A2 A3 : Option Addr) (c1 c2 c3 : Nat) (w : World) (hv : QVal w f ps A1 c1 A2 c2 A3 c3) (hf : AskFit f ps) (hl : f.np ≤ 9223372036854775807) (hr : rightQ f ps = true) :
    Calls Tryd.prog 10 #[.agg #[.int .u8 f.kind, .int .i64 f.xid, .int .i64 f.session, .int .i64 f.turn, .string (mkS f.path), .slice A1 f.data.length c1, .int .i64 f.flags, .int .i64 f.version, .bool f.watch, .int .u8 f.sort, .int .i64 f.last, .int .i64 f.timeout, .int .i64 f.frm, .slice A2 f.mems.length c2, .slice A3 f.np c3]] w fun e w' => ∃ x, e = .returned (.tuple #[x, .int .i64 0]) ∧ New w w' x (askB f ps) := by
  have HR : Hid (rightQ f ps = true) := hr
  have HF : Hid (AskFit f ps) := hf
  have HV : Hid (QVal w f ps A1 c1 A2 c2 A3 c3) := hv
  obtain ⟨w1, hw1⟩ : ∃ X, X = w.alloc (.cells #[.int .u8 f.kind, .int .i64 f.xid, .int .i64 f.session, .int .i64 f.turn, .string (mkS f.path), .slice A1 f.data.length c1, .int .i64 f.flags, .int .i64 f.version, .bool f.watch, .int .u8 f.sort, .int .i64 f.last, .int .i64 f.timeout, .int .i64 f.frm, .slice A2 f.mems.length c2, .slice A3 f.np c3] 29) := ⟨_, rfl⟩
  have hB1 : Below w.heap.size w w1 := by rw [hw1]; exact (Below.refl _ _).alloc (Nat.le_refl _) _
  have HB1 : Hid (Below w.heap.size w w1) := hB1
  have HC1 : Hid (w1.heap[w.heap.size]? = some (.cells #[.int .u8 f.kind, .int .i64 f.xid, .int .i64 f.session, .int .i64 f.turn, .string (mkS f.path), .slice A1 f.data.length c1, .int .i64 f.flags, .int .i64 f.version, .bool f.watch, .int .u8 f.sort, .int .i64 f.last, .int .i64 f.timeout, .int .i64 f.frm, .slice A2 f.mems.length c2, .slice A3 f.np c3] 29 (0, 0))) := by rw [hw1]; exact heap_alloc_new w _
  have hri := rright_any f ps A1 A2 A3 c1 c2 c3 w1 (hv.grow hB1) hf hl
  rw [docRight_eq hf, hr, hw1] at hri
  clear hB1 hv hf hr
  go_enter Tryd.func10, Tryd.ntmps10
  go_wp2_with fail
  refine hri.mono ?_
  rintro e w2 ⟨rfl, hB2⟩
  rw [← hw1] at hB2
  have HB2 : Hid (Below w.heap.size w w2) := HB1.out.trans (hB2.mono HB1.out.size)
  have HC2 : Hid (w2.heap[w.heap.size]? = some (.cells #[.int .u8 f.kind, .int .i64 f.xid, .int .i64 f.session, .int .i64 f.turn, .string (mkS f.path), .slice A1 f.data.length c1, .int .i64 f.flags, .int .i64 f.version, .bool f.watch, .int .u8 f.sort, .int .i64 f.last, .int .i64 f.timeout, .int .i64 f.frm, .slice A2 f.mems.length c2, .slice A3 f.np c3] 29 (0, 0))) := by show _ = _; rw [hB2.block _ (heap_lt HC1.out)]; exact HC1.out
  clear hri hB2 hw1 HB1 HC1 w1
  have hnw := rfNewW_any w2 w.heap.size HB2.out.size
  go_wp2_with fail
  refine hnw.mono ?_
  rintro e w3 ⟨rfl, hW3, hB3, hs3⟩
  have HW3 : Hid (WrF w3 w.heap.size w2.heap.size none []) := hW3
  have hgg : w.heap.size ≤ w2.heap.size := HB2.out.size
  have HO3 : Hid (Own w3 w.heap.size (.cells #[.int .u8 f.kind, .int .i64 f.xid, .int .i64 f.session, .int .i64 f.turn, .string (mkS f.path), .slice A1 f.data.length c1, .int .i64 f.flags, .int .i64 f.version, .bool f.watch, .int .u8 f.sort, .int .i64 f.last, .int .i64 f.timeout, .int .i64 f.frm, .slice A2 f.mems.length c2, .slice A3 f.np c3] 29 (0, 0)) w2.heap.size none) := ⟨by rw [hB3.block _ (heap_lt HC2.out)]; exact HC2.out, by have := heap_lt HC2.out; omega, by simp⟩
  have HB3 : Hid (Below w.heap.size w w3) := HB2.out.trans (hB3.mono HB2.out.size)
  clear hnw hW3 hB3 hs3 HB2 HC2
  generalize w2.heap.size = g at HW3 hgg HO3 ⊢
  clear w2
  have hc := rfWByte_any HW3.out f.kind (u8 f.kind) (u8_back HF.out.top.kind).symm (by simp)
  obtain ⟨z0, z1, z2, z3, z4, z5, z6, z7, z8, z9, z10, z11, z12, z13, z14⟩ := cells15 HO3.out.at'
  go_wp2_with fail
  refine hc.mono ?_
  rintro e w4 ⟨rfl, q4, hW, hP⟩
  have HW4 : Hid (WrF w4 w.heap.size g q4 (([]) ++ [u8 f.kind])) := hW
  have HO4 : Hid (Own w4 w.heap.size (.cells #[.int .u8 f.kind, .int .i64 f.xid, .int .i64 f.session, .int .i64 f.turn, .string (mkS f.path), .slice A1 f.data.length c1, .int .i64 f.flags, .int .i64 f.version, .bool f.watch, .int .u8 f.sort, .int .i64 f.last, .int .i64 f.timeout, .int .i64 f.frm, .slice A2 f.mems.length c2, .slice A3 f.np c3] 29 (0, 0)) g q4) := HO3.out.put hP
  have HB4 : Hid (Below w.heap.size w w4) := HB3.out.trans (putF_below HW3.out hgg hP)
  clear hc hW hP HW3 HO3 HB3 z0 z1 z2 z3 z4 z5 z6 z7 z8 z9 z10 z11 z12 z13 z14 w3
  have hc := rfWInt_any HW4.out f.xid HF.out.top.xid.1 HF.out.top.xid.2 (by have := numB_len HF.out.top.xid; have := numB_len HF.out.top.session; have := numB_len HF.out.top.turn; simp only [List.length_append, List.length_singleton, List.length_nil]; omega)
  obtain ⟨z0, z1, z2, z3, z4, z5, z6, z7, z8, z9, z10, z11, z12, z13, z14⟩ := cells15 HO4.out.at'
  go_wp2_with fail
  refine hc.mono ?_
  rintro e w5 ⟨rfl, q5, hW, hP⟩
  have HW5 : Hid (WrF w5 w.heap.size g q5 ((([]) ++ [u8 f.kind]) ++ numB f.xid)) := hW
  have HO5 : Hid (Own w5 w.heap.size (.cells #[.int .u8 f.kind, .int .i64 f.xid, .int .i64 f.session, .int .i64 f.turn, .string (mkS f.path), .slice A1 f.data.length c1, .int .i64 f.flags, .int .i64 f.version, .bool f.watch, .int .u8 f.sort, .int .i64 f.last, .int .i64 f.timeout, .int .i64 f.frm, .slice A2 f.mems.length c2, .slice A3 f.np c3] 29 (0, 0)) g q5) := HO4.out.put hP
  have HB5 : Hid (Below w.heap.size w w5) := HB4.out.trans (putF_below HW4.out hgg hP)
  clear hc hW hP HW4 HO4 HB4 z0 z1 z2 z3 z4 z5 z6 z7 z8 z9 z10 z11 z12 z13 z14 w4
  have hc := rfWInt_any HW5.out f.session HF.out.top.session.1 HF.out.top.session.2 (by have := numB_len HF.out.top.xid; have := numB_len HF.out.top.session; have := numB_len HF.out.top.turn; simp only [List.length_append, List.length_singleton, List.length_nil]; omega)
  obtain ⟨z0, z1, z2, z3, z4, z5, z6, z7, z8, z9, z10, z11, z12, z13, z14⟩ := cells15 HO5.out.at'
  go_wp2_with fail
  refine hc.mono ?_
  rintro e w6 ⟨rfl, q6, hW, hP⟩
  have HW6 : Hid (WrF w6 w.heap.size g q6 (((([]) ++ [u8 f.kind]) ++ numB f.xid) ++ numB f.session)) := hW
  have HO6 : Hid (Own w6 w.heap.size (.cells #[.int .u8 f.kind, .int .i64 f.xid, .int .i64 f.session, .int .i64 f.turn, .string (mkS f.path), .slice A1 f.data.length c1, .int .i64 f.flags, .int .i64 f.version, .bool f.watch, .int .u8 f.sort, .int .i64 f.last, .int .i64 f.timeout, .int .i64 f.frm, .slice A2 f.mems.length c2, .slice A3 f.np c3] 29 (0, 0)) g q6) := HO5.out.put hP
  have HB6 : Hid (Below w.heap.size w w6) := HB5.out.trans (putF_below HW5.out hgg hP)
  clear hc hW hP HW5 HO5 HB5 z0 z1 z2 z3 z4 z5 z6 z7 z8 z9 z10 z11 z12 z13 z14 w5
  have hc := rfWInt_any HW6.out f.turn HF.out.top.turn.1 HF.out.top.turn.2 (by have := numB_len HF.out.top.xid; have := numB_len HF.out.top.session; have := numB_len HF.out.top.turn; simp only [List.length_append, List.length_singleton, List.length_nil]; omega)
  obtain ⟨z0, z1, z2, z3, z4, z5, z6, z7, z8, z9, z10, z11, z12, z13, z14⟩ := cells15 HO6.out.at'
  go_wp2_with fail
  refine hc.mono ?_
  rintro e w7 ⟨rfl, q7, hW, hP⟩
  have HW7 : Hid (WrF w7 w.heap.size g q7 ((((([]) ++ [u8 f.kind]) ++ numB f.xid) ++ numB f.session) ++ numB f.turn)) := hW
  have HO7 : Hid (Own w7 w.heap.size (.cells #[.int .u8 f.kind, .int .i64 f.xid, .int .i64 f.session, .int .i64 f.turn, .string (mkS f.path), .slice A1 f.data.length c1, .int .i64 f.flags, .int .i64 f.version, .bool f.watch, .int .u8 f.sort, .int .i64 f.last, .int .i64 f.timeout, .int .i64 f.frm, .slice A2 f.mems.length c2, .slice A3 f.np c3] 29 (0, 0)) g q7) := HO6.out.put hP
  have HB7 : Hid (Below w.heap.size w w7) := HB6.out.trans (putF_below HW6.out hgg hP)
  clear hc hW hP HW6 HO6 HB6 z0 z1 z2 z3 z4 z5 z6 z7 z8 z9 z10 z11 z12 z13 z14 w6
  obtain ⟨z0, z1, z2, z3, z4, z5, z6, z7, z8, z9, z10, z11, z12, z13, z14⟩ := cells15 HO7.out.at'
  have hdr : QRest w w.heap.size f A1 c1 A2 c2 := ⟨HV.out.bs, fun k hk => HV.out.bs.lt hk, HV.out.ms, fun k hk => HV.out.ms.lt hk⟩
  have hc := rbody_any HW7.out hgg (by have := numB_len HF.out.top.xid; have := numB_len HF.out.top.session; have := numB_len HF.out.top.turn; simp only [List.length_append, List.length_singleton, List.length_nil]; omega) f ps HF.out HR.out A1 A2 A3 c1 c2 c3 (hdr.below HB7.out) (HV.out.pr.below HB7.out)
  clear hdr
  go_wp2_with fail
  refine hc.mono ?_
  rintro e w8 ⟨rfl, q8, hW, hP⟩
  have HB8 : Hid (Below w.heap.size w w8) := HB7.out.trans (putF_below HW7.out hgg hP)
  have HW8 : Hid (WrF w8 w.heap.size g q8 (askB f ps)) := by
    show WrF _ _ _ _ _
    unfold askB
    simpa using hW
  have HDL : Hid ((askB f ps).length ≤ 30000) := askB_len HF.out HR.out
  clear hc hW hP HW7 HO7 HB7 z0 z1 z2 z3 z4 z5 z6 z7 z8 z9 z10 z11 z12 z13 z14 w7
  have hdn := rfWDone_any HW8.out (by have := HDL.out; omega)
  go_wp2_with fail
  refine hdn.mono ?_
  rintro e w9 ⟨x, rfl, hN⟩
  have HN : Hid (New w w9 x (askB f ps)) := ⟨wOwn.base hN.owns HB8.out.size, HB8.out.trans (hN.below.mono HB8.out.size)⟩
  obtain ⟨AX, CX, rfl⟩ := bs_form hN.bs
  clear hdn hN
  go_wp2
  refine bodyPost_ret (v := .tuple #[.slice AX (askB f ps).length CX, .int .i64 0]) (by simp [results, Tryd.results10, go_sem]) rfl ?_
  exact ⟨_, rfl, HN.out⟩
end Go.Proofs.YtmojplgoohnmdaaDoor.AK
