/- The walk of the document's own RightReply, with parts. -/
import Derived.Test.YtmojplgoohnmdaaDoorRf6r
namespace Go.Proofs.YtmojplgoohnmdaaDoor.AK
set_option linter.unusedSimpArgs false
set_option linter.unusedVariables false
open Go.RowKit
set_option linter.unusedVariables false
set_option linter.unusedSimpArgs false

set_option maxRecDepth 100000 in
set_option maxHeartbeats 8000000 in
theorem rrR_any (f : Rf) (A1 A2 A3 A4 : Option Addr) (c1 c2 c3 c4 : Nat) (w : World) (hv : RVal w f A1 c1 A2 c2 A3 c3) (hl : RLen f) (hnl : f.np ≤ 9223372036854775807) (ps : List Rf) (hp : RPrts w w.heap.size (.slice A4 f.np c4) ps) (hn : f.np = ps.length) (hlp : ∀ p ∈ ps, RLen p ∧ p.np ≤ 9223372036854775807) :
    Calls Tryd.prog 43 #[.agg #[.int .u8 f.kind, .int .i64 f.xid, .int .i64 f.zxid, .int .i64 f.err, .int .i64 f.session, .int .i64 f.timeout, .string (mkS f.path), .slice A1 f.data.length c1, .int .i64 f.s0, .int .i64 f.s1, .int .i64 f.s2, .int .i64 f.s3, .int .i64 f.s4, .int .i64 f.s5, .int .i64 f.s6, .int .i64 f.s7, .int .i64 f.s8, .int .i64 f.s9, .slice A2 f.list.length c2, .int .i64 f.cver, .slice A3 f.cmems.length c3, .slice A4 f.np c4], .bool true] w fun e w' => e = .returned (.bool (rightR f ps)) ∧ Below w.heap.size w w' := by
  have HV : Hid (RVal w f A1 c1 A2 c2 A3 c3) := hv
  have HLN : Hid (RLen f) := hl
  generalize hU : (rightR f ps) = U
  have HU : Hid ((rightR f ps) = U) := hU
  have HT : Hid (U = true → FitR f) := by
    intro h
    rw [← hU] at h
    exact fitR_of (rightR_of h).1
  have HUF : Hid (U = true → fitR f = true) := by
    intro h
    rw [← hU] at h
    exact (rightR_of h).1
  have HP : Hid (RPrts w w.heap.size (.slice A4 f.np c4) ps) := hp
  have HN : Hid (f.np = ps.length) := hn
  have HLP : Hid (∀ p ∈ ps, RLen p ∧ p.np ≤ 9223372036854775807) := hlp
  clear hp hn hlp
  obtain ⟨w1, hw1⟩ : ∃ X, X = w.alloc (.cells #[.int .u8 f.kind, .int .i64 f.xid, .int .i64 f.zxid, .int .i64 f.err, .int .i64 f.session, .int .i64 f.timeout, .string (mkS f.path), .slice A1 f.data.length c1, .int .i64 f.s0, .int .i64 f.s1, .int .i64 f.s2, .int .i64 f.s3, .int .i64 f.s4, .int .i64 f.s5, .int .i64 f.s6, .int .i64 f.s7, .int .i64 f.s8, .int .i64 f.s9, .slice A2 f.list.length c2, .int .i64 f.cver, .slice A3 f.cmems.length c3, .slice A4 f.np c4] 43) := ⟨_, rfl⟩
  have hs1 : w1.heap.size = w.heap.size + 1 := by rw [hw1]; simp
  have hB1 : Below w.heap.size w w1 := by rw [hw1]; exact (Below.refl _ _).alloc (Nat.le_refl _) _
  obtain ⟨w2, hw2⟩ : ∃ X, X = w1.alloc (.cells #[.int .i64 f.s0, .int .i64 f.s1, .int .i64 f.s2, .int .i64 f.s3, .int .i64 f.s4, .int .i64 f.s5, .int .i64 f.s6, .int .i64 f.s7, .int .i64 f.s8, .int .i64 f.s9] 37) := ⟨_, rfl⟩
  have hB2 : Below w.heap.size w w2 := by rw [hw2]; exact hB1.alloc hB1.size _
  have HB2 : Hid (Below w.heap.size w w2) := hB2
  have HC2 : Hid (w2.heap[w.heap.size]? = some (.cells #[.int .u8 f.kind, .int .i64 f.xid, .int .i64 f.zxid, .int .i64 f.err, .int .i64 f.session, .int .i64 f.timeout, .string (mkS f.path), .slice A1 f.data.length c1, .int .i64 f.s0, .int .i64 f.s1, .int .i64 f.s2, .int .i64 f.s3, .int .i64 f.s4, .int .i64 f.s5, .int .i64 f.s6, .int .i64 f.s7, .int .i64 f.s8, .int .i64 f.s9, .slice A2 f.list.length c2, .int .i64 f.cver, .slice A3 f.cmems.length c3, .slice A4 f.np c4] 43 (0, 0))) := by
    show _ = _
    rw [hw2, Below.heap_alloc _ _ _ (by omega), hw1]; exact heap_alloc_new w _
  obtain ⟨z0, z1, z2, z3, z4, z5, z6, z7, z8, z9, z10, z11, z12, z13, z14, z15, z16, z17, z18, z19, z20, z21⟩ := cells22 HC2.out
  rw [hw2, hw1] at z0 z1 z2 z3 z4 z5 z6 z7 z8 z9 z10 z11 z12 z13 z14 z15 z16 z17 z18 z19 z20 z21
  have HB2' : Hid (Below w.heap.size w ((w.alloc (.cells #[.int .u8 f.kind, .int .i64 f.xid, .int .i64 f.zxid, .int .i64 f.err, .int .i64 f.session, .int .i64 f.timeout, .string (mkS f.path), .slice A1 f.data.length c1, .int .i64 f.s0, .int .i64 f.s1, .int .i64 f.s2, .int .i64 f.s3, .int .i64 f.s4, .int .i64 f.s5, .int .i64 f.s6, .int .i64 f.s7, .int .i64 f.s8, .int .i64 f.s9, .slice A2 f.list.length c2, .int .i64 f.cver, .slice A3 f.cmems.length c3, .slice A4 f.np c4] 43)).alloc (.cells #[.int .i64 f.s0, .int .i64 f.s1, .int .i64 f.s2, .int .i64 f.s3, .int .i64 f.s4, .int .i64 f.s5, .int .i64 f.s6, .int .i64 f.s7, .int .i64 f.s8, .int .i64 f.s9] 37))) := by rw [← hw1, ← hw2]; exact hB2
  have hpl := mkS_size f.path
  have hp1 := hl.path
  have hp2 := hl.data
  have hp3 := hl.list
  clear hU hv hl hB1 hB2 hs1
  by_cases c1 : 1 ≤ f.kind ∧ f.kind ≤ 14 ∧ 0 ≤ f.xid ∧ 0 ≤ f.zxid ∧ 0 ≤ f.err ∧ 0 ≤ f.session ∧ 0 ≤ f.timeout ∧ f.timeout ≤ 1000 ∧ f.path.length ≤ 220 ∧ f.data.length ≤ 1000
  case neg =>
    have hU : U = false := by
      cases hUU : U with
      | false => rfl
      | true =>
        have hh := HT.out hUU
        exact absurd ⟨by have := hh.k0; omega, hh.k1, hh.head _ (by simp [headR]), hh.head _ (by simp [headR]), hh.head _ (by simp [headR]), hh.head _ (by simp [headR]), hh.head _ (by simp [headR]), hh.timeout, hh.path, hh.data⟩ c1
    subst hU
    clear HU HT HV HLN HC2 hw1 hw2 HB2
    go_enter Tryd.func43, Tryd.ntmps43
    go_wp2
    all_goals (go_ret; exact ⟨rfl, HB2'.out⟩)
  by_cases c2 : 0 ≤ f.s0 ∧ 0 ≤ f.s1 ∧ 0 ≤ f.s2 ∧ 0 ≤ f.s3 ∧ 0 ≤ f.s4 ∧ 0 ≤ f.s5 ∧ 0 ≤ f.s6 ∧ 0 ≤ f.s7 ∧ 0 ≤ f.s8 ∧ 0 ≤ f.s9 ∧ f.list.length ≤ 500
  case neg =>
    have hU : U = false := by
      cases hUU : U with
      | false => rfl
      | true =>
        have hh := HT.out hUU
        exact absurd ⟨hh.stat _ (by simp [statR]), hh.stat _ (by simp [statR]), hh.stat _ (by simp [statR]), hh.stat _ (by simp [statR]), hh.stat _ (by simp [statR]), hh.stat _ (by simp [statR]), hh.stat _ (by simp [statR]), hh.stat _ (by simp [statR]), hh.stat _ (by simp [statR]), hh.stat _ (by simp [statR]), hh.ln⟩ c2
    subst hU
    obtain ⟨a1, a2, a3, a4, a5, a6, a7, a8, a9, a10⟩ := c1
    clear HU HT HV HLN HC2 hw1 hw2 HB2
    go_enter Tryd.func43, Tryd.ntmps43
    go_wp2
    all_goals (go_ret; exact ⟨rfl, HB2'.out⟩)
  have HC12 : Hid ((1 ≤ f.kind ∧ f.kind ≤ 14 ∧ 0 ≤ f.xid ∧ 0 ≤ f.zxid ∧ 0 ≤ f.err ∧ 0 ≤ f.session ∧ 0 ≤ f.timeout ∧ f.timeout ≤ 1000 ∧ f.path.length ≤ 220 ∧ f.data.length ≤ 1000) ∧ (0 ≤ f.s0 ∧ 0 ≤ f.s1 ∧ 0 ≤ f.s2 ∧ 0 ≤ f.s3 ∧ 0 ≤ f.s4 ∧ 0 ≤ f.s5 ∧ 0 ≤ f.s6 ∧ 0 ≤ f.s7 ∧ 0 ≤ f.s8 ∧ 0 ≤ f.s9 ∧ f.list.length ≤ 500)) := ⟨c1, c2⟩
  obtain ⟨a1, a2, a3, a4, a5, a6, a7, a8, a9, a10⟩ := c1
  obtain ⟨b1, b2, b3, b4, b5, b6, b7, b8, b9, b10, b11⟩ := c2
  go_enter Tryd.func43, Tryd.ntmps43
  go_wp2_with fail
  rw [← hw1, ← hw2]
  clear hw1 hw2 HB2' z0 z1 z2 z3 z4 z5 z6 z7 z8 z9 z10 z11 z12 z13 z14 z15 z16 z17 z18 z19 z20 z21
  go_loopw [6] (fun c wr => ∃ k : Nat, k ≤ f.list.length ∧ c = .int .i64 k ∧ ((f.list.take k).all fun t => decide (t.length ≤ 220)) = true ∧ wr = w2) (fun c _ => f.list.length - (intOf c).toNat)
  case atStart => exact ⟨0, by omega, rfl, rfl, rfl⟩
  case round =>
    obtain ⟨k, hk, rfl, ht, rfl⟩ := hrel
    have HT2 : Hid (((f.list.take k).all fun t => decide (t.length ≤ 220)) = true) := ht
    clear ht a1 a2 a3 a4 a5 a6 a7 a8 a9 a10 b1 b2 b3 b4 b5 b6 b7 b8 b9 b10
    obtain ⟨z0, z1, z2, z3, z4, z5, z6, z7, z8, z9, z10, z11, z12, z13, z14, z15, z16, z17, z18, z19, z20, z21⟩ := cells22 HC2.out
    clear z0 z1 z2 z3 z4 z5 z6 z7 z8 z9 z10 z11 z12 z13 z14 z15 z16 z17
    by_cases hlt : k < f.list.length
    · obtain ⟨bb, oo, hA2, hb, hcx⟩ := (HV.out.tx.below HB2.out (fun _ hk => HV.out.tx.lt hk)).at' k hlt
      have HS : Hid (((f.list.take (k + 1)).all fun t => decide (t.length ≤ 220)) = decide ((f.list[k]'hlt).length ≤ 220)) := by
        show _ = _
        rw [List.take_succ_eq_append_getElem hlt, List.all_append, HT2.out]; simp
      have HVV : Hid (¬ (f.list[k]'hlt).length ≤ 220 → U = false) := fun h => by
        cases hUU : U with
        | false => rfl
        | true => exact absurd ((HT.out hUU).ls _ (List.getElem_mem hlt)) h
      have hxl := HLN.out.texts _ (List.getElem_mem hlt)
      generalize (f.list[k]'hlt) = x at hcx HS HVV hxl
      have hms := mkS_size x
      rw [hA2] at z18
      clear hA2
      by_cases hx : x.length ≤ 220
      · have HS2 : Hid (((f.list.take (k + 1)).all fun t => decide (t.length ≤ 220)) = true) := HS.out.trans (decide_eq_true hx)
        go_wp2_with fail
        exact ⟨⟨k + 1, by omega, by go_num, HS2.out, by first | trivial | rfl⟩, by simp [intOf]; omega⟩
      · have hU := HVV.out hx
        subst hU
        go_wp2_with fail
        go_ret
        exact ⟨rfl, HB2.out⟩
    have hkn : k = f.list.length := by omega
    have HLS : Hid (∀ t ∈ f.list, t.length ≤ 220) := by
      intro t ht
      have h := HT2.out
      rw [hkn, List.take_length] at h
      simpa using List.all_eq_true.1 h t ht
    clear HT2 hkn
    have HFIT : Hid ((noneB f.cver f.cmems || decide (chk f.cver f.cmems = 0)) = fitR f) := by
      show _ = _
      obtain ⟨⟨q1, q2, q3, q4, q5, q6, q7, q8, q9, q10⟩, ⟨r1, r2, r3, r4, r5, r6, r7, r8, r9, r10, r11⟩⟩ := HC12.out
      have e1 : pos (headR f) = true := by unfold pos headR; simp [q3, q4, q5, q6, q7]
      have e2 : pos (statR f) = true := by unfold pos statR; simp [r1, r2, r3, r4, r5, r6, r7, r8, r9, r10]
      have e3 : listB f.list = true := by unfold listB; rw [decide_eq_true r11]; simpa using HLS.out
      unfold fitR
      rw [decide_eq_true (show 0 < f.kind by omega), decide_eq_true q2, e1, e2, decide_eq_true q8, decide_eq_true q9, decide_eq_true q10, e3]
      rfl
    have hno := rnone_any f.cver A3 f.cmems.length c3 f.cmems rfl wr
    have HCH : Hid (∀ w', Below w.heap.size w w' → Calls Tryd.prog 82 #[.agg #[.int .i64 f.cver, .slice A3 f.cmems.length c3]] w' fun e w'' => e = .returned (.int .i64 (chk f.cver f.cmems)) ∧ Below w'.heap.size w' w'') := fun w' hB => Go.Proofs.YtmojplgoohnmdaaDoor.rf4Check_any (HV.out.ms.below' hB) f.cver
    clear HC12
    generalize noneB f.cver f.cmems = Z4 at hno HFIT
    generalize chk f.cver f.cmems = Z5 at HCH HFIT
    go_wp2_with fail
    refine hno.mono ?_
    rintro e w3 ⟨rfl, hB3⟩
    have HB3 : Hid (Below w.heap.size w w3) := HB2.out.trans (hB3.mono HB2.out.size)
    have HC3 : Hid (w3.heap[w.heap.size]? = some (.cells #[.int .u8 f.kind, .int .i64 f.xid, .int .i64 f.zxid, .int .i64 f.err, .int .i64 f.session, .int .i64 f.timeout, .string (mkS f.path), .slice A1 f.data.length c1, .int .i64 f.s0, .int .i64 f.s1, .int .i64 f.s2, .int .i64 f.s3, .int .i64 f.s4, .int .i64 f.s5, .int .i64 f.s6, .int .i64 f.s7, .int .i64 f.s8, .int .i64 f.s9, .slice A2 f.list.length c2, .int .i64 f.cver, .slice A3 f.cmems.length c3, .slice A4 f.np c4] 43 (0, 0))) := by show _ = _; rw [hB3.block _ (heap_lt HC2.out)]; exact HC2.out
    clear hno hB3 HB2 HC2 z18 z19 z20 z21
    obtain ⟨z0, z1, z2, z3, z4, z5, z6, z7, z8, z9, z10, z11, z12, z13, z14, z15, z16, z17, z18, z19, z20, z21⟩ := cells22 HC3.out
    clear z0 z1 z2 z3 z4 z5 z6 z7 z8 z9 z10 z11 z12 z13 z14 z15 z16 z17
    cases Z4 with
    | true =>
      have HOK : Hid (fitR f = true) := HFIT.out.symm
      clear HFIT HCH
      by_cases e1 : f.np ≤ 16
      case neg =>
        have hU : U = false := by rw [← HU.out]; unfold rightR; rw [decide_eq_false e1]; simp
        subst hU
        have g1 : 16 < f.np := by omega
        clear e1
        go_wp2_with fail
        go_ret
        exact ⟨rfl, HB3.out⟩
      have HALL : Hid (ps.all partR = U) := by show _ = _; rw [← HU.out]; unfold rightR; rw [HOK.out, decide_eq_true e1]; rfl
      have g1 : ¬ 16 < f.np := by omega
      clear z18 z19 z20
      go_wp2_with fail
      clear z21 g1
      go_loopw [7] (fun c wr => ∃ k : Nat, k ≤ f.np ∧ c = .int .i64 k ∧ (ps.take k).all partR = true ∧ Below w.heap.size w wr ∧ wr.heap[w.heap.size]? = some (.cells #[.int .u8 f.kind, .int .i64 f.xid, .int .i64 f.zxid, .int .i64 f.err, .int .i64 f.session, .int .i64 f.timeout, .string (mkS f.path), .slice A1 f.data.length c1, .int .i64 f.s0, .int .i64 f.s1, .int .i64 f.s2, .int .i64 f.s3, .int .i64 f.s4, .int .i64 f.s5, .int .i64 f.s6, .int .i64 f.s7, .int .i64 f.s8, .int .i64 f.s9, .slice A2 f.list.length c2, .int .i64 f.cver, .slice A3 f.cmems.length c3, .slice A4 f.np c4] 43 (0, 0))) (fun c _ => f.np - (intOf c).toNat)
      case atStart => exact ⟨0, by omega, rfl, rfl, HB3.out, HC3.out⟩
      case round =>
        obtain ⟨k, hk, rfl, ht, hBr, hCr⟩ := hrel
        have HT3 : Hid ((ps.take k).all partR = true) := ht
        have HBr : Hid (Below w.heap.size w wr) := hBr
        have HCr : Hid (wr.heap[w.heap.size]? = some (.cells #[.int .u8 f.kind, .int .i64 f.xid, .int .i64 f.zxid, .int .i64 f.err, .int .i64 f.session, .int .i64 f.timeout, .string (mkS f.path), .slice A1 f.data.length c1, .int .i64 f.s0, .int .i64 f.s1, .int .i64 f.s2, .int .i64 f.s3, .int .i64 f.s4, .int .i64 f.s5, .int .i64 f.s6, .int .i64 f.s7, .int .i64 f.s8, .int .i64 f.s9, .slice A2 f.list.length c2, .int .i64 f.cver, .slice A3 f.cmems.length c3, .slice A4 f.np c4] 43 (0, 0))) := hCr
        clear ht hBr hCr HB3 HC3
        obtain ⟨z0, z1, z2, z3, z4, z5, z6, z7, z8, z9, z10, z11, z12, z13, z14, z15, z16, z17, z18, z19, z20, z21⟩ := cells22 HCr.out
        clear z0 z1 z2 z3 z4 z5 z6 z7 z8 z9 z10 z11 z12 z13 z14 z15 z16 z17 z18 z19 z20
        by_cases hlt : k < f.np
        · have hkl : k < ps.length := by have := HN.out; omega
          obtain ⟨bb, oo, hA4, -, -, B1, B2, B3, B4, d1, d2, d3, d4, hra, hrest⟩ := (HP.out.below HBr.out).at' k hkl
          have hlp := HLP.out _ (List.getElem_mem hkl)
          have HS : Hid ((ps.take (k + 1)).all partR = partR (ps[k]'hkl)) := all_takeR hkl HT3.out
          have HVV : Hid (partR (ps[k]'hkl) = false → U = false) := fun h => by rw [← HALL.out]; exact all_badR hkl h
          generalize (ps[k]'hkl) = p at hra hrest hlp HS HVV
          have hc := rrR_leaf p B1 B2 B3 B4 d1 d2 d3 d4 wr hrest.val hlp.1 hlp.2
          generalize partR p = V at hc HS HVV
          rw [hA4] at z21
          clear hA4 hrest hlp
          go_wp2_with (refine wpList_load_mid rfl 43 _ rfl bb (oo + k * 22) rfl [.int .u8 p.kind, .int .i64 p.xid, .int .i64 p.zxid, .int .i64 p.err, .int .i64 p.session, .int .i64 p.timeout, .string (mkS p.path), .slice B1 p.data.length d1, .int .i64 p.s0, .int .i64 p.s1, .int .i64 p.s2, .int .i64 p.s3, .int .i64 p.s4, .int .i64 p.s5, .int .i64 p.s6, .int .i64 p.s7, .int .i64 p.s8, .int .i64 p.s9, .slice B2 p.list.length d2, .int .i64 p.cver, .slice B3 p.cmems.length d3, .slice B4 p.np d4] _ hra Tryd.underlying43 rfl infoR ?_)
          refine hc.mono ?_
          rintro e w9 ⟨rfl, hB9⟩
          have HB9 : Hid (Below w.heap.size w w9) := HBr.out.trans (hB9.mono HBr.out.size)
          have HC9 : Hid (w9.heap[w.heap.size]? = some (.cells #[.int .u8 f.kind, .int .i64 f.xid, .int .i64 f.zxid, .int .i64 f.err, .int .i64 f.session, .int .i64 f.timeout, .string (mkS f.path), .slice A1 f.data.length c1, .int .i64 f.s0, .int .i64 f.s1, .int .i64 f.s2, .int .i64 f.s3, .int .i64 f.s4, .int .i64 f.s5, .int .i64 f.s6, .int .i64 f.s7, .int .i64 f.s8, .int .i64 f.s9, .slice A2 f.list.length c2, .int .i64 f.cver, .slice A3 f.cmems.length c3, .slice A4 f.np c4] 43 (0, 0))) := by show _ = _; rw [hB9.block _ (heap_lt HCr.out)]; exact HCr.out
          clear hc hB9 HBr HCr z21 hra
          cases V with
          | false =>
            have hU := HVV.out rfl
            subst hU
            go_wp2_with fail
            go_ret
            exact ⟨rfl, HB9.out⟩
          | true =>
            have HS2 : Hid ((ps.take (k + 1)).all partR = true) := HS.out
            go_wp2_with fail
            exact ⟨⟨k + 1, by omega, by go_num, HS2.out, HB9.out, HC9.out⟩, by simp [intOf]; omega⟩
        · have hkn : k = f.np := by omega
          have hU : U = true := by
            rw [← HALL.out, ← HT3.out, hkn, HN.out, List.take_length]
          subst hU
          go_wp2
          go_ret
          exact ⟨rfl, HBr.out⟩
    | false =>
      have hch := HCH.out w3 HB3.out
      have HFIT2 : Hid (decide (Z5 = 0) = fitR f) := HFIT.out
      clear HFIT HCH
      go_wp2_with fail
      refine hch.mono ?_
      rintro e w4 ⟨rfl, hB4⟩
      have HB4 : Hid (Below w.heap.size w w4) := HB3.out.trans (hB4.mono HB3.out.size)
      have HC4 : Hid (w4.heap[w.heap.size]? = some (.cells #[.int .u8 f.kind, .int .i64 f.xid, .int .i64 f.zxid, .int .i64 f.err, .int .i64 f.session, .int .i64 f.timeout, .string (mkS f.path), .slice A1 f.data.length c1, .int .i64 f.s0, .int .i64 f.s1, .int .i64 f.s2, .int .i64 f.s3, .int .i64 f.s4, .int .i64 f.s5, .int .i64 f.s6, .int .i64 f.s7, .int .i64 f.s8, .int .i64 f.s9, .slice A2 f.list.length c2, .int .i64 f.cver, .slice A3 f.cmems.length c3, .slice A4 f.np c4] 43 (0, 0))) := by show _ = _; rw [hB4.block _ (heap_lt HC3.out)]; exact HC3.out
      clear hch hB4 HB3 HC3 z18 z19 z20 z21
      obtain ⟨z0, z1, z2, z3, z4, z5, z6, z7, z8, z9, z10, z11, z12, z13, z14, z15, z16, z17, z18, z19, z20, z21⟩ := cells22 HC4.out
      clear z0 z1 z2 z3 z4 z5 z6 z7 z8 z9 z10 z11 z12 z13 z14 z15 z16 z17
      by_cases e5 : Z5 = 0
      · have HOK : Hid (fitR f = true) := by show _ = _; rw [← HFIT2.out, decide_eq_true e5]
        subst e5
        clear HFIT2
        by_cases e1 : f.np ≤ 16
        case neg =>
          have hU : U = false := by rw [← HU.out]; unfold rightR; rw [decide_eq_false e1]; simp
          subst hU
          have g1 : 16 < f.np := by omega
          clear e1
          go_wp2_with fail
          go_ret
          exact ⟨rfl, HB4.out⟩
        have HALL : Hid (ps.all partR = U) := by show _ = _; rw [← HU.out]; unfold rightR; rw [HOK.out, decide_eq_true e1]; rfl
        have g1 : ¬ 16 < f.np := by omega
        clear z18 z19 z20
        go_wp2_with fail
        clear z21 g1
        go_loopw [7] (fun c wr => ∃ k : Nat, k ≤ f.np ∧ c = .int .i64 k ∧ (ps.take k).all partR = true ∧ Below w.heap.size w wr ∧ wr.heap[w.heap.size]? = some (.cells #[.int .u8 f.kind, .int .i64 f.xid, .int .i64 f.zxid, .int .i64 f.err, .int .i64 f.session, .int .i64 f.timeout, .string (mkS f.path), .slice A1 f.data.length c1, .int .i64 f.s0, .int .i64 f.s1, .int .i64 f.s2, .int .i64 f.s3, .int .i64 f.s4, .int .i64 f.s5, .int .i64 f.s6, .int .i64 f.s7, .int .i64 f.s8, .int .i64 f.s9, .slice A2 f.list.length c2, .int .i64 f.cver, .slice A3 f.cmems.length c3, .slice A4 f.np c4] 43 (0, 0))) (fun c _ => f.np - (intOf c).toNat)
        case atStart => exact ⟨0, by omega, rfl, rfl, HB4.out, HC4.out⟩
        case round =>
          obtain ⟨k, hk, rfl, ht, hBr, hCr⟩ := hrel
          have HT3 : Hid ((ps.take k).all partR = true) := ht
          have HBr : Hid (Below w.heap.size w wr) := hBr
          have HCr : Hid (wr.heap[w.heap.size]? = some (.cells #[.int .u8 f.kind, .int .i64 f.xid, .int .i64 f.zxid, .int .i64 f.err, .int .i64 f.session, .int .i64 f.timeout, .string (mkS f.path), .slice A1 f.data.length c1, .int .i64 f.s0, .int .i64 f.s1, .int .i64 f.s2, .int .i64 f.s3, .int .i64 f.s4, .int .i64 f.s5, .int .i64 f.s6, .int .i64 f.s7, .int .i64 f.s8, .int .i64 f.s9, .slice A2 f.list.length c2, .int .i64 f.cver, .slice A3 f.cmems.length c3, .slice A4 f.np c4] 43 (0, 0))) := hCr
          clear ht hBr hCr HB4 HC4
          obtain ⟨z0, z1, z2, z3, z4, z5, z6, z7, z8, z9, z10, z11, z12, z13, z14, z15, z16, z17, z18, z19, z20, z21⟩ := cells22 HCr.out
          clear z0 z1 z2 z3 z4 z5 z6 z7 z8 z9 z10 z11 z12 z13 z14 z15 z16 z17 z18 z19 z20
          by_cases hlt : k < f.np
          · have hkl : k < ps.length := by have := HN.out; omega
            obtain ⟨bb, oo, hA4, -, -, B1, B2, B3, B4, d1, d2, d3, d4, hra, hrest⟩ := (HP.out.below HBr.out).at' k hkl
            have hlp := HLP.out _ (List.getElem_mem hkl)
            have HS : Hid ((ps.take (k + 1)).all partR = partR (ps[k]'hkl)) := all_takeR hkl HT3.out
            have HVV : Hid (partR (ps[k]'hkl) = false → U = false) := fun h => by rw [← HALL.out]; exact all_badR hkl h
            generalize (ps[k]'hkl) = p at hra hrest hlp HS HVV
            have hc := rrR_leaf p B1 B2 B3 B4 d1 d2 d3 d4 wr hrest.val hlp.1 hlp.2
            generalize partR p = V at hc HS HVV
            rw [hA4] at z21
            clear hA4 hrest hlp
            go_wp2_with (refine wpList_load_mid rfl 43 _ rfl bb (oo + k * 22) rfl [.int .u8 p.kind, .int .i64 p.xid, .int .i64 p.zxid, .int .i64 p.err, .int .i64 p.session, .int .i64 p.timeout, .string (mkS p.path), .slice B1 p.data.length d1, .int .i64 p.s0, .int .i64 p.s1, .int .i64 p.s2, .int .i64 p.s3, .int .i64 p.s4, .int .i64 p.s5, .int .i64 p.s6, .int .i64 p.s7, .int .i64 p.s8, .int .i64 p.s9, .slice B2 p.list.length d2, .int .i64 p.cver, .slice B3 p.cmems.length d3, .slice B4 p.np d4] _ hra Tryd.underlying43 rfl infoR ?_)
            refine hc.mono ?_
            rintro e w9 ⟨rfl, hB9⟩
            have HB9 : Hid (Below w.heap.size w w9) := HBr.out.trans (hB9.mono HBr.out.size)
            have HC9 : Hid (w9.heap[w.heap.size]? = some (.cells #[.int .u8 f.kind, .int .i64 f.xid, .int .i64 f.zxid, .int .i64 f.err, .int .i64 f.session, .int .i64 f.timeout, .string (mkS f.path), .slice A1 f.data.length c1, .int .i64 f.s0, .int .i64 f.s1, .int .i64 f.s2, .int .i64 f.s3, .int .i64 f.s4, .int .i64 f.s5, .int .i64 f.s6, .int .i64 f.s7, .int .i64 f.s8, .int .i64 f.s9, .slice A2 f.list.length c2, .int .i64 f.cver, .slice A3 f.cmems.length c3, .slice A4 f.np c4] 43 (0, 0))) := by show _ = _; rw [hB9.block _ (heap_lt HCr.out)]; exact HCr.out
            clear hc hB9 HBr HCr z21 hra
            cases V with
            | false =>
              have hU := HVV.out rfl
              subst hU
              go_wp2_with fail
              go_ret
              exact ⟨rfl, HB9.out⟩
            | true =>
              have HS2 : Hid ((ps.take (k + 1)).all partR = true) := HS.out
              go_wp2_with fail
              exact ⟨⟨k + 1, by omega, by go_num, HS2.out, HB9.out, HC9.out⟩, by simp [intOf]; omega⟩
          · have hkn : k = f.np := by omega
            have hU : U = true := by
              rw [← HALL.out, ← HT3.out, hkn, HN.out, List.take_length]
            subst hU
            go_wp2
            go_ret
            exact ⟨rfl, HBr.out⟩
      · have HOK : Hid (fitR f = false) := by show _ = _; rw [← HFIT2.out, decide_eq_false e5]
        have hU : U = false := by
          cases hUU : U with
          | false => rfl
          | true =>
            have h := HUF.out hUU
            rw [HOK.out] at h
            cases h
        subst hU
        have x5 : (Z5 != 0) = true := by simp [e5]
        clear e5
        go_wp2_with fail
        go_ret
        exact ⟨rfl, HB4.out⟩
end Go.Proofs.YtmojplgoohnmdaaDoor.AK
