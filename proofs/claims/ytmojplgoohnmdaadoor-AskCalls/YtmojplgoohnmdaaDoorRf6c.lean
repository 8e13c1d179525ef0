/- The walk of the document's own RightAsk. -/
import Derived.Test.YtmojplgoohnmdaaDoorRf6b
import Derived.Test.YtmojplgoohnmdaaDoorAkP
namespace Go.Proofs.YtmojplgoohnmdaaDoor.AK
set_option linter.unusedSimpArgs false
set_option linter.unusedVariables false
open Go.RowKit
set_option linter.unusedVariables false
set_option linter.unusedSimpArgs false

set_option maxRecDepth 100000 in
set_option maxHeartbeats 4000000 in
theorem rright_any (f : Qf) (ps : List Qf) (A1 A2 A3 : Option Addr) (c1 c2 c3 : Nat) (w : World) (hv : QVal w f ps A1 c1 A2 c2 A3 c3) (hf : AskFit f ps) (hl : f.np ≤ 9223372036854775807) :
    Calls Tryd.prog 12 #[.agg #[.int .u8 f.kind, .int .i64 f.xid, .int .i64 f.session, .int .i64 f.turn, .string (mkS f.path), .slice A1 f.data.length c1, .int .i64 f.flags, .int .i64 f.version, .bool f.watch, .int .u8 f.sort, .int .i64 f.last, .int .i64 f.timeout, .int .i64 f.frm, .slice A2 f.mems.length c2, .slice A3 f.np c3]] w fun e w' => e = .returned (.bool (docRight f ps)) ∧ Below w.heap.size w w' := by
  have HF : Hid (AskFit f ps) := hf
  have HPR : Hid (QPrts w w.heap.size (.slice A3 f.np c3) ps) := hv.pr
  have HN : Hid (f.np = ps.length) := hf.len
  obtain ⟨w1, hw1⟩ : ∃ X, X = w.alloc (.cells #[.int .u8 f.kind, .int .i64 f.xid, .int .i64 f.session, .int .i64 f.turn, .string (mkS f.path), .slice A1 f.data.length c1, .int .i64 f.flags, .int .i64 f.version, .bool f.watch, .int .u8 f.sort, .int .i64 f.last, .int .i64 f.timeout, .int .i64 f.frm, .slice A2 f.mems.length c2, .slice A3 f.np c3] 29) := ⟨_, rfl⟩
  have hB1 : Below w.heap.size w w1 := by rw [hw1]; exact (Below.refl _ _).alloc (Nat.le_refl _) _
  have HB1 : Hid (Below w.heap.size w w1) := hB1
  have HC1 : Hid (w1.heap[w.heap.size]? = some (.cells #[.int .u8 f.kind, .int .i64 f.xid, .int .i64 f.session, .int .i64 f.turn, .string (mkS f.path), .slice A1 f.data.length c1, .int .i64 f.flags, .int .i64 f.version, .bool f.watch, .int .u8 f.sort, .int .i64 f.last, .int .i64 f.timeout, .int .i64 f.frm, .slice A2 f.mems.length c2, .slice A3 f.np c3] 29 (0, 0))) := by rw [hw1]; exact heap_alloc_new w _
  have hft := rfits_any f A1 A2 A3 c1 c2 c3 w1 hf.top.kind.1
  rw [hw1] at hft
  generalize hU : docRight f ps = U
  have HU : Hid (((docFit f && (!decide (f.kind = 6) && (decide (0 ≤ f.xid) && (decide (0 ≤ f.session) && decide (0 ≤ f.turn))))) && ((!decide (f.kind = 11) || (decide (1 ≤ f.np) && decide (f.np ≤ 16))) && ps.all docPart)) = U) := hU
  clear hU hv hf hB1
  generalize docFit f = D at hft HU
  go_enter Tryd.func12, Tryd.ntmps12
  go_wp2_with fail
  refine hft.mono ?_
  rintro e w2 ⟨rfl, hB2⟩
  rw [← hw1] at hB2
  have HB2 : Hid (Below w.heap.size w w2) := HB1.out.trans (hB2.mono HB1.out.size)
  have HC2 : Hid (w2.heap[w.heap.size]? = some (.cells #[.int .u8 f.kind, .int .i64 f.xid, .int .i64 f.session, .int .i64 f.turn, .string (mkS f.path), .slice A1 f.data.length c1, .int .i64 f.flags, .int .i64 f.version, .bool f.watch, .int .u8 f.sort, .int .i64 f.last, .int .i64 f.timeout, .int .i64 f.frm, .slice A2 f.mems.length c2, .slice A3 f.np c3] 29 (0, 0))) := by show _ = _; rw [hB2.block _ (heap_lt HC1.out)]; exact HC1.out
  clear hft hB2 hw1 HB1 HC1 w1
  obtain ⟨z0, z1, z2, z3, z4, z5, z6, z7, z8, z9, z10, z11, z12, z13, z14⟩ := cells15 HC2.out
  cases D with
  | false =>
    have hU : U = false := HU.out.symm
    subst hU
    as_aux_lemma =>
    go_wp2_with fail
    go_ret
    exact ⟨rfl, HB2.out⟩
  | true =>
  by_cases k6 : f.kind = 6
  · have hU : U = false := by rw [← HU.out, decide_eq_true k6]; rfl
    subst hU
    rw [k6] at z0
    as_aux_lemma =>
    go_wp2_with fail
    go_ret
    exact ⟨rfl, HB2.out⟩
  have q6 := (nebQ _ _ k6).1
  by_cases hx : 0 ≤ f.xid
  case neg =>
    have hU : U = false := by rw [← HU.out, decide_eq_false hx]; simp
    subst hU
    as_aux_lemma =>
    go_wp2_with fail
    go_ret
    exact ⟨rfl, HB2.out⟩
  by_cases hs : 0 ≤ f.session
  case neg =>
    have hU : U = false := by rw [← HU.out, decide_eq_false hs]; simp
    subst hU
    as_aux_lemma =>
    go_wp2_with fail
    go_ret
    exact ⟨rfl, HB2.out⟩
  by_cases ht : 0 ≤ f.turn
  case neg =>
    have hU : U = false := by rw [← HU.out, decide_eq_false ht]; simp
    subst hU
    as_aux_lemma =>
    go_wp2_with fail
    go_ret
    exact ⟨rfl, HB2.out⟩
  have HU2 : Hid (((!decide (f.kind = 11) || (decide (1 ≤ f.np) && decide (f.np ≤ 16))) && ps.all docPart) = U) := by
    show _ = _
    rw [← HU.out, decide_eq_false k6, decide_eq_true hx, decide_eq_true hs, decide_eq_true ht]; simp
  clear HU
  have key : (f.kind = 11 ∧ ¬ (1 ≤ f.np ∧ f.np ≤ 16)) ∨ (ps.all docPart = U ∧ (f.kind ≠ 11 ∨ (1 ≤ f.np ∧ f.np ≤ 16))) := by
    have h := HU2.out
    by_cases k11 : f.kind = 11
    · by_cases kn : 1 ≤ f.np ∧ f.np ≤ 16
      · right
        refine ⟨?_, .inr kn⟩
        rw [← h, decide_eq_true k11, decide_eq_true kn.1, decide_eq_true kn.2]; simp
      · exact .inl ⟨k11, kn⟩
    · right
      refine ⟨?_, .inl k11⟩
      rw [← h, decide_eq_false k11]; simp
  rcases key with ⟨k11, kn⟩ | ⟨hall, hok⟩
  · have hU : U = false := by
      rw [← HU2.out, decide_eq_true k11]
      have : (decide (1 ≤ f.np) && decide (f.np ≤ 16)) = false := by rw [Bool.and_eq_false_iff]; simp only [decide_eq_false_iff_not]; omega
      rw [this]; rfl
    subst hU
    clear HU2 HF HPR HN
    rw [k11] at z0 q6
    clear k11 k6
    by_cases n1 : f.np < 1
    · as_aux_lemma =>
      go_wp2_with fail
      go_ret
      exact ⟨rfl, HB2.out⟩
    · have n2 : 16 < f.np := by omega
      clear kn
      as_aux_lemma =>
      go_wp2_with fail
      go_ret
      exact ⟨rfl, HB2.out⟩
  have HALL : Hid (ps.all docPart = U) := hall
  clear HU2 hall
  by_cases k11 : f.kind = 11
  · have hok' : 1 ≤ f.np ∧ f.np ≤ 16 := by rcases hok with h | h; exact absurd k11 h; exact h
    obtain ⟨n1, n2⟩ := hok'
    have m1 : ¬ f.np < 1 := by omega
    have m2 : ¬ 16 < f.np := by omega
    rw [k11] at z0 q6
    clear hok n1 n2
    go_wp2_with fail
    go_loopw [3] (fun c wr => ∃ k : Nat, k ≤ f.np ∧ c = .int .i64 k ∧ (ps.take k).all docPart = true ∧ Below w.heap.size w wr ∧ wr.heap[w.heap.size]? = some (.cells #[.int .u8 f.kind, .int .i64 f.xid, .int .i64 f.session, .int .i64 f.turn, .string (mkS f.path), .slice A1 f.data.length c1, .int .i64 f.flags, .int .i64 f.version, .bool f.watch, .int .u8 f.sort, .int .i64 f.last, .int .i64 f.timeout, .int .i64 f.frm, .slice A2 f.mems.length c2, .slice A3 f.np c3] 29 (0, 0))) (fun c _ => f.np - (intOf c).toNat)
    case atStart => exact ⟨0, by omega, rfl, rfl, HB2.out, HC2.out⟩
    case round =>
      obtain ⟨k, hk, rfl, ht', hBr, hCr⟩ := hrel
      have HT : Hid ((ps.take k).all docPart = true) := ht'
      have HBr : Hid (Below w.heap.size w wr) := hBr
      have HCr : Hid (wr.heap[w.heap.size]? = some (.cells #[.int .u8 f.kind, .int .i64 f.xid, .int .i64 f.session, .int .i64 f.turn, .string (mkS f.path), .slice A1 f.data.length c1, .int .i64 f.flags, .int .i64 f.version, .bool f.watch, .int .u8 f.sort, .int .i64 f.last, .int .i64 f.timeout, .int .i64 f.frm, .slice A2 f.mems.length c2, .slice A3 f.np c3] 29 (0, 0))) := hCr
      clear ht' hBr hCr HB2 HC2 z0 z1 z2 z3 z4 z5 z6 z7 z8 z9 z10 z11 z12 z13 z14
      obtain ⟨z0, z1, z2, z3, z4, z5, z6, z7, z8, z9, z10, z11, z12, z13, z14⟩ := cells15 HCr.out
      clear z0 z1 z2 z3 z4 z5 z6 z7 z8 z9 z10 z11 z12 z13
      by_cases hlt : k < f.np
      · have hkl : k < ps.length := by have := HN.out; omega
        obtain ⟨bb, oo, rfl, -, -, B1, d1, B2, d2, B3, d3, hcl, -⟩ := (HPR.out.below HBr.out).at' k hkl
        have hfk := (HF.out.all _ (List.getElem_mem hkl)).kind
        have HS : Hid ((ps.take (k + 1)).all docPart = docPart (ps[k]'hkl)) := all_take hkl HT.out
        have HV : Hid (docPart (ps[k]'hkl) = false → U = false) := fun h => by rw [← HALL.out]; exact all_bad hkl h
        generalize (ps[k]'hkl) = p at hcl hfk HS HV
        obtain ⟨y0, y1, y2, y3, y4, y5, y6, y7, y8, y9, y10, y11, y12, y13, y14⟩ := hcl
        obtain ⟨w3, hw3⟩ : ∃ X, X = wr.alloc (.cells #[.int .u8 p.kind, .int .i64 p.xid, .int .i64 p.session, .int .i64 p.turn, .string (mkS p.path), .slice B1 p.data.length d1, .int .i64 p.flags, .int .i64 p.version, .bool p.watch, .int .u8 p.sort, .int .i64 p.last, .int .i64 p.timeout, .int .i64 p.frm, .slice B2 p.mems.length d2, .slice B3 p.np d3] 29) := ⟨_, rfl⟩
        have hB3 : Below wr.heap.size wr w3 := by rw [hw3]; exact (Below.refl _ _).alloc (Nat.le_refl _) _
        have HB3 : Hid (Below w.heap.size w w3) := HBr.out.trans (hB3.mono HBr.out.size)
        have HC3 : Hid (w3.heap[w.heap.size]? = some (.cells #[.int .u8 f.kind, .int .i64 f.xid, .int .i64 f.session, .int .i64 f.turn, .string (mkS f.path), .slice A1 f.data.length c1, .int .i64 f.flags, .int .i64 f.version, .bool f.watch, .int .u8 f.sort, .int .i64 f.last, .int .i64 f.timeout, .int .i64 f.frm, .slice A2 f.mems.length c2, .slice (some ⟨bb, oo, none⟩) f.np c3] 29 (0, 0))) := by show _ = _; rw [hB3.block _ (heap_lt HCr.out)]; exact HCr.out
        have HD3 : Hid (w3.heap[wr.heap.size]? = some (.cells #[.int .u8 p.kind, .int .i64 p.xid, .int .i64 p.session, .int .i64 p.turn, .string (mkS p.path), .slice B1 p.data.length d1, .int .i64 p.flags, .int .i64 p.version, .bool p.watch, .int .u8 p.sort, .int .i64 p.last, .int .i64 p.timeout, .int .i64 p.frm, .slice B2 p.mems.length d2, .slice B3 p.np d3] 29 (0, 0))) := by rw [hw3]; exact heap_alloc_new wr _
        have hfp := rfits_any p B1 B2 B3 d1 d2 d3 w3 hfk.1
        have HPD : Hid (docPart p = (docFit p && (decide (p.xid = 0) && (decide (p.session = 0) && (decide (p.turn = 0) && (decide (3 ≤ p.kind) && decide (p.kind ≤ 6))))))) := rfl
        generalize docFit p = D at hfp HPD
        rw [hw3] at hfp
        clear hB3
        as_aux_lemma =>
        go_wp2_with fail
        refine hfp.mono ?_
        rintro e w4 ⟨rfl, hB4⟩
        rw [← hw3] at hB4
        have HB4 : Hid (Below w.heap.size w w4) := HB3.out.trans (hB4.mono HB3.out.size)
        have HC4 : Hid (w4.heap[w.heap.size]? = some (.cells #[.int .u8 f.kind, .int .i64 f.xid, .int .i64 f.session, .int .i64 f.turn, .string (mkS f.path), .slice A1 f.data.length c1, .int .i64 f.flags, .int .i64 f.version, .bool f.watch, .int .u8 f.sort, .int .i64 f.last, .int .i64 f.timeout, .int .i64 f.frm, .slice A2 f.mems.length c2, .slice (some ⟨bb, oo, none⟩) f.np c3] 29 (0, 0))) := by show _ = _; rw [hB4.block _ (heap_lt HC3.out)]; exact HC3.out
        have HD4 : Hid (w4.heap[wr.heap.size]? = some (.cells #[.int .u8 p.kind, .int .i64 p.xid, .int .i64 p.session, .int .i64 p.turn, .string (mkS p.path), .slice B1 p.data.length d1, .int .i64 p.flags, .int .i64 p.version, .bool p.watch, .int .u8 p.sort, .int .i64 p.last, .int .i64 p.timeout, .int .i64 p.frm, .slice B2 p.mems.length d2, .slice B3 p.np d3] 29 (0, 0))) := by show _ = _; rw [hB4.block _ (heap_lt HD3.out)]; exact HD3.out
        clear hfp hB4 hw3 HB3 HC3 HD3 y0 y1 y2 y3 y4 y5 y6 y7 y8 y9 y10 y11 y12 y13 y14 z14 w3 HBr HCr
        obtain ⟨y0, y1, y2, y3, y4, y5, y6, y7, y8, y9, y10, y11, y12, y13, y14⟩ := cells15 HD4.out
        cases D with
        | false =>
          have hU : U = false := HV.out HPD.out
          subst hU
          as_aux_lemma =>
          go_wp2_with fail
          go_ret
          exact ⟨rfl, HB4.out⟩
        | true =>
        by_cases e1 : p.xid = 0
        case neg =>
          have hU : U = false := HV.out (by rw [HPD.out, decide_eq_false e1]; simp)
          subst hU
          have g1 := (nebQ _ _ e1).2
          as_aux_lemma =>
          go_wp2_with fail
          go_ret
          exact ⟨rfl, HB4.out⟩
        have g1 : (p.xid != 0) = false := by simp [e1]
        by_cases e2 : p.session = 0
        case neg =>
          have hU : U = false := HV.out (by rw [HPD.out, decide_eq_false e2]; simp)
          subst hU
          have g2 := (nebQ _ _ e2).2
          clear e1
          as_aux_lemma =>
          go_wp2_with fail
          go_ret
          exact ⟨rfl, HB4.out⟩
        have g2 : (p.session != 0) = false := by simp [e2]
        by_cases e3 : p.turn = 0
        case neg =>
          have hU : U = false := HV.out (by rw [HPD.out, decide_eq_false e3]; simp)
          subst hU
          have g3 := (nebQ _ _ e3).2
          clear e1 e2
          as_aux_lemma =>
          go_wp2_with fail
          go_ret
          exact ⟨rfl, HB4.out⟩
        have g3 : (p.turn != 0) = false := by simp [e3]
        by_cases e4 : 3 ≤ p.kind
        case neg =>
          have hU : U = false := HV.out (by rw [HPD.out, decide_eq_false e4]; simp)
          subst hU
          clear e1 e2 e3
          as_aux_lemma =>
          go_wp2_with fail
          go_ret
          exact ⟨rfl, HB4.out⟩
        by_cases e5 : p.kind ≤ 6
        case neg =>
          have hU : U = false := HV.out (by rw [HPD.out, decide_eq_false e5]; simp)
          subst hU
          clear e1 e2 e3
          as_aux_lemma =>
          go_wp2_with fail
          go_ret
          exact ⟨rfl, HB4.out⟩
        have HS2 : Hid ((ps.take (k + 1)).all docPart = true) := HS.out.trans (by rw [HPD.out, decide_eq_true e1, decide_eq_true e2, decide_eq_true e3, decide_eq_true e4, decide_eq_true e5]; rfl)
        clear e1 e2 e3
        as_aux_lemma =>
        go_wp2_with fail
        exact ⟨⟨k + 1, by omega, by go_num, HS2.out, HB4.out, HC4.out⟩, by simp [intOf]; omega⟩
      · have hkn : k = f.np := by omega
        have hU : U = true := by
          rw [← HALL.out, ← HT.out, hkn, HN.out, List.take_length]
        subst hU
        go_wp2
        go_ret
        exact ⟨rfl, HBr.out⟩
  · have q11 := (nebQ _ _ k11).1
    clear hok
    go_wp2_with fail
    go_loopw [3] (fun c wr => ∃ k : Nat, k ≤ f.np ∧ c = .int .i64 k ∧ (ps.take k).all docPart = true ∧ Below w.heap.size w wr ∧ wr.heap[w.heap.size]? = some (.cells #[.int .u8 f.kind, .int .i64 f.xid, .int .i64 f.session, .int .i64 f.turn, .string (mkS f.path), .slice A1 f.data.length c1, .int .i64 f.flags, .int .i64 f.version, .bool f.watch, .int .u8 f.sort, .int .i64 f.last, .int .i64 f.timeout, .int .i64 f.frm, .slice A2 f.mems.length c2, .slice A3 f.np c3] 29 (0, 0))) (fun c _ => f.np - (intOf c).toNat)
    case atStart => exact ⟨0, by omega, rfl, rfl, HB2.out, HC2.out⟩
    case round =>
      obtain ⟨k, hk, rfl, ht', hBr, hCr⟩ := hrel
      have HT : Hid ((ps.take k).all docPart = true) := ht'
      have HBr : Hid (Below w.heap.size w wr) := hBr
      have HCr : Hid (wr.heap[w.heap.size]? = some (.cells #[.int .u8 f.kind, .int .i64 f.xid, .int .i64 f.session, .int .i64 f.turn, .string (mkS f.path), .slice A1 f.data.length c1, .int .i64 f.flags, .int .i64 f.version, .bool f.watch, .int .u8 f.sort, .int .i64 f.last, .int .i64 f.timeout, .int .i64 f.frm, .slice A2 f.mems.length c2, .slice A3 f.np c3] 29 (0, 0))) := hCr
      clear ht' hBr hCr HB2 HC2 z0 z1 z2 z3 z4 z5 z6 z7 z8 z9 z10 z11 z12 z13 z14
      obtain ⟨z0, z1, z2, z3, z4, z5, z6, z7, z8, z9, z10, z11, z12, z13, z14⟩ := cells15 HCr.out
      clear z0 z1 z2 z3 z4 z5 z6 z7 z8 z9 z10 z11 z12 z13
      by_cases hlt : k < f.np
      · have hkl : k < ps.length := by have := HN.out; omega
        obtain ⟨bb, oo, rfl, -, -, B1, d1, B2, d2, B3, d3, hcl, -⟩ := (HPR.out.below HBr.out).at' k hkl
        have hfk := (HF.out.all _ (List.getElem_mem hkl)).kind
        have HS : Hid ((ps.take (k + 1)).all docPart = docPart (ps[k]'hkl)) := all_take hkl HT.out
        have HV : Hid (docPart (ps[k]'hkl) = false → U = false) := fun h => by rw [← HALL.out]; exact all_bad hkl h
        generalize (ps[k]'hkl) = p at hcl hfk HS HV
        obtain ⟨y0, y1, y2, y3, y4, y5, y6, y7, y8, y9, y10, y11, y12, y13, y14⟩ := hcl
        obtain ⟨w3, hw3⟩ : ∃ X, X = wr.alloc (.cells #[.int .u8 p.kind, .int .i64 p.xid, .int .i64 p.session, .int .i64 p.turn, .string (mkS p.path), .slice B1 p.data.length d1, .int .i64 p.flags, .int .i64 p.version, .bool p.watch, .int .u8 p.sort, .int .i64 p.last, .int .i64 p.timeout, .int .i64 p.frm, .slice B2 p.mems.length d2, .slice B3 p.np d3] 29) := ⟨_, rfl⟩
        have hB3 : Below wr.heap.size wr w3 := by rw [hw3]; exact (Below.refl _ _).alloc (Nat.le_refl _) _
        have HB3 : Hid (Below w.heap.size w w3) := HBr.out.trans (hB3.mono HBr.out.size)
        have HC3 : Hid (w3.heap[w.heap.size]? = some (.cells #[.int .u8 f.kind, .int .i64 f.xid, .int .i64 f.session, .int .i64 f.turn, .string (mkS f.path), .slice A1 f.data.length c1, .int .i64 f.flags, .int .i64 f.version, .bool f.watch, .int .u8 f.sort, .int .i64 f.last, .int .i64 f.timeout, .int .i64 f.frm, .slice A2 f.mems.length c2, .slice (some ⟨bb, oo, none⟩) f.np c3] 29 (0, 0))) := by show _ = _; rw [hB3.block _ (heap_lt HCr.out)]; exact HCr.out
        have HD3 : Hid (w3.heap[wr.heap.size]? = some (.cells #[.int .u8 p.kind, .int .i64 p.xid, .int .i64 p.session, .int .i64 p.turn, .string (mkS p.path), .slice B1 p.data.length d1, .int .i64 p.flags, .int .i64 p.version, .bool p.watch, .int .u8 p.sort, .int .i64 p.last, .int .i64 p.timeout, .int .i64 p.frm, .slice B2 p.mems.length d2, .slice B3 p.np d3] 29 (0, 0))) := by rw [hw3]; exact heap_alloc_new wr _
        have hfp := rfits_any p B1 B2 B3 d1 d2 d3 w3 hfk.1
        have HPD : Hid (docPart p = (docFit p && (decide (p.xid = 0) && (decide (p.session = 0) && (decide (p.turn = 0) && (decide (3 ≤ p.kind) && decide (p.kind ≤ 6))))))) := rfl
        generalize docFit p = D at hfp HPD
        rw [hw3] at hfp
        clear hB3
        as_aux_lemma =>
        go_wp2_with fail
        refine hfp.mono ?_
        rintro e w4 ⟨rfl, hB4⟩
        rw [← hw3] at hB4
        have HB4 : Hid (Below w.heap.size w w4) := HB3.out.trans (hB4.mono HB3.out.size)
        have HC4 : Hid (w4.heap[w.heap.size]? = some (.cells #[.int .u8 f.kind, .int .i64 f.xid, .int .i64 f.session, .int .i64 f.turn, .string (mkS f.path), .slice A1 f.data.length c1, .int .i64 f.flags, .int .i64 f.version, .bool f.watch, .int .u8 f.sort, .int .i64 f.last, .int .i64 f.timeout, .int .i64 f.frm, .slice A2 f.mems.length c2, .slice (some ⟨bb, oo, none⟩) f.np c3] 29 (0, 0))) := by show _ = _; rw [hB4.block _ (heap_lt HC3.out)]; exact HC3.out
        have HD4 : Hid (w4.heap[wr.heap.size]? = some (.cells #[.int .u8 p.kind, .int .i64 p.xid, .int .i64 p.session, .int .i64 p.turn, .string (mkS p.path), .slice B1 p.data.length d1, .int .i64 p.flags, .int .i64 p.version, .bool p.watch, .int .u8 p.sort, .int .i64 p.last, .int .i64 p.timeout, .int .i64 p.frm, .slice B2 p.mems.length d2, .slice B3 p.np d3] 29 (0, 0))) := by show _ = _; rw [hB4.block _ (heap_lt HD3.out)]; exact HD3.out
        clear hfp hB4 hw3 HB3 HC3 HD3 y0 y1 y2 y3 y4 y5 y6 y7 y8 y9 y10 y11 y12 y13 y14 z14 w3 HBr HCr
        obtain ⟨y0, y1, y2, y3, y4, y5, y6, y7, y8, y9, y10, y11, y12, y13, y14⟩ := cells15 HD4.out
        cases D with
        | false =>
          have hU : U = false := HV.out HPD.out
          subst hU
          as_aux_lemma =>
          go_wp2_with fail
          go_ret
          exact ⟨rfl, HB4.out⟩
        | true =>
        by_cases e1 : p.xid = 0
        case neg =>
          have hU : U = false := HV.out (by rw [HPD.out, decide_eq_false e1]; simp)
          subst hU
          have g1 := (nebQ _ _ e1).2
          as_aux_lemma =>
          go_wp2_with fail
          go_ret
          exact ⟨rfl, HB4.out⟩
        have g1 : (p.xid != 0) = false := by simp [e1]
        by_cases e2 : p.session = 0
        case neg =>
          have hU : U = false := HV.out (by rw [HPD.out, decide_eq_false e2]; simp)
          subst hU
          have g2 := (nebQ _ _ e2).2
          clear e1
          as_aux_lemma =>
          go_wp2_with fail
          go_ret
          exact ⟨rfl, HB4.out⟩
        have g2 : (p.session != 0) = false := by simp [e2]
        by_cases e3 : p.turn = 0
        case neg =>
          have hU : U = false := HV.out (by rw [HPD.out, decide_eq_false e3]; simp)
          subst hU
          have g3 := (nebQ _ _ e3).2
          clear e1 e2
          as_aux_lemma =>
          go_wp2_with fail
          go_ret
          exact ⟨rfl, HB4.out⟩
        have g3 : (p.turn != 0) = false := by simp [e3]
        by_cases e4 : 3 ≤ p.kind
        case neg =>
          have hU : U = false := HV.out (by rw [HPD.out, decide_eq_false e4]; simp)
          subst hU
          clear e1 e2 e3
          as_aux_lemma =>
          go_wp2_with fail
          go_ret
          exact ⟨rfl, HB4.out⟩
        by_cases e5 : p.kind ≤ 6
        case neg =>
          have hU : U = false := HV.out (by rw [HPD.out, decide_eq_false e5]; simp)
          subst hU
          clear e1 e2 e3
          as_aux_lemma =>
          go_wp2_with fail
          go_ret
          exact ⟨rfl, HB4.out⟩
        have HS2 : Hid ((ps.take (k + 1)).all docPart = true) := HS.out.trans (by rw [HPD.out, decide_eq_true e1, decide_eq_true e2, decide_eq_true e3, decide_eq_true e4, decide_eq_true e5]; rfl)
        clear e1 e2 e3
        as_aux_lemma =>
        go_wp2_with fail
        exact ⟨⟨k + 1, by omega, by go_num, HS2.out, HB4.out, HC4.out⟩, by simp [intOf]; omega⟩
      · have hkn : k = f.np := by omega
        have hU : U = true := by
          rw [← HALL.out, ← HT.out, hkn, HN.out, List.take_length]
        subst hU
        go_wp2
        go_ret
        exact ⟨rfl, HBr.out⟩
end Go.Proofs.YtmojplgoohnmdaaDoor.AK
