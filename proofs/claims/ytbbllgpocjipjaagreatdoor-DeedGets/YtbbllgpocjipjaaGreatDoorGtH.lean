/- The walk of DeedGets. -/
import Derived.Test.YtbbllgpocjipjaaGreatDoorGtG
import Derived.Test.YtbbllgpocjipjaaGreatDoorGtZ
namespace Go.Proofs.YtbbllgpocjipjaaGreatDoor.DD
set_option linter.unusedVariables false
open Go.RowKit
set_option linter.unusedVariables false

theorem right_small {f : Fl} {ps : List Fl} (hf : DedFit f ps) (hr : rightD f ps = true) : f.data.length ≤ 1000 ∧ ps.length ≤ 500 ∧ ∀ p ∈ ps, p.np = 0 ∧ p.data.length ≤ 1000 := by
  have h := rightD_fits hr
  have hc := com_parts (fits_com h).1
  cases hp : hasParts f.kind with
  | false =>
    have h0 := np_zero hc.1 hp
    have : ps = [] := List.length_eq_zero_iff.1 (by rw [← hf.len]; exact h0)
    subst this
    exact ⟨hc.2.1, by simp, by simp⟩
  | true =>
    have hs := fits_parts h hp
    refine ⟨hc.2.1, hs.1, fun p hp => ?_⟩
    obtain ⟨h1, h2, h3⟩ := hs.2 p hp
    have hc' := com_parts (leaf_parts h3).2.1
    refine ⟨np_zero hc'.1 ?_, hc'.2.1⟩
    unfold isNode at h1
    unfold hasParts
    simp only [Bool.or_eq_true, decide_eq_true_eq] at h1
    simp only [Bool.or_eq_false_iff, decide_eq_false_iff_not]
    omega
set_option maxRecDepth 100000 in
set_option maxHeartbeats 4000000 in
theorem gyes {w : World} {AX : Option Addr} {CX : Nat} {b : List UInt8} (hx : Bs w (.slice AX b.length CX) b) (hb : b.length ≤ 100000) (hL : PA.Laid w) (f : Fl) (ps : List Fl) (ho : deedOf b = some (f, ps)) :
    Calls Tryz.prog 4 #[.slice AX b.length CX] w fun e w' => e = .returned (.bool true) ∧ Below w.heap.size w w' := by
  have HL : Hid (PA.Laid w) := hL
  have HX : Hid (Bs w (.slice AX b.length CX) b) := hx
  have HO : Hid (deedOf b = some (f, ps)) := ho
  have hgt := dget_any hx (by omega) hL
  rw [ho] at hgt
  have hlb : ¬ (100000 < b.length) := by omega
  have hlb2 : ¬ ((100000 : Int) < (b.length : Int)) := by omega
  clear hL hx ho
  go_enter Tryz.func4, Tryz.ntmps4
  go_wp2_with fail
  refine hgt.mono ?_
  rintro e w2 ⟨A1, c1, A2, c2, A3, c3, rfl, hV2, hB2⟩
  obtain ⟨w3, hw3⟩ : ∃ X, X = w2.alloc (.cells #[.int .i64 f.zxid, .int .u8 f.kind, .int .i64 f.session, .int .i64 f.turn, .int .i64 f.xid, .int .i64 f.time, .string (mkS f.path), .slice A1 f.data.length c1, .int .i64 f.owner, .int .i64 f.version, .int .i64 f.cversion, .int .i64 f.timeout, .int .i64 f.err, .int .i64 f.cver, .slice A2 f.mems.length c2, .slice A3 f.np c3] 31) := ⟨_, rfl⟩
  have hB3 : Below w2.heap.size w2 w3 := by rw [hw3]; exact (Below.refl _ _).alloc (Nat.le_refl _) _
  have HC3 : Hid (w3.heap[w2.heap.size]? = some (.cells #[.int .i64 f.zxid, .int .u8 f.kind, .int .i64 f.session, .int .i64 f.turn, .int .i64 f.xid, .int .i64 f.time, .string (mkS f.path), .slice A1 f.data.length c1, .int .i64 f.owner, .int .i64 f.version, .int .i64 f.cversion, .int .i64 f.timeout, .int .i64 f.err, .int .i64 f.cver, .slice A2 f.mems.length c2, .slice A3 f.np c3] 31 (0, 0))) := by rw [hw3]; exact heap_alloc_new w2 _
  have HB3 : Hid (Below w.heap.size w w3) := hB2.trans (hB3.mono hB2.size)
  have HV3 : Hid (DVal w3 f ps A1 c1 A2 c2 A3 c3) := hV2.grow hB3
  have hgr := rget_any (Bs.below' HX.out HB3.out) (by omega) (HL.out.below HB3.out)
  rw [deedRf_eq, HO.out, hw3] at hgr
  clear hgt hB2 hB3 hV2
  as_aux_lemma =>
  go_wp2_with fail
  refine hgr.mono ?_
  rintro e w4 ⟨B1, d1, B2, d2, B3, d3, rfl, hV4, hB4⟩
  rw [← hw3] at hB4
  obtain ⟨w5, hw5⟩ : ∃ X, X = w4.alloc (.cells #[.int .i64 f.zxid, .int .u8 f.kind, .int .i64 f.session, .int .i64 f.turn, .int .i64 f.xid, .int .i64 f.time, .string (mkS f.path), .slice B1 f.data.length d1, .int .i64 f.owner, .int .i64 f.version, .int .i64 f.cversion, .int .i64 f.timeout, .int .i64 f.err, .int .i64 f.cver, .slice B2 f.mems.length d2, .slice B3 f.np d3] 31) := ⟨_, rfl⟩
  have hB5 : Below w4.heap.size w4 w5 := by rw [hw5]; exact (Below.refl _ _).alloc (Nat.le_refl _) _
  have hB35 : Below w3.heap.size w3 w5 := hB4.trans (hB5.mono hB4.size)
  have hC5 : w5.heap[w2.heap.size]? = some (.cells #[.int .i64 f.zxid, .int .u8 f.kind, .int .i64 f.session, .int .i64 f.turn, .int .i64 f.xid, .int .i64 f.time, .string (mkS f.path), .slice A1 f.data.length c1, .int .i64 f.owner, .int .i64 f.version, .int .i64 f.cversion, .int .i64 f.timeout, .int .i64 f.err, .int .i64 f.cver, .slice A2 f.mems.length c2, .slice A3 f.np c3] 31 (0, 0)) := by rw [hB35.block _ (heap_lt HC3.out)]; exact HC3.out
  have hD5 : w5.heap[w4.heap.size]? = some (.cells #[.int .i64 f.zxid, .int .u8 f.kind, .int .i64 f.session, .int .i64 f.turn, .int .i64 f.xid, .int .i64 f.time, .string (mkS f.path), .slice B1 f.data.length d1, .int .i64 f.owner, .int .i64 f.version, .int .i64 f.cversion, .int .i64 f.timeout, .int .i64 f.err, .int .i64 f.cver, .slice B2 f.mems.length d2, .slice B3 f.np d3] 31 (0, 0)) := by rw [hw5]; exact heap_alloc_new w4 _
  have HB5 : Hid (Below w.heap.size w w5) := HB3.out.trans (hB35.mono HB3.out.size)
  obtain ⟨hbe, hr, hfit⟩ := (deedOf_iff _ _ _).1 HO.out
  have hsm := right_small hfit hr
  have hmm := right_mems hfit hr
  have hsd := sameD_any f ps A1 A2 A3 B1 B2 B3 c1 c2 c3 d1 d2 d3 w5 hmm.1 (by omega) (by omega) hfit.len (fun p hp => ⟨(hsm.2.2 p hp).1, hmm.2 p hp, by have := (hsm.2.2 p hp).2; omega⟩) (HV3.out.grow hB35) (hV4.grow hB5)
  clear hbe hr hfit hsm hmm
  have hlt1 : w2.heap.size < w4.heap.size := by have := heap_lt HC3.out; have := hB4.size; omega
  obtain ⟨z0, z1, z2, z3, z4, z5, z6, z7, z8, z9, z10, z11, z12, z13, z14, z15⟩ := cells16 hC5
  obtain ⟨y0, y1, y2, y3, y4, y5, y6, y7, y8, y9, y10, y11, y12, y13, y14, y15⟩ := cells16 hD5
  rw [hw5] at hsd z0 z1 z2 z3 z4 z5 z6 z7 z8 z9 z10 z11 z12 z13 z14 z15 y0 y1 y2 y3 y4 y5 y6 y7 y8 y9 y10 y11 y12 y13 y14 y15
  clear hgr hB4 hB5 hB35 hC5 hD5 HC3 hw3 hV4 HV3
  as_aux_lemma =>
  go_wp2_with fail
  refine hsd.mono ?_
  rintro e w6 ⟨rfl, hB6⟩
  rw [← hw5] at hB6
  have HB6 : Hid (Below w.heap.size w w6) := HB5.out.trans (hB6.mono HB5.out.size)
  clear hsd hB6 hw5 z0 z1 z2 z3 z4 z5 z6 z7 z8 z9 z10 z11 z12 z13 z14 z15 y0 y1 y2 y3 y4 y5 y6 y7 y8 y9 y10 y11 y12 y13 y14 y15
  have ha := awake_any w6 (HL.out.below HB6.out)
  as_aux_lemma =>
  go_wp2_with fail
  refine ha.mono ?_
  rintro e w7 ⟨rfl, hB7⟩
  have HB7 : Hid (Below w.heap.size w w7) := HB6.out.trans (hB7.mono HB6.out.size)
  clear ha hB7
  go_wp2
  go_ret
  exact ⟨rfl, HB7.out⟩
set_option maxRecDepth 100000 in
set_option maxHeartbeats 4000000 in
theorem gno {w : World} {AX : Option Addr} {CX : Nat} {b : List UInt8} (hx : Bs w (.slice AX b.length CX) b) (hb : b.length ≤ 100000) (hL : PA.Laid w) (ho : deedOf b = none) :
    Calls Tryz.prog 4 #[.slice AX b.length CX] w fun e w' => e = .returned (.bool true) ∧ Below w.heap.size w w' := by
  have HL : Hid (PA.Laid w) := hL
  have HX : Hid (Bs w (.slice AX b.length CX) b) := hx
  have HO : Hid (deedOf b = none) := ho
  have hgt := dget_any hx (by omega) hL
  rw [ho] at hgt
  have hlb : ¬ (100000 < b.length) := by omega
  have hlb2 : ¬ ((100000 : Int) < (b.length : Int)) := by omega
  clear hL hx ho
  go_enter Tryz.func4, Tryz.ntmps4
  go_wp2_with fail
  refine hgt.mono ?_
  rintro e w2 hG
  obtain ⟨he, hB2⟩ : e = .returned (.tuple #[.agg #[.int .i64 0, .int .u8 0, .int .i64 0, .int .i64 0, .int .i64 0, .int .i64 0, .string ⟨#[]⟩, .slice none 0 0, .int .i64 0, .int .i64 0, .int .i64 0, .int .i64 0, .int .i64 0, .int .i64 0, .slice none 0 0, .slice none 0 0], .int .i64 4]) ∧ Below w.heap.size w w2 := hG
  subst he
  obtain ⟨w3, hw3⟩ : ∃ X, X = w2.alloc (.cells #[.int .i64 0, .int .u8 0, .int .i64 0, .int .i64 0, .int .i64 0, .int .i64 0, .string ⟨#[]⟩, .slice none 0 0, .int .i64 0, .int .i64 0, .int .i64 0, .int .i64 0, .int .i64 0, .int .i64 0, .slice none 0 0, .slice none 0 0] 31) := ⟨_, rfl⟩
  have hB3 : Below w2.heap.size w2 w3 := by rw [hw3]; exact (Below.refl _ _).alloc (Nat.le_refl _) _
  have HC3 : Hid (w3.heap[w2.heap.size]? = some (.cells #[.int .i64 0, .int .u8 0, .int .i64 0, .int .i64 0, .int .i64 0, .int .i64 0, .string ⟨#[]⟩, .slice none 0 0, .int .i64 0, .int .i64 0, .int .i64 0, .int .i64 0, .int .i64 0, .int .i64 0, .slice none 0 0, .slice none 0 0] 31 (0, 0))) := by rw [hw3]; exact heap_alloc_new w2 _
  have HB3 : Hid (Below w.heap.size w w3) := hB2.trans (hB3.mono hB2.size)
  have hgr := rget_any (Bs.below' HX.out HB3.out) (by omega) (HL.out.below HB3.out)
  rw [deedRf_eq, HO.out, hw3] at hgr
  clear hgt hB2 hB3
  as_aux_lemma =>
  go_wp2_with fail
  refine hgr.mono ?_
  rintro e w4 hG
  obtain ⟨he, hB4⟩ : e = .returned (.tuple #[.agg #[.int .i64 0, .int .u8 0, .int .i64 0, .int .i64 0, .int .i64 0, .int .i64 0, .string ⟨#[]⟩, .slice none 0 0, .int .i64 0, .int .i64 0, .int .i64 0, .int .i64 0, .int .i64 0, .int .i64 0, .slice none 0 0, .slice none 0 0], .int .i64 4]) ∧ Below (w2.alloc (.cells #[.int .i64 0, .int .u8 0, .int .i64 0, .int .i64 0, .int .i64 0, .int .i64 0, .string ⟨#[]⟩, .slice none 0 0, .int .i64 0, .int .i64 0, .int .i64 0, .int .i64 0, .int .i64 0, .int .i64 0, .slice none 0 0, .slice none 0 0] 31)).heap.size (w2.alloc (.cells #[.int .i64 0, .int .u8 0, .int .i64 0, .int .i64 0, .int .i64 0, .int .i64 0, .string ⟨#[]⟩, .slice none 0 0, .int .i64 0, .int .i64 0, .int .i64 0, .int .i64 0, .int .i64 0, .int .i64 0, .slice none 0 0, .slice none 0 0] 31)) w4 := hG
  subst he
  rw [← hw3] at hB4
  obtain ⟨w5, hw5⟩ : ∃ X, X = w4.alloc (.cells #[.int .i64 0, .int .u8 0, .int .i64 0, .int .i64 0, .int .i64 0, .int .i64 0, .string ⟨#[]⟩, .slice none 0 0, .int .i64 0, .int .i64 0, .int .i64 0, .int .i64 0, .int .i64 0, .int .i64 0, .slice none 0 0, .slice none 0 0] 31) := ⟨_, rfl⟩
  have hB5 : Below w4.heap.size w4 w5 := by rw [hw5]; exact (Below.refl _ _).alloc (Nat.le_refl _) _
  have hB35 : Below w3.heap.size w3 w5 := hB4.trans (hB5.mono hB4.size)
  have hC5 : w5.heap[w2.heap.size]? = some (.cells #[.int .i64 0, .int .u8 0, .int .i64 0, .int .i64 0, .int .i64 0, .int .i64 0, .string ⟨#[]⟩, .slice none 0 0, .int .i64 0, .int .i64 0, .int .i64 0, .int .i64 0, .int .i64 0, .int .i64 0, .slice none 0 0, .slice none 0 0] 31 (0, 0)) := by rw [hB35.block _ (heap_lt HC3.out)]; exact HC3.out
  have hD5 : w5.heap[w4.heap.size]? = some (.cells #[.int .i64 0, .int .u8 0, .int .i64 0, .int .i64 0, .int .i64 0, .int .i64 0, .string ⟨#[]⟩, .slice none 0 0, .int .i64 0, .int .i64 0, .int .i64 0, .int .i64 0, .int .i64 0, .int .i64 0, .slice none 0 0, .slice none 0 0] 31 (0, 0)) := by rw [hw5]; exact heap_alloc_new w4 _
  have HB5 : Hid (Below w.heap.size w w5) := HB3.out.trans (hB35.mono HB3.out.size)
  have hsd : Calls Tryz.prog 14 #[.agg #[.int .i64 0, .int .u8 0, .int .i64 0, .int .i64 0, .int .i64 0, .int .i64 0, .string ⟨#[]⟩, .slice none 0 0, .int .i64 0, .int .i64 0, .int .i64 0, .int .i64 0, .int .i64 0, .int .i64 0, .slice none 0 0, .slice none 0 0], .agg #[.int .i64 0, .int .u8 0, .int .i64 0, .int .i64 0, .int .i64 0, .int .i64 0, .string ⟨#[]⟩, .slice none 0 0, .int .i64 0, .int .i64 0, .int .i64 0, .int .i64 0, .int .i64 0, .int .i64 0, .slice none 0 0, .slice none 0 0]] w5 fun e w' => e = .returned (.bool true) ∧ Below w5.heap.size w5 w' := sameD_any Fz [] none none none none none none 0 0 0 0 0 0 w5 (by decide) (by decide) (by decide) rfl (fun p hp => by simp at hp) (dval_nil rfl rfl rfl) (dval_nil rfl rfl rfl)
  have hlt1 : w2.heap.size < w4.heap.size := by have := heap_lt HC3.out; have := hB4.size; omega
  obtain ⟨z0, z1, z2, z3, z4, z5, z6, z7, z8, z9, z10, z11, z12, z13, z14, z15⟩ := cells16 hC5
  obtain ⟨y0, y1, y2, y3, y4, y5, y6, y7, y8, y9, y10, y11, y12, y13, y14, y15⟩ := cells16 hD5
  rw [hw5] at hsd z0 z1 z2 z3 z4 z5 z6 z7 z8 z9 z10 z11 z12 z13 z14 z15 y0 y1 y2 y3 y4 y5 y6 y7 y8 y9 y10 y11 y12 y13 y14 y15
  clear hgr hB4 hB5 hB35 hC5 hD5 HC3 hw3
  as_aux_lemma =>
  go_wp2_with fail
  refine hsd.mono ?_
  rintro e w6 ⟨rfl, hB6⟩
  rw [← hw5] at hB6
  have HB6 : Hid (Below w.heap.size w w6) := HB5.out.trans (hB6.mono HB5.out.size)
  clear hsd hB6 hw5 z0 z1 z2 z3 z4 z5 z6 z7 z8 z9 z10 z11 z12 z13 z14 z15 y0 y1 y2 y3 y4 y5 y6 y7 y8 y9 y10 y11 y12 y13 y14 y15
  have ha := awake_any w6 (HL.out.below HB6.out)
  as_aux_lemma =>
  go_wp2_with fail
  refine ha.mono ?_
  rintro e w7 ⟨rfl, hB7⟩
  have HB7 : Hid (Below w.heap.size w w7) := HB6.out.trans (hB7.mono HB6.out.size)
  clear ha hB7
  go_wp2
  go_ret
  exact ⟨rfl, HB7.out⟩
set_option maxRecDepth 100000 in
theorem lgets_any {w : World} {x : Value} {b : List UInt8} (hx : Bs w x b) (hL : PA.Laid w) :
    Calls Tryz.prog 4 #[x] w fun e w' => e = .returned (.bool true) ∧ Below w.heap.size w w' := by
  obtain ⟨AX, CX, rfl⟩ := bs_form hx
  by_cases hl : b.length ≤ 100000
  · cases ho : deedOf b with
    | none => exact gno hx hl hL ho
    | some y =>
      obtain ⟨f, ps⟩ := y
      exact gyes hx hl hL f ps ho
  · have ha := awake_any w hL
    have hlb : 100000 < b.length := by omega
    have hlb2 : (100000 : Int) < (b.length : Int) := by omega
    go_enter Tryz.func4, Tryz.ntmps4
    go_wp2_with fail
    refine ha.mono ?_
    rintro e w7 ⟨rfl, hB7⟩
    have HB7 : Hid (Below w.heap.size w w7) := hB7
    clear ha hB7
    go_wp2
    go_ret
    exact ⟨rfl, HB7.out⟩
end Go.Proofs.YtbbllgpocjipjaaGreatDoor.DD
