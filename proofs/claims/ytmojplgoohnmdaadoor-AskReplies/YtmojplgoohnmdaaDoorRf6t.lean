/- The walk of the document's own reply. -/
import Derived.Test.YtmojplgoohnmdaaDoorRpH
import Derived.Test.YtmojplgoohnmdaaDoorRefX
import Derived.Test.YtmojplgoohnmdaaDoorRf6x
import Derived.Test.YtmojplgoohnmdaaDoorRf6r
namespace Go.Proofs.YtmojplgoohnmdaaDoor.AK
set_option linter.unusedSimpArgs false
set_option linter.unusedVariables false
open Go.RowKit
set_option linter.unusedVariables false
set_option linter.unusedSimpArgs false

structure PW (f : Rf) (ps : List Rf) (A1 : Option Addr) (c1 : Nat) (A2 : Option Addr) (c2 : Nat) (A3 : Option Addr) (c3 : Nat) (A4 : Option Addr) (c4 : Nat) (w0 : World) (base g p : Nat) (q0 : Option Nat) (w : World) (q : Option Nat) (l : List UInt8) : Prop where
  wr : WrF w base g q l
  put : Put g q0 w0 w q
  own : Own w p (.cells #[.int .u8 f.kind, .int .i64 f.xid, .int .i64 f.zxid, .int .i64 f.err, .int .i64 f.session, .int .i64 f.timeout, .string (mkS f.path), .slice A1 f.data.length c1, .int .i64 f.s0, .int .i64 f.s1, .int .i64 f.s2, .int .i64 f.s3, .int .i64 f.s4, .int .i64 f.s5, .int .i64 f.s6, .int .i64 f.s7, .int .i64 f.s8, .int .i64 f.s9, .slice A2 f.list.length c2, .int .i64 f.cver, .slice A3 f.cmems.length c3, .slice A4 f.np c4] 43 (0, 0)) g q
  hg : base ≤ g
  parts : ps = [] ∨ RPrts w base (.slice A4 f.np c4) ps
  rest : RRest w base f A1 c1 A2 c2 A3 c3
theorem PW.step {f : Rf} {ps : List Rf} {A1 A2 A3 A4 : Option Addr} {c1 c2 c3 c4 : Nat} {w0 w w' : World} {base g p : Nat} {q0 q q' : Option Nat} {l l' : List UInt8} (h : PW f ps A1 c1 A2 c2 A3 c3 A4 c4 w0 base g p q0 w q l) (hW : WrF w' base g q' l') (hP : Put g q w w' q') : PW f ps A1 c1 A2 c2 A3 c3 A4 c4 w0 base g p q0 w' q' l' :=
  ⟨hW, h.put.trans hP, h.own.put hP, h.hg, h.parts.imp id (fun x => x.below (putF_below h.wr h.hg hP)), h.rest.below (putF_below h.wr h.hg hP)⟩
theorem PW.below {f : Rf} {ps : List Rf} {A1 A2 A3 A4 : Option Addr} {c1 c2 c3 c4 : Nat} {w0 w w' : World} {base g p : Nat} {q0 q : Option Nat} {l : List UInt8} (h : PW f ps A1 c1 A2 c2 A3 c3 A4 c4 w0 base g p q0 w q l) (hB : Below w.heap.size w w') : PW f ps A1 c1 A2 c2 A3 c3 A4 c4 w0 base g p q0 w' q l :=
  h.step (WrF.below h.wr hB) (Put.below hB)
theorem Own.nums {w : World} {p g : Nat} {q : Option Nat} {cs : Array Value} {T : TypeId} (h : Own w p (.cells cs T (0, 0)) g q) (ns : List Int) (he : cs.toList = ns.map fun n => .int .i64 n) : NumsAt w p ns := by
  intro j hj
  rw [cell_at h.at', ← Array.getElem?_toList, he, List.getElem?_map, List.getElem?_eq_getElem hj]
  rfl
theorem cfg_none {f : Rf} (h : noneB f.cver f.cmems = true) : cfgR f = [] := by
  unfold noneB at h
  simp only [Bool.and_eq_true, decide_eq_true_eq] at h
  have hm : f.cmems = [] := List.eq_nil_of_length_eq_zero h.2
  unfold cfgR
  rw [h.1, hm]
  decide +kernel
set_option maxRecDepth 100000 in
set_option maxHeartbeats 16000000 in
theorem rreply_core {w : World} {base g : Nat} {q : Option Nat} {l : List UInt8} (h : WrF w base g q l) (hg : base ≤ g) (B0 : Nat) (hB0 : B0 ≤ 1000000) (hl : l.length ≤ B0) (f : Rf) (hf : RFit f) (hw : FitR f) (A1 A2 A3 A4 : Option Addr) (c1 c2 c3 c4 : Nat) (hr : RRest w base f A1 c1 A2 c2 A3 c3) (ps : List Rf) (hp : ps = [] ∨ RPrts w base (.slice A4 f.np c4) ps) (hnp : f.np = ps.length) (h16 : f.np ≤ 16) (hps : ∀ p ∈ ps, RFit p ∧ p.np = 0 ∧ p.list = [] ∧ fitR p = true)
    (hrec : ∀ p ∈ ps, ∀ (w' : World) (q' : Option Nat) (l' : List UInt8) (B1 B2 B3 B4 : Option Addr) (d1 d2 d3 d4 : Nat), WrF w' base g q' l' → RRest w' base p B1 d1 B2 d2 B3 d3 → l'.length ≤ B0 + 160000 → Calls Tryd.prog 44 #[.pointer (some ⟨g, 0, none⟩), .agg #[.int .u8 p.kind, .int .i64 p.xid, .int .i64 p.zxid, .int .i64 p.err, .int .i64 p.session, .int .i64 p.timeout, .string (mkS p.path), .slice B1 p.data.length d1, .int .i64 p.s0, .int .i64 p.s1, .int .i64 p.s2, .int .i64 p.s3, .int .i64 p.s4, .int .i64 p.s5, .int .i64 p.s6, .int .i64 p.s7, .int .i64 p.s8, .int .i64 p.s9, .slice B2 p.list.length d2, .int .i64 p.cver, .slice B3 p.cmems.length d3, .slice B4 p.np d4]] w' fun e w'' => e = .returned (.tuple #[]) ∧ ∃ q'', WrF w'' base g q'' (l' ++ (bodyR p ++ numB 0)) ∧ Put g q' w' w'' q'') :
    Calls Tryd.prog 44 #[.pointer (some ⟨g, 0, none⟩), .agg #[.int .u8 f.kind, .int .i64 f.xid, .int .i64 f.zxid, .int .i64 f.err, .int .i64 f.session, .int .i64 f.timeout, .string (mkS f.path), .slice A1 f.data.length c1, .int .i64 f.s0, .int .i64 f.s1, .int .i64 f.s2, .int .i64 f.s3, .int .i64 f.s4, .int .i64 f.s5, .int .i64 f.s6, .int .i64 f.s7, .int .i64 f.s8, .int .i64 f.s9, .slice A2 f.list.length c2, .int .i64 f.cver, .slice A3 f.cmems.length c3, .slice A4 f.np c4]] w fun e w' => e = .returned (.tuple #[]) ∧ ∃ q', WrF w' base g q' (l ++ replyB f ps) ∧ Put g q w w' q' := by
  have HF : Hid (RFit f) := hf
  have HWI : Hid (FitR f) := hw
  have HNP : Hid (f.np = ps.length) := hnp
  have H16 : Hid (f.np ≤ 16) := h16
  have HPS : Hid (∀ p ∈ ps, RFit p ∧ p.np = 0 ∧ p.list = [] ∧ fitR p = true) := hps
  have HREC : Hid _ := hrec
  obtain ⟨w1, hw1⟩ : ∃ X, X = w.alloc (.cells #[.int .u8 f.kind, .int .i64 f.xid, .int .i64 f.zxid, .int .i64 f.err, .int .i64 f.session, .int .i64 f.timeout, .string (mkS f.path), .slice A1 f.data.length c1, .int .i64 f.s0, .int .i64 f.s1, .int .i64 f.s2, .int .i64 f.s3, .int .i64 f.s4, .int .i64 f.s5, .int .i64 f.s6, .int .i64 f.s7, .int .i64 f.s8, .int .i64 f.s9, .slice A2 f.list.length c2, .int .i64 f.cver, .slice A3 f.cmems.length c3, .slice A4 f.np c4] 43) := ⟨_, rfl⟩
  have hs1 : w1.heap.size = w.heap.size + 1 := by rw [hw1]; simp
  have hB1 : Below w.heap.size w w1 := by rw [hw1]; exact (Below.refl _ _).alloc (Nat.le_refl _) _
  have hS1 : PW f ps A1 c1 A2 c2 A3 c3 A4 c4 w base g w.heap.size q w1 q l := ⟨WrF.below h hB1, Put.below hB1, ⟨by rw [hw1]; exact heap_alloc_new w _, by have := RowAt.lt h; omega, fun e => by have := (RowAt.qlt h _ e).2; omega⟩, hg, hp.imp id (fun x => x.below (hB1.mono (WrF.base' h))), hr.below (hB1.mono (WrF.base' h))⟩
  obtain ⟨w2, hw2⟩ : ∃ X, X = w1.alloc (.cells #[.int .i64 f.s0, .int .i64 f.s1, .int .i64 f.s2, .int .i64 f.s3, .int .i64 f.s4, .int .i64 f.s5, .int .i64 f.s6, .int .i64 f.s7, .int .i64 f.s8, .int .i64 f.s9] 37) := ⟨_, rfl⟩
  have hB2 : Below w1.heap.size w1 w2 := by rw [hw2]; exact (Below.refl _ _).alloc (Nat.le_refl _) _
  have HS2 : Hid (PW f ps A1 c1 A2 c2 A3 c3 A4 c4 w base g w.heap.size q w2 q (l)) := hS1.below hB2
  have HQ2 : Hid (Own w2 (w.heap.size + 1) (.cells #[.int .i64 f.s0, .int .i64 f.s1, .int .i64 f.s2, .int .i64 f.s3, .int .i64 f.s4, .int .i64 f.s5, .int .i64 f.s6, .int .i64 f.s7, .int .i64 f.s8, .int .i64 f.s9] 37 (0, 0)) g q) := ⟨by rw [hw2, ← hs1]; exact heap_alloc_new w1 _, by have := RowAt.lt h; omega, fun e => by have := (RowAt.qlt h _ e).2; omega⟩
  have HL2 : Hid (l.length ≤ B0) := hl
  have hc := rfWByte_any HS2.out.wr f.kind (u8 f.kind) (u8_back hf.kind).symm (by omega)
  rw [hw2, hw1] at hc
  clear h hr hf hw hl hB1 hnp hps hp h16 hS1 hB2 hrec hs1
  go_enter Tryd.func44, Tryd.ntmps44
  go_wp2_with fail
  refine hc.mono ?_
  rintro e w3 ⟨rfl, q3, hW, hP⟩
  rw [← hw1, ← hw2] at hP
  have HS3 : Hid (PW f ps A1 c1 A2 c2 A3 c3 A4 c4 w base g w.heap.size q w3 q3 (l ++ [u8 f.kind])) := HS2.out.step hW hP
  have HQ3 : Hid (Own w3 (w.heap.size + 1) (.cells #[.int .i64 f.s0, .int .i64 f.s1, .int .i64 f.s2, .int .i64 f.s3, .int .i64 f.s4, .int .i64 f.s5, .int .i64 f.s6, .int .i64 f.s7, .int .i64 f.s8, .int .i64 f.s9] 37 (0, 0)) g q3) := HQ2.out.put hP
  have HL3 : Hid ((l ++ [u8 f.kind]).length ≤ B0 + 1) := by show _ ≤ _; have := HL2.out; simp only [List.length_append, List.length_singleton]; omega
  clear hc hW hP HS2 HQ2 HL2 hw1 hw2 w1 w2
  generalize hl3 : l ++ [u8 f.kind] = l3 at HS3 HL3
  have HE3 : Hid (l3 = l ++ [u8 f.kind]) := hl3.symm
  clear hl3
  obtain ⟨z0, z1, z2, z3, z4, z5, z6, z7, z8, z9, z10, z11, z12, z13, z14, z15, z16, z17, z18, z19, z20, z21⟩ := cells22 HS3.out.own.at'
  clear z0 z6 z7 z8 z9 z10 z11 z12 z13 z14 z15 z16 z17 z18 z19 z20 z21
  obtain ⟨w4, hw4⟩ : ∃ X, X = w3.alloc (.cells #[.int .i64 f.xid, .int .i64 f.zxid, .int .i64 f.err, .int .i64 f.session, .int .i64 f.timeout] 2) := ⟨_, rfl⟩
  have hB4 : Below w3.heap.size w3 w4 := by rw [hw4]; exact (Below.refl _ _).alloc (Nat.le_refl _) _
  have HS4 : Hid (PW f ps A1 c1 A2 c2 A3 c3 A4 c4 w base g w.heap.size q w4 q3 (l3)) := HS3.out.below hB4
  have HQ4 : Hid (Own w4 (w.heap.size + 1) (.cells #[.int .i64 f.s0, .int .i64 f.s1, .int .i64 f.s2, .int .i64 f.s3, .int .i64 f.s4, .int .i64 f.s5, .int .i64 f.s6, .int .i64 f.s7, .int .i64 f.s8, .int .i64 f.s9] 37 (0, 0)) g q3) := HQ3.out.put (Put.below hB4)
  have HH4 : Hid (Own w4 w3.heap.size (.cells #[.int .i64 f.xid, .int .i64 f.zxid, .int .i64 f.err, .int .i64 f.session, .int .i64 f.timeout] 2 (0, 0)) g q3) := ⟨by rw [hw4]; exact heap_alloc_new w3 _, by have := RowAt.lt HS3.out.wr; omega, fun e => by have := (RowAt.qlt HS3.out.wr _ e).2; omega⟩
  go_wp2_with fail
  rw [← hw4]
  clear hw4 hB4 HS3 HQ3 z1 z2 z3 z4 z5
  generalize w3.heap.size = ph at HH4 ⊢
  clear w3
  go_loopw [6] (fun c wr => ∃ (k : Nat) (q' : Option Nat), k ≤ 5 ∧ c = .int .i64 k ∧ PW f ps A1 c1 A2 c2 A3 c3 A4 c4 w base g w.heap.size q wr q' (l3 ++ numsB ((headR f).take k)) ∧ Own wr ph (.cells #[.int .i64 f.xid, .int .i64 f.zxid, .int .i64 f.err, .int .i64 f.session, .int .i64 f.timeout] 2 (0, 0)) g q' ∧ Own wr (w.heap.size + 1) (.cells #[.int .i64 f.s0, .int .i64 f.s1, .int .i64 f.s2, .int .i64 f.s3, .int .i64 f.s4, .int .i64 f.s5, .int .i64 f.s6, .int .i64 f.s7, .int .i64 f.s8, .int .i64 f.s9] 37 (0, 0)) g q') (fun c _ => 5 - (intOf c).toNat)
  case atStart => exact ⟨0, q3, by omega, rfl, by simpa [numsB] using HS4.out, HH4.out, HQ4.out⟩
  case round =>
    obtain ⟨k, q', hk, rfl, hSr, hHr, hQr⟩ := hrel
    have HSr : Hid (PW f ps A1 c1 A2 c2 A3 c3 A4 c4 w base g w.heap.size q wr q' (l3 ++ numsB ((headR f).take k))) := hSr
    have HHr : Hid (Own wr ph (.cells #[.int .i64 f.xid, .int .i64 f.zxid, .int .i64 f.err, .int .i64 f.session, .int .i64 f.timeout] 2 (0, 0)) g q') := hHr
    have HQr : Hid (Own wr (w.heap.size + 1) (.cells #[.int .i64 f.s0, .int .i64 f.s1, .int .i64 f.s2, .int .i64 f.s3, .int .i64 f.s4, .int .i64 f.s5, .int .i64 f.s6, .int .i64 f.s7, .int .i64 f.s8, .int .i64 f.s9] 37 (0, 0)) g q') := hQr
    clear hSr hHr hQr HS4 HH4
    have hlen : (headR f).length = 5 := rfl
    have hnl := numsB_len ((headR f).take k) (fun m hm => HF.out.head m (List.mem_of_mem_take hm))
    have hnk : ((headR f).take k).length = k := by rw [List.length_take]; omega
    have HLK : Hid ((l3 ++ numsB ((headR f).take k)).length ≤ B0 + 60) := by show _ ≤ _; have := HL3.out; rw [List.length_append]; rw [hnk] at hnl; omega
    clear hnl hnk
    by_cases hlt : k < 5
    · have hkl : k < (headR f).length := by omega
      have hcx := HHr.out.nums (headR f) rfl k hkl
      have hr := HF.out.head _ (List.getElem_mem hkl)
      have HSN : Hid (numsB ((headR f).take (k + 1)) = numsB ((headR f).take k) ++ numB ((headR f)[k]'hkl)) := numsB_snoc _ hkl
      generalize ((headR f)[k]'hkl) = x at hcx hr HSN
      have hc := rfWInt_any HSr.out.wr x hr.1 hr.2 (by have := HLK.out; have := numB_len hr; omega)
      clear hr hlen
      go_wp2_with fail
      refine hc.mono ?_
      rintro e w20 ⟨rfl, q20, hW, hP⟩
      have HS20 : Hid (PW f ps A1 c1 A2 c2 A3 c3 A4 c4 w base g w.heap.size q w20 q20 (l3 ++ numsB ((headR f).take (k + 1)))) := by
        show PW _ _ _ _ _ _ _ _ _ _ _ _ _ _ _ _ _ _
        rw [HSN.out, ← List.append_assoc]
        exact HSr.out.step hW hP
      have HH20 : Hid (Own w20 ph (.cells #[.int .i64 f.xid, .int .i64 f.zxid, .int .i64 f.err, .int .i64 f.session, .int .i64 f.timeout] 2 (0, 0)) g q20) := HHr.out.put hP
      have HQ20 : Hid (Own w20 (w.heap.size + 1) (.cells #[.int .i64 f.s0, .int .i64 f.s1, .int .i64 f.s2, .int .i64 f.s3, .int .i64 f.s4, .int .i64 f.s5, .int .i64 f.s6, .int .i64 f.s7, .int .i64 f.s8, .int .i64 f.s9] 37 (0, 0)) g q20) := HQr.out.put hP
      clear hc hW hP HSr HHr HQr hcx
      go_wp2_with fail
      exact ⟨⟨k + 1, q20, by omega, by go_num, HS20.out, HH20.out, HQ20.out⟩, by simp [intOf]; omega⟩
    have hkn : k = 5 := by omega
    subst hkn
    have hft : (headR f).take 5 = headR f := rfl
    rw [hft] at HSr HLK
    clear hft hlen hlt hk
    generalize hl4 : l3 ++ numsB (headR f) = l4 at HSr HLK
    have HE4 : Hid (l4 = l3 ++ numsB (headR f)) := hl4.symm
    clear hl4 HHr
    obtain ⟨z0, z1, z2, z3, z4, z5, z6, z7, z8, z9, z10, z11, z12, z13, z14, z15, z16, z17, z18, z19, z20, z21⟩ := cells22 HSr.out.own.at'
    clear z0 z1 z2 z3 z4 z5 z8 z9 z10 z11 z12 z13 z14 z15 z16 z17 z18 z19 z20 z21
    have hc := rfWText_any HSr.out.wr f.path (by have := HWI.out.path; omega) (by have := HLK.out; have := HWI.out.path; have := textB_len (l := f.path) (by have := HWI.out.path; omega); omega)
    go_wp2_with fail
    refine hc.mono ?_
    rintro e w5 ⟨rfl, q5, hW, hP⟩
    have HS5 : Hid (PW f ps A1 c1 A2 c2 A3 c3 A4 c4 w base g w.heap.size q w5 q5 (l4 ++ textB f.path)) := HSr.out.step hW hP
    have HQ5 : Hid (Own w5 (w.heap.size + 1) (.cells #[.int .i64 f.s0, .int .i64 f.s1, .int .i64 f.s2, .int .i64 f.s3, .int .i64 f.s4, .int .i64 f.s5, .int .i64 f.s6, .int .i64 f.s7, .int .i64 f.s8, .int .i64 f.s9] 37 (0, 0)) g q5) := HQr.out.put hP
    have HL5 : Hid ((l4 ++ textB f.path).length ≤ B0 + 300) := by show _ ≤ _; have := HLK.out; have := HWI.out.path; have := textB_len (l := f.path) (by have := HWI.out.path; omega); simp only [List.length_append]; omega
    clear hc hW hP HSr HQr HLK z6 z7 wr
    generalize hl5 : l4 ++ textB f.path = l5 at HS5 HL5
    have HE5 : Hid (l5 = l4 ++ textB f.path) := hl5.symm
    clear hl5
    obtain ⟨z0, z1, z2, z3, z4, z5, z6, z7, z8, z9, z10, z11, z12, z13, z14, z15, z16, z17, z18, z19, z20, z21⟩ := cells22 HS5.out.own.at'
    clear z0 z1 z2 z3 z4 z5 z6 z8 z9 z10 z11 z12 z13 z14 z15 z16 z17 z18 z19 z20 z21
    have hc := rfWBytes_any HS5.out.wr HS5.out.rest.bs (by have := HWI.out.data; omega) (by have := HL5.out; have := HWI.out.data; have := textB_len (l := f.data) (by have := HWI.out.data; omega); omega)
    go_wp2_with fail
    refine hc.mono ?_
    rintro e w6 ⟨rfl, q6, hW, hP⟩
    have HS6 : Hid (PW f ps A1 c1 A2 c2 A3 c3 A4 c4 w base g w.heap.size q w6 q6 (l5 ++ textB f.data)) := HS5.out.step hW hP
    have HQ6 : Hid (Own w6 (w.heap.size + 1) (.cells #[.int .i64 f.s0, .int .i64 f.s1, .int .i64 f.s2, .int .i64 f.s3, .int .i64 f.s4, .int .i64 f.s5, .int .i64 f.s6, .int .i64 f.s7, .int .i64 f.s8, .int .i64 f.s9] 37 (0, 0)) g q6) := HQ5.out.put hP
    have HL6 : Hid ((l5 ++ textB f.data).length ≤ B0 + 1400) := by show _ ≤ _; have := HL5.out; have := HWI.out.data; have := textB_len (l := f.data) (by have := HWI.out.data; omega); simp only [List.length_append]; omega
    clear hc hW hP HS5 HQ5 HL5 z7 w5
    generalize hl6 : l5 ++ textB f.data = l6 at HS6 HL6
    have HE6 : Hid (l6 = l5 ++ textB f.data) := hl6.symm
    clear hl6
    obtain ⟨s0, s1, s2, s3, s4, s5, s6, s7, s8, s9⟩ := cells10 HQ6.out.at'
    obtain ⟨w7, hw7⟩ : ∃ X, X = w6.alloc (.cells #[.int .i64 f.s0, .int .i64 f.s1, .int .i64 f.s2, .int .i64 f.s3, .int .i64 f.s4, .int .i64 f.s5, .int .i64 f.s6, .int .i64 f.s7, .int .i64 f.s8, .int .i64 f.s9] 2) := ⟨_, rfl⟩
    have hB7 : Below w6.heap.size w6 w7 := by rw [hw7]; exact (Below.refl _ _).alloc (Nat.le_refl _) _
    have HS7 : Hid (PW f ps A1 c1 A2 c2 A3 c3 A4 c4 w base g w.heap.size q w7 q6 (l6)) := HS6.out.below hB7
    have HH7 : Hid (Own w7 w6.heap.size (.cells #[.int .i64 f.s0, .int .i64 f.s1, .int .i64 f.s2, .int .i64 f.s3, .int .i64 f.s4, .int .i64 f.s5, .int .i64 f.s6, .int .i64 f.s7, .int .i64 f.s8, .int .i64 f.s9] 2 (0, 0)) g q6) := ⟨by rw [hw7]; exact heap_alloc_new w6 _, by have := RowAt.lt HS6.out.wr; omega, fun e => by have := (RowAt.qlt HS6.out.wr _ e).2; omega⟩
    go_wp2_with fail
    rw [← hw7]
    clear hw7 hB7 HS6 HQ6 s0 s1 s2 s3 s4 s5 s6 s7 s8 s9
    generalize w6.heap.size = pt at HH7 ⊢
    clear w6
    go_loopw [8] (fun c wr => ∃ (k : Nat) (q' : Option Nat), k ≤ 10 ∧ c = .int .i64 k ∧ PW f ps A1 c1 A2 c2 A3 c3 A4 c4 w base g w.heap.size q wr q' (l6 ++ numsB ((statR f).take k)) ∧ Own wr pt (.cells #[.int .i64 f.s0, .int .i64 f.s1, .int .i64 f.s2, .int .i64 f.s3, .int .i64 f.s4, .int .i64 f.s5, .int .i64 f.s6, .int .i64 f.s7, .int .i64 f.s8, .int .i64 f.s9] 2 (0, 0)) g q' ∧ True) (fun c _ => 10 - (intOf c).toNat)
    case atStart => exact ⟨0, q6, by omega, rfl, by simpa [numsB] using HS7.out, HH7.out, trivial⟩
    case round =>
      obtain ⟨k, q', hk, rfl, hSr, hHr, hQr⟩ := hrel
      have HSr : Hid (PW f ps A1 c1 A2 c2 A3 c3 A4 c4 w base g w.heap.size q wr q' (l6 ++ numsB ((statR f).take k))) := hSr
      have HHr : Hid (Own wr pt (.cells #[.int .i64 f.s0, .int .i64 f.s1, .int .i64 f.s2, .int .i64 f.s3, .int .i64 f.s4, .int .i64 f.s5, .int .i64 f.s6, .int .i64 f.s7, .int .i64 f.s8, .int .i64 f.s9] 2 (0, 0)) g q') := hHr
      have HQr : Hid (True) := hQr
      clear hSr hHr hQr HS7 HH7
      have hlen : (statR f).length = 10 := rfl
      have hnl := numsB_len ((statR f).take k) (fun m hm => HF.out.stat m (List.mem_of_mem_take hm))
      have hnk : ((statR f).take k).length = k := by rw [List.length_take]; omega
      have HLK : Hid ((l6 ++ numsB ((statR f).take k)).length ≤ B0 + 1600) := by show _ ≤ _; have := HL6.out; rw [List.length_append]; rw [hnk] at hnl; omega
      clear hnl hnk
      by_cases hlt : k < 10
      · have hkl : k < (statR f).length := by omega
        have hcx := HHr.out.nums (statR f) rfl k hkl
        have hr := HF.out.stat _ (List.getElem_mem hkl)
        have HSN : Hid (numsB ((statR f).take (k + 1)) = numsB ((statR f).take k) ++ numB ((statR f)[k]'hkl)) := numsB_snoc _ hkl
        generalize ((statR f)[k]'hkl) = x at hcx hr HSN
        have hc := rfWInt_any HSr.out.wr x hr.1 hr.2 (by have := HLK.out; have := numB_len hr; omega)
        clear hr hlen
        go_wp2_with fail
        refine hc.mono ?_
        rintro e w20 ⟨rfl, q20, hW, hP⟩
        have HS20 : Hid (PW f ps A1 c1 A2 c2 A3 c3 A4 c4 w base g w.heap.size q w20 q20 (l6 ++ numsB ((statR f).take (k + 1)))) := by
          show PW _ _ _ _ _ _ _ _ _ _ _ _ _ _ _ _ _ _
          rw [HSN.out, ← List.append_assoc]
          exact HSr.out.step hW hP
        have HH20 : Hid (Own w20 pt (.cells #[.int .i64 f.s0, .int .i64 f.s1, .int .i64 f.s2, .int .i64 f.s3, .int .i64 f.s4, .int .i64 f.s5, .int .i64 f.s6, .int .i64 f.s7, .int .i64 f.s8, .int .i64 f.s9] 2 (0, 0)) g q20) := HHr.out.put hP
        have HQ20 : Hid (True) := trivial
        clear hc hW hP HSr HHr HQr hcx
        go_wp2_with fail
        exact ⟨⟨k + 1, q20, by omega, by go_num, HS20.out, HH20.out, HQ20.out⟩, by simp [intOf]; omega⟩
      have hkn : k = 10 := by omega
      subst hkn
      have hft : (statR f).take 10 = statR f := rfl
      rw [hft] at HSr HLK
      clear hft hlen hlt hk
      generalize hl7 : l6 ++ numsB (statR f) = l7 at HSr HLK
      have HE7 : Hid (l7 = l6 ++ numsB (statR f)) := hl7.symm
      clear hl7 HHr HQr
      obtain ⟨z0, z1, z2, z3, z4, z5, z6, z7, z8, z9, z10, z11, z12, z13, z14, z15, z16, z17, z18, z19, z20, z21⟩ := cells22 HSr.out.own.at'
      clear z0 z1 z2 z3 z4 z5 z6 z7 z8 z9 z10 z11 z12 z13 z14 z15 z16 z17 z19 z20 z21
      have h500 := HWI.out.ln
      have hc := rfWInt_any HSr.out.wr (f.list.length : Int) (by omega) (by omega) (by have := HLK.out; have := numB_len (n := (f.list.length : Int)) (I64_nat (by omega)); omega)
      go_wp2_with fail
      refine hc.mono ?_
      rintro e w8 ⟨rfl, q8, hW, hP⟩
      have HS8 : Hid (PW f ps A1 c1 A2 c2 A3 c3 A4 c4 w base g w.heap.size q w8 q8 (l7 ++ numB (f.list.length : Int))) := HSr.out.step hW hP
      have HL8 : Hid ((l7 ++ numB (f.list.length : Int)).length ≤ B0 + 1700) := by show _ ≤ _; have := HLK.out; have := numB_len (n := (f.list.length : Int)) (I64_nat (by omega)); simp only [List.length_append]; omega
      clear hc hW hP HSr HLK z18 wr
      generalize hl8 : l7 ++ numB (f.list.length : Int) = l8 at HS8 HL8
      have HE8 : Hid (l8 = l7 ++ numB (f.list.length : Int)) := hl8.symm
      clear hl8
      go_wp2_with fail
      go_loopw [9] (fun c wr => ∃ (k : Nat) (q' : Option Nat), k ≤ f.list.length ∧ c = .int .i64 k ∧ PW f ps A1 c1 A2 c2 A3 c3 A4 c4 w base g w.heap.size q wr q' (l8 ++ textsB (f.list.take k))) (fun c _ => f.list.length - (intOf c).toNat)
      case atStart => exact ⟨0, q8, by omega, rfl, by simpa [textsB] using HS8.out⟩
      case round =>
        obtain ⟨k, q', hk, rfl, hSr⟩ := hrel
        have HSr : Hid (PW f ps A1 c1 A2 c2 A3 c3 A4 c4 w base g w.heap.size q wr q' (l8 ++ textsB (f.list.take k))) := hSr
        clear hSr HS8
        obtain ⟨z0, z1, z2, z3, z4, z5, z6, z7, z8, z9, z10, z11, z12, z13, z14, z15, z16, z17, z18, z19, z20, z21⟩ := cells22 HSr.out.own.at'
        clear z0 z1 z2 z3 z4 z5 z6 z7 z8 z9 z10 z11 z12 z13 z14 z15 z16 z17
        by_cases hlt : k < f.list.length
        · obtain ⟨bb, oo, hA2, hb, hcx⟩ := HSr.out.rest.tx.at' k hlt
          have hxl := HWI.out.ls _ (List.getElem_mem hlt)
          have hpl := textsB_len (f.list.take k) (fun t ht => HWI.out.ls t (List.mem_of_mem_take ht))
          have hplk : (f.list.take k).length = k := by rw [List.length_take]; omega
          have HLK : Hid ((l8 ++ textsB (f.list.take k)).length ≤ B0 + 116700) := by
            show _ ≤ _
            have := HL8.out
            rw [List.length_append]
            rw [hplk] at hpl
            omega
          have HSN : Hid (textsB (f.list.take (k + 1)) = textsB (f.list.take k) ++ textB (f.list[k]'hlt)) := textsB_snoc f.list hlt
          generalize (f.list[k]'hlt) = x at hcx hxl HSN
          have hc := rfWText_any HSr.out.wr x (by omega) (by have := HLK.out; have := textB_len (l := x) (by omega); omega)
          rw [hA2] at z18
          clear hA2 hpl hplk hxl
          go_wp2_with fail
          refine hc.mono ?_
          rintro e w20 ⟨rfl, q20, hW, hP⟩
          have HS20 : Hid (PW f ps A1 c1 A2 c2 A3 c3 A4 c4 w base g w.heap.size q w20 q20 (l8 ++ textsB (f.list.take (k + 1)))) := by
            show PW _ _ _ _ _ _ _ _ _ _ _ _ _ _ _ _ _ _
            rw [HSN.out, ← List.append_assoc]
            exact HSr.out.step hW hP
          clear hc hW hP HSr hcx z18 z19 z20 z21
          go_wp2_with fail
          exact ⟨⟨k + 1, q20, by omega, by go_num, HS20.out⟩, by simp [intOf]; omega⟩
        have hkn : k = f.list.length := by omega
        have HS9 : Hid (PW f ps A1 c1 A2 c2 A3 c3 A4 c4 w base g w.heap.size q wr q' (l8 ++ textsB f.list)) := by
          have := HSr.out
          rw [hkn, List.take_length] at this
          exact this
        have hpl := textsB_len f.list HWI.out.ls
        have HL9 : Hid ((l8 ++ textsB f.list).length ≤ B0 + 116700) := by show _ ≤ _; have := HL8.out; rw [List.length_append]; omega
        clear HSr hkn hpl HL8
        generalize hl9 : l8 ++ textsB f.list = l9 at HS9 HL9
        have HE9 : Hid (l9 = l8 ++ textsB f.list) := hl9.symm
        clear hl9
        have hno := rnone_any f.cver A3 f.cmems.length c3 f.cmems rfl wr
        have HZ4 : Hid (noneB f.cver f.cmems = false → chk f.cver f.cmems = 0) := fun h => by
          rcases HWI.out.cfg with h1 | h1
          · rw [h] at h1; cases h1
          · exact h1
        have HZ5 : Hid (noneB f.cver f.cmems = true → cfgR f = []) := cfg_none
        generalize noneB f.cver f.cmems = Z4 at hno HZ4 HZ5
        go_wp2_with fail
        refine hno.mono ?_
        rintro e w9 ⟨rfl, hB9⟩
        have HS10 : Hid (PW f ps A1 c1 A2 c2 A3 c3 A4 c4 w base g w.heap.size q w9 q' (l9)) := HS9.out.below hB9
        clear hno hB9 HS9 z18 z19 z20 z21 hlt hk
        obtain ⟨z0, z1, z2, z3, z4, z5, z6, z7, z8, z9, z10, z11, z12, z13, z14, z15, z16, z17, z18, z19, z20, z21⟩ := cells22 HS10.out.own.at'
        clear z0 z1 z2 z3 z4 z5 z6 z7 z8 z9 z10 z11 z12 z13 z14 z15 z16 z17 z18
        cases Z4 with
        | true =>
          have hcf : cfgR f = [] := HZ5.out rfl
          have hc := rfWBytes_any HS10.out.wr (x := .slice none 0 0) (b := []) (.inl ⟨rfl, rfl⟩) (by simp) (by have := HL9.out; have : (textB []).length = 1 := (by decide +kernel); omega)
          clear HZ4 HZ5
          go_wp2_with fail
          refine hc.mono ?_
          rintro e w11 ⟨rfl, q11, hW, hP⟩
          have HS11 : Hid (PW f ps A1 c1 A2 c2 A3 c3 A4 c4 w base g w.heap.size q w11 q11 (l9 ++ textB (cfgR f))) := by rw [hcf]; exact HS10.out.step hW hP
          clear hc hW hP HS10 hcf z19 z20 z21
          have HL11 : Hid ((l9 ++ textB (cfgR f)).length ≤ B0 + 117800) := by show _ ≤ _; have := HL9.out; have := cfgR_len f; have := textB_len (l := cfgR f) (by omega); simp only [List.length_append]; omega
          generalize hl11 : l9 ++ textB (cfgR f) = l11 at HS11 HL11
          have HE11 : Hid (l11 = l9 ++ textB (cfgR f)) := hl11.symm
          clear hl11 HL9
          obtain ⟨z0, z1, z2, z3, z4, z5, z6, z7, z8, z9, z10, z11, z12, z13, z14, z15, z16, z17, z18, z19, z20, z21⟩ := cells22 HS11.out.own.at'
          clear z0 z1 z2 z3 z4 z5 z6 z7 z8 z9 z10 z11 z12 z13 z14 z15 z16 z17 z18 z19 z20
          have h16' := H16.out
          have hc := rfWInt_any HS11.out.wr (f.np : Int) (by omega) (by omega) (by have := HL11.out; have := numB_len (n := (f.np : Int)) (I64_nat (by omega)); omega)
          go_wp2_with fail
          refine hc.mono ?_
          rintro e w12 ⟨rfl, q12, hW, hP⟩
          have HS12 : Hid (PW f ps A1 c1 A2 c2 A3 c3 A4 c4 w base g w.heap.size q w12 q12 (l11 ++ numB (f.np : Int))) := HS11.out.step hW hP
          have HL12 : Hid ((l11 ++ numB (f.np : Int)).length ≤ B0 + 117900) := by show _ ≤ _; have := HL11.out; have := numB_len (n := (f.np : Int)) (I64_nat (by omega)); simp only [List.length_append]; omega
          clear hc hW hP HS11 HL11 z21
          generalize hl12 : l11 ++ numB (f.np : Int) = l12 at HS12 HL12
          have HE12 : Hid (l12 = l11 ++ numB (f.np : Int)) := hl12.symm
          clear hl12
          go_wp2_with fail
          go_loopw [11] (fun c wr => ∃ (k : Nat) (q' : Option Nat), k ≤ f.np ∧ c = .int .i64 k ∧ PW f ps A1 c1 A2 c2 A3 c3 A4 c4 w base g w.heap.size q wr q' (l12 ++ prtsR (ps.take k))) (fun c _ => f.np - (intOf c).toNat)
          case atStart => exact ⟨0, q12, by omega, rfl, by simpa [prtsR] using HS12.out⟩
          case round =>
            obtain ⟨k, q', hk, rfl, hSr⟩ := hrel
            have HSr : Hid (PW f ps A1 c1 A2 c2 A3 c3 A4 c4 w base g w.heap.size q wr q' (l12 ++ prtsR (ps.take k))) := hSr
            clear hSr HS12
            obtain ⟨z0, z1, z2, z3, z4, z5, z6, z7, z8, z9, z10, z11, z12, z13, z14, z15, z16, z17, z18, z19, z20, z21⟩ := cells22 HSr.out.own.at'
            clear z0 z1 z2 z3 z4 z5 z6 z7 z8 z9 z10 z11 z12 z13 z14 z15 z16 z17 z18 z19 z20
            by_cases hlt : k < f.np
            · have hkl : k < ps.length := by have := HNP.out; omega
              have hpp : RPrts wr base (.slice A4 f.np c4) ps := by
                rcases HSr.out.parts with h0 | h0
                · rw [h0] at hkl; simp at hkl
                · exact h0
              obtain ⟨bb, oo, hA4, hbb, -, B1, B2, B3, B4, d1, d2, d3, d4, hra, hrest⟩ := hpp.at' k hkl
              have hpl := prtsR_len (ps.take k) (fun p hp => by obtain ⟨x1, x2, x3, x4⟩ := HPS.out p (List.mem_of_mem_take hp); exact ⟨x1, x3, x4⟩)
              have hplk : (ps.take k).length = k := by rw [List.length_take]; omega
              have HSN : Hid (prtsR (ps.take (k + 1)) = prtsR (ps.take k) ++ (bodyR (ps[k]'hkl) ++ numB 0)) := prtsR_snoc ps hkl
              have HLK : Hid ((l12 ++ prtsR (ps.take k)).length ≤ B0 + 160000) := by
                show _ ≤ _
                have := HL12.out
                rw [List.length_append]
                rw [hplk] at hpl
                omega
              have hc := HREC.out _ (List.getElem_mem hkl) wr q' (l12 ++ prtsR (ps.take k)) B1 B2 B3 B4 d1 d2 d3 d4 HSr.out.wr hrest (by have := HLK.out; omega)
              generalize (ps[k]'hkl) = p at hra hc HSN
              rw [hA4] at z21
              clear hA4 hpl hplk hrest hpp
              go_wp2_with (refine wpList_load_mid rfl 43 _ rfl bb (oo + k * 22) rfl [.int .u8 p.kind, .int .i64 p.xid, .int .i64 p.zxid, .int .i64 p.err, .int .i64 p.session, .int .i64 p.timeout, .string (mkS p.path), .slice B1 p.data.length d1, .int .i64 p.s0, .int .i64 p.s1, .int .i64 p.s2, .int .i64 p.s3, .int .i64 p.s4, .int .i64 p.s5, .int .i64 p.s6, .int .i64 p.s7, .int .i64 p.s8, .int .i64 p.s9, .slice B2 p.list.length d2, .int .i64 p.cver, .slice B3 p.cmems.length d3, .slice B4 p.np d4] _ hra Tryd.underlying43 rfl infoR ?_)
              refine Calls.mono hc ?_
              rintro e w14 ⟨rfl, q14, hW, hP⟩
              have HS14 : Hid (PW f ps A1 c1 A2 c2 A3 c3 A4 c4 w base g w.heap.size q w14 q14 (l12 ++ prtsR (ps.take (k + 1)))) := by
                show PW _ _ _ _ _ _ _ _ _ _ _ _ _ _ _ _ _ _
                rw [HSN.out, ← List.append_assoc]
                exact HSr.out.step hW hP
              clear hc hW hP HSr hra z21
              go_wp2_with fail
              exact ⟨⟨k + 1, q14, by omega, by go_num, HS14.out⟩, by simp [intOf]; omega⟩
            have hkn : k = f.np := by omega
            have HWE : Hid (WrF wr base g q' (l ++ replyB f ps)) := by
              show WrF _ _ _ _ _
              have e : l ++ replyB f ps = l12 ++ prtsR (ps.take k) := by
                rw [hkn, HNP.out, List.take_length, HE12.out, HE11.out, HE9.out, HE8.out, HE7.out, HE6.out, HE5.out, HE4.out, HE3.out, HNP.out]
                unfold replyB bodyR
                simp
              rw [e]
              exact HSr.out.wr
            have HPE : Hid (Put g q w wr q') := HSr.out.put
            clear HSr
            go_wp2
            go_end0
            exact ⟨rfl, q', HWE.out, HPE.out⟩
        | false =>
          have hck := HZ4.out rfl
          have hcf : cfgR f = cfgB f.cver f.cmems := if_pos hck
          have hpu := Go.Proofs.YtmojplgoohnmdaaDoor.rf4Put_yes HS10.out.rest.ms f.cver hck
          clear HZ4 HZ5
          go_wp2_with fail
          refine hpu.mono ?_
          rintro e w10 ⟨x, rfl, hN⟩
          have HS10' : Hid (PW f ps A1 c1 A2 c2 A3 c3 A4 c4 w base g w.heap.size q w10 q' (l9)) := HS10.out.below hN.below
          obtain ⟨AX, CX, rfl⟩ := bs_form hN.bs
          have hcl := cfgB_len hck
          have hc := rfWBytes_any HS10'.out.wr hN.bs (by omega) (by have := HL9.out; have := textB_len (l := cfgB f.cver f.cmems) (by omega); omega)
          clear hpu hN HS10 z19 z20 z21 hcl hck
          go_wp2_with fail
          refine hc.mono ?_
          rintro e w11 ⟨rfl, q11, hW, hP⟩
          have HS11 : Hid (PW f ps A1 c1 A2 c2 A3 c3 A4 c4 w base g w.heap.size q w11 q11 (l9 ++ textB (cfgR f))) := by rw [hcf]; exact HS10'.out.step hW hP
          clear hc hW hP HS10' hcf
          have HL11 : Hid ((l9 ++ textB (cfgR f)).length ≤ B0 + 117800) := by show _ ≤ _; have := HL9.out; have := cfgR_len f; have := textB_len (l := cfgR f) (by omega); simp only [List.length_append]; omega
          generalize hl11 : l9 ++ textB (cfgR f) = l11 at HS11 HL11
          have HE11 : Hid (l11 = l9 ++ textB (cfgR f)) := hl11.symm
          clear hl11 HL9
          obtain ⟨z0, z1, z2, z3, z4, z5, z6, z7, z8, z9, z10, z11, z12, z13, z14, z15, z16, z17, z18, z19, z20, z21⟩ := cells22 HS11.out.own.at'
          clear z0 z1 z2 z3 z4 z5 z6 z7 z8 z9 z10 z11 z12 z13 z14 z15 z16 z17 z18 z19 z20
          have h16' := H16.out
          have hc := rfWInt_any HS11.out.wr (f.np : Int) (by omega) (by omega) (by have := HL11.out; have := numB_len (n := (f.np : Int)) (I64_nat (by omega)); omega)
          go_wp2_with fail
          refine hc.mono ?_
          rintro e w12 ⟨rfl, q12, hW, hP⟩
          have HS12 : Hid (PW f ps A1 c1 A2 c2 A3 c3 A4 c4 w base g w.heap.size q w12 q12 (l11 ++ numB (f.np : Int))) := HS11.out.step hW hP
          have HL12 : Hid ((l11 ++ numB (f.np : Int)).length ≤ B0 + 117900) := by show _ ≤ _; have := HL11.out; have := numB_len (n := (f.np : Int)) (I64_nat (by omega)); simp only [List.length_append]; omega
          clear hc hW hP HS11 HL11 z21
          generalize hl12 : l11 ++ numB (f.np : Int) = l12 at HS12 HL12
          have HE12 : Hid (l12 = l11 ++ numB (f.np : Int)) := hl12.symm
          clear hl12
          go_wp2_with fail
          go_loopw [11] (fun c wr => ∃ (k : Nat) (q' : Option Nat), k ≤ f.np ∧ c = .int .i64 k ∧ PW f ps A1 c1 A2 c2 A3 c3 A4 c4 w base g w.heap.size q wr q' (l12 ++ prtsR (ps.take k))) (fun c _ => f.np - (intOf c).toNat)
          case atStart => exact ⟨0, q12, by omega, rfl, by simpa [prtsR] using HS12.out⟩
          case round =>
            obtain ⟨k, q', hk, rfl, hSr⟩ := hrel
            have HSr : Hid (PW f ps A1 c1 A2 c2 A3 c3 A4 c4 w base g w.heap.size q wr q' (l12 ++ prtsR (ps.take k))) := hSr
            clear hSr HS12
            obtain ⟨z0, z1, z2, z3, z4, z5, z6, z7, z8, z9, z10, z11, z12, z13, z14, z15, z16, z17, z18, z19, z20, z21⟩ := cells22 HSr.out.own.at'
            clear z0 z1 z2 z3 z4 z5 z6 z7 z8 z9 z10 z11 z12 z13 z14 z15 z16 z17 z18 z19 z20
            by_cases hlt : k < f.np
            · have hkl : k < ps.length := by have := HNP.out; omega
              have hpp : RPrts wr base (.slice A4 f.np c4) ps := by
                rcases HSr.out.parts with h0 | h0
                · rw [h0] at hkl; simp at hkl
                · exact h0
              obtain ⟨bb, oo, hA4, hbb, -, B1, B2, B3, B4, d1, d2, d3, d4, hra, hrest⟩ := hpp.at' k hkl
              have hpl := prtsR_len (ps.take k) (fun p hp => by obtain ⟨x1, x2, x3, x4⟩ := HPS.out p (List.mem_of_mem_take hp); exact ⟨x1, x3, x4⟩)
              have hplk : (ps.take k).length = k := by rw [List.length_take]; omega
              have HSN : Hid (prtsR (ps.take (k + 1)) = prtsR (ps.take k) ++ (bodyR (ps[k]'hkl) ++ numB 0)) := prtsR_snoc ps hkl
              have HLK : Hid ((l12 ++ prtsR (ps.take k)).length ≤ B0 + 160000) := by
                show _ ≤ _
                have := HL12.out
                rw [List.length_append]
                rw [hplk] at hpl
                omega
              have hc := HREC.out _ (List.getElem_mem hkl) wr q' (l12 ++ prtsR (ps.take k)) B1 B2 B3 B4 d1 d2 d3 d4 HSr.out.wr hrest (by have := HLK.out; omega)
              generalize (ps[k]'hkl) = p at hra hc HSN
              rw [hA4] at z21
              clear hA4 hpl hplk hrest hpp
              go_wp2_with (refine wpList_load_mid rfl 43 _ rfl bb (oo + k * 22) rfl [.int .u8 p.kind, .int .i64 p.xid, .int .i64 p.zxid, .int .i64 p.err, .int .i64 p.session, .int .i64 p.timeout, .string (mkS p.path), .slice B1 p.data.length d1, .int .i64 p.s0, .int .i64 p.s1, .int .i64 p.s2, .int .i64 p.s3, .int .i64 p.s4, .int .i64 p.s5, .int .i64 p.s6, .int .i64 p.s7, .int .i64 p.s8, .int .i64 p.s9, .slice B2 p.list.length d2, .int .i64 p.cver, .slice B3 p.cmems.length d3, .slice B4 p.np d4] _ hra Tryd.underlying43 rfl infoR ?_)
              refine Calls.mono hc ?_
              rintro e w14 ⟨rfl, q14, hW, hP⟩
              have HS14 : Hid (PW f ps A1 c1 A2 c2 A3 c3 A4 c4 w base g w.heap.size q w14 q14 (l12 ++ prtsR (ps.take (k + 1)))) := by
                show PW _ _ _ _ _ _ _ _ _ _ _ _ _ _ _ _ _ _
                rw [HSN.out, ← List.append_assoc]
                exact HSr.out.step hW hP
              clear hc hW hP HSr hra z21
              go_wp2_with fail
              exact ⟨⟨k + 1, q14, by omega, by go_num, HS14.out⟩, by simp [intOf]; omega⟩
            have hkn : k = f.np := by omega
            have HWE : Hid (WrF wr base g q' (l ++ replyB f ps)) := by
              show WrF _ _ _ _ _
              have e : l ++ replyB f ps = l12 ++ prtsR (ps.take k) := by
                rw [hkn, HNP.out, List.take_length, HE12.out, HE11.out, HE9.out, HE8.out, HE7.out, HE6.out, HE5.out, HE4.out, HE3.out, HNP.out]
                unfold replyB bodyR
                simp
              rw [e]
              exact HSr.out.wr
            have HPE : Hid (Put g q w wr q') := HSr.out.put
            clear HSr
            go_wp2
            go_end0
            exact ⟨rfl, q', HWE.out, HPE.out⟩
end Go.Proofs.YtmojplgoohnmdaaDoor.AK
