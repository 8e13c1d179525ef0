/- The walk of putReply, with list and parts. -/
import Derived.Test.YtmojplgoohnmdaaDoorRpF
import Derived.Test.YtmojplgoohnmdaaDoorRpC
namespace Go.Proofs.YtmojplgoohnmdaaDoor.AK
set_option linter.unusedSimpArgs false
set_option linter.unusedVariables false
open Go.RowKit
set_option linter.unusedVariables false
set_option linter.unusedSimpArgs false

theorem putReply_leaf' {w : World} {base g : Nat} {q : Option Nat} {l : List UInt8} (h : WrAt w base g q l) (hg : base ≤ g) (hl : l.length ≤ 200000) (f : Rf) (hf : RFit f) (hw : FitR f) (A1 A2 A3 A4 : Option Addr) (c1 c2 c3 c4 : Nat) (hr : RRest w base f A1 c1 A2 c2 A3 c3) (hnp : f.np = 0) (hli : f.list = []) :
    Calls Tryd.prog 42 #[.pointer (some ⟨g, 0, none⟩), .agg #[.int .u8 f.kind, .int .i64 f.xid, .int .i64 f.zxid, .int .i64 f.err, .int .i64 f.session, .int .i64 f.timeout, .string (mkS f.path), .slice A1 f.data.length c1, .int .i64 f.s0, .int .i64 f.s1, .int .i64 f.s2, .int .i64 f.s3, .int .i64 f.s4, .int .i64 f.s5, .int .i64 f.s6, .int .i64 f.s7, .int .i64 f.s8, .int .i64 f.s9, .slice A2 f.list.length c2, .int .i64 f.cver, .slice A3 f.cmems.length c3, .slice A4 f.np c4]] w fun e w' => e = .returned (.tuple #[]) ∧ ∃ q', WrAt w' base g q' (l ++ (bodyR f ++ numB 0)) ∧ Put g q w w' q' := by
  have h1 := putReply_leaf h hg hl f hf hw A1 A2 A3 A4 c1 c2 c3 c4 hr hnp hli
  have e1 : f.list.length = 0 := by rw [hli]; rfl
  rw [e1, hnp]
  exact h1
structure PT (f : Rf) (ps : List Rf) (A1 : Option Addr) (c1 : Nat) (A2 : Option Addr) (c2 : Nat) (A3 : Option Addr) (c3 : Nat) (A4 : Option Addr) (c4 : Nat) (w0 : World) (base g p : Nat) (q0 : Option Nat) (w : World) (q : Option Nat) (l : List UInt8) : Prop where
  wr : WrAt w base g q l
  put : Put g q0 w0 w q
  own : Own w p (.cells #[.int .u8 f.kind, .int .i64 f.xid, .int .i64 f.zxid, .int .i64 f.err, .int .i64 f.session, .int .i64 f.timeout, .string (mkS f.path), .slice A1 f.data.length c1, .int .i64 f.s0, .int .i64 f.s1, .int .i64 f.s2, .int .i64 f.s3, .int .i64 f.s4, .int .i64 f.s5, .int .i64 f.s6, .int .i64 f.s7, .int .i64 f.s8, .int .i64 f.s9, .slice A2 f.list.length c2, .int .i64 f.cver, .slice A3 f.cmems.length c3, .slice A4 f.np c4] 43 (0, 0)) g q
  hg : base ≤ g
  parts : RPrts w base (.slice A4 f.np c4) ps
  rest : RRest w base f A1 c1 A2 c2 A3 c3
theorem PT.step {f : Rf} {ps : List Rf} {A1 A2 A3 A4 : Option Addr} {c1 c2 c3 c4 : Nat} {w0 w w' : World} {base g p : Nat} {q0 q q' : Option Nat} {l l' : List UInt8} (h : PT f ps A1 c1 A2 c2 A3 c3 A4 c4 w0 base g p q0 w q l) (hW : WrAt w' base g q' l') (hP : Put g q w w' q') : PT f ps A1 c1 A2 c2 A3 c3 A4 c4 w0 base g p q0 w' q' l' :=
  ⟨hW, h.put.trans hP, h.own.put hP, h.hg, h.parts.below (put_below h.wr h.hg hP), h.rest.below (put_below h.wr h.hg hP)⟩
theorem PT.below {f : Rf} {ps : List Rf} {A1 A2 A3 A4 : Option Addr} {c1 c2 c3 c4 : Nat} {w0 w w' : World} {base g p : Nat} {q0 q : Option Nat} {l : List UInt8} (h : PT f ps A1 c1 A2 c2 A3 c3 A4 c4 w0 base g p q0 w q l) (hB : Below w.heap.size w w') : PT f ps A1 c1 A2 c2 A3 c3 A4 c4 w0 base g p q0 w' q l :=
  h.step (WrAt.below h.wr hB) (Put.below hB)
set_option maxRecDepth 100000 in
set_option maxHeartbeats 8000000 in
theorem putReply_any {w : World} {base g : Nat} {q : Option Nat} {l : List UInt8} (h : WrAt w base g q l) (hg : base ≤ g) (hl : l.length ≤ 1000) (f : Rf) (hf : RFit f) (hw : FitR f) (A1 A2 A3 A4 : Option Addr) (c1 c2 c3 c4 : Nat) (hr : RRest w base f A1 c1 A2 c2 A3 c3) (ps : List Rf) (hp : RPrts w base (.slice A4 f.np c4) ps) (hnp : f.np = ps.length) (h16 : f.np ≤ 16) (hps : ∀ p ∈ ps, RFit p ∧ p.np = 0 ∧ p.list = [] ∧ fitR p = true) :
    Calls Tryd.prog 42 #[.pointer (some ⟨g, 0, none⟩), .agg #[.int .u8 f.kind, .int .i64 f.xid, .int .i64 f.zxid, .int .i64 f.err, .int .i64 f.session, .int .i64 f.timeout, .string (mkS f.path), .slice A1 f.data.length c1, .int .i64 f.s0, .int .i64 f.s1, .int .i64 f.s2, .int .i64 f.s3, .int .i64 f.s4, .int .i64 f.s5, .int .i64 f.s6, .int .i64 f.s7, .int .i64 f.s8, .int .i64 f.s9, .slice A2 f.list.length c2, .int .i64 f.cver, .slice A3 f.cmems.length c3, .slice A4 f.np c4]] w fun e w' => e = .returned (.tuple #[]) ∧ ∃ q', WrAt w' base g q' (l ++ replyB f ps) ∧ Put g q w w' q' := by
  have HF : Hid (RFit f) := hf
  have HWI : Hid (FitR f) := hw
  obtain ⟨w1, hw1⟩ : ∃ X, X = w.alloc (.cells #[.int .u8 f.kind, .int .i64 f.xid, .int .i64 f.zxid, .int .i64 f.err, .int .i64 f.session, .int .i64 f.timeout, .string (mkS f.path), .slice A1 f.data.length c1, .int .i64 f.s0, .int .i64 f.s1, .int .i64 f.s2, .int .i64 f.s3, .int .i64 f.s4, .int .i64 f.s5, .int .i64 f.s6, .int .i64 f.s7, .int .i64 f.s8, .int .i64 f.s9, .slice A2 f.list.length c2, .int .i64 f.cver, .slice A3 f.cmems.length c3, .slice A4 f.np c4] 43) := ⟨_, rfl⟩
  have hB1 : Below w.heap.size w w1 := by rw [hw1]; exact (Below.refl _ _).alloc (Nat.le_refl _) _
  have HS : Hid (PT f ps A1 c1 A2 c2 A3 c3 A4 c4 w base g w.heap.size q w1 q l) := ⟨WrAt.below h hB1, Put.below hB1, ⟨by rw [hw1]; exact heap_alloc_new w _, by have := RowAt.lt h; omega, fun e => by have := (RowAt.qlt h _ e).2; omega⟩, hg, hp.below (hB1.mono (WrAt.base' h)), hr.below (hB1.mono (WrAt.base' h))⟩
  have HL : Hid (l.length ≤ 1000) := hl
  have hwb := wByte_any HS.out.wr f.kind (u8 f.kind) (u8_back hf.kind).symm (by omega)
  rw [hw1] at hwb
  have HPS : Hid (∀ p ∈ ps, RFit p ∧ p.np = 0 ∧ p.list = [] ∧ fitR p = true) := hps
  have HNP : Hid (f.np = ps.length) := hnp
  have H16 : Hid (f.np ≤ 16) := h16
  clear h hr hf hw hl hB1 hnp hps hp h16
  go_enter Tryd.func42, Tryd.ntmps42
  go_wp2_with fail
  refine hwb.mono ?_
  rintro e w2 ⟨rfl, q2, hW, hP⟩
  rw [← hw1] at hP
  have HS2 : Hid (PT f ps A1 c1 A2 c2 A3 c3 A4 c4 w base g w.heap.size q w2 q2 (l ++ [u8 f.kind])) := HS.out.step hW hP
  have HL2 : Hid ((l ++ [u8 f.kind]).length ≤ 1001) := by show _ ≤ _; have := HL.out; simp only [List.length_append, List.length_singleton]; omega
  clear hwb hW hP HS HL hw1 w1
  generalize hl2 : l ++ [u8 f.kind] = l2 at HS2 HL2
  have HE2 : Hid (l2 = l ++ [u8 f.kind]) := hl2.symm
  clear hl2
  obtain ⟨z0, z1, z2, z3, z4, z5, z6, z7, z8, z9, z10, z11, z12, z13, z14, z15, z16, z17, z18, z19, z20, z21⟩ := cells22 HS2.out.own.at'
  have hc := putInts_five HS2.out.wr hg (by have := HL2.out; omega) f HF.out.head
  go_wp2_with fail
  refine hc.mono ?_
  rintro e w3 ⟨rfl, q3, hW, hP⟩
  have hnl := numsB_len (headR f) HF.out.head
  have HL3 : Hid ((l2 ++ numsB (headR f)).length ≤ 1100) := by show _ ≤ _; have := HL2.out; have : (headR f).length = 5 := rfl; simp only [List.length_append]; omega
  have HS3 : Hid (PT f ps A1 c1 A2 c2 A3 c3 A4 c4 w base g w.heap.size q w3 q3 (l2 ++ numsB (headR f))) := HS2.out.step hW hP
  clear hc hW hP hnl HS2 HL2 z0 z1 z2 z3 z4 z5 z6 z7 z8 z9 z10 z11 z12 z13 z14 z15 z16 z17 z18 z19 z20 z21
  generalize hl3 : l2 ++ numsB (headR f) = l3 at HS3 HL3
  have HE3 : Hid (l3 = l2 ++ numsB (headR f)) := hl3.symm
  clear hl3
  obtain ⟨z0, z1, z2, z3, z4, z5, z6, z7, z8, z9, z10, z11, z12, z13, z14, z15, z16, z17, z18, z19, z20, z21⟩ := cells22 HS3.out.own.at'
  have hx := textB_len (l := f.path) (by have := HWI.out.path; omega)
  have hc := wText_any HS3.out.wr f.path (by have := HWI.out.path; omega) (by have := HL3.out; have := HWI.out.path; omega)
  have HL4 : Hid ((l3 ++ textB f.path).length ≤ 1400) := by show _ ≤ _; have := HL3.out; have := HWI.out.path; simp only [List.length_append]; omega
  clear hx
  go_wp2_with fail
  refine hc.mono ?_
  rintro e w4 ⟨rfl, q4, hW, hP⟩
  have HS4 : Hid (PT f ps A1 c1 A2 c2 A3 c3 A4 c4 w base g w.heap.size q w4 q4 (l3 ++ textB f.path)) := HS3.out.step hW hP
  clear hc hW hP HS3 HL3 z0 z1 z2 z3 z4 z5 z6 z7 z8 z9 z10 z11 z12 z13 z14 z15 z16 z17 z18 z19 z20 z21
  generalize hl4 : l3 ++ textB f.path = l4 at HS4 HL4
  have HE4 : Hid (l4 = l3 ++ textB f.path) := hl4.symm
  clear hl4
  obtain ⟨z0, z1, z2, z3, z4, z5, z6, z7, z8, z9, z10, z11, z12, z13, z14, z15, z16, z17, z18, z19, z20, z21⟩ := cells22 HS4.out.own.at'
  have hx := textB_len (l := f.data) (by have := HWI.out.data; omega)
  have hc := wBytes_any HS4.out.wr HS4.out.rest.bs (by have := HWI.out.data; omega) (by have := HL4.out; have := HWI.out.data; omega) (fun e => by have := HS4.out.rest.bsB g e; omega) (fun j hj e => by have := HS4.out.rest.bsB j e; have := (RowAt.qlt HS4.out.wr j hj).1; omega)
  have HL5 : Hid ((l4 ++ textB f.data).length ≤ 2500) := by show _ ≤ _; have := HL4.out; have := HWI.out.data; simp only [List.length_append]; omega
  clear hx
  go_wp2_with fail
  refine hc.mono ?_
  rintro e w5 ⟨rfl, q5, hW, hP⟩
  have HS5 : Hid (PT f ps A1 c1 A2 c2 A3 c3 A4 c4 w base g w.heap.size q w5 q5 (l4 ++ textB f.data)) := HS4.out.step hW hP
  clear hc hW hP HS4 HL4 z0 z1 z2 z3 z4 z5 z6 z7 z8 z9 z10 z11 z12 z13 z14 z15 z16 z17 z18 z19 z20 z21
  generalize hl5 : l4 ++ textB f.data = l5 at HS5 HL5
  have HE5 : Hid (l5 = l4 ++ textB f.data) := hl5.symm
  clear hl5
  obtain ⟨z0, z1, z2, z3, z4, z5, z6, z7, z8, z9, z10, z11, z12, z13, z14, z15, z16, z17, z18, z19, z20, z21⟩ := cells22 HS5.out.own.at'
  have hc := numbersOf_any f.s0 f.s1 f.s2 f.s3 f.s4 f.s5 f.s6 f.s7 f.s8 f.s9 w5
  go_wp2_with fail
  refine hc.mono ?_
  rintro e w6 ⟨rfl, hB6⟩
  have HS6 : Hid (PT f ps A1 c1 A2 c2 A3 c3 A4 c4 w base g w.heap.size q w6 q5 l5) := HS5.out.below hB6
  clear hc hB6 HS5 z0 z1 z2 z3 z4 z5 z6 z7 z8 z9 z10 z11 z12 z13 z14 z15 z16 z17 z18 z19 z20 z21
  obtain ⟨w7, hw7⟩ : ∃ X, X = w6.alloc (.cells #[.int .i64 f.s0, .int .i64 f.s1, .int .i64 f.s2, .int .i64 f.s3, .int .i64 f.s4, .int .i64 f.s5, .int .i64 f.s6, .int .i64 f.s7, .int .i64 f.s8, .int .i64 f.s9] 123) := ⟨_, rfl⟩
  have hB7 : Below w6.heap.size w6 w7 := by rw [hw7]; exact (Below.refl _ _).alloc (Nat.le_refl _) _
  have HS7 : Hid (PT f ps A1 c1 A2 c2 A3 c3 A4 c4 w base g w.heap.size q w7 q5 l5) := HS6.out.below hB7
  have hst : w7.heap[w6.heap.size]? = some (.cells #[.int .i64 f.s0, .int .i64 f.s1, .int .i64 f.s2, .int .i64 f.s3, .int .i64 f.s4, .int .i64 f.s5, .int .i64 f.s6, .int .i64 f.s7, .int .i64 f.s8, .int .i64 f.s9] 123 (0, 0)) := by rw [hw7]; exact heap_alloc_new w6 _
  have hc : Calls Tryd.prog 28 #[.pointer (some ⟨g, 0, none⟩), .slice (some ⟨w6.heap.size, 0, none⟩) 10 10] w7 fun e w' => e = .returned (.tuple #[]) ∧ ∃ q', WrAt w' base g q' (l5 ++ numsB (statR f)) ∧ Put g q5 w7 w' q' :=
    putInts_any (ns := statR f) HS7.out.wr hg (by have := HL5.out; omega) (nums10 hst) (heap_lt hst) (by have := RowAt.lt HS6.out.wr; omega) (fun e => by have := (RowAt.qlt HS6.out.wr _ e).2; omega) (by simp [statR]) HF.out.stat
  have hnl := numsB_len (statR f) HF.out.stat
  have HL8 : Hid ((l5 ++ numsB (statR f)).length ≤ 2700) := by show _ ≤ _; have := HL5.out; have : (statR f).length = 10 := rfl; simp only [List.length_append]; omega
  rw [hw7] at hc
  clear hnl hst hB7
  go_wp2_with fail
  refine hc.mono ?_
  rintro e w8 ⟨rfl, q8, hW, hP⟩
  rw [← hw7] at hP
  have HS8 : Hid (PT f ps A1 c1 A2 c2 A3 c3 A4 c4 w base g w.heap.size q w8 q8 (l5 ++ numsB (statR f))) := HS7.out.step hW hP
  clear hc hW hP HS6 HS7 HL5 hw7 w7
  generalize hl8 : l5 ++ numsB (statR f) = l8 at HS8 HL8
  have HE8 : Hid (l8 = l5 ++ numsB (statR f)) := hl8.symm
  clear hl8
  obtain ⟨z0, z1, z2, z3, z4, z5, z6, z7, z8, z9, z10, z11, z12, z13, z14, z15, z16, z17, z18, z19, z20, z21⟩ := cells22 HS8.out.own.at'
  have h500 := HWI.out.ln
  have hc := putInts_one HS8.out.wr hg (by have := HL8.out; omega) (f.list.length : Int) (I64_nat (by omega))
  have hx := numB_len (n := (f.list.length : Int)) (I64_nat (by omega))
  have HL9 : Hid ((l8 ++ numB (f.list.length : Int)).length ≤ 2800) := by show _ ≤ _; have := HL8.out; simp only [List.length_append]; omega
  clear hx
  go_wp2_with fail
  refine hc.mono ?_
  rintro e w9 ⟨rfl, q9, hW, hP⟩
  have HS9 : Hid (PT f ps A1 c1 A2 c2 A3 c3 A4 c4 w base g w.heap.size q w9 q9 (l8 ++ numB (f.list.length : Int))) := HS8.out.step hW hP
  clear hc hW hP HS8 HL8 z0 z1 z2 z3 z4 z5 z6 z7 z8 z9 z10 z11 z12 z13 z14 z15 z16 z17 z18 z19 z20 z21
  generalize hl9 : l8 ++ numB (f.list.length : Int) = l9 at HS9 HL9
  have HE9 : Hid (l9 = l8 ++ numB (f.list.length : Int)) := hl9.symm
  clear hl9
  obtain ⟨z0, z1, z2, z3, z4, z5, z6, z7, z8, z9, z10, z11, z12, z13, z14, z15, z16, z17, z18, z19, z20, z21⟩ := cells22 HS9.out.own.at'
  go_wp2_with fail
  clear z0 z1 z2 z3 z4 z5 z6 z7 z8 z9 z10 z11 z12 z13 z14 z15 z16 z17 z18 z19 z20 z21
  go_loopw [51] (fun c wr => ∃ (k : Nat) (q' : Option Nat), k ≤ f.list.length ∧ c = .int .i64 k ∧ PT f ps A1 c1 A2 c2 A3 c3 A4 c4 w base g w.heap.size q wr q' (l9 ++ textsB (f.list.take k))) (fun c _ => f.list.length - (intOf c).toNat)
  case atStart => exact ⟨0, q9, by omega, rfl, by simpa [textsB] using HS9.out⟩
  case round =>
    obtain ⟨k, q', hk, rfl, hSr⟩ := hrel
    have HSr : Hid (PT f ps A1 c1 A2 c2 A3 c3 A4 c4 w base g w.heap.size q wr q' (l9 ++ textsB (f.list.take k))) := hSr
    clear hSr HS9
    by_cases hlt : k < f.list.length
    · obtain ⟨bb, oo, hA2, hb, hcx⟩ := HSr.out.rest.tx.at' k hlt
      have hxl := HWI.out.ls _ (List.getElem_mem hlt)
      have hpl := textsB_len (f.list.take k) (fun t ht => HWI.out.ls t (List.mem_of_mem_take ht))
      have hplk : (f.list.take k).length = k := by rw [List.length_take]; omega
      have HLK : Hid ((l9 ++ textsB (f.list.take k)).length ≤ 117900) := by
        show _ ≤ _
        have := HL9.out
        rw [List.length_append]
        rw [hplk] at hpl
        omega
      have HSN : Hid (textsB (f.list.take (k + 1)) = textsB (f.list.take k) ++ textB (f.list[k]'hlt)) := textsB_snoc f.list hlt
      generalize (f.list[k]'hlt) = x at hcx hxl HSN
      have hc := wText_any HSr.out.wr x (by omega) (by have := HLK.out; have := textB_len (l := x) (by omega); omega)
      subst hA2
      clear hpl hplk hxl
      go_wp2_with fail
      refine hc.mono ?_
      rintro e w20 ⟨rfl, q20, hW, hP⟩
      have HS20 : Hid (PT f ps A1 c1 (some ⟨bb, oo, none⟩) c2 A3 c3 A4 c4 w base g w.heap.size q w20 q20 (l9 ++ textsB (f.list.take (k + 1)))) := by
        show PT _ _ _ _ _ _ _ _ _ _ _ _ _ _ _ _ _ _
        rw [HSN.out, ← List.append_assoc]
        exact HSr.out.step hW hP
      clear hc hW hP HSr hcx
      go_wp2_with fail
      exact ⟨⟨k + 1, q20, by omega, by go_num, HS20.out⟩, by simp [intOf]; omega⟩
    have hkn : k = f.list.length := by omega
    have HS9 : Hid (PT f ps A1 c1 A2 c2 A3 c3 A4 c4 w base g w.heap.size q wr q' (l9 ++ textsB f.list)) := by
      have := HSr.out
      rw [hkn, List.take_length] at this
      exact this
    have hpl := textsB_len f.list HWI.out.ls
    have HL9' : Hid ((l9 ++ textsB f.list).length ≤ 117900) := by show _ ≤ _; have := HL9.out; rw [List.length_append]; omega
    clear HSr hkn hpl HL9
    have HL9 := HL9'
    clear HL9'
    generalize hl10 : l9 ++ textsB f.list = l10 at HS9 HL9
    have HE10 : Hid (l10 = l9 ++ textsB f.list) := hl10.symm
    clear hl10
    obtain ⟨z0, z1, z2, z3, z4, z5, z6, z7, z8, z9, z10, z11, z12, z13, z14, z15, z16, z17, z18, z19, z20, z21⟩ := cells22 HS9.out.own.at'
    have hc := ensPut_any f HS9.out.rest.ms
    go_wp2_with fail
    refine hc.mono ?_
    rintro e w10 ⟨AX, CX, code, rfl, hbx, hB10, hkx⟩
    have HS10 : Hid (PT f ps A1 c1 A2 c2 A3 c3 A4 c4 w base g w.heap.size q w10 q' l10) := HS9.out.below hB10
    have hx := textB_len (l := cfgR f) (by have := cfgR_len f; omega)
    have hx2 := cfgR_len f
    have hc' := wBytes_any HS10.out.wr hbx (by omega) (by have := HL9.out; omega) (fun e => by have := hkx g e; have := RowAt.lt HS9.out.wr; omega) (fun j hj e => by have := hkx j e; have := (RowAt.qlt HS9.out.wr j hj).2; omega)
    have HL11 : Hid ((l10 ++ textB (cfgR f)).length ≤ 119000) := by show _ ≤ _; have := HL9.out; simp only [List.length_append]; omega
    clear hx hx2 hc hbx hB10 hkx HS9 HL9 z0 z1 z2 z3 z4 z5 z6 z7 z8 z9 z10 z11 z12 z13 z14 z15 z16 z17 z18 z19 z20 z21
    go_wp2_with fail
    refine hc'.mono ?_
    rintro e w11 ⟨rfl, q11, hW, hP⟩
    have HS11 : Hid (PT f ps A1 c1 A2 c2 A3 c3 A4 c4 w base g w.heap.size q w11 q11 (l10 ++ textB (cfgR f))) := HS10.out.step hW hP
    clear hc' hW hP HS10
    generalize hl11 : l10 ++ textB (cfgR f) = l11 at HS11 HL11
    have HE11 : Hid (l11 = l10 ++ textB (cfgR f)) := hl11.symm
    clear hl11
    obtain ⟨z0, z1, z2, z3, z4, z5, z6, z7, z8, z9, z10, z11, z12, z13, z14, z15, z16, z17, z18, z19, z20, z21⟩ := cells22 HS11.out.own.at'
    have h16' := H16.out
    have hc := putInts_one HS11.out.wr hg (by have := HL11.out; omega) (f.np : Int) (I64_nat (by omega))
    have hx := numB_len (n := (f.np : Int)) (I64_nat (by omega))
    have HL12 : Hid ((l11 ++ numB (f.np : Int)).length ≤ 119200) := by show _ ≤ _; have := HL11.out; simp only [List.length_append]; omega
    clear hx
    go_wp2_with fail
    refine hc.mono ?_
    rintro e w12 ⟨rfl, q12, hW, hP⟩
    have HS12 : Hid (PT f ps A1 c1 A2 c2 A3 c3 A4 c4 w base g w.heap.size q w12 q12 (l11 ++ numB (f.np : Int))) := HS11.out.step hW hP
    clear hc hW hP HS11 HL11 z0 z1 z2 z3 z4 z5 z6 z7 z8 z9 z10 z11 z12 z13 z14 z15 z16 z17 z18 z19 z20 z21
    obtain ⟨z0, z1, z2, z3, z4, z5, z6, z7, z8, z9, z10, z11, z12, z13, z14, z15, z16, z17, z18, z19, z20, z21⟩ := cells22 HS12.out.own.at'
    go_wp2_with fail
    clear z0 z1 z2 z3 z4 z5 z6 z7 z8 z9 z10 z11 z12 z13 z14 z15 z16 z17 z18 z19 z20 z21
    generalize hl12 : l11 ++ numB (f.np : Int) = l12 at HS12 HL12
    have HE12 : Hid (l12 = l11 ++ numB (f.np : Int)) := hl12.symm
    clear hl12
    go_loopw [77] (fun c wr => ∃ (k : Nat) (q' : Option Nat), k ≤ f.np ∧ c = .int .i64 k ∧ PT f ps A1 c1 A2 c2 A3 c3 A4 c4 w base g w.heap.size q wr q' (l12 ++ prtsR (ps.take k))) (fun c _ => f.np - (intOf c).toNat)
    case atStart => exact ⟨0, q12, by omega, rfl, by simpa [prtsR] using HS12.out⟩
    case round =>
      obtain ⟨k, q', hk, rfl, hSr⟩ := hrel
      have HSr : Hid (PT f ps A1 c1 A2 c2 A3 c3 A4 c4 w base g w.heap.size q wr q' (l12 ++ prtsR (ps.take k))) := hSr
      clear hSr HS12
      by_cases hlt : k < f.np
      · have hkl : k < ps.length := by have := HNP.out; omega
        obtain ⟨bb, oo, hA4, hbb, -, B1, B2, B3, B4, d1, d2, d3, d4, hra, hrest⟩ := HSr.out.parts.at' k hkl
        have hff := HPS.out _ (List.getElem_mem hkl)
        have hpl := prtsR_len (ps.take k) (fun p hp => by obtain ⟨x1, x2, x3, x4⟩ := HPS.out p (List.mem_of_mem_take hp); exact ⟨x1, x3, x4⟩)
        have hplk : (ps.take k).length = k := by rw [List.length_take]; omega
        have HSN : Hid (prtsR (ps.take (k + 1)) = prtsR (ps.take k) ++ (bodyR (ps[k]'hkl) ++ numB 0)) := prtsR_snoc ps hkl
        have HLK : Hid ((l12 ++ prtsR (ps.take k)).length ≤ 162000) := by
          show _ ≤ _
          have := HL12.out
          rw [List.length_append]
          rw [hplk] at hpl
          omega
        generalize (ps[k]'hkl) = p at hra hrest hff HSN
        have HFF : Hid (RFit p ∧ p.np = 0 ∧ p.list = [] ∧ fitR p = true) := hff
        have hal := heap_alloc_new wr (.cells #[.int .u8 0, .int .i64 0, .int .i64 0, .int .i64 0, .int .i64 0, .int .i64 0, .string ⟨#[]⟩, .slice none 0 0, .int .i64 0, .int .i64 0, .int .i64 0, .int .i64 0, .int .i64 0, .int .i64 0, .int .i64 0, .int .i64 0, .int .i64 0, .int .i64 0, .slice none 0 0, .int .i64 0, .slice none 0 0, .slice none 0 0] 43 (0, 0))
        obtain ⟨w13, hw13⟩ : ∃ X, X = (wr.alloc (.cells #[.int .u8 0, .int .i64 0, .int .i64 0, .int .i64 0, .int .i64 0, .int .i64 0, .string ⟨#[]⟩, .slice none 0 0, .int .i64 0, .int .i64 0, .int .i64 0, .int .i64 0, .int .i64 0, .int .i64 0, .int .i64 0, .int .i64 0, .int .i64 0, .int .i64 0, .slice none 0 0, .int .i64 0, .slice none 0 0, .slice none 0 0] 43)).setCells wr.heap.size 0 [.int .u8 p.kind, .int .i64 p.xid, .int .i64 p.zxid, .int .i64 p.err, .int .i64 p.session, .int .i64 p.timeout, .string (mkS p.path), .slice B1 p.data.length d1, .int .i64 p.s0, .int .i64 p.s1, .int .i64 p.s2, .int .i64 p.s3, .int .i64 p.s4, .int .i64 p.s5, .int .i64 p.s6, .int .i64 p.s7, .int .i64 p.s8, .int .i64 p.s9, .slice B2 p.list.length d2, .int .i64 p.cver, .slice B3 p.cmems.length d3, .slice B4 p.np d4] := ⟨_, rfl⟩
        have hs13 := setL0 hal [.int .u8 p.kind, .int .i64 p.xid, .int .i64 p.zxid, .int .i64 p.err, .int .i64 p.session, .int .i64 p.timeout, .string (mkS p.path), .slice B1 p.data.length d1, .int .i64 p.s0, .int .i64 p.s1, .int .i64 p.s2, .int .i64 p.s3, .int .i64 p.s4, .int .i64 p.s5, .int .i64 p.s6, .int .i64 p.s7, .int .i64 p.s8, .int .i64 p.s9, .slice B2 p.list.length d2, .int .i64 p.cver, .slice B3 p.cmems.length d3, .slice B4 p.np d4] rfl
        rw [← hw13] at hs13
        have hB13 : Below wr.heap.size wr w13 := ((Below.refl _ _).alloc (Nat.le_refl _) _).trans (hs13.2.below (fun k e => by omega) (by simp))
        have HS13 : Hid (PT f ps A1 c1 A2 c2 A3 c3 A4 c4 w base g w.heap.size q w13 q' (l12 ++ prtsR (ps.take k))) := HSr.out.below hB13
        have HD13 : Hid (w13.heap[wr.heap.size]? = some (.cells #[.int .u8 p.kind, .int .i64 p.xid, .int .i64 p.zxid, .int .i64 p.err, .int .i64 p.session, .int .i64 p.timeout, .string (mkS p.path), .slice B1 p.data.length d1, .int .i64 p.s0, .int .i64 p.s1, .int .i64 p.s2, .int .i64 p.s3, .int .i64 p.s4, .int .i64 p.s5, .int .i64 p.s6, .int .i64 p.s7, .int .i64 p.s8, .int .i64 p.s9, .slice B2 p.list.length d2, .int .i64 p.cver, .slice B3 p.cmems.length d3, .slice B4 p.np d4] 43 (0, 0))) := hs13.1
        have hr13 : RRest w13 base p B1 d1 B2 d2 B3 d3 := hrest.below (hB13.mono (WrAt.base' HSr.out.wr))
        have hth := thereL hal 0 22 (show 0 + 22 ≤ 22 by decide)
        have hon : (#[.int .u8 p.kind, .int .i64 p.xid, .int .i64 p.zxid, .int .i64 p.err, .int .i64 p.session, .int .i64 p.timeout, .string (mkS p.path), .slice B1 p.data.length d1, .int .i64 p.s0, .int .i64 p.s1, .int .i64 p.s2, .int .i64 p.s3, .int .i64 p.s4, .int .i64 p.s5, .int .i64 p.s6, .int .i64 p.s7, .int .i64 p.s8, .int .i64 p.s9, .slice B2 p.list.length d2, .int .i64 p.cver, .slice B3 p.cmems.length d3, .slice B4 p.np d4] : Array Value).all (·.oneCell') = true := all_oneCell_toArray (by intro v hv; simp only [List.mem_cons, List.not_mem_nil, or_false] at hv; rcases hv with rfl | rfl | rfl | rfl | rfl | rfl | rfl | rfl | rfl | rfl | rfl | rfl | rfl | rfl | rfl | rfl | rfl | rfl | rfl | rfl | rfl | rfl <;> rfl)
        have HE : Hid ((wr.alloc (.cells #[.int .u8 0, .int .i64 0, .int .i64 0, .int .i64 0, .int .i64 0, .int .i64 0, .string ⟨#[]⟩, .slice none 0 0, .int .i64 0, .int .i64 0, .int .i64 0, .int .i64 0, .int .i64 0, .int .i64 0, .int .i64 0, .int .i64 0, .int .i64 0, .int .i64 0, .slice none 0 0, .int .i64 0, .slice none 0 0, .slice none 0 0] 43)).setCells wr.heap.size 0 (#[.int .u8 p.kind, .int .i64 p.xid, .int .i64 p.zxid, .int .i64 p.err, .int .i64 p.session, .int .i64 p.timeout, .string (mkS p.path), .slice B1 p.data.length d1, .int .i64 p.s0, .int .i64 p.s1, .int .i64 p.s2, .int .i64 p.s3, .int .i64 p.s4, .int .i64 p.s5, .int .i64 p.s6, .int .i64 p.s7, .int .i64 p.s8, .int .i64 p.s9, .slice B2 p.list.length d2, .int .i64 p.cver, .slice B3 p.cmems.length d3, .slice B4 p.np d4] : Array Value).toList = w13) := hw13.symm
        have hra13 := rangeL HD13.out
        have hc := putReply_leaf' HS13.out.wr hg (by have := HLK.out; omega) p hff.1 (fitR_of hff.2.2.2) B1 B2 B3 B4 d1 d2 d3 d4 hr13 hff.2.1 hff.2.2.1
        subst hA4
        clear hpl hplk hff hal hs13 hw13 hB13 hr13 hrest HSr
        go_wp2_with (first | (refine wpList_load_mid rfl 43 _ rfl bb (oo + k * 22) rfl [.int .u8 p.kind, .int .i64 p.xid, .int .i64 p.zxid, .int .i64 p.err, .int .i64 p.session, .int .i64 p.timeout, .string (mkS p.path), .slice B1 p.data.length d1, .int .i64 p.s0, .int .i64 p.s1, .int .i64 p.s2, .int .i64 p.s3, .int .i64 p.s4, .int .i64 p.s5, .int .i64 p.s6, .int .i64 p.s7, .int .i64 p.s8, .int .i64 p.s9, .slice B2 p.list.length d2, .int .i64 p.cver, .slice B3 p.cmems.length d3, .slice B4 p.np d4] _ hra Tryd.underlying43 rfl infoR ?_) | (refine wpList_store_mid rfl 43 _ _ rfl wr.heap.size 0 #[.int .u8 p.kind, .int .i64 p.xid, .int .i64 p.zxid, .int .i64 p.err, .int .i64 p.session, .int .i64 p.timeout, .string (mkS p.path), .slice B1 p.data.length d1, .int .i64 p.s0, .int .i64 p.s1, .int .i64 p.s2, .int .i64 p.s3, .int .i64 p.s4, .int .i64 p.s5, .int .i64 p.s6, .int .i64 p.s7, .int .i64 p.s8, .int .i64 p.s9, .slice B2 p.list.length d2, .int .i64 p.cver, .slice B3 p.cmems.length d3, .slice B4 p.np d4] rfl rfl hth infoR hon ?_; rw [HE.out]) | (refine wpList_load_mid rfl 43 _ rfl wr.heap.size 0 rfl [.int .u8 p.kind, .int .i64 p.xid, .int .i64 p.zxid, .int .i64 p.err, .int .i64 p.session, .int .i64 p.timeout, .string (mkS p.path), .slice B1 p.data.length d1, .int .i64 p.s0, .int .i64 p.s1, .int .i64 p.s2, .int .i64 p.s3, .int .i64 p.s4, .int .i64 p.s5, .int .i64 p.s6, .int .i64 p.s7, .int .i64 p.s8, .int .i64 p.s9, .slice B2 p.list.length d2, .int .i64 p.cver, .slice B3 p.cmems.length d3, .slice B4 p.np d4] _ hra13 Tryd.underlying43 rfl infoR ?_))
        refine hc.mono ?_
        rintro e w14 ⟨rfl, q14, hW, hP⟩
        have HS14 : Hid (PT f ps A1 c1 A2 c2 A3 c3 (some ⟨bb, oo, none⟩) c4 w base g w.heap.size q w14 q14 (l12 ++ prtsR (ps.take (k + 1)))) := by
          show PT _ _ _ _ _ _ _ _ _ _ _ _ _ _ _ _ _ _
          rw [HSN.out, ← List.append_assoc]
          exact HS13.out.step hW hP
        clear hc hW hP HS13 HD13 hra hra13 hth hon HE w13
        go_wp2_with fail
        exact ⟨⟨k + 1, q14, by omega, by go_num, HS14.out⟩, by simp [intOf]; omega⟩
      have hkn : k = f.np := by omega
      have HWE : Hid (WrAt wr base g q' (l ++ replyB f ps)) := by
        show WrAt _ _ _ _ _
        have e : l ++ replyB f ps = l12 ++ prtsR (ps.take k) := by
          rw [hkn, HNP.out, List.take_length, HE12.out, HE11.out, HE10.out, HE9.out, HE8.out, HE5.out, HE4.out, HE3.out, HE2.out, HNP.out]
          unfold replyB bodyR
          simp
        rw [e]
        exact HSr.out.wr
      have HPE : Hid (Put g q w wr q') := HSr.out.put
      clear HSr
      go_wp2
      go_end0
      exact ⟨rfl, q', HWE.out, HPE.out⟩
end Go.Proofs.YtmojplgoohnmdaaDoor.AK
