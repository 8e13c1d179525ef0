/- The walk of Put. -/
import Derived.Test.YtaeoafedfgbcaaaGreatDoorDdQ
import Derived.Test.YtaeoafedfgbcaaaGreatDoorDdR
namespace Go.Proofs.YtaeoafedfgbcaaaGreatDoor.DD
set_option linter.unusedVariables false
open Go.RowKit
set_option linter.unusedVariables false

/- The numbers of a head, of the first k. -/
def headTo (f : Fl) (k : Nat) : List UInt8 := (List.range k).flatMap fun j => numB (nth5 f.zxid f.session f.turn f.xid f.time j)
theorem headTo_succ (f : Fl) (k : Nat) : headTo f (k + 1) = headTo f k ++ numB (nth5 f.zxid f.session f.turn f.xid f.time k) := by
  unfold headTo; rw [List.range_succ, List.flatMap_append]; simp
theorem head5_I64 {f : Fl} (hf : FlFit f) (k : Nat) : I64 (nth5 f.zxid f.session f.turn f.xid f.time k) := by
  unfold nth5
  rcases k with _ | _ | _ | _ | _ | k
  · exact hf.zxid
  · exact hf.session
  · exact hf.turn
  · exact hf.xid
  · exact hf.time
  · exact I64_0
theorem headTo_len {f : Fl} (hf : FlFit f) : ∀ k, (headTo f k).length ≤ 10 * k
  | 0 => by simp [headTo]
  | k + 1 => by
    rw [headTo_succ, List.length_append]
    have := headTo_len hf k
    have hn := head5_I64 hf k
    have h2 := numB_len _ hn.1 hn.2
    omega
theorem headTo5 (f : Fl) : headTo f 5 = numB f.zxid ++ (numB f.session ++ (numB f.turn ++ (numB f.xid ++ numB f.time))) := by
  unfold headTo
  rw [show List.range 5 = [0, 1, 2, 3, 4] from rfl]
  simp [nth5]
theorem and_parts {k : Int} (h1 : 1 ≤ k) (h9 : k ≤ 9) : (bits BinOp.and IntKind.u16 (PA.kTab k.toNat) 256 != 0) = hasParts k := by
  have : ∀ j : Fin 10, 0 < j.val → (bits BinOp.and IntKind.u16 (PA.kTab j.val) 256 != 0) = hasParts (j.val : Int) := by decide +kernel
  have := this ⟨k.toNat, by omega⟩ (by dsimp only; omega)
  dsimp only at this
  rwa [show ((k.toNat : Nat) : Int) = k by omega] at this
theorem deed_len {f : Fl} {ps : List Fl} (hf : DedFit f ps) (h : fitsB f ps = true) : (deedB f ps).length ≤ 700000 := by
  have h1 := headTo_len hf.top 5
  rw [headTo5] at h1
  have h2 := bodyB_len hf.top h
  have h3 : (tailB f ps).length ≤ 630000 := by
    unfold tailB
    split
    · next hp =>
      have hps := fits_parts h hp
      have h4 := prts_len ps (fun p hp => ⟨hf.all p hp, (hps.2 p hp).2.2⟩)
      have h5 := numB_len (ps.length : Int) (by omega) (by omega)
      rw [List.length_append]
      omega
    · simp
  unfold deedB
  simp only [List.length_cons, List.length_append] at *
  omega
theorem owns_base {w : World} {base base' n : Nat} {v : Value} {xs : List Value} (h : w.ownsRow base 5 1 v n xs) (hb : base' ≤ base) : w.ownsRow base' 5 1 v n xs := by
  refine ⟨h.1, ?_⟩
  rcases h.2 with h0 | ⟨g, cap, cur, hv, hb1, h3⟩
  · exact .inl h0
  · exact .inr ⟨g, cap, cur, hv, Nat.le_trans hb hb1, h3⟩
set_option maxRecDepth 100000 in
set_option maxHeartbeats 4000000 in
theorem put_no' (f : Fl) (ps : List Fl) (A1 A2 A3 : Option Addr) (c1 c2 c3 : Nat) (w : World) (hL : PA.Laid w) (hv : DVal w f ps A1 c1 A2 c2 A3 c3) (hf : DedFit f ps) (hr : rightD f ps = false) :
    Calls Tryz.prog 18 #[.agg #[.int .i64 f.zxid, .int .u8 f.kind, .int .i64 f.session, .int .i64 f.turn, .int .i64 f.xid, .int .i64 f.time, .string (mkS f.path), .slice A1 f.data.length c1, .int .i64 f.owner, .int .i64 f.version, .int .i64 f.cversion, .int .i64 f.timeout, .int .i64 f.err, .int .i64 f.cver, .slice A2 f.mems.length c2, .slice A3 f.np c3]] w fun e w' => e = .returned (.tuple #[.slice none 0 0, .int .i64 4]) ∧ Below w.heap.size w w' := by
  obtain ⟨w1, hw1⟩ : ∃ X, X = w.alloc (.cells #[.int .i64 f.zxid, .int .u8 f.kind, .int .i64 f.session, .int .i64 f.turn, .int .i64 f.xid, .int .i64 f.time, .string (mkS f.path), .slice A1 f.data.length c1, .int .i64 f.owner, .int .i64 f.version, .int .i64 f.cversion, .int .i64 f.timeout, .int .i64 f.err, .int .i64 f.cver, .slice A2 f.mems.length c2, .slice A3 f.np c3] 41) := ⟨_, rfl⟩
  have hB1 : Below w.heap.size w w1 := by rw [hw1]; exact (Below.refl _ _).alloc (Nat.le_refl _) _
  have HB1 : Hid (Below w.heap.size w w1) := hB1
  have hri := right_any f ps A1 A2 A3 c1 c2 c3 w1 (hL.below hB1) (hv.grow hB1) hf
  rw [hr, hw1] at hri
  clear hB1 hL hv hf hr
  go_enter Tryz.func18, Tryz.ntmps18
  go_wp2_with fail
  refine hri.mono ?_
  rintro e w2 ⟨rfl, hB2⟩
  rw [← hw1] at hB2
  have HB2 : Hid (Below w.heap.size w w2) := HB1.out.trans (hB2.mono HB1.out.size)
  clear hri hB2 hw1 HB1
  go_wp2
  refine bodyPost_ret (v := .tuple #[.slice none 0 0, .int .i64 4]) (by simp [results, Tryz.results18, go_sem]) rfl ?_
  exact ⟨rfl, HB2.out⟩
set_option maxRecDepth 100000 in
set_option maxHeartbeats 8000000 in
theorem put_yes' (f : Fl) (ps : List Fl) (A1 A2 A3 : Option Addr) (c1 c2 c3 : Nat) (w : World) (hL : PA.Laid w) (hv : DVal w f ps A1 c1 A2 c2 A3 c3) (hf : DedFit f ps) (hr : rightD f ps = true) :
    Calls Tryz.prog 18 #[.agg #[.int .i64 f.zxid, .int .u8 f.kind, .int .i64 f.session, .int .i64 f.turn, .int .i64 f.xid, .int .i64 f.time, .string (mkS f.path), .slice A1 f.data.length c1, .int .i64 f.owner, .int .i64 f.version, .int .i64 f.cversion, .int .i64 f.timeout, .int .i64 f.err, .int .i64 f.cver, .slice A2 f.mems.length c2, .slice A3 f.np c3]] w fun e w' => ∃ x, e = .returned (.tuple #[x, .int .i64 0]) ∧ New w w' x (deedB f ps) := by
  have HFIT : Hid (fitsB f ps = true) := rightD_fits hr
  have HF : Hid (DedFit f ps) := hf
  have HV : Hid (DVal w f ps A1 c1 A2 c2 A3 c3) := hv
  have HL : Hid (PA.Laid w) := hL
  have hLb := hL.gt
  obtain ⟨w1, hw1⟩ : ∃ X, X = w.alloc (.cells #[.int .i64 f.zxid, .int .u8 f.kind, .int .i64 f.session, .int .i64 f.turn, .int .i64 f.xid, .int .i64 f.time, .string (mkS f.path), .slice A1 f.data.length c1, .int .i64 f.owner, .int .i64 f.version, .int .i64 f.cversion, .int .i64 f.timeout, .int .i64 f.err, .int .i64 f.cver, .slice A2 f.mems.length c2, .slice A3 f.np c3] 41) := ⟨_, rfl⟩
  have hB1 : Below w.heap.size w w1 := by rw [hw1]; exact (Below.refl _ _).alloc (Nat.le_refl _) _
  have HB1 : Hid (Below w.heap.size w w1) := hB1
  have HC1 : Hid (w1.heap[w.heap.size]? = some (.cells #[.int .i64 f.zxid, .int .u8 f.kind, .int .i64 f.session, .int .i64 f.turn, .int .i64 f.xid, .int .i64 f.time, .string (mkS f.path), .slice A1 f.data.length c1, .int .i64 f.owner, .int .i64 f.version, .int .i64 f.cversion, .int .i64 f.timeout, .int .i64 f.err, .int .i64 f.cver, .slice A2 f.mems.length c2, .slice A3 f.np c3] 41 (0, 0))) := by rw [hw1]; exact heap_alloc_new w _
  have hri := right_any f ps A1 A2 A3 c1 c2 c3 w1 (hL.below hB1) (hv.grow hB1) hf
  rw [hr, hw1] at hri
  clear hB1 hL hv hf hr
  go_enter Tryz.func18, Tryz.ntmps18
  go_wp2_with fail
  refine hri.mono ?_
  rintro e w2 ⟨rfl, hB2⟩
  rw [← hw1] at hB2
  have HB2 : Hid (Below w.heap.size w w2) := HB1.out.trans (hB2.mono HB1.out.size)
  have HC2 : Hid (w2.heap[w.heap.size]? = some (.cells #[.int .i64 f.zxid, .int .u8 f.kind, .int .i64 f.session, .int .i64 f.turn, .int .i64 f.xid, .int .i64 f.time, .string (mkS f.path), .slice A1 f.data.length c1, .int .i64 f.owner, .int .i64 f.version, .int .i64 f.cversion, .int .i64 f.timeout, .int .i64 f.err, .int .i64 f.cver, .slice A2 f.mems.length c2, .slice A3 f.np c3] 41 (0, 0))) := by show _ = _; rw [hB2.block _ (heap_lt HC1.out)]; exact HC1.out
  clear hri hB2 hw1 HB1 HC1
  have hnw := newWriter_any w2 w.heap.size HB2.out.size
  go_wp2_with fail
  refine hnw.mono ?_
  rintro e w3 ⟨rfl, hW3, hB3, hs3⟩
  have HW3 : Hid (WrAt w3 w.heap.size w2.heap.size none []) := hW3
  have hgg : w.heap.size ≤ w2.heap.size := HB2.out.size
  have HO3 : Hid (Own w3 w.heap.size (.cells #[.int .i64 f.zxid, .int .u8 f.kind, .int .i64 f.session, .int .i64 f.turn, .int .i64 f.xid, .int .i64 f.time, .string (mkS f.path), .slice A1 f.data.length c1, .int .i64 f.owner, .int .i64 f.version, .int .i64 f.cversion, .int .i64 f.timeout, .int .i64 f.err, .int .i64 f.cver, .slice A2 f.mems.length c2, .slice A3 f.np c3] 41 (0, 0)) w2.heap.size none) := ⟨by rw [hB3.block _ (heap_lt HC2.out)]; exact HC2.out, by have := heap_lt HC2.out; omega, by simp⟩
  have HB3 : Hid (Below w.heap.size w w3) := HB2.out.trans (hB3.mono HB2.out.size)
  clear hnw hW3 hB3 hs3 HB2 HC2
  generalize w2.heap.size = g at HW3 hgg HO3 ⊢
  clear w2
  have hfk := HF.out.top.kind
  have hwb := wByte_any HW3.out f.kind (u8 f.kind) (u8_back hfk).symm (by simp)
  obtain ⟨z0, z1, z2, z3, z4, z5, z6, z7, z8, z9, z10, z11, z12, z13, z14, z15⟩ := cells16 HO3.out.at'
  go_wp2_with fail
  refine hwb.mono ?_
  rintro e w4 ⟨rfl, q4, hW4, hP4⟩
  have HW4 : Hid (WrAt w4 w.heap.size g q4 ([] ++ [u8 f.kind])) := hW4
  have HO4 : Hid (Own w4 w.heap.size (.cells #[.int .i64 f.zxid, .int .u8 f.kind, .int .i64 f.session, .int .i64 f.turn, .int .i64 f.xid, .int .i64 f.time, .string (mkS f.path), .slice A1 f.data.length c1, .int .i64 f.owner, .int .i64 f.version, .int .i64 f.cversion, .int .i64 f.timeout, .int .i64 f.err, .int .i64 f.cver, .slice A2 f.mems.length c2, .slice A3 f.np c3] 41 (0, 0)) g q4) := HO3.out.put hP4
  have HB4 : Hid (Below w.heap.size w w4) := HB3.out.trans (put_below HW3.out hgg hP4)
  clear hwb hW4 hP4 HW3 HO3 HB3 z0 z1 z2 z3 z4 z5 z6 z7 z8 z9 z10 z11 z12 z13 z14 z15
  obtain ⟨z0, z1, z2, z3, z4, z5, z6, z7, z8, z9, z10, z11, z12, z13, z14, z15⟩ := cells16 HO4.out.at'
  have hho := headOf_any f.zxid f.kind f.session f.turn f.xid f.time f.owner f.version f.cversion f.timeout f.err f.cver (mkS f.path) (.slice A1 f.data.length c1) (.slice A2 f.mems.length c2) (.slice A3 f.np c3) w4
  go_wp2_with fail
  refine hho.mono ?_
  rintro e w5 ⟨rfl, hB5⟩
  have HW5 : Hid (WrAt w5 w.heap.size g q4 ([u8 f.kind] ++ headTo f 0)) := by show WrAt _ _ _ _ _; exact WrAt.below HW4.out hB5
  have HO5 : Hid (Own w5 w.heap.size (.cells #[.int .i64 f.zxid, .int .u8 f.kind, .int .i64 f.session, .int .i64 f.turn, .int .i64 f.xid, .int .i64 f.time, .string (mkS f.path), .slice A1 f.data.length c1, .int .i64 f.owner, .int .i64 f.version, .int .i64 f.cversion, .int .i64 f.timeout, .int .i64 f.err, .int .i64 f.cver, .slice A2 f.mems.length c2, .slice A3 f.np c3] 41 (0, 0)) g q4) := HO4.out.below hB5
  have HB5 : Hid (Below w.heap.size w w5) := HB4.out.trans (hB5.mono HB4.out.size)
  clear hho hB5 z0 z1 z2 z3 z4 z5 z6 z7 z8 z9 z10 z11 z12 z13 z14 z15 HW4 HO4 HB4
  go_wp2_with fail
  go_loopw [17] (fun c wr => ∃ (k : Nat) (q' : Option Nat), k ≤ 5 ∧ c = .int .i64 k ∧ WrAt wr w.heap.size g q' ([u8 f.kind] ++ headTo f k) ∧ Own wr w.heap.size (.cells #[.int .i64 f.zxid, .int .u8 f.kind, .int .i64 f.session, .int .i64 f.turn, .int .i64 f.xid, .int .i64 f.time, .string (mkS f.path), .slice A1 f.data.length c1, .int .i64 f.owner, .int .i64 f.version, .int .i64 f.cversion, .int .i64 f.timeout, .int .i64 f.err, .int .i64 f.cver, .slice A2 f.mems.length c2, .slice A3 f.np c3] 41 (0, 0)) g q' ∧ Below w.heap.size w wr) (fun c _ => 5 - (intOf c).toNat)
  case atStart => exact ⟨0, q4, by omega, rfl, HW5.out, HO5.out, HB5.out⟩
  case round =>
    obtain ⟨k, q', hk5, rfl, hWr, hOr, hBr⟩ := hrel
    have HWr : Hid (WrAt wr w.heap.size g q' ([u8 f.kind] ++ headTo f k)) := hWr
    have HOr : Hid (Own wr w.heap.size (.cells #[.int .i64 f.zxid, .int .u8 f.kind, .int .i64 f.session, .int .i64 f.turn, .int .i64 f.xid, .int .i64 f.time, .string (mkS f.path), .slice A1 f.data.length c1, .int .i64 f.owner, .int .i64 f.version, .int .i64 f.cversion, .int .i64 f.timeout, .int .i64 f.err, .int .i64 f.cver, .slice A2 f.mems.length c2, .slice A3 f.np c3] 41 (0, 0)) g q') := hOr
    have HBr : Hid (Below w.heap.size w wr) := hBr
    clear hWr hOr hBr HW5 HO5 HB5
    by_cases h5 : k < 5
    · have hx := fun w => ixHead w f.zxid f.session f.turn f.xid f.time k h5
      have HS : Hid (headTo f (k + 1) = headTo f k ++ numB (nth5 f.zxid f.session f.turn f.xid f.time k)) := headTo_succ f k
      have hr := head5_I64 HF.out.top k
      have hnl := headTo_len HF.out.top k
      generalize nth5 f.zxid f.session f.turn f.xid f.time k = n at hx HS hr
      have hwi := wInt_any HWr.out n hr.1 hr.2 (by rw [List.length_append, List.length_singleton]; have := numB_len n hr.1 hr.2; omega)
      clear hnl hr
      go_wp2_with fail
      refine hwi.mono ?_
      rintro e w6 ⟨rfl, q6, hW6, hP6⟩
      have HW6 : Hid (WrAt w6 w.heap.size g q6 ([u8 f.kind] ++ headTo f (k + 1))) := by rw [HS.out, ← List.append_assoc]; exact hW6
      have HO6 : Hid (Own w6 w.heap.size (.cells #[.int .i64 f.zxid, .int .u8 f.kind, .int .i64 f.session, .int .i64 f.turn, .int .i64 f.xid, .int .i64 f.time, .string (mkS f.path), .slice A1 f.data.length c1, .int .i64 f.owner, .int .i64 f.version, .int .i64 f.cversion, .int .i64 f.timeout, .int .i64 f.err, .int .i64 f.cver, .slice A2 f.mems.length c2, .slice A3 f.np c3] 41 (0, 0)) g q6) := HOr.out.put hP6
      have HB6 : Hid (Below w.heap.size w w6) := HBr.out.trans (put_below HWr.out hgg hP6)
      clear hwi hW6 hP6 HWr HOr HBr
      go_wp2
      exact ⟨⟨k + 1, q6, by omega, by go_num, HW6.out, HO6.out, HB6.out⟩, by simp [intOf]; omega⟩
    · obtain rfl : k = 5 := by omega
      have hhl := headTo_len HF.out.top 5
      have HLEN : Hid (([u8 f.kind] ++ headTo f 5).length ≤ 60) := by show _ ≤ _; rw [List.length_append, List.length_singleton]; omega
      have hVr := HV.out.grow HBr.out
      have HDR : Hid (∀ w', Below w.heap.size w w' → DRest w' w.heap.size f A1 c1 A2 c2 ∧ Prts w' w.heap.size (.slice A3 f.np c3) ps) := by
        intro w' hB
        have hd : DRest w w.heap.size f A1 c1 A2 c2 := ⟨HV.out.bs, fun k hk => HV.out.bs.lt hk, HV.out.ms, fun k hk => HV.out.ms.lt hk⟩
        exact ⟨hd.below hB, HV.out.pr.below hB⟩
      have hpf := putFields_any HWr.out hgg (by have := HLEN.out; omega) f ps HF.out.top HFIT.out A1 A2 A3 c1 c2 c3 (HL.out.below HBr.out) (HDR.out wr HBr.out).1
      obtain ⟨z0, z1, z2, z3, z4, z5, z6, z7, z8, z9, z10, z11, z12, z13, z14, z15⟩ := cells16 HOr.out.at'
      clear hhl hVr
      go_wp2_with fail
      refine hpf.mono ?_
      rintro e w6 ⟨rfl, q6, hW6, hP6⟩
      have HW6 : Hid (WrAt w6 w.heap.size g q6 (([u8 f.kind] ++ headTo f 5) ++ bodyB f)) := hW6
      have HO6 : Hid (Own w6 w.heap.size (.cells #[.int .i64 f.zxid, .int .u8 f.kind, .int .i64 f.session, .int .i64 f.turn, .int .i64 f.xid, .int .i64 f.time, .string (mkS f.path), .slice A1 f.data.length c1, .int .i64 f.owner, .int .i64 f.version, .int .i64 f.cversion, .int .i64 f.timeout, .int .i64 f.err, .int .i64 f.cver, .slice A2 f.mems.length c2, .slice A3 f.np c3] 41 (0, 0)) g q6) := HOr.out.put hP6
      have HB6 : Hid (Below w.heap.size w w6) := HBr.out.trans (put_below HWr.out hgg hP6)
      clear hpf hW6 hP6 HWr HOr HBr z0 z1 z2 z3 z4 z5 z6 z7 z8 z9 z10 z11 z12 z13 z14 z15
      obtain ⟨z0, z1, z2, z3, z4, z5, z6, z7, z8, z9, z10, z11, z12, z13, z14, z15⟩ := cells16 HO6.out.at'
      have ho := of_any f.kind hfk w6 (HL.out.below HB6.out)
      have hkk := fits_kind HFIT.out
      have hap := and_parts (k := f.kind) (by omega) (by omega)
      generalize PA.kTab f.kind.toNat = T at ho hap
      have hbl := bodyB_len HF.out.top HFIT.out
      have HL6 : Hid ((([u8 f.kind] ++ headTo f 5) ++ bodyB f).length ≤ 1400) := by show _ ≤ _; rw [List.length_append]; have := HLEN.out; omega
      have HDL : Hid ((deedB f ps).length ≤ 700000) := deed_len HF.out HFIT.out
      clear hkk hbl
      cases hpp : hasParts f.kind with
      | false =>
        rw [hpp] at hap
        have HE : Hid (([u8 f.kind] ++ headTo f 5) ++ bodyB f = deedB f ps) := by
          show _ = _
          rw [headTo5]
          unfold deedB tailB
          rw [hpp]
          simp
        rw [HE.out] at HW6
        have hdn := wDone_any HW6.out (by have := HDL.out; omega)
        clear HE hpp
        go_wp2_with fail
        refine ho.mono ?_
        rintro e w7 ⟨rfl, hw7⟩
        subst hw7
        clear ho
        go_wp2_with fail
        refine hdn.mono ?_
        rintro e w8 ⟨x, rfl, hN8⟩
        have HN8 : Hid (New w w8 x (deedB f ps)) := ⟨owns_base hN8.owns HB6.out.size, HB6.out.trans (hN8.below.mono HB6.out.size)⟩
        obtain ⟨AX, CX, rfl⟩ := bs_form hN8.bs
        clear hdn hN8 z0 z1 z2 z3 z4 z5 z6 z7 z8 z9 z10 z11 z12 z13 z14 z15
        go_wp2
        refine bodyPost_ret (v := .tuple #[.slice AX (deedB f ps).length CX, .int .i64 0]) (by simp [results, Tryz.results18, go_sem]) rfl ?_
        exact ⟨_, rfl, HN8.out⟩
      | true =>
        rw [hpp] at hap
        have hps := fits_parts HFIT.out hpp
        have hpt := putParts_any HW6.out hgg (by have := HL6.out; omega) (HDR.out w6 HB6.out).2 hps.1 (fun p hp => ⟨HF.out.all p hp, (hps.2 p hp).2.2⟩) (HL.out.below HB6.out) hLb
        have HE : Hid ((([u8 f.kind] ++ headTo f 5) ++ bodyB f) ++ (numB (ps.length : Int) ++ prtsB ps) = deedB f ps) := by
          show _ = _
          rw [headTo5]
          unfold deedB tailB
          rw [hpp]
          simp
        rw [HE.out] at hpt
        clear HE hpp hps
        go_wp2_with fail
        refine ho.mono ?_
        rintro e w7 ⟨rfl, hw7⟩
        subst hw7
        clear ho
        go_wp2_with fail
        refine hpt.mono ?_
        rintro e w8 ⟨rfl, q8, hW8, hP8⟩
        have HB8 : Hid (Below w.heap.size w w8) := HB6.out.trans (put_below HW6.out hgg hP8)
        have hdn := wDone_any hW8 (by have := HDL.out; omega)
        clear hpt hW8 hP8 z0 z1 z2 z3 z4 z5 z6 z7 z8 z9 z10 z11 z12 z13 z14 z15 HO6 HW6
        go_wp2_with fail
        refine hdn.mono ?_
        rintro e w9 ⟨x, rfl, hN9⟩
        have HN9 : Hid (New w w9 x (deedB f ps)) := ⟨owns_base hN9.owns HB8.out.size, HB8.out.trans (hN9.below.mono HB8.out.size)⟩
        obtain ⟨AX, CX, rfl⟩ := bs_form hN9.bs
        clear hdn hN9
        go_wp2
        refine bodyPost_ret (v := .tuple #[.slice AX (deedB f ps).length CX, .int .i64 0]) (by simp [results, Tryz.results18, go_sem]) rfl ?_
        exact ⟨_, rfl, HN9.out⟩
end Go.Proofs.YtaeoafedfgbcaaaGreatDoor.DD
