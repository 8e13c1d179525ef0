/- The contracts of putFields and putParts. -/
import Derived.Test.YtaeoafedfgbcaaaGreatDoorDdPut
namespace Go.Proofs.YtaeoafedfgbcaaaGreatDoor.DD
set_option linter.unusedVariables false
open Go.RowKit
set_option linter.unusedVariables false

def btOf (T : Int) (k : Nat) : Bool := bits BinOp.and IntKind.u16 T (4 * 2 ^ k) != 0
theorem numsTo5 (f : Fl) (bt : Nat → Bool) : numsTo f bt 5 = (if bt 0 = true then numB f.owner else []) ++ ((if bt 1 = true then numB f.version else []) ++ ((if bt 2 = true then numB f.cversion else []) ++ ((if bt 3 = true then numB f.timeout else []) ++ (if bt 4 = true then numB f.err else [])))) := by
  unfold numsTo
  rw [show List.range 5 = [0, 1, 2, 3, 4] from rfl]
  simp [nth5]
theorem put_below {w w' : World} {base g : Nat} {q q' : Option Nat} {l : List UInt8} (h : WrAt w base g q l) (hg : base ≤ g) (hp : Put g q w w' q') : Below base w w' := by
  obtain ⟨v, _, _, _, _, hb⟩ := h
  refine hp.chg.below (fun k e => ?_) hb
  rcases e with e | e
  · omega
  · exact (RowAt.qlt ⟨v, by assumption, by assumption, by assumption, by assumption, hb⟩ k e).1
theorem fits_kind {f : Fl} {ps : List Fl} (h : fitsB f ps = true) : f.kind = 1 ∨ f.kind = 2 ∨ f.kind = 3 ∨ f.kind = 4 ∨ f.kind = 5 ∨ f.kind = 6 ∨ f.kind = 7 ∨ f.kind = 8 ∨ f.kind = 9 := by
  unfold fitsB at h
  split at h
  · next hn => rcases node_kind hn with e | e | e <;> omega
  · simp only [Bool.and_eq_true] at h
    have h2 := h.2
    unfold kindB at h2
    by_cases e4 : f.kind = 4
    · omega
    · by_cases e5 : f.kind = 5
      · omega
      · by_cases e6 : f.kind = 6
        · omega
        · by_cases e7 : f.kind = 7
          · omega
          · by_cases e8 : f.kind = 8
            · omega
            · by_cases e9 : f.kind = 9
              · omega
              · rw [if_neg e4, if_neg e5, if_neg e6, if_neg e7, if_neg e8, if_neg e9] at h2
                cases h2
set_option maxRecDepth 100000 in
theorem putFields_any {w : World} {base g : Nat} {q : Option Nat} {l : List UInt8} (h : WrAt w base g q l) (hg : base ≤ g) (hl : l.length ≤ 1048576) (f : Fl) (ps : List Fl) (hf : FlFit f) (hfit : fitsB f ps = true) (A1 A2 A3 : Option Addr) (c1 c2 c3 : Nat) (hL : PA.Laid w) (hr : DRest w base f A1 c1 A2 c2) :
    Calls Tryz.prog 44 #[.pointer (some ⟨g, 0, none⟩), .agg #[.int .i64 f.zxid, .int .u8 f.kind, .int .i64 f.session, .int .i64 f.turn, .int .i64 f.xid, .int .i64 f.time, .string (mkS f.path), .slice A1 f.data.length c1, .int .i64 f.owner, .int .i64 f.version, .int .i64 f.cversion, .int .i64 f.timeout, .int .i64 f.err, .int .i64 f.cver, .slice A2 f.mems.length c2, .slice A3 f.np c3]] w fun e w' => e = .returned (.tuple #[]) ∧ ∃ q', WrAt w' base g q' (l ++ bodyB f) ∧ Put g q w w' q' := by
  have hcom := (fits_com hfit).1
  obtain ⟨_, hdl, _⟩ := com_parts hcom
  rcases fits_kind hfit with e | e | e | e | e | e | e | e | e
  · have hpl := right_len200 (leaf_parts ((fits_com hfit).2 (by rw [e]; rfl))).2.2
    refine (putF_both h hg hl f hf A1 A2 A3 c1 c2 c3 hL 2071 (btOf 2071) (by rw [e]; rfl) (by decide) (by decide) (by decide) (fun _ _ => rfl) hpl hdl hr.bs hr.bsB).mono ?_
    rintro e' w' ⟨rfl, q', h1, h2⟩
    refine ⟨rfl, q', ?_, h2⟩
    rw [numsTo5, show btOf 2071 0 = true by decide, show btOf 2071 1 = false by decide, show btOf 2071 2 = true by decide, show btOf 2071 3 = false by decide, show btOf 2071 4 = false by decide] at h1
    simpa [bodyB, e] using h1
  · have hpl := right_len200 (leaf_parts ((fits_com hfit).2 (by rw [e]; rfl))).2.2
    refine (putF_path h hg hl f hf A1 A2 A3 c1 c2 c3 hL 3089 (btOf 3089) (by rw [e]; rfl) (by decide) (by decide) (by decide) (fun _ _ => rfl) hpl).mono ?_
    rintro e' w' ⟨rfl, q', h1, h2⟩
    refine ⟨rfl, q', ?_, h2⟩
    rw [numsTo5, show btOf 3089 0 = false by decide, show btOf 3089 1 = false by decide, show btOf 3089 2 = true by decide, show btOf 3089 3 = false by decide, show btOf 3089 4 = false by decide] at h1
    simpa [bodyB, e] using h1
  · have hpl := right_len200 (leaf_parts ((fits_com hfit).2 (by rw [e]; rfl))).2.2
    refine (putF_both h hg hl f hf A1 A2 A3 c1 c2 c3 hL 2059 (btOf 2059) (by rw [e]; rfl) (by decide) (by decide) (by decide) (fun _ _ => rfl) hpl hdl hr.bs hr.bsB).mono ?_
    rintro e' w' ⟨rfl, q', h1, h2⟩
    refine ⟨rfl, q', ?_, h2⟩
    rw [numsTo5, show btOf 2059 0 = false by decide, show btOf 2059 1 = true by decide, show btOf 2059 2 = false by decide, show btOf 2059 3 = false by decide, show btOf 2059 4 = false by decide] at h1
    simpa [bodyB, e] using h1
  · refine (putF_none h hg hl f hf A1 A2 A3 c1 c2 c3 hL 32 (btOf 32) (by rw [e]; rfl) (by decide) (by decide) (by decide) (fun _ _ => rfl)).mono ?_
    rintro e' w' ⟨rfl, q', h1, h2⟩
    refine ⟨rfl, q', ?_, h2⟩
    rw [numsTo5, show btOf 32 0 = false by decide, show btOf 32 1 = false by decide, show btOf 32 2 = false by decide, show btOf 32 3 = true by decide, show btOf 32 4 = false by decide] at h1
    simpa [bodyB, e] using h1
  · refine (putF_none h hg hl f hf A1 A2 A3 c1 c2 c3 hL 260 (btOf 260) (by rw [e]; rfl) (by decide) (by decide) (by decide) (fun _ _ => rfl)).mono ?_
    rintro e' w' ⟨rfl, q', h1, h2⟩
    refine ⟨rfl, q', ?_, h2⟩
    rw [numsTo5, show btOf 260 0 = true by decide, show btOf 260 1 = false by decide, show btOf 260 2 = false by decide, show btOf 260 3 = false by decide, show btOf 260 4 = false by decide] at h1
    simpa [bodyB, e] using h1
  · refine (putF_none h hg hl f hf A1 A2 A3 c1 c2 c3 hL 512 (btOf 512) (by rw [e]; rfl) (by decide) (by decide) (by decide) (fun _ _ => rfl)).mono ?_
    rintro e' w' ⟨rfl, q', h1, h2⟩
    refine ⟨rfl, q', ?_, h2⟩
    rw [numsTo5, show btOf 512 0 = false by decide, show btOf 512 1 = false by decide, show btOf 512 2 = false by decide, show btOf 512 3 = false by decide, show btOf 512 4 = false by decide] at h1
    simpa [bodyB, e] using h1
  · refine (putF_cfg h hg hl f hf A1 A2 A3 c1 c2 c3 hL 128 (btOf 128) (by rw [e]; rfl) (by decide) (by decide) (by decide) (fun _ _ => rfl) hr.ms hr.msB (fits_cfg hfit e).2).mono ?_
    rintro e' w' ⟨rfl, q', h1, h2⟩
    refine ⟨rfl, q', ?_, h2⟩
    rw [numsTo5, show btOf 128 0 = false by decide, show btOf 128 1 = false by decide, show btOf 128 2 = false by decide, show btOf 128 3 = false by decide, show btOf 128 4 = false by decide] at h1
    simpa [bodyB, e] using h1
  · refine (putF_none h hg hl f hf A1 A2 A3 c1 c2 c3 hL 256 (btOf 256) (by rw [e]; rfl) (by decide) (by decide) (by decide) (fun _ _ => rfl)).mono ?_
    rintro e' w' ⟨rfl, q', h1, h2⟩
    refine ⟨rfl, q', ?_, h2⟩
    rw [numsTo5, show btOf 256 0 = false by decide, show btOf 256 1 = false by decide, show btOf 256 2 = false by decide, show btOf 256 3 = false by decide, show btOf 256 4 = false by decide] at h1
    simpa [bodyB, e] using h1
  · refine (putF_none h hg hl f hf A1 A2 A3 c1 c2 c3 hL 64 (btOf 64) (by rw [e]; rfl) (by decide) (by decide) (by decide) (fun _ _ => rfl)).mono ?_
    rintro e' w' ⟨rfl, q', h1, h2⟩
    refine ⟨rfl, q', ?_, h2⟩
    rw [numsTo5, show btOf 64 0 = false by decide, show btOf 64 1 = false by decide, show btOf 64 2 = false by decide, show btOf 64 3 = false by decide, show btOf 64 4 = true by decide] at h1
    simpa [bodyB, e] using h1
/- How long bodies are. -/
theorem textB_len (l : List UInt8) (h : l.length ≤ 2000) : (textB l).length ≤ l.length + 10 := by
  unfold textB
  rw [List.length_append]
  have := numB_len (l.length : Int) (by omega) (by omega)
  omega
theorem bodyB_len {f : Fl} {ps : List Fl} (hf : FlFit f) (h : fitsB f ps = true) : (bodyB f).length ≤ 1240 := by
  obtain ⟨_, hdl, _⟩ := com_parts (fits_com h).1
  have n1 := numB_len _ hf.owner.1 hf.owner.2
  have n2 := numB_len _ hf.version.1 hf.version.2
  have n3 := numB_len _ hf.cversion.1 hf.cversion.2
  have n4 := numB_len _ hf.timeout.1 hf.timeout.2
  have n5 := numB_len _ hf.err.1 hf.err.2
  have hd := textB_len f.data (by omega)
  have hpl : isNode f.kind = true → (textB f.path).length ≤ 210 := fun hn => by
    have := right_len200 (leaf_parts ((fits_com h).2 hn)).2.2
    have := textB_len f.path (by omega)
    omega
  rcases fits_kind h with e | e | e | e | e | e | e | e | e
  · have := hpl (by rw [e]; rfl)
    simp [bodyB, e]; omega
  · have := hpl (by rw [e]; rfl)
    simp [bodyB, e]; omega
  · have := hpl (by rw [e]; rfl)
    simp [bodyB, e]; omega
  · simp [bodyB, e]; omega
  · simp [bodyB, e]; omega
  · simp [bodyB, e]
  · have h7 := cfgB_len (fits_cfg h e).2
    have := textB_len (cfgB f.cver f.mems) (by omega)
    simp [bodyB, e]; omega
  · simp [bodyB, e]
  · simp [bodyB, e]; omega
theorem prts_len : ∀ (ps : List Fl), (∀ p ∈ ps, FlFit p ∧ leafB p = true) → (prtsB ps).length ≤ 1241 * ps.length
  | [], _ => by simp [prtsB]
  | p :: ps, h => by
    have h1 := prts_len ps (fun q hq => h q (List.mem_cons_of_mem _ hq))
    have hp := h p List.mem_cons_self
    have h2 : fitsB p [] = true := by unfold fitsB; rw [if_pos (leaf_parts hp.2).1]; exact hp.2
    have h3 := bodyB_len hp.1 h2
    have e : prtsB (p :: ps) = u8 p.kind :: (bodyB p ++ prtsB ps) := by simp [prtsB, prtB]
    rw [e, List.length_cons, List.length_append, List.length_cons]
    omega
theorem prts_snoc (ps : List Fl) {k : Nat} (h : k < ps.length) : prtsB (ps.take (k + 1)) = prtsB (ps.take k) ++ (u8 (ps[k]'h).kind :: bodyB (ps[k]'h)) := by
  rw [List.take_succ_eq_append_getElem h]
  unfold prtsB
  rw [List.map_append, List.flatten_append]
  simp [prtB]
set_option maxRecDepth 100000 in
set_option maxHeartbeats 4000000 in
theorem putParts_any {w : World} {base g : Nat} {q : Option Nat} {l : List UInt8} (h : WrAt w base g q l) (hg : base ≤ g) (hl : l.length ≤ 5000) {v : Value} {ps : List Fl} (hP : Prts w base v ps) (hn : ps.length ≤ 500) (hf : ∀ p ∈ ps, FlFit p ∧ leafB p = true) (hL : PA.Laid w) (hLb : 1 < base ∧ 0 < base) :
    Calls Tryz.prog 45 #[.pointer (some ⟨g, 0, none⟩), v] w fun e w' => e = .returned (.tuple #[]) ∧ ∃ q', WrAt w' base g q' (l ++ (numB ps.length ++ prtsB ps)) ∧ Put g q w w' q' := by
  have HP : Hid (Prts w base v ps) := hP
  have HF : Hid (∀ p ∈ ps, FlFit p ∧ leafB p = true) := hf
  have HL : Hid (PA.Laid w) := hL
  have HW : Hid (WrAt w base g q l) := h
  obtain ⟨A, C, rfl⟩ := hP.form
  clear h hf hL hP
  generalize hm : ps.length = n at hn HP ⊢
  have HN : Hid (ps.length = n) := hm
  clear hm
  have hnl := numB_len (n : Int) (by omega) (by omega)
  have hwi := wInt_any HW.out (n : Int) (by omega) (by omega) (by omega)
  go_enter Tryz.func45, Tryz.ntmps45
  go_wp2_with fail
  refine hwi.mono ?_
  rintro e w1 ⟨rfl, q1, hW1, hP1⟩
  have HW1 : Hid (WrAt w1 base g q1 (l ++ numB n)) := hW1
  have HWW : Hid (WrAt w base g q l) := HW.out
  have HP1 : Hid (Put g q w w1 q1) := hP1
  have HB1 : Hid (Below base w w1) := put_below HW.out hg hP1
  have HNL : Hid ((l ++ numB (n : Int)).length ≤ 5010) := by show _ ≤ _; rw [List.length_append]; omega
  clear hwi hW1 hP1 HW hnl
  go_wp2_with fail
  go_loopw [12] (fun c wr => ∃ (k : Nat) (q' : Option Nat), k ≤ n ∧ c = .int .i64 k ∧ WrAt wr base g q' ((l ++ numB n) ++ prtsB (ps.take k)) ∧ Put g q w wr q' ∧ Below base w wr) (fun c _ => n - (intOf c).toNat)
  case atStart => exact ⟨0, q1, by omega, rfl, by simpa [prtsB] using HW1.out, HP1.out, HB1.out⟩
  case round =>
    obtain ⟨k, q', hk, rfl, hWr, hPr, hBr⟩ := hrel
    have HWr : Hid (WrAt wr base g q' ((l ++ numB n) ++ prtsB (ps.take k))) := hWr
    have HPr : Hid (Put g q w wr q') := hPr
    have HBr : Hid (Below base w wr) := hBr
    clear hWr hPr hBr HW1 HP1 HB1
    by_cases hlt : k < n
    · have hkl : k < ps.length := by have := HN.out; omega
      obtain ⟨b, o, rfl, -, -, A1, c1, A2, c2, A3, c3, hcl, hdr⟩ := (HP.out.below HBr.out).at' k hkl
      have hff := HF.out _ (List.getElem_mem hkl)
      have hpl := prts_len (ps.take k) (fun p hp => HF.out p (List.mem_of_mem_take hp))
      have hplk : (ps.take k).length = k := by rw [List.length_take]; omega
      have HLEN : Hid ((((l ++ numB (n : Int)) ++ prtsB (ps.take k))).length ≤ 640000) := by
        show _ ≤ _
        have := HNL.out
        rw [List.length_append]
        rw [hplk] at hpl
        omega
      have HS : Hid (prtsB (ps.take (k + 1)) = prtsB (ps.take k) ++ (u8 (ps[k]'hkl).kind :: bodyB (ps[k]'hkl))) := prts_snoc ps hkl
      have hLr := HL.out.from hLb HBr.out
      clear hpl hplk
      generalize (ps[k]'hkl) = f at hcl hdr hff HS
      have HD : Hid (DRest wr base f A1 c1 A2 c2) := hdr
      have hfit : fitsB f [] = true := by unfold fitsB; rw [if_pos (leaf_parts hff.2).1]; exact hff.2
      have HFF : Hid (FlFit f ∧ fitsB f [] = true) := ⟨hff.1, hfit⟩
      have hfk := hff.1.kind
      obtain ⟨z0, z1, z2, z3, z4, z5, z6, z7, z8, z9, z10, z11, z12, z13, z14, z15⟩ := hcl
      obtain ⟨w1', hw1⟩ : ∃ X, X = wr.alloc (.cells #[.int .i64 f.zxid, .int .u8 f.kind, .int .i64 f.session, .int .i64 f.turn, .int .i64 f.xid, .int .i64 f.time, .string (mkS f.path), .slice A1 f.data.length c1, .int .i64 f.owner, .int .i64 f.version, .int .i64 f.cversion, .int .i64 f.timeout, .int .i64 f.err, .int .i64 f.cver, .slice A2 f.mems.length c2, .slice A3 f.np c3] 41) := ⟨_, rfl⟩
      have hB1 : Below wr.heap.size wr w1' := by rw [hw1]; exact (Below.refl _ _).alloc (Nat.le_refl _) _
      have HO1 : Hid (Own w1' wr.heap.size (.cells #[.int .i64 f.zxid, .int .u8 f.kind, .int .i64 f.session, .int .i64 f.turn, .int .i64 f.xid, .int .i64 f.time, .string (mkS f.path), .slice A1 f.data.length c1, .int .i64 f.owner, .int .i64 f.version, .int .i64 f.cversion, .int .i64 f.timeout, .int .i64 f.err, .int .i64 f.cver, .slice A2 f.mems.length c2, .slice A3 f.np c3] 41 (0, 0)) g q') := ⟨by rw [hw1]; exact heap_alloc_new wr _, by have := HWr.out.lt; omega, fun e => by have := (HWr.out.qlt _ e).2; omega⟩
      have HW2 : Hid (WrAt w1' base g q' ((l ++ numB n) ++ prtsB (ps.take k))) := WrAt.below HWr.out hB1
      have HP2 : Hid (Put g q w w1' q') := HPr.out.trans (Put.below hB1)
      have HL2 : Hid (PA.Laid w1') := hLr.below hB1
      have HD2 : Hid (DRest w1' base f A1 c1 A2 c2) := HD.out.below (hB1.mono (by obtain ⟨v, _, _, _, _, hb⟩ := HWr.out; exact hb))
      have hwb := wByte_any HW2.out f.kind (u8 f.kind) (u8_back hfk).symm (by have := HLEN.out; omega)
      rw [hw1] at hwb
      clear hB1 hff hfit hdr hLr HD HWr HPr HBr
      go_wp2_with fail
      refine hwb.mono ?_
      rintro e w3 ⟨rfl, q3, hW3, hP3⟩
      rw [← hw1] at hP3
      have HW3 : Hid (WrAt w3 base g q3 (((l ++ numB n) ++ prtsB (ps.take k)) ++ [u8 f.kind])) := hW3
      have HP3 : Hid (Put g q w w3 q3) := HP2.out.trans hP3
      have HO3 : Hid (Own w3 wr.heap.size (.cells #[.int .i64 f.zxid, .int .u8 f.kind, .int .i64 f.session, .int .i64 f.turn, .int .i64 f.xid, .int .i64 f.time, .string (mkS f.path), .slice A1 f.data.length c1, .int .i64 f.owner, .int .i64 f.version, .int .i64 f.cversion, .int .i64 f.timeout, .int .i64 f.err, .int .i64 f.cver, .slice A2 f.mems.length c2, .slice A3 f.np c3] 41 (0, 0)) g q3) := HO1.out.put hP3
      have hB3 := put_below HW2.out hg hP3
      have hpf := putFields_any hW3 hg (by have := HLEN.out; simp only [List.length_append, List.length_singleton] at *; omega) f [] HFF.out.1 HFF.out.2 A1 A2 A3 c1 c2 c3 (HL2.out.from hLb hB3) (HD2.out.below hB3)
      clear hwb hW3 hP3 hB3 z0 z1 z2 z3 z4 z5 z6 z7 z8 z9 z10 z11 z12 z13 z14 z15 HW2 HP2 HO1 HL2 HD2 hw1
      obtain ⟨z0, z1, z2, z3, z4, z5, z6, z7, z8, z9, z10, z11, z12, z13, z14, z15⟩ := cells16 HO3.out.at'
      generalize wr.heap.size = pp at HO3 z0 z1 z2 z3 z4 z5 z6 z7 z8 z9 z10 z11 z12 z13 z14 z15 ⊢
      go_wp2_with fail
      refine hpf.mono ?_
      rintro e w4 ⟨rfl, q4, hW4, hP4⟩
      have HW4 : Hid (WrAt w4 base g q4 ((l ++ numB n) ++ prtsB (ps.take (k + 1)))) := by
        show WrAt _ _ _ _ _
        rw [HS.out]
        simpa using hW4
      have HB4 : Hid (Below base w w4) := (put_below HWW.out hg HP3.out).trans (put_below HW3.out hg hP4)
      have HP4 : Hid (Put g q w w4 q4) := HP3.out.trans hP4
      clear hpf hW4 hP4 z0 z1 z2 z3 z4 z5 z6 z7 z8 z9 z10 z11 z12 z13 z14 z15 HW3 HP3 HO3
      go_wp2
      exact ⟨⟨k + 1, q4, by omega, by go_num, HW4.out, HP4.out, HB4.out⟩, by simp [intOf]; omega⟩
    · have hkn : k = n := by omega
      have HE : Hid (((l ++ numB (n : Int)) ++ prtsB (ps.take k)) = l ++ (numB (n : Int) ++ prtsB ps)) := by
        show _ = _
        rw [hkn, ← HN.out, List.take_length, List.append_assoc]
      rw [HE.out] at HWr
      clear HE
      go_wp2
      go_end0
      exact ⟨rfl, q', HWr.out, HPr.out⟩
end Go.Proofs.YtaeoafedfgbcaaaGreatDoor.DD
