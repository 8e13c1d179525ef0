/- The walk of DiskNumbers. -/
import Derived.Test.YtapipnbmljdmbaaDkNb
namespace Go.Proofs.Ytapipnbmljdmbaa
open Go.RowKit Go.MapKept

set_option maxRecDepth 100000 in
set_option maxHeartbeats 8000000 in
theorem numbers_any (w : World) : Calls Try.prog 3 #[] w fun e w' => e = .returned (.bool true) ∧ Below w.heap.size w w' := by
  have hmk : ∀ w : World, (Instr.makeSlice 28 (.int .i64 4194304) (.int .i64 4194304)).run Try.prog w = .ok (.slice (some ⟨w.heap.size, 0, none⟩) 4194304 4194304) (w.alloc (.cells (madeCells #[.int .u8 0] 4194304) 5)) :=
    run_make_row' (P := Try.prog) 28 5 (.int .u8 0) 1 Try.underlying28 info5 rfl .i64 .i64 4194304 (by decide) (by decide)
  have hmk2 : ∀ w : World, (Instr.makeSlice 28 (.int .i64 4194305) (.int .i64 4194305)).run Try.prog w = .ok (.slice (some ⟨w.heap.size, 0, none⟩) 4194305 4194305) (w.alloc (.cells (madeCells #[.int .u8 0] 4194305) 5)) :=
    run_make_row' (P := Try.prog) 28 5 (.int .u8 0) 1 Try.underlying28 info5 rfl .i64 .i64 4194305 (by decide) (by decide)
  have hrp := Try.strings_Repeat ⟨#[97]⟩ 30 w (by decide) (by decide)
  rw [longS] at hrp
  have hadd : ∀ w : World, (binOp .add 9 (.string (mkS longL)) (.string ⟨#[97]⟩)).run Try.prog w = .ok (.string (mkS (longL ++ [97]))) w := fun w => by kernel_rfl
  go_enter Try.func3, Try.ntmps3
  go_wp2_with fail
  refine hrp.mono ?_
  rintro e w1 ⟨rfl, hB1⟩
  have HB : Hid (Below w.heap.size w w1) := hB1
  clear hB1 hrp
  have hY1 := litT w1 yesL (cs := #[.string ⟨#[97]⟩, .string ⟨#[122]⟩, .string ⟨#[48]⟩, .string ⟨#[57]⟩, .string ⟨#[46]⟩, .string ⟨#[45]⟩, .string ⟨#[46, 46]⟩, .string (mkS longL)]) rfl (n := 8) rfl
  have hN1 := litT (w1.alloc (.cells #[.string ⟨#[97]⟩, .string ⟨#[122]⟩, .string ⟨#[48]⟩, .string ⟨#[57]⟩, .string ⟨#[46]⟩, .string ⟨#[45]⟩, .string ⟨#[46, 46]⟩, .string (mkS longL)] 9)) noL (cs := #[.string ⟨#[]⟩, .string ⟨#[65]⟩, .string ⟨#[97, 32, 98]⟩, .string ⟨#[97, 47, 98]⟩, .string ⟨#[95]⟩, .string ⟨#[0]⟩, .string ⟨#[255]⟩, .string (mkS (longL ++ [97])), .string ⟨#[96]⟩, .string ⟨#[123]⟩, .string ⟨#[58]⟩]) rfl (n := 11) rfl
  have hY2 := hY1.keep (Chg.alloc Non _ (.cells #[.string ⟨#[]⟩, .string ⟨#[65]⟩, .string ⟨#[97, 32, 98]⟩, .string ⟨#[97, 47, 98]⟩, .string ⟨#[95]⟩, .string ⟨#[0]⟩, .string ⟨#[255]⟩, .string (mkS (longL ++ [97])), .string ⟨#[96]⟩, .string ⟨#[123]⟩, .string ⟨#[58]⟩] 9)) (fun _ _ => id)
  replace HB : Hid (Below w.heap.size w ((w1.alloc (.cells #[.string ⟨#[97]⟩, .string ⟨#[122]⟩, .string ⟨#[48]⟩, .string ⟨#[57]⟩, .string ⟨#[46]⟩, .string ⟨#[45]⟩, .string ⟨#[46, 46]⟩, .string (mkS longL)] 9)).alloc (.cells #[.string ⟨#[]⟩, .string ⟨#[65]⟩, .string ⟨#[97, 32, 98]⟩, .string ⟨#[97, 47, 98]⟩, .string ⟨#[95]⟩, .string ⟨#[0]⟩, .string ⟨#[255]⟩, .string (mkS (longL ++ [97])), .string ⟨#[96]⟩, .string ⟨#[123]⟩, .string ⟨#[58]⟩] 9))) := (HB.out.alloc HB.out.size _).alloc (by have := HB.out.size; simp; omega) _
  obtain ⟨wB, hwB⟩ : ∃ X, X = ((w1.alloc (.cells #[.string ⟨#[97]⟩, .string ⟨#[122]⟩, .string ⟨#[48]⟩, .string ⟨#[57]⟩, .string ⟨#[46]⟩, .string ⟨#[45]⟩, .string ⟨#[46, 46]⟩, .string (mkS longL)] 9)).alloc (.cells #[.string ⟨#[]⟩, .string ⟨#[65]⟩, .string ⟨#[97, 32, 98]⟩, .string ⟨#[97, 47, 98]⟩, .string ⟨#[95]⟩, .string ⟨#[0]⟩, .string ⟨#[255]⟩, .string (mkS (longL ++ [97])), .string ⟨#[96]⟩, .string ⟨#[123]⟩, .string ⟨#[58]⟩] 9)) := ⟨_, rfl⟩
  have hsz : (w1.alloc (.cells #[.string ⟨#[97]⟩, .string ⟨#[122]⟩, .string ⟨#[48]⟩, .string ⟨#[57]⟩, .string ⟨#[46]⟩, .string ⟨#[45]⟩, .string ⟨#[46, 46]⟩, .string (mkS longL)] 9)).heap.size = w1.heap.size + 1 := by simp
  rw [← hwB] at hY2 hN1 HB
  rw [hsz] at hN1
  have HY : Hid (Txs wB (.slice (some ⟨w1.heap.size, 0, none⟩) 8 8) yesL) := hY2
  have HN : Hid (Txs wB (.slice (some ⟨w1.heap.size + 1, 0, none⟩) 11 11) noL) := hN1
  have hcn := new_dx 1073741824 (by omega) wB
  rw [hwB] at hcn
  clear hY1 hN1 hY2 hsz
  go_wp2_with fail
  refine hcn.mono ?_
  rintro e w2 ⟨d, rfl, hd2, hB2⟩
  rw [← hwB] at hd2 hB2
  rw [show max (1073741824 : Int) 0 = 1073741824 from rfl] at hd2
  have HD2 : Hid (Dx w2 d 1073741824 (FY 0) (fun k => k < wB.heap.size)) := hd2
  have HB2 : Hid (Below wB.heap.size wB w2) := hB2
  have HBw : Hid (Below w.heap.size w wB) := HB.out
  clear hcn hd2 hB2 hwB HB
  go_wp2_with fail
  go_loopw [5] (fun i wr => ∃ k : Nat, k ≤ 8 ∧ i = .int .i64 k ∧ Dx wr d 1073741824 (FY k) (fun k => k < wB.heap.size) ∧ Below wB.heap.size wB wr) (fun i _ => 8 - (intOf i).toNat)
  case atStart => exact ⟨0, Nat.zero_le _, rfl, HD2.out, HB2.out⟩
  case round =>
    obtain ⟨k, hk8, rfl, hd, hBr⟩ := hrel
    clear HD2 HB2
    by_cases hlt : k < 8
    · have hlt' : (k : Int) < 8 := by omega
      obtain ⟨b, o, eb, hcell⟩ := (HY.out.keep (Chg.of_below hBr) (fun _ _ => id)).at' k hlt
      cases eb
      have hstep := yes_step ⟨k, hlt⟩
      simp only at hstep
      have hg : yesL[k]'hlt = yesL.getD k [] := by rw [List.getD_eq_getElem?_getD, List.getElem?_eq_getElem hlt]; rfl
      obtain ⟨nm, hnm⟩ : ∃ n, n = yesL.getD k [] := ⟨_, rfl⟩
      rw [hg, ← hnm, Nat.zero_add] at hcell
      rw [← hnm] at hstep
      have hX := litB wr [1] (cs := #[.int .u8 1]) rfl rfl
      have hc := append_dx (hd.alloc (.cells #[.int .u8 1] 5)) nm hX rfl
      rw [hstep.1, hstep.2] at hc
      have HBR : Hid (Below wB.heap.size wB (wr.alloc (.cells #[.int .u8 1] 5))) := hBr.alloc hBr.size _
      clear hstep hg hnm hX hd hBr
      go_wp2_with fail
      refine hc.mono ?_
      rintro e w6 ⟨rfl, hd6, k6⟩
      have HB6 : Hid (Below wB.heap.size wB w6) := HBR.out.trans (k6.below (fun _ h => h) HBR.out.size)
      clear hc k6
      go_wp2_with fail
      go_roundw
      case rel => exact ⟨k + 1, by omega, by simp, hd6, HB6.out⟩
      case measure => simp [intOf]; omega
    · have hk8' : k = 8 := by omega
      have HD : Hid (Dx wr d 1073741824 (FY 8) (fun k => k < wB.heap.size)) := by rw [← hk8']; exact hd
      have hge : ¬ (k : Int) < 8 := by omega
      obtain ⟨k0, hk0⟩ : ∃ x, x = k := ⟨_, rfl⟩
      rw [← hk0] at hge ⊢
      clear hk0 hk8'
      have HBR : Hid (Below wB.heap.size wB wr) := hBr
      obtain ⟨wC, hwC⟩ : ∃ x, x = wr := ⟨_, rfl⟩
      subst hwC
      clear hd hBr hlt hk8 HY
      go_wp2_with fail
      go_loopw [6] (fun i wr => ∃ k : Nat, k ≤ 11 ∧ i = .int .i64 k ∧ Dx wr d 1073741824 (FY 8) (fun k => k < wB.heap.size) ∧ Below wB.heap.size wB wr) (fun i _ => 11 - (intOf i).toNat)
      case atStart => exact ⟨0, Nat.zero_le _, rfl, HD.out, HBR.out⟩
      case round =>
        obtain ⟨k, hk11, rfl, hd, hBr⟩ := hrel
        clear HD HBR
        by_cases hlt : k < 11
        · have hlt' : (k : Int) < 11 := by omega
          obtain ⟨b, o, eb, _⟩ := HN.out.at' k hlt
          cases eb
          have HCELL : Hid (∀ w', Below wB.heap.size wB w' → w'.cell? ⟨w1.heap.size + 1, k, none⟩ = some (.string (mkS (noL.getD k [])))) := by
            intro w' hB'
            obtain ⟨b, o, eb, hcell⟩ := (HN.out.keep (Chg.of_below hB') (fun _ _ => id)).at' k hlt
            cases eb
            rw [Nat.zero_add] at hcell
            rw [hcell]
            have hg : noL[k]'hlt = noL.getD k [] := by rw [List.getD_eq_getElem?_getD, List.getElem?_eq_getElem hlt]; rfl
            rw [hg]
          have hstep := no_step ⟨k, hlt⟩
          simp only at hstep
          obtain ⟨nm, hnm⟩ : ∃ n, n = noL.getD k [] := ⟨_, rfl⟩
          rw [← hnm] at hstep HCELL
          obtain ⟨s1, s2, s3, s4, s5, s6, s7, s8, s9, s10, s11⟩ := hstep
          have H1 : Hid (renE (FY 8) nm [97] = 2 ∧ renR (FY 8) nm [97] = FY 8) := ⟨s3, s4⟩
          have H2 : Hid (renE (FY 8) [97] nm = 2 ∧ renR (FY 8) [97] nm = FY 8) := ⟨s5, s6⟩
          have H3 : Hid (synE (FY 8) nm = 6 ∧ synR (FY 8) nm = FY 8 ∧ delF nm (FY 8) = FY 8) := ⟨s7, s8, s9⟩
          have H4 : Hid (cutE (FY 8) nm 0 = 6 ∧ cutR (FY 8) nm 0 = FY 8) := ⟨s10, s11⟩
          have hX := litB wr [1] (cs := #[.int .u8 1]) rfl rfl
          have hc := append_dx (hd.alloc (.cells #[.int .u8 1] 5)) nm hX rfl
          rw [s1, s2] at hc
          have HBR : Hid (Below wB.heap.size wB (wr.alloc (.cells #[.int .u8 1] 5))) := hBr.alloc hBr.size _
          have hcell := HCELL.out wr hBr
          clear hnm hX hd hBr s1 s2 s3 s4 s5 s6 s7 s8 s9 s10 s11
          go_wp2_with fail
          refine hc.mono ?_
          rintro e w6 ⟨rfl, hd6, k6⟩
          have HB6 : Hid (Below wB.heap.size wB w6) := HBR.out.trans (k6.below (fun _ h => h) HBR.out.size)
          have hcell6 := HCELL.out w6 HB6.out
          clear hc k6 hcell HBR
          have hc := rename_dx hd6 nm [97]
          rw [H1.out.1, H1.out.2] at hc
          go_wp2_with fail
          refine hc.mono ?_
          rintro e w7 ⟨rfl, hd7, k7⟩
          have HB7 : Hid (Below wB.heap.size wB w7) := HB6.out.trans (k7.below (fun _ h => h) HB6.out.size)
          have hcell7 := HCELL.out w7 HB7.out
          clear hc k7 hcell6 HB6 hd6
          have hc := rename_dx hd7 [97] nm
          rw [H2.out.1, H2.out.2] at hc
          go_wp2_with fail
          refine hc.mono ?_
          rintro e w8 ⟨rfl, hd8, k8⟩
          have HB8 : Hid (Below wB.heap.size wB w8) := HB7.out.trans (k8.below (fun _ h => h) HB7.out.size)
          have hcell8 := HCELL.out w8 HB8.out
          clear hc k8 hcell7 HB7 hd7
          have hc := sync_dx hd8 nm
          rw [H3.out.1, H3.out.2.1] at hc
          go_wp2_with fail
          refine hc.mono ?_
          rintro e w9 ⟨rfl, hd9, k9⟩
          have HB9 : Hid (Below wB.heap.size wB w9) := HB8.out.trans (k9.below (fun _ h => h) HB8.out.size)
          have hcell9 := HCELL.out w9 HB9.out
          clear hc k9 hcell8 HB8 hd8
          have hc := remove_dx hd9 nm
          rw [H3.out.1, H3.out.2.2] at hc
          go_wp2_with fail
          refine hc.mono ?_
          rintro e w10 ⟨rfl, hd10, k10⟩
          have HB10 : Hid (Below wB.heap.size wB w10) := HB9.out.trans (k10.below (fun _ h => h) HB9.out.size)
          have hcell10 := HCELL.out w10 HB10.out
          clear hc k10 hcell9 HB9 hd9
          have hc := cut_dx hd10 nm 0
          rw [H4.out.1, H4.out.2] at hc
          go_wp2_with fail
          refine hc.mono ?_
          rintro e w11 ⟨rfl, hd11, k11⟩
          have HB11 : Hid (Below wB.heap.size wB w11) := HB10.out.trans (k11.below (fun _ h => h) HB10.out.size)
          clear hc k11 hcell10 HB10 hd10
          go_wp2_with fail
          go_roundw
          case rel => exact ⟨k + 1, by omega, by simp, hd11, HB11.out⟩
          case measure => simp [intOf]; omega
        · have hlt' : ¬ (k : Int) < 11 := by omega
          obtain ⟨w2, hw2⟩ : ∃ x, x = wr := ⟨_, rfl⟩
          subst hw2
          have HB : Hid (Below w.heap.size w w2) := HBw.out.trans (hBr.mono HBw.out.size)
          clear hd hBr hlt hk11 HBw HN
          -- the disk of room 3
          obtain ⟨b0full, hb0full⟩ : ∃ X, X = w2 := ⟨_, rfl⟩
          have HZb0full : Hid (w.heap.size ≤ b0full.heap.size) := by rw [hb0full]; exact HB.out.size
          go_wp2_with fail
          have hcn := new_dx 3 (by omega) w2
          refine hcn.mono ?_
          rintro e w3 ⟨pfull, rfl, hd, hBn⟩
          rw [show max (3 : Int) 0 = 3 from rfl, ← hb0full] at hd
          clear hb0full hcn
          replace HB : Hid (Below w.heap.size w w3) := HB.out.trans (hBn.mono HB.out.size)
          clear hBn
          have hX := litB w3 [1, 2, 3] (cs := #[.int .u8 1, .int .u8 2, .int .u8 3]) rfl rfl
          replace HB : Hid (Below w.heap.size w (w3.alloc (.cells #[.int .u8 1, .int .u8 2, .int .u8 3] 5))) := HB.out.alloc HB.out.size _
          have hc := append_dx (hd.alloc _) [97] hX rfl
          rw [show appE 3 [] [97] [1, 2, 3] = 0 by decide] at hc
          rw [show appR 3 [] [97] [1, 2, 3] = [⟨[97], [1, 2, 3], 0⟩] by decide] at hc
          clear hd hX
          go_wp2_with fail
          refine hc.mono ?_
          rintro e w4 ⟨rfl, hd, hk⟩
          clear hc
          replace HB : Hid (Below w.heap.size w w4) := HB.out.trans (hk.below (fun _ h => (Nat.lt_of_lt_of_le h HZb0full.out)) HB.out.size)
          clear hk
          have hX := litB w4 [1] (cs := #[.int .u8 1]) rfl rfl
          replace HB : Hid (Below w.heap.size w (w4.alloc (.cells #[.int .u8 1] 5))) := HB.out.alloc HB.out.size _
          have hc := append_dx (hd.alloc _) [98] hX rfl
          rw [show appE 3 [⟨[97], [1, 2, 3], 0⟩] [98] [1] = 5 by decide] at hc
          rw [show appR 3 [⟨[97], [1, 2, 3], 0⟩] [98] [1] = [⟨[97], [1, 2, 3], 0⟩] by decide] at hc
          clear hd hX
          go_wp2_with fail
          refine hc.mono ?_
          rintro e w5 ⟨rfl, hd, hk⟩
          clear hc
          replace HB : Hid (Below w.heap.size w w5) := HB.out.trans (hk.below (fun _ h => (Nat.lt_of_lt_of_le h HZb0full.out)) HB.out.size)
          clear hk
          have hc := append_dx hd [98] (Bs.nil _) rfl
          rw [show appE 3 [⟨[97], [1, 2, 3], 0⟩] [98] [] = 0 by decide] at hc
          rw [show appR 3 [⟨[97], [1, 2, 3], 0⟩] [98] [] = [⟨[97], [1, 2, 3], 0⟩, ⟨[98], [], 0⟩] by decide] at hc
          clear hd
          go_wp2_with fail
          refine hc.mono ?_
          rintro e w6 ⟨rfl, hd, hk⟩
          clear hc
          replace HB : Hid (Below w.heap.size w w6) := HB.out.trans (hk.below (fun _ h => (Nat.lt_of_lt_of_le h HZb0full.out)) HB.out.size)
          clear hk
          have hc := cut_dx hd [97] (4)
          rw [show cutE [⟨[97], [1, 2, 3], 0⟩, ⟨[98], [], 0⟩] [97] (4) = 2 by decide] at hc
          rw [show cutR [⟨[97], [1, 2, 3], 0⟩, ⟨[98], [], 0⟩] [97] (4) = [⟨[97], [1, 2, 3], 0⟩, ⟨[98], [], 0⟩] by decide] at hc
          clear hd
          go_wp2_with fail
          refine hc.mono ?_
          rintro e w7 ⟨rfl, hd, hk⟩
          clear hc
          replace HB : Hid (Below w.heap.size w w7) := HB.out.trans (hk.below (fun _ h => (Nat.lt_of_lt_of_le h HZb0full.out)) HB.out.size)
          clear hk
          have hc := cut_dx hd [97] (-1)
          rw [show cutE [⟨[97], [1, 2, 3], 0⟩, ⟨[98], [], 0⟩] [97] (-1) = 2 by decide] at hc
          rw [show cutR [⟨[97], [1, 2, 3], 0⟩, ⟨[98], [], 0⟩] [97] (-1) = [⟨[97], [1, 2, 3], 0⟩, ⟨[98], [], 0⟩] by decide] at hc
          clear hd
          go_wp2_with fail
          refine hc.mono ?_
          rintro e w8 ⟨rfl, hd, hk⟩
          clear hc
          replace HB : Hid (Below w.heap.size w w8) := HB.out.trans (hk.below (fun _ h => (Nat.lt_of_lt_of_le h HZb0full.out)) HB.out.size)
          clear hk
          have hc := cut_dx hd [97] (3)
          rw [show cutE [⟨[97], [1, 2, 3], 0⟩, ⟨[98], [], 0⟩] [97] (3) = 0 by decide] at hc
          rw [show cutR [⟨[97], [1, 2, 3], 0⟩, ⟨[98], [], 0⟩] [97] (3) = [⟨[97], [1, 2, 3], 3⟩, ⟨[98], [], 0⟩] by decide] at hc
          clear hd
          go_wp2_with fail
          refine hc.mono ?_
          rintro e w9 ⟨rfl, hd, hk⟩
          clear hc
          replace HB : Hid (Below w.heap.size w w9) := HB.out.trans (hk.below (fun _ h => (Nat.lt_of_lt_of_le h HZb0full.out)) HB.out.size)
          clear hk
          have hc := remove_dx hd [98]
          rw [show synE [⟨[97], [1, 2, 3], 3⟩, ⟨[98], [], 0⟩] [98] = 0 by decide] at hc
          rw [show delF [98] [⟨[97], [1, 2, 3], 3⟩, ⟨[98], [], 0⟩] = [⟨[97], [1, 2, 3], 3⟩] by decide] at hc
          clear hd
          go_wp2_with fail
          refine hc.mono ?_
          rintro e w10 ⟨rfl, hd, hk⟩
          clear hc
          replace HB : Hid (Below w.heap.size w w10) := HB.out.trans (hk.below (fun _ h => (Nat.lt_of_lt_of_le h HZb0full.out)) HB.out.size)
          clear hk
          have hc := remove_dx hd [98]
          rw [show synE [⟨[97], [1, 2, 3], 3⟩] [98] = 6 by decide] at hc
          rw [show delF [98] [⟨[97], [1, 2, 3], 3⟩] = [⟨[97], [1, 2, 3], 3⟩] by decide] at hc
          clear hd
          go_wp2_with fail
          refine hc.mono ?_
          rintro e w11 ⟨rfl, hd, hk⟩
          clear hc
          replace HB : Hid (Below w.heap.size w w11) := HB.out.trans (hk.below (fun _ h => (Nat.lt_of_lt_of_le h HZb0full.out)) HB.out.size)
          clear hk
          clear hd
          obtain ⟨b0wide, hb0wide⟩ : ∃ X, X = w11 := ⟨_, rfl⟩
          have HZb0wide : Hid (w.heap.size ≤ b0wide.heap.size) := by rw [hb0wide]; exact HB.out.size
          go_wp2_with fail
          have hcn := new_dx 1099511627776 (by omega) w11
          refine hcn.mono ?_
          rintro e w12 ⟨pwide, rfl, hd, hBn⟩
          rw [show max (1099511627776 : Int) 0 = 1099511627776 from rfl, ← hb0wide] at hd
          clear hb0wide hcn
          replace HB : Hid (Below w.heap.size w w12) := HB.out.trans (hBn.mono HB.out.size)
          clear hBn
          obtain ⟨Z, hZ⟩ : ∃ Z : List UInt8, Z = List.replicate 4194304 0 := ⟨_, rfl⟩
          obtain ⟨Y, hY⟩ : ∃ Y : List UInt8, Y = List.replicate 4194305 0 := ⟨_, rfl⟩
          have HZl : Hid (Z.length = 4194304) := by rw [hZ]; exact List.length_replicate
          have HYl : Hid (Y.length = 4194305) := by rw [hY]; exact List.length_replicate
          obtain ⟨N1, hN1⟩ : ∃ n : Nat, n = 4194304 := ⟨_, rfl⟩
          obtain ⟨N2, hN2⟩ : ∃ n : Nat, n = 4194305 := ⟨_, rfl⟩
          obtain ⟨O1, hO1⟩ : ∃ o : Obj, o = .cells (madeCells #[.int .u8 0] N1) 5 := ⟨_, rfl⟩
          obtain ⟨O2, hO2⟩ : ∃ o : Obj, o = .cells (madeCells #[.int .u8 0] N2) 5 := ⟨_, rfl⟩
          replace hmk : ∀ w : World, (Instr.makeSlice 28 (.int .i64 4194304) (.int .i64 4194304)).run Try.prog w = .ok (.slice (some ⟨w.heap.size, 0, none⟩) N1 N1) (w.alloc O1) := by rw [hO1, hN1]; exact hmk
          replace hmk2 : ∀ w : World, (Instr.makeSlice 28 (.int .i64 4194305) (.int .i64 4194305)).run Try.prog w = .ok (.slice (some ⟨w.heap.size, 0, none⟩) N2 N2) (w.alloc O2) := by rw [hO2, hN2]; exact hmk2
          have hbig : Bs ((w12.alloc O1).alloc O2) (.slice (some ⟨w12.heap.size, 0, none⟩) N1 N1) Z := by rw [hO1]; exact (zerosB w12 N1 Z (by rw [hN1]; exact hZ)).alloc _
          have hbig2 : Bs ((w12.alloc O1).alloc O2) (.slice (some ⟨w12.heap.size + 1, 0, none⟩) N2 N2) Y := by rw [hO2, show w12.heap.size + 1 = (w12.alloc O1).heap.size by simp]; exact zerosB (w12.alloc O1) N2 Y (by rw [hN2]; exact hY)
          have hpos1 : 0 < N1 := by omega
          have HZN : Hid (N1 = Z.length) := hN1.trans HZl.out.symm
          have HYN : Hid (N2 = Y.length) := hN2.trans HYl.out.symm
          replace HB : Hid (Below w.heap.size w (w12.alloc O1)) := HB.out.alloc HB.out.size _
          replace HB : Hid (Below w.heap.size w ((w12.alloc O1).alloc O2)) := HB.out.alloc HB.out.size _
          replace hd := hd.more (((Below.refl w12.heap.size w12).alloc (Nat.le_refl _) O1).alloc (by simp) O2)
          have HBG : Hid (Bs ((w12.alloc O1).alloc O2) (.slice (some ⟨w12.heap.size, 0, none⟩) N1 N1) Z) := hbig
          have HBK : Hid (∀ k, bk (.slice (some ⟨w12.heap.size, 0, none⟩) N1 N1) = some k → w12.heap.size ≤ k ∧ k < ((w12.alloc O1).alloc O2).heap.size) := by intro k hk; rw [bk_pos hpos1] at hk; cases hk; exact ⟨Nat.le_refl _, by simp; omega⟩
          clear hN1 hN2 hO1 hO2 hpos1
          clear hZ hY hbig
          have hthm := appE_long (room := 1099511627776) (F := []) (k := [97]) (l := Y) (by decide) (by have := HYl.out; simp [getF, lookF]; try omega)
          have hc := append_dx hd [97] hbig2 HYN.out
          rw [hthm.1, hthm.2] at hc
          clear hd hbig2 hthm
          go_wp2_with fail
          refine hc.mono ?_
          rintro e w13 ⟨rfl, hd, hk⟩
          clear hc
          have hbig := Bs.kp HBG.out hk (fun k h => .inr (HBK.out k h))
          replace HB : Hid (Below w.heap.size w w13) := HB.out.trans (hk.below (fun _ h => (.inl (Nat.lt_of_lt_of_le h HZb0wide.out))) HB.out.size)
          clear hk HBG HBK
          have hthm := appE_ok (room := 1099511627776) (F := []) (k := [97]) (l := Z) (by decide) (by have := HZl.out; simp [getF, lookF]; try omega) (by have := HZl.out; simp [used]; try omega)
          have hc := append_dx hd [97] hbig HZN.out
          rw [hthm.1, hthm.2, show appF [] [97] Z = [(⟨[97], Z, 0⟩ : Fi)] by simp [appF, getF, lookF, putF]] at hc
          clear hd hthm
          go_wp2_with fail
          refine hc.mono ?_
          rintro e w14 ⟨rfl, hd, hk⟩
          clear hc
          replace HB : Hid (Below w.heap.size w w14) := HB.out.trans (hk.below (fun _ h => (.inl (Nat.lt_of_lt_of_le h HZb0wide.out))) HB.out.size)
          clear hk
          clear hbig
          have hthm := appE_long (room := 1099511627776) (F := [(⟨[97], Z, 0⟩ : Fi)]) (k := [97]) (l := [1]) (by decide) (by have := HZl.out; simp [getF, lookF]; try omega)
          have hX := litB w14 [1] (cs := #[.int .u8 1]) rfl rfl
          replace HB : Hid (Below w.heap.size w (w14.alloc (.cells #[.int .u8 1] 5))) := HB.out.alloc HB.out.size _
          have hc := append_dx (hd.alloc _) [97] hX rfl
          rw [hthm.1, hthm.2] at hc
          clear hd hthm hX
          go_wp2_with fail
          refine hc.mono ?_
          rintro e w15 ⟨rfl, hd, hk⟩
          clear hc
          replace HB : Hid (Below w.heap.size w w15) := HB.out.trans (hk.below (fun _ h => (.inl (Nat.lt_of_lt_of_le h HZb0wide.out))) HB.out.size)
          clear hk
          have hthm := appE_ok (room := 1099511627776) (F := [(⟨[97], Z, 0⟩ : Fi)]) (k := [97]) (l := []) (by decide) (by have := HZl.out; simp [getF, lookF]; try omega) (by have := HZl.out; simp [used]; try omega)
          have hc := append_dx hd [97] (Bs.nil _) rfl
          rw [hthm.1, hthm.2, show appF [(⟨[97], Z, 0⟩ : Fi)] [97] [] = [(⟨[97], Z, 0⟩ : Fi)] by simp [appF, getF, lookF, putF]] at hc
          clear hd hthm
          go_wp2_with fail
          refine hc.mono ?_
          rintro e w16 ⟨rfl, hd, hk⟩
          clear hc
          replace HB : Hid (Below w.heap.size w w16) := HB.out.trans (hk.below (fun _ h => (.inl (Nat.lt_of_lt_of_le h HZb0wide.out))) HB.out.size)
          clear hk
          have hX := litB w16 [1] (cs := #[.int .u8 1]) rfl rfl
          replace HB : Hid (Below w.heap.size w (w16.alloc (.cells #[.int .u8 1] 5))) := HB.out.alloc HB.out.size _
          have hthm := appE_ok (room := 1099511627776) (F := [(⟨[97], Z, 0⟩ : Fi)]) (k := [98]) (l := [1]) (by decide) (by have := HZl.out; simp [getF, lookF]; try omega) (by have := HZl.out; simp [used]; try omega)
          have hc := append_dx (hd.alloc _) [98] hX rfl
          rw [hthm.1, hthm.2, show appF [(⟨[97], Z, 0⟩ : Fi)] [98] [1] = [(⟨[97], Z, 0⟩ : Fi), ⟨[98], [1], 0⟩] by simp [appF, getF, lookF, putF]] at hc
          clear hd hthm
          go_wp2_with fail
          refine hc.mono ?_
          rintro e w17 ⟨rfl, hd, hk⟩
          clear hc
          replace HB : Hid (Below w.heap.size w w17) := HB.out.trans (hk.below (fun _ h => (.inl (Nat.lt_of_lt_of_le h HZb0wide.out))) HB.out.size)
          clear hk
          clear hX
          have hc := used_dx hd
          rw [show used [(⟨[97], Z, 0⟩ : Fi), ⟨[98], [1], 0⟩] = 4194305 by simp [used, HZl.out]] at hc
          clear hd
          go_wp2_with fail
          refine hc.mono ?_
          rintro e w18 ⟨rfl, hBn⟩
          clear hc
          replace HB : Hid (Below w.heap.size w w18) := HB.out.trans (hBn.mono HB.out.size)
          clear hBn HZl HYl
          obtain ⟨b0none, hb0none⟩ : ∃ X, X = w18 := ⟨_, rfl⟩
          have HZb0none : Hid (w.heap.size ≤ b0none.heap.size) := by rw [hb0none]; exact HB.out.size
          go_wp2_with fail
          have hcn := new_dx (-9223372036854775808) (by omega) w18
          refine hcn.mono ?_
          rintro e w19 ⟨pnone, rfl, hd, hBn⟩
          rw [show max ((-9223372036854775808) : Int) 0 = 0 from rfl, ← hb0none] at hd
          clear hb0none hcn
          replace HB : Hid (Below w.heap.size w w19) := HB.out.trans (hBn.mono HB.out.size)
          clear hBn
          have HDn : Hid (Dx w19 pnone 0 [] (fun k => k < b0none.heap.size)) := hd
          clear hd
          obtain ⟨wX, hwX⟩ : ∃ X, X = w19 := ⟨_, rfl⟩
          subst hwX
          have HCX : Hid (Below wX.heap.size wX wX) := Below.refl _ _
          obtain ⟨b0x, hb0x⟩ : ∃ X, X = wX := ⟨_, rfl⟩
          have HZb0x : Hid (w.heap.size ≤ b0x.heap.size) := by rw [hb0x]; exact HB.out.size
          have HEb0x : Hid (b0x = wX) := hb0x
          have HZXb0x : Hid (wX.heap.size ≤ b0x.heap.size) := by rw [hb0x]; exact HCX.out.size
          go_wp2_with fail
          have hcn := new_dx 100 (by omega) wX
          refine hcn.mono ?_
          rintro e w20 ⟨px, rfl, hd, hBn⟩
          rw [show max (100 : Int) 0 = 100 from rfl, ← hb0x] at hd
          clear hb0x hcn
          replace HB : Hid (Below w.heap.size w w20) := HB.out.trans (hBn.mono HB.out.size)
          replace HCX : Hid (Below wX.heap.size wX w20) := HCX.out.trans (hBn.mono HCX.out.size)
          clear hBn
          have hX := litB w20 [1] (cs := #[.int .u8 1]) rfl rfl
          replace HB : Hid (Below w.heap.size w (w20.alloc (.cells #[.int .u8 1] 5))) := HB.out.alloc HB.out.size _
          replace HCX : Hid (Below wX.heap.size wX (w20.alloc (.cells #[.int .u8 1] 5))) := HCX.out.alloc HCX.out.size _
          have hc := append_dx (hd.alloc _) [97] hX rfl
          rw [show appE 100 [] [97] [1] = 0 by decide] at hc
          rw [show appR 100 [] [97] [1] = [(⟨[97], [1], 0⟩ : Fi)] by decide] at hc
          clear hd hX
          go_wp2_with fail
          refine hc.mono ?_
          rintro e w21 ⟨rfl, hd, hk⟩
          clear hc
          replace HB : Hid (Below w.heap.size w w21) := HB.out.trans (hk.below (fun _ h => (Nat.lt_of_lt_of_le h HZb0x.out)) HB.out.size)
          replace HCX : Hid (Below wX.heap.size wX w21) := HCX.out.trans (hk.below (fun _ h => (Nat.lt_of_lt_of_le h HZXb0x.out)) HCX.out.size)
          clear hk
          have hX := litB w21 [2, 3] (cs := #[.int .u8 2, .int .u8 3]) rfl rfl
          replace HB : Hid (Below w.heap.size w (w21.alloc (.cells #[.int .u8 2, .int .u8 3] 5))) := HB.out.alloc HB.out.size _
          replace HCX : Hid (Below wX.heap.size wX (w21.alloc (.cells #[.int .u8 2, .int .u8 3] 5))) := HCX.out.alloc HCX.out.size _
          have hc := append_dx (hd.alloc _) [98] hX rfl
          rw [show appE 100 [(⟨[97], [1], 0⟩ : Fi)] [98] [2, 3] = 0 by decide] at hc
          rw [show appR 100 [(⟨[97], [1], 0⟩ : Fi)] [98] [2, 3] = [(⟨[97], [1], 0⟩ : Fi), ⟨[98], [2, 3], 0⟩] by decide] at hc
          clear hd hX
          go_wp2_with fail
          refine hc.mono ?_
          rintro e w22 ⟨rfl, hd, hk⟩
          clear hc
          replace HB : Hid (Below w.heap.size w w22) := HB.out.trans (hk.below (fun _ h => (Nat.lt_of_lt_of_le h HZb0x.out)) HB.out.size)
          replace HCX : Hid (Below wX.heap.size wX w22) := HCX.out.trans (hk.below (fun _ h => (Nat.lt_of_lt_of_le h HZXb0x.out)) HCX.out.size)
          clear hk
          have hc := sync_dx hd [98]
          rw [show synE [(⟨[97], [1], 0⟩ : Fi), ⟨[98], [2, 3], 0⟩] [98] = 0 by decide] at hc
          rw [show synR [(⟨[97], [1], 0⟩ : Fi), ⟨[98], [2, 3], 0⟩] [98] = [(⟨[97], [1], 0⟩ : Fi), ⟨[98], [2, 3], 2⟩] by decide] at hc
          clear hd
          go_wp2_with fail
          refine hc.mono ?_
          rintro e w23 ⟨rfl, hd, hk⟩
          clear hc
          replace HB : Hid (Below w.heap.size w w23) := HB.out.trans (hk.below (fun _ h => (Nat.lt_of_lt_of_le h HZb0x.out)) HB.out.size)
          replace HCX : Hid (Below wX.heap.size wX w23) := HCX.out.trans (hk.below (fun _ h => (Nat.lt_of_lt_of_le h HZXb0x.out)) HCX.out.size)
          clear hk
          have hc := rename_dx hd [97] [98]
          rw [show renE [(⟨[97], [1], 0⟩ : Fi), ⟨[98], [2, 3], 2⟩] [97] [98] = 0 by decide] at hc
          rw [show renR [(⟨[97], [1], 0⟩ : Fi), ⟨[98], [2, 3], 2⟩] [97] [98] = [(⟨[98], [1], 0⟩ : Fi)] by decide] at hc
          clear hd
          go_wp2_with fail
          refine hc.mono ?_
          rintro e w24 ⟨rfl, hd, hk⟩
          clear hc
          replace HB : Hid (Below w.heap.size w w24) := HB.out.trans (hk.below (fun _ h => (Nat.lt_of_lt_of_le h HZb0x.out)) HB.out.size)
          replace HCX : Hid (Below wX.heap.size wX w24) := HCX.out.trans (hk.below (fun _ h => (Nat.lt_of_lt_of_le h HZXb0x.out)) HCX.out.size)
          clear hk
          have hc := rename_dx hd [98] [98]
          rw [show renE [(⟨[98], [1], 0⟩ : Fi)] [98] [98] = 0 by decide] at hc
          rw [show renR [(⟨[98], [1], 0⟩ : Fi)] [98] [98] = [(⟨[98], [1], 0⟩ : Fi)] by decide] at hc
          clear hd
          go_wp2_with fail
          refine hc.mono ?_
          rintro e w25 ⟨rfl, hd, hk⟩
          clear hc
          replace HB : Hid (Below w.heap.size w w25) := HB.out.trans (hk.below (fun _ h => (Nat.lt_of_lt_of_le h HZb0x.out)) HB.out.size)
          replace HCX : Hid (Below wX.heap.size wX w25) := HCX.out.trans (hk.below (fun _ h => (Nat.lt_of_lt_of_le h HZXb0x.out)) HCX.out.size)
          clear hk
          have hc := crash_dx hd (-5) (by omega)
          rw [show [(⟨[98], [1], 0⟩ : Fi)].map (crash1 (-5)) = [(⟨[98], [], 0⟩ : Fi)] by decide] at hc
          clear hd
          go_wp2_with fail
          refine hc.mono ?_
          rintro e w26 ⟨rfl, hd, hk⟩
          clear hc
          replace HB : Hid (Below w.heap.size w w26) := HB.out.trans (hk.below (fun _ h => (Nat.lt_of_lt_of_le h HZb0x.out)) HB.out.size)
          replace HCX : Hid (Below wX.heap.size wX w26) := HCX.out.trans (hk.below (fun _ h => (Nat.lt_of_lt_of_le h HZXb0x.out)) HCX.out.size)
          clear hk
          have hc := read_dx hd [98]
          rw [show synE [(⟨[98], [], 0⟩ : Fi)] [98] = 0 by decide, show getF [98] [(⟨[98], [], 0⟩ : Fi)] = ⟨[98], [], 0⟩ by decide] at hc
          go_wp2_with fail
          refine hc.mono ?_
          rintro e w27 ⟨Ab, Cb, rfl, hob, hBn⟩
          replace hd := hd.below hBn
          clear hc hob
          replace HB : Hid (Below w.heap.size w w27) := HB.out.trans (hBn.mono HB.out.size)
          replace HCX : Hid (Below wX.heap.size wX w27) := HCX.out.trans (hBn.mono HCX.out.size)
          clear hBn
          have HDx : Hid (Dx w27 px 100 [(⟨[98], [], 0⟩ : Fi)] (fun k => k < b0x.heap.size)) := hd
          clear hd
          obtain ⟨wY, hwY⟩ : ∃ X, X = w27 := ⟨_, rfl⟩
          subst hwY
          have HCY : Hid (Below wY.heap.size wY wY) := Below.refl _ _
          obtain ⟨b0y, hb0y⟩ : ∃ X, X = wY := ⟨_, rfl⟩
          have HZb0y : Hid (w.heap.size ≤ b0y.heap.size) := by rw [hb0y]; exact HB.out.size
          have HZXb0y : Hid (wX.heap.size ≤ b0y.heap.size) := by rw [hb0y]; exact HCX.out.size
          have HZYb0y : Hid (wY.heap.size ≤ b0y.heap.size) := by rw [hb0y]; exact HCY.out.size
          go_wp2_with fail
          have hcn := new_dx 100 (by omega) wY
          refine hcn.mono ?_
          rintro e w28 ⟨py, rfl, hd, hBn⟩
          rw [show max (100 : Int) 0 = 100 from rfl, ← hb0y] at hd
          clear hb0y hcn
          replace HB : Hid (Below w.heap.size w w28) := HB.out.trans (hBn.mono HB.out.size)
          replace HCX : Hid (Below wX.heap.size wX w28) := HCX.out.trans (hBn.mono HCX.out.size)
          replace HCY : Hid (Below wY.heap.size wY w28) := HCY.out.trans (hBn.mono HCY.out.size)
          clear hBn
          have hX := litB w28 [1, 2] (cs := #[.int .u8 1, .int .u8 2]) rfl rfl
          replace HB : Hid (Below w.heap.size w (w28.alloc (.cells #[.int .u8 1, .int .u8 2] 5))) := HB.out.alloc HB.out.size _
          replace HCX : Hid (Below wX.heap.size wX (w28.alloc (.cells #[.int .u8 1, .int .u8 2] 5))) := HCX.out.alloc HCX.out.size _
          replace HCY : Hid (Below wY.heap.size wY (w28.alloc (.cells #[.int .u8 1, .int .u8 2] 5))) := HCY.out.alloc HCY.out.size _
          have hc := append_dx (hd.alloc _) [97] hX rfl
          rw [show appE 100 [] [97] [1, 2] = 0 by decide] at hc
          rw [show appR 100 [] [97] [1, 2] = [(⟨[97], [1, 2], 0⟩ : Fi)] by decide] at hc
          clear hd hX
          go_wp2_with fail
          refine hc.mono ?_
          rintro e w29 ⟨rfl, hd, hk⟩
          clear hc
          replace HB : Hid (Below w.heap.size w w29) := HB.out.trans (hk.below (fun _ h => (Nat.lt_of_lt_of_le h HZb0y.out)) HB.out.size)
          replace HCX : Hid (Below wX.heap.size wX w29) := HCX.out.trans (hk.below (fun _ h => (Nat.lt_of_lt_of_le h HZXb0y.out)) HCX.out.size)
          replace HCY : Hid (Below wY.heap.size wY w29) := HCY.out.trans (hk.below (fun _ h => (Nat.lt_of_lt_of_le h HZYb0y.out)) HCY.out.size)
          clear hk
          have hc := crash_dx hd (9223372036854775807) (by omega)
          rw [show [(⟨[97], [1, 2], 0⟩ : Fi)].map (crash1 (9223372036854775807)) = [(⟨[97], [1, 2], 2⟩ : Fi)] by decide] at hc
          clear hd
          go_wp2_with fail
          refine hc.mono ?_
          rintro e w30 ⟨rfl, hd, hk⟩
          clear hc
          replace HB : Hid (Below w.heap.size w w30) := HB.out.trans (hk.below (fun _ h => (Nat.lt_of_lt_of_le h HZb0y.out)) HB.out.size)
          replace HCX : Hid (Below wX.heap.size wX w30) := HCX.out.trans (hk.below (fun _ h => (Nat.lt_of_lt_of_le h HZXb0y.out)) HCX.out.size)
          replace HCY : Hid (Below wY.heap.size wY w30) := HCY.out.trans (hk.below (fun _ h => (Nat.lt_of_lt_of_le h HZYb0y.out)) HCY.out.size)
          clear hk
          have hc := read_dx hd [97]
          rw [show synE [(⟨[97], [1, 2], 2⟩ : Fi)] [97] = 0 by decide, show getF [97] [(⟨[97], [1, 2], 2⟩ : Fi)] = ⟨[97], [1, 2], 2⟩ by decide] at hc
          go_wp2_with fail
          refine hc.mono ?_
          rintro e w31 ⟨Ac, Cc, rfl, hoc, hBn⟩
          clear hc hd
          simp only [List.length_cons, List.length_nil] at hoc
          have HBc : Hid (Bs w31 (.slice Ac 2 Cc) [1, 2]) := Bs.of_owns hoc
          have HKc : Hid (∀ k, bk (.slice Ac 2 Cc) = some k → wX.heap.size ≤ k ∧ k < w31.heap.size) := by
            intro k hk
            obtain ⟨cur, hcu, hle⟩ := owns_block hoc (bk_blk hk)
            exact ⟨Nat.le_trans (Nat.le_trans HCX.out.size (Nat.le_refl _)) hle, heap_lt hcu⟩
          replace HB : Hid (Below w.heap.size w w31) := HB.out.trans (hBn.mono HB.out.size)
          replace HCX : Hid (Below wX.heap.size wX w31) := HCX.out.trans (hBn.mono HCX.out.size)
          replace HCY : Hid (Below wY.heap.size wY w31) := HCY.out.trans (hBn.mono HCY.out.size)
          clear hBn hoc
          have hX := litB w31 [1] (cs := #[.int .u8 1]) rfl rfl
          replace HB : Hid (Below w.heap.size w (w31.alloc (.cells #[.int .u8 1] 5))) := HB.out.alloc HB.out.size _
          replace HCX : Hid (Below wX.heap.size wX (w31.alloc (.cells #[.int .u8 1] 5))) := HCX.out.alloc HCX.out.size _
          replace HCY : Hid (Below wY.heap.size wY (w31.alloc (.cells #[.int .u8 1] 5))) := HCY.out.alloc HCY.out.size _
          obtain ⟨wE, hwE⟩ : ∃ X, X = (w31.alloc (.cells #[.int .u8 1] 5)) := ⟨_, rfl⟩
          rw [← hwE] at HB HCX HCY hX
          have HDx2 : Hid (Dx wE px 100 [(⟨[98], [], 0⟩ : Fi)] (fun k => k < b0x.heap.size)) := HDx.out.below HCY.out
          have HBc2 : Hid (Bs wE (.slice Ac 2 Cc) [1, 2]) := by rw [hwE]; exact HBc.out.alloc _
          have HKc2 : Hid (∀ k, bk (.slice Ac 2 Cc) = some k → wX.heap.size ≤ k ∧ k < wE.heap.size) := fun k hk => ⟨(HKc.out k hk).1, HBc2.out.lt hk⟩
          have hd := HDn.out.more HCX.out
          have hc := append_dx hd [97] hX rfl
          rw [show appE 0 [] [97] [1] = 5 by decide, show appR 0 [] [97] [1] = [] by decide] at hc
          have HS : Hid (w.heap.size ≤ b0none.heap.size) := HZb0none.out
          clear hd hX HDn HDx HBc HKc
          rw [hwE] at hc
          go_wp2_with fail
          refine hc.mono ?_
          rintro e w32 ⟨rfl, hd, hk1⟩
          rw [← hwE] at hk1 hd
          clear hc
          have hc := append_dx hd [97] (Bs.nil _) rfl
          rw [show appE 0 [] [97] [] = 0 by decide, show appR 0 [] [97] [] = [(⟨[97], [], 0⟩ : Fi)] by decide] at hc
          clear hd
          go_wp2_with fail
          refine hc.mono ?_
          rintro e w33 ⟨rfl, hd, hk2⟩
          clear hc hd
          have hk : Kp (fun k => k < b0none.heap.size ∨ wX.heap.size ≤ k ∧ k < wE.heap.size) wE w33 := hk1.trans hk2
          have HDx3 : Hid (Dx w33 px 100 [(⟨[98], [], 0⟩ : Fi)] (fun k => k < b0x.heap.size)) := HDx2.out.away hk (fun k h1 h2 => .inr ⟨by rw [HEb0x.out] at h2; omega, h1⟩)
          have HBc3 : Hid (Bs w33 (.slice Ac 2 Cc) [1, 2]) := Bs.kp HBc2.out hk (fun k h => .inr (HKc2.out k h))
          replace HB : Hid (Below w.heap.size w w33) := HB.out.trans (hk.below (fun _ h => .inl (Nat.lt_of_lt_of_le h HS.out)) HB.out.size)
          clear hk hk1 hk2 HDx2 HBc2 HKc2 HCX HCY hwE
          have hc := list_dx HDx3.out (by decide)
          rw [show sortN ([(⟨[98], [], 0⟩ : Fi)].map (fun f : Fi => f.nm)) = [[98]] by simp [sortN]] at hc
          go_wp2_with fail
          refine hc.mono ?_
          rintro e w34 ⟨Al, Cl, rfl, hol, hBn⟩
          clear hc
          have htx := Txs.of_owns hol
          simp only [List.length_cons, List.length_nil] at htx
          replace HBc3 : Hid (Bs w34 (.slice Ac 2 Cc) [1, 2]) := Bs.below' HBc3.out hBn
          replace HB : Hid (Below w.heap.size w w34) := HB.out.trans (hBn.mono HB.out.size)
          clear hBn hol HDx3
          have hX := litT w34 [[98]] (cs := #[.string ⟨#[98]⟩]) rfl rfl
          have hc := texts_any (htx.keep (Chg.alloc Non w34 (.cells #[.string ⟨#[98]⟩] 9)) (fun _ _ => id)) hX (by decide)
          rw [show decide (([[98]] : List (List UInt8)) = [[98]]) = true by decide] at hc
          clear htx hX
          go_wp2_with fail
          refine hc.mono ?_
          rintro e w35 ⟨rfl, q1, hw1⟩
          clear hc
          have hBn : Below w34.heap.size w34 w35 := by rw [hw1]; exact below_drewN ((Below.refl _ _).alloc (Nat.le_refl _) _) _
          replace HBc3 : Hid (Bs w35 (.slice Ac 2 Cc) [1, 2]) := Bs.below' HBc3.out hBn
          replace HB : Hid (Below w.heap.size w w35) := HB.out.trans (hBn.mono HB.out.size)
          clear hBn hw1
          have hX := litB w35 [1, 2] (cs := #[.int .u8 1, .int .u8 2]) rfl rfl
          have hc := same_any (HBc3.out.alloc (.cells #[.int .u8 1, .int .u8 2] 5)) hX (by decide)
          rw [show decide (([1, 2] : List UInt8) = [1, 2]) = true by decide] at hc
          clear hX
          go_wp2_with fail
          refine hc.mono ?_
          rintro e w36 ⟨rfl, q2, hw2⟩
          clear hc HBc3
          have hBn : Below w35.heap.size w35 w36 := by rw [hw2]; exact below_drewN ((Below.refl _ _).alloc (Nat.le_refl _) _) _
          replace HB : Hid (Below w.heap.size w w36) := HB.out.trans (hBn.mono HB.out.size)
          clear hBn hw2
          go_wp2_with fail
          refine (awake_any _).mono ?_
          rintro e w37 ⟨rfl, hBn⟩
          replace HB : Hid (Below w.heap.size w w37) := HB.out.trans (hBn.mono HB.out.size)
          clear hBn
          go_wp2_with fail
          go_ret
          exact ⟨rfl, HB.out⟩
end Go.Proofs.Ytapipnbmljdmbaa
