/- The walk of SegmentTorn. -/
import Derived.Test.YtaeoafedfgbcaaaDoorSgU
import Derived.Test.YtaeoafedfgbcaaaDoorSgXa
import Derived.Deep.CutRange
import Derived.Deep.CutBlock
import Derived.Deep.QuietTactic
namespace Go.Proofs.YtaeoafedfgbcaaaDoor.DD
set_option linter.unusedVariables false
open Go.RowKit Go.Sort
set_option linter.unusedVariables false

theorem sliceD_run {A : Option Addr} {n C J : Nat} (h : J ≤ C) (w : World) : (Instr.sliceAt 22 (.slice A n C) none (some (.int .i64 (J : Int))) none).run Tryd.prog w = .ok (.slice A J C) w := by
  have hu := Tryd.underlying22
  have hs : ∀ w, (sizeOf 33).run Tryd.prog w = .ok 16 w := fun _ => by kernel_rfl
  cases A <;> simp [Instr.sliceAt, Instr.slice, Instr.sliceBounds, Instr.sliceBound, asIntOf, run_underlying hu, hs, Result.andThen, h, Addr.add]
theorem sliceI_run {A : Option Addr} {n C J : Nat} (h : J ≤ C) (w : World) : (Instr.sliceAt 24 (.slice A n C) none (some (.int .i64 (J : Int))) none).run Tryd.prog w = .ok (.slice A J C) w := by
  have hu := Tryd.underlying24
  have hs : ∀ w, (sizeOf 3).run Tryd.prog w = .ok 1 w := fun _ => by kernel_rfl
  cases A <;> simp [Instr.sliceAt, Instr.slice, Instr.sliceBounds, Instr.sliceBound, asIntOf, run_underlying hu, hs, Result.andThen, h, Addr.add]
set_option maxRecDepth 100000 in
set_option maxHeartbeats 40000000 in
theorem torn_any {w : World} {A : Option Addr} {C : Nat} {E : List El2} {cut : Int} {jb : UInt8} (hR : Rowed w A E C) (hC : E.length ≤ C) (hE : ∀ e ∈ E, DV w e ∧ DedFit e.p.1 e.p.2) (hcut : -9223372036854775808 ≤ cut ∧ cut < 9223372036854775808) (hL : PA.Laid w) :
    Calls Tryd.prog 3 #[.slice A E.length C, .int .i64 cut, .int .u8 (jb.toNat : Int)] w fun e w' => e = .returned (.bool true) ∧ Below w.heap.size w w' := by
  have HL : Hid (PA.Laid w) := hL
  have HCUT : Hid (-9223372036854775808 ≤ cut ∧ cut < 9223372036854775808) := hcut
  have HR0 : Hid (Rowed w A E C) := hR
  have HE0 : Hid (∀ e ∈ E, DV w e ∧ DedFit e.p.1 e.p.2) := hE
  clear hL hcut hR hE
  have haw := awake_seg w HL.out
  go_enter Tryd.func3, Tryd.ntmps3
  go_wp2_with fail
  refine haw.mono ?_
  rintro e w1 ⟨rfl, hB1⟩
  have HB1 : Hid (Below w.heap.size w w1) := hB1
  have HR1 : Hid (Rowed w1 A E C) := HR0.out.grow hB1
  have HE1 : Hid (∀ e ∈ E, DV w1 e ∧ DedFit e.p.1 e.p.2) := fun e he => ⟨(HE0.out e he).1.grow hB1, (HE0.out e he).2⟩
  have HL1 : Hid (PA.Laid w1) := HL.out.below hB1
  clear haw hB1 HR0 HE0 HL
  go_upto_if 25 with fail
  go_cut [0] from 21 to 27 (fun v0 wx => w1 = wx ∧ ∃ N : Nat, N ≤ 30 ∧ N ≤ E.length ∧ v0 = .slice A N C)
  case first =>
    by_cases h30 : 30 < E.length
    · have h30i : (30 : Int) < (E.length : Int) := by omega
      have hsl : ∀ w', (Instr.sliceAt 22 (.slice A E.length C) none (some (.int .i64 30)) none).run Tryd.prog w' = .ok (.slice A 30 C) w' := fun w' => sliceD_run (J := 30) (by omega) w'
      go_wp2_with fail
      go_meet
      exact ⟨rfl, 30, by omega, by omega, rfl⟩
    · have h30i : ¬ (30 : Int) < (E.length : Int) := by omega
      go_wp2_with fail
      go_meet
      exact ⟨rfl, E.length, by omega, by omega, rfl⟩
  case rest =>
  obtain ⟨rfl, N, hN, hNE, rfl⟩ := hcut
  clear hC
  go_wp2_with fail
  go_loopg [7, 8, 9, 10] N (fun g v7 v8 v9 v10 wr => ∃ (k : Nat) (its : List It) (els : List El2) (Ad : Option Addr) (Cd : Nat) (Ae : Option Addr) (Ce : Nat) (Ab : Option Addr) (Cb : Nat), k ≤ N ∧ g = N - k ∧ v10 = .int .i64 (k : Int) ∧ v7 = .slice Ad its.length Cd ∧ v8 = .slice Ae its.length Ce ∧ v9 = .slice Ab (catI its).length Cb ∧ Lp w1 its els Ad Cd Ae Ce Ab Cb k wr)
  case atStart => exact ⟨0, [], [], none, 0, none, 0, none, 0, Nat.zero_le _, rfl, rfl, rfl, rfl, rfl, Lp.start w1⟩
  case round =>
  obtain ⟨k, its, els, Ad, Cd, Ae, Ce, Ab, Cb, hk, rfl, rfl, rfl, rfl, rfl, hP⟩ := hrel
  have HP : Hid (Lp w1 its els Ad Cd Ae Ce Ab Cb k wr) := hP
  clear hP
  by_cases hlt : k < N
  · have hkE : k < E.length := by omega
    obtain ⟨b, o, rfl, hbl, hCl, hrg⟩ := HR1.out.at' k hkE
    obtain ⟨hdv, hfit⟩ := HE1.out _ (List.getElem_mem hkE)
    generalize (E[k]'hkE) = e0 at hrg hdv hfit
    obtain ⟨⟨f0, ps⟩, A1, c1, A2, c2, A3, c3⟩ := e0
    have hk30 : k < 30 := by omega
    have i1 : (k : Int) < (N : Int) := by omega
    have i2 : (k : Int) < 30 := by omega
    have i3 : (0 : Int) ≤ (k : Int) := by omega
    have hrg' : wr.rangeAt b (o + k * 16) [.int .i64 f0.zxid, .int .u8 f0.kind, .int .i64 f0.session, .int .i64 f0.turn, .int .i64 f0.xid, .int .i64 f0.time, .string (mkS f0.path), .slice A1 f0.data.length c1, .int .i64 f0.owner, .int .i64 f0.version, .int .i64 f0.cversion, .int .i64 f0.timeout, .int .i64 f0.err, .int .i64 f0.cver, .slice A2 f0.mems.length c2, .slice A3 f0.np c3] := fun j v hj => (HP.out.bel.cell (p := ⟨b, o + k * 16 + j, none⟩) hbl).trans (hrg j v hj)
    have HRG : Hid _ := hrg'
    have HDV0 : Hid (DVal w1 f0 ps A1 c1 A2 c2 A3 c3) := hdv
    have HFIT : Hid (DedFit f0 ps) := hfit
    clear hrg hrg' hdv hfit hkE
    obtain ⟨V, hV⟩ : ∃ V, V = if f0.kind = 7 then 7 + 2 * (k : Int) else f0.cver := ⟨_, rfl⟩
    obtain ⟨f, hf⟩ : ∃ f : Fl, f = { f0 with zxid := 7 + 2 * (k : Int), cver := V } := ⟨_, rfl⟩
    have HV : Hid (V = if f0.kind = 7 then 7 + 2 * (k : Int) else f0.cver) := hV
    have HF : Hid (f = { f0 with zxid := 7 + 2 * (k : Int), cver := V }) := hf
    clear hV hf
    obtain ⟨wz, hwz⟩ : ∃ X, X = wr.alloc (.cells #[.int .i64 0, .int .u8 0, .int .i64 0, .int .i64 0, .int .i64 0, .int .i64 0, .string ⟨#[]⟩, .slice none 0 0, .int .i64 0, .int .i64 0, .int .i64 0, .int .i64 0, .int .i64 0, .int .i64 0, .slice none 0 0, .slice none 0 0] 33) := ⟨_, rfl⟩
    have hz0 : wz.heap[wr.heap.size]? = some (.cells #[.int .i64 0, .int .u8 0, .int .i64 0, .int .i64 0, .int .i64 0, .int .i64 0, .string ⟨#[]⟩, .slice none 0 0, .int .i64 0, .int .i64 0, .int .i64 0, .int .i64 0, .int .i64 0, .int .i64 0, .slice none 0 0, .slice none 0 0] 33 (0, 0)) := by rw [hwz]; exact heap_alloc_new wr _
    have hth := there16 hz0
    obtain ⟨w2, hw2⟩ : ∃ X, X = wz.setCells wr.heap.size 0 [.int .i64 f0.zxid, .int .u8 f0.kind, .int .i64 f0.session, .int .i64 f0.turn, .int .i64 f0.xid, .int .i64 f0.time, .string (mkS f0.path), .slice A1 f0.data.length c1, .int .i64 f0.owner, .int .i64 f0.version, .int .i64 f0.cversion, .int .i64 f0.timeout, .int .i64 f0.err, .int .i64 f0.cver, .slice A2 f0.mems.length c2, .slice A3 f0.np c3] := ⟨_, rfl⟩
    obtain ⟨h2, hc2⟩ := set16L hz0 (.int .i64 f0.zxid) (.int .u8 f0.kind) (.int .i64 f0.session) (.int .i64 f0.turn) (.int .i64 f0.xid) (.int .i64 f0.time) (.string (mkS f0.path)) (.slice A1 f0.data.length c1) (.int .i64 f0.owner) (.int .i64 f0.version) (.int .i64 f0.cversion) (.int .i64 f0.timeout) (.int .i64 f0.err) (.int .i64 f0.cver) (.slice A2 f0.mems.length c2) (.slice A3 f0.np c3)
    rw [← hw2] at h2 hc2
    have hon : (#[.int .i64 f0.zxid, .int .u8 f0.kind, .int .i64 f0.session, .int .i64 f0.turn, .int .i64 f0.xid, .int .i64 f0.time, .string (mkS f0.path), .slice A1 f0.data.length c1, .int .i64 f0.owner, .int .i64 f0.version, .int .i64 f0.cversion, .int .i64 f0.timeout, .int .i64 f0.err, .int .i64 f0.cver, .slice A2 f0.mems.length c2, .slice A3 f0.np c3] : Array Value).all (·.oneCell') = true := all_oneCell_toArray (ev2_one ⟨(f0, ps), A1, c1, A2, c2, A3, c3⟩)
    obtain ⟨w3, hw3⟩ : ∃ X, X = w2.setCell ⟨wr.heap.size, 0, none⟩ (.int .i64 (7 + 2 * (k : Int))) := ⟨_, rfl⟩
    have h3 : w3.heap[wr.heap.size]? = some (.cells #[.int .i64 (7 + 2 * (k : Int)), .int .u8 f0.kind, .int .i64 f0.session, .int .i64 f0.turn, .int .i64 f0.xid, .int .i64 f0.time, .string (mkS f0.path), .slice A1 f0.data.length c1, .int .i64 f0.owner, .int .i64 f0.version, .int .i64 f0.cversion, .int .i64 f0.timeout, .int .i64 f0.err, .int .i64 f0.cver, .slice A2 f0.mems.length c2, .slice A3 f0.np c3] 33 (0, 0)) := by rw [hw3]; exact heap_set h2 0 _
    have hc3 : Chg (fun i => i = wr.heap.size) wz w3 := by rw [hw3]; exact hc2.trans (Chg.setCell w2 ⟨wr.heap.size, 0, none⟩ _ rfl)
    have hbz : Below wr.heap.size wr wz := by rw [hwz]; exact (Below.refl _ _).alloc (Nat.le_refl _) _
    have x0 : w2.cell? ⟨wr.heap.size, 0, none⟩ = some (.int .i64 f0.zxid) := by rw [cell_at h2]; rfl
    have x1 : w2.cell? ⟨wr.heap.size, 1, none⟩ = some (.int .u8 f0.kind) := by rw [cell_at h2]; rfl
    have y0 : w2.frozen? ⟨wr.heap.size, 0, none⟩ = false := frozen_at h2 _
    have x3 : w3.cell? ⟨wr.heap.size, 1, none⟩ = some (.int .u8 f0.kind) := by rw [cell_at h3]; rfl
    have HBZ : Hid (Below wr.heap.size wr wz) := hbz
    have HC3 : Hid (Chg (fun i => i = wr.heap.size) wz w3) := hc3
    have H3 : Hid _ := h3
    have HW2 : Hid _ := hw2
    have HTH : Hid _ := hth
    have HON : Hid _ := hon
    clear hbz hc3 h3 hz0 h2 hc2 hw2 hth hon
    subst hwz
    have HW3 : Hid _ := hw3
    clear hw3
    go_upto_if 44 with (first | (refine wpList_load_mid rfl 33 (.tmp 36) rfl b (o + k * 16) rfl [.int .i64 f0.zxid, .int .u8 f0.kind, .int .i64 f0.session, .int .i64 f0.turn, .int .i64 f0.xid, .int .i64 f0.time, .string (mkS f0.path), .slice A1 f0.data.length c1, .int .i64 f0.owner, .int .i64 f0.version, .int .i64 f0.cversion, .int .i64 f0.timeout, .int .i64 f0.err, .int .i64 f0.cver, .slice A2 f0.mems.length c2, .slice A3 f0.np c3] _ HRG.out Tryd.underlying33 rfl infoDs ?_) | (refine wpList_store_mid rfl 33 (.tmp 11) (.tmp 37) rfl wr.heap.size 0 #[.int .i64 f0.zxid, .int .u8 f0.kind, .int .i64 f0.session, .int .i64 f0.turn, .int .i64 f0.xid, .int .i64 f0.time, .string (mkS f0.path), .slice A1 f0.data.length c1, .int .i64 f0.owner, .int .i64 f0.version, .int .i64 f0.cversion, .int .i64 f0.timeout, .int .i64 f0.err, .int .i64 f0.cver, .slice A2 f0.mems.length c2, .slice A3 f0.np c3] rfl rfl HTH.out infoDs HON.out ?_; rw [← HW2.out]) | fail)
    rw [← HW3.out]
    clear x0 x1 y0
    go_cut [] from 28 to 82 (fun wx => wx.heap[wr.heap.size]? = some (.cells #[.int .i64 f.zxid, .int .u8 f.kind, .int .i64 f.session, .int .i64 f.turn, .int .i64 f.xid, .int .i64 f.time, .string (mkS f.path), .slice A1 f.data.length c1, .int .i64 f.owner, .int .i64 f.version, .int .i64 f.cversion, .int .i64 f.timeout, .int .i64 f.err, .int .i64 f.cver, .slice A2 f.mems.length c2, .slice A3 f.np c3] 33 (0, 0)) ∧ Chg (fun i => i = wr.heap.size) (wr.alloc (.cells #[.int .i64 0, .int .u8 0, .int .i64 0, .int .i64 0, .int .i64 0, .int .i64 0, .string ⟨#[]⟩, .slice none 0 0, .int .i64 0, .int .i64 0, .int .i64 0, .int .i64 0, .int .i64 0, .int .i64 0, .slice none 0 0, .slice none 0 0] 33)) wx)
    case first =>
      by_cases h7 : f0.kind = 7
      · have hb7 : (f0.kind == 7) = true := by rw [h7]; rfl
        have hVe : V = 7 + 2 * (k : Int) := by rw [HV.out, if_pos h7]
        have HVe : Hid (V = 7 + 2 * (k : Int)) := hVe
        have q0 : w3.cell? ⟨wr.heap.size, 0, none⟩ = some (.int .i64 (7 + 2 * (k : Int))) := by rw [cell_at H3.out]; rfl
        have q13 : w3.cell? ⟨wr.heap.size, 13, none⟩ = some (.int .i64 f0.cver) := by rw [cell_at H3.out]; rfl
        have p13 : w3.frozen? ⟨wr.heap.size, 13, none⟩ = false := frozen_at H3.out _
        clear h7 hVe x3
        go_wp2_with fail
        go_meet
        refine ⟨?_, HC3.out.trans (Chg.setCell w3 ⟨wr.heap.size, 13, none⟩ _ rfl)⟩
        rw [HF.out, HVe.out]
        exact heap_set H3.out 13 _
      · have hb7 : (f0.kind == 7) = false := by simpa using h7
        have HVe : Hid (V = f0.cver) := by show _ = _; rw [HV.out, if_neg h7]
        clear h7 x3
        go_wp2_with fail
        go_meet
        refine ⟨?_, HC3.out⟩
        rw [HF.out, HVe.out]
        exact H3.out
    case rest =>
    clear x3
    obtain ⟨hH, hC⟩ := hcut
    have HH : Hid _ := hH
    have HBC : Hid (Below wr.heap.size wr wc) := HBZ.out.trans (hC.below (fun i e => by omega) HBZ.out.size)
    have HDF : Hid (DVal w1 f ps A1 c1 A2 c2 A3 c3) := by show DVal _ _ _ _ _ _ _ _ _; rw [HF.out]; exact ⟨HDV0.out.1, HDV0.out.2, HDV0.out.3⟩
    have HVI : Hid (I64 V) := by
      show I64 V
      rw [HV.out]
      split
      · unfold I64; omega
      · exact HFIT.out.top.cver
    have HFF : Hid (DedFit f ps) := by
      show DedFit _ _
      have hz : I64 (7 + 2 * (k : Int)) := by unfold I64; omega
      rw [HF.out]
      exact ⟨⟨hz, HFIT.out.top.kind, HFIT.out.top.session, HFIT.out.top.turn, HFIT.out.top.xid, HFIT.out.top.time, HFIT.out.top.owner, HFIT.out.top.version, HFIT.out.top.cversion, HFIT.out.top.timeout, HFIT.out.top.err, HVI.out⟩, HFIT.out.all, HFIT.out.len⟩
    have HZF : Hid (f.zxid = 7 + 2 * (k : Int)) := by show _ = _; rw [HF.out]
    have q15 : wc.cell? ⟨wr.heap.size, 15, none⟩ = some (.slice A3 f.np c3) := by rw [cell_at hH]; rfl
    have q7 : wc.cell? ⟨wr.heap.size, 7, none⟩ = some (.slice A1 f.data.length c1) := by rw [cell_at hH]; rfl
    clear hH hC HF HV HVI HFIT HDV0 H3 HC3 HBZ HW2 HW3 HTH HON HRG
    by_cases hbig : 100 < f.np ∨ 60000 < f.data.length
    · have HE : Hid (Below w.heap.size w wc) := HB1.out.trans ((HP.out.bel.trans (HBC.out.mono HP.out.bel.size)).mono HB1.out.size)
      by_cases hp : 100 < f.np
      · have j1 : (100 : Int) < (f.np : Int) := by omega
        go_wp2_with fail
        go_ret
        exact ⟨rfl, HE.out⟩
      · have j1 : ¬ (100 : Int) < (f.np : Int) := by omega
        have j2 : (60000 : Int) < (f.data.length : Int) := by omega
        go_wp2_with fail
        go_ret
        exact ⟨rfl, HE.out⟩
    · have j1 : ¬ (100 : Int) < (f.np : Int) := by omega
      have j2 : ¬ (60000 : Int) < (f.data.length : Int) := by omega
      clear hbig
      have hrg := range16 HH.out
      have hLc : PA.Laid wc := HL1.out.below (HP.out.bel.trans (HBC.out.mono HP.out.bel.size))
      have hdc : DVal wc f ps A1 c1 A2 c2 A3 c3 := HDF.out.grow (HP.out.bel.trans (HBC.out.mono HP.out.bel.size))
      have HRC : Hid _ := hrg
      clear hrg
      by_cases hr : rightD f ps = true
      · have hpu := sput_yes f ps A1 A2 A3 c1 c2 c3 wc hLc hdc HFF.out hr
        have HRI : Hid (rightD f ps = true) := hr
        clear hr hLc hdc
        go_wp2_with (first | (refine wpList_load_mid rfl 33 (.tmp 11) rfl wr.heap.size 0 rfl [.int .i64 f.zxid, .int .u8 f.kind, .int .i64 f.session, .int .i64 f.turn, .int .i64 f.xid, .int .i64 f.time, .string (mkS f.path), .slice A1 f.data.length c1, .int .i64 f.owner, .int .i64 f.version, .int .i64 f.cversion, .int .i64 f.timeout, .int .i64 f.err, .int .i64 f.cver, .slice A2 f.mems.length c2, .slice A3 f.np c3] _ HRC.out Tryd.underlying33 rfl infoDs ?_) | fail)
        refine hpu.mono ?_
        rintro e w5 ⟨v, rfl, hx5, hB5⟩
        have HB5 : Hid (Below wr.heap.size wr w5) := HBC.out.trans (hB5.mono HBC.out.size)
        have HX5 : Hid (Bs w5 v (itB (f, ps))) := hx5
        have hg5 : w5.heap[wr.heap.size]? = wc.heap[wr.heap.size]? := hB5.block _ (heap_lt HH.out)
        have HH5 : Hid _ := hg5.trans HH.out
        have HR5 : Hid _ := range16 HH5.out
        have hri := right_any f ps A1 A2 A3 c1 c2 c3 w5 (HL1.out.below (HP.out.bel.trans (HB5.out.mono HP.out.bel.size))) (HDF.out.grow (HP.out.bel.trans (HB5.out.mono HP.out.bel.size))) HFF.out
        rw [HRI.out] at hri
        clear hpu hx5 hB5 hg5 q15 q7
        go_wp2_with (first | (refine wpList_load_mid rfl 33 (.tmp 11) rfl wr.heap.size 0 rfl [.int .i64 f.zxid, .int .u8 f.kind, .int .i64 f.session, .int .i64 f.turn, .int .i64 f.xid, .int .i64 f.time, .string (mkS f.path), .slice A1 f.data.length c1, .int .i64 f.owner, .int .i64 f.version, .int .i64 f.cversion, .int .i64 f.timeout, .int .i64 f.err, .int .i64 f.cver, .slice A2 f.mems.length c2, .slice A3 f.np c3] _ HR5.out Tryd.underlying33 rfl infoDs ?_) | fail)
        refine hri.mono ?_
        rintro e w6 ⟨rfl, hB6⟩
        have HB6 : Hid (Below wr.heap.size wr w6) := HB5.out.trans (hB6.mono HB5.out.size)
        obtain ⟨M, hM⟩ : ∃ M, M = (catI its).length + (itB (f, ps)).length := ⟨_, rfl⟩
        obtain ⟨A4, C4, w7, g6, C6, w8, g7, C7, w9, r1, r2, r3, r4, r5, r6, r7, r8⟩ := round_runs HP.out HB6.out hk30 HZF.out ⟨HRI.out, HFF.out⟩ HDF.out (Bs.below' HX5.out hB6) hM
        have hg6 : w7.heap[wr.heap.size]? = w6.heap[wr.heap.size]? := r4 _ (Nat.lt_of_lt_of_le (heap_lt HH5.out) hB6.size) HP.out.bel.size (fun e => by have := (HP.out.rb.lt _ e).2; omega)
        have hh7 := hg6.trans ((hB6.block _ (heap_lt HH5.out)).trans HH5.out)
        have HR7 : Hid _ := range16 hh7
        have HK1 : Hid _ := r1
        have HK2 : Hid _ := r6
        have HK3 : Hid _ := r7
        have HN : Hid _ := r8
        have HE3 : Hid ((catI (its ++ [(f, ps)])).length = M) := by show _ = _; rw [catI_app, catI_one, List.length_append, hM]
        clear r1 r2 r3 r4 r5 r6 r7 r8 hri hB6 hg6 hh7 hM
        go_wp2_with (first
          | (refine wpList_load_mid rfl 33 (.tmp 11) rfl wr.heap.size 0 rfl [.int .i64 f.zxid, .int .u8 f.kind, .int .i64 f.session, .int .i64 f.turn, .int .i64 f.xid, .int .i64 f.time, .string (mkS f.path), .slice A1 f.data.length c1, .int .i64 f.owner, .int .i64 f.version, .int .i64 f.cversion, .int .i64 f.timeout, .int .i64 f.err, .int .i64 f.cver, .slice A2 f.mems.length c2, .slice A3 f.np c3] _ HR7.out Tryd.underlying33 rfl infoDs ?_)
          | (at_builtin; refine wpList_run_append rfl (.tmp 71) (.tmp 72) 25 rfl rfl rfl HK1.out ?_)
          | (at_builtin; refine wpList_run_append rfl (.tmp 74) (.tmp 76) 22 rfl rfl rfl HK2.out ?_)
          | (at_builtin; refine wpList_run_append rfl (.tmp 78) (.tmp 81) 24 rfl rfl rfl HK3.out ?_)
          | fail)
        go_roundg (N - (k + 1))
        case measure => omega
        case rel => exact ⟨k + 1, its ++ [(f, ps)], els ++ [⟨(f, ps), A1, c1, A2, c2, A3, c3⟩], _, _, _, _, _, _, by omega, rfl, by go_num, by rw [List.length_append]; rfl, by rw [List.length_append]; rfl, by rw [HE3.out], HN.out⟩
      · have hrf : rightD f ps = false := by simpa using hr
        have hpu := sput_no f ps A1 A2 A3 c1 c2 c3 wc hLc hdc HFF.out hrf
        have HRI : Hid (rightD f ps = false) := hrf
        clear hr hLc hdc hrf
        go_wp2_with (first | (refine wpList_load_mid rfl 33 (.tmp 11) rfl wr.heap.size 0 rfl [.int .i64 f.zxid, .int .u8 f.kind, .int .i64 f.session, .int .i64 f.turn, .int .i64 f.xid, .int .i64 f.time, .string (mkS f.path), .slice A1 f.data.length c1, .int .i64 f.owner, .int .i64 f.version, .int .i64 f.cversion, .int .i64 f.timeout, .int .i64 f.err, .int .i64 f.cver, .slice A2 f.mems.length c2, .slice A3 f.np c3] _ HRC.out Tryd.underlying33 rfl infoDs ?_) | fail)
        refine hpu.mono ?_
        rintro e w5 ⟨rfl, hB5⟩
        have HB5 : Hid (Below wr.heap.size wr w5) := HBC.out.trans (hB5.mono HBC.out.size)
        have hg5 : w5.heap[wr.heap.size]? = wc.heap[wr.heap.size]? := hB5.block _ (heap_lt HH.out)
        have HH5 : Hid _ := hg5.trans HH.out
        have HR5 : Hid _ := range16 HH5.out
        have hri := right_any f ps A1 A2 A3 c1 c2 c3 w5 (HL1.out.below (HP.out.bel.trans (HB5.out.mono HP.out.bel.size))) (HDF.out.grow (HP.out.bel.trans (HB5.out.mono HP.out.bel.size))) HFF.out
        rw [HRI.out] at hri
        clear hpu hB5 hg5 q15 q7
        go_wp2_with (first | (refine wpList_load_mid rfl 33 (.tmp 11) rfl wr.heap.size 0 rfl [.int .i64 f.zxid, .int .u8 f.kind, .int .i64 f.session, .int .i64 f.turn, .int .i64 f.xid, .int .i64 f.time, .string (mkS f.path), .slice A1 f.data.length c1, .int .i64 f.owner, .int .i64 f.version, .int .i64 f.cversion, .int .i64 f.timeout, .int .i64 f.err, .int .i64 f.cver, .slice A2 f.mems.length c2, .slice A3 f.np c3] _ HR5.out Tryd.underlying33 rfl infoDs ?_) | fail)
        refine hri.mono ?_
        rintro e w6 ⟨rfl, hB6⟩
        have HB6 : Hid (Below wr.heap.size wr w6) := HB5.out.trans (hB6.mono HB5.out.size)
        clear hri hB6
        go_wp2_with fail
        go_roundg (N - (k + 1))
        case measure => omega
        case rel => exact ⟨k + 1, its, els, _, _, _, _, _, _, by omega, rfl, by go_num, rfl, rfl, rfl, HP.out.skip HB6.out⟩
  · obtain rfl : k = N := by omega
    obtain ⟨wA, hwA⟩ : ∃ x, x = wr := ⟨_, rfl⟩
    subst hwA
    have hMl := cat_bound its HP.out.ok
    have hln := HP.out.ln
    obtain ⟨M, hM⟩ : ∃ M, M = (catI its).length := ⟨_, rfl⟩
    obtain ⟨m, hm⟩ : ∃ m, m = its.length := ⟨_, rfl⟩
    have hMb : M ≤ 30000000 := by omega
    have hmb : m ≤ 30 := by omega
    have HM : Hid (M = (catI its).length) := hM
    have Hm : Hid (m = its.length) := hm
    obtain ⟨n, hn⟩ : ∃ n : Nat, cut % ((M : Int) + 1) = (n : Int) := ⟨(cut % ((M : Int) + 1)).toNat, by have := Int.emod_nonneg cut (show ((M : Int) + 1) ≠ 0 by omega); omega⟩
    have hnM' : n ≤ M := by have := Int.emod_lt_of_pos cut (show 0 < ((M : Int) + 1) by omega); omega
    have hpk := pick_any cut ((M : Int) + 1) HCUT.out (by omega) (by omega) wA
    rw [hn] at hpk
    have hrd := HP.out.rd
    have hre := HP.out.re
    have hrb := HP.out.rb
    rw [← hm] at hrd hre
    rw [← hM] at hrb
    have HRD : Hid _ := hrd
    have HRE : Hid _ := hre
    have HRB : Hid _ := hrb
    have HPA : Hid (Lp w1 its els Ad Cd Ae Ce Ab Cb k wA) := HP.out
    rw [← hm, ← hM]
    clear hrd hre hrb hM hm hMl hln HP hk hlt hn
    have i1 : ¬ (k : Int) < (k : Int) := by omega
    go_wp2_with fail
    refine hpk.mono ?_
    rintro e wp ⟨rfl, hwp⟩
    obtain rfl : wA = wp := hwp.symm
    clear hpk i1
    go_upto_block 2 with fail
    go_cut [15] from 88 to 101 (fun v15 wx => wA = wx ∧ ∃ k2 : Nat, k2 ≤ m ∧ v15 = .int .i64 (k2 : Int) ∧ (catI (its.take k2)).length ≤ n ∧ (k2 < m → n < (catI (its.take (k2 + 1))).length))
    case first =>
      go_wp2_with fail
      go_loopg [15] m (fun g v15 wx => wA = wx ∧ ∃ k2 : Nat, k2 ≤ m ∧ g = m - k2 ∧ v15 = .int .i64 (k2 : Int) ∧ (catI (its.take k2)).length ≤ n)
      case atStart => exact ⟨rfl, 0, Nat.zero_le _, rfl, rfl, by simp [catI]⟩
      case round =>
        obtain ⟨rfl, k2, hk2, rfl, rfl, hle⟩ := hrel
        have HLE : Hid ((catI (its.take k2)).length ≤ n) := hle
        clear hle
        by_cases hin : k2 < m
        · obtain ⟨ge, x, rfl, hgl, -, hx, hcell⟩ := int_at HRE.out k2 hin
          have hxe : x = (catI (its.take (k2 + 1))).length := by
            rw [ends_at its 0 k2 (by have := Hm.out; omega), Nat.zero_add] at hx
            exact (Option.some.inj hx).symm
          have HXE : Hid (x = (catI (its.take (k2 + 1))).length) := hxe
          have i2 : (k2 : Int) < (m : Int) := by omega
          have i3 : (0 : Int) ≤ (k2 : Int) := by omega
          clear hx hxe
          by_cases hxn : x ≤ n
          · have i4 : (x : Int) ≤ (n : Int) := by omega
            go_wp2_with fail
            go_roundg (m - (k2 + 1))
            case measure => omega
            case rel => exact ⟨rfl, k2 + 1, by omega, rfl, by go_num, by rw [← HXE.out]; exact hxn⟩
          · have i4 : ¬ (x : Int) ≤ (n : Int) := by omega
            go_wp2_with fail
            go_meet
            exact ⟨rfl, k2, hk2, rfl, HLE.out, fun _ => by rw [← HXE.out]; omega⟩
        · have i2 : ¬ (k2 : Int) < (m : Int) := by omega
          go_wp2_with fail
          go_meet
          exact ⟨rfl, k2, hk2, rfl, HLE.out, fun h => absurd h hin⟩
    case rest =>
    obtain ⟨rfl, k2, hk2, rfl, hle, hgt⟩ := hcut
    have HLE : Hid ((catI (its.take k2)).length ≤ n) := hle
    have HGT : Hid (k2 < m → n < (catI (its.take (k2 + 1))).length) := hgt
    clear hle hgt
    have hbo := Bs.of_owns HRB.out
    have hcap := bs_cap hbo
    rw [← HM.out] at hcap
    have hsl : ∀ w', (Instr.sliceAt 25 (.slice Ab M Cb) none (some (.int .i64 (n : Int))) none).run Tryd.prog w' = .ok (.slice Ab n Cb) w' := fun w' => slice_run (by omega) w'
    have hTl : ((catI its).take n).length = n := by rw [List.length_take, ← HM.out]; omega
    have hcp := copyB_any (bs_first hbo n (by rw [← HM.out]; exact hnM')) (by rw [hTl]; omega)
    rw [hTl] at hcp
    clear hbo hcap
    go_wp2_with fail
    refine hcp.mono ?_
    rintro e w5 ⟨A5, C5, rfl, ho5, hB5⟩
    have hlit : Bs (w5.alloc (.cells #[.int .u8 (jb.toNat : Int)] 5)) (.slice (some ⟨w5.heap.size, 0, none⟩) 1 1) [jb] := Bs_lit w5 [jb]
    obtain ⟨v6, w6, hr6, ho6, hg6, -, -⟩ := app_bytes 25 (ho5.alloc (.cells #[.int .u8 (jb.toNat : Int)] 5)) hlit (by have := hB5.size; simp; omega) (by rw [hTl]; simp; omega)
    obtain ⟨A6, C6, rfl⟩ := owns_form' ho6
    obtain ⟨P, hPe⟩ : ∃ P, P = n + 1 := ⟨_, rfl⟩
    have hPl : ((catI its).take n ++ [jb]).length = P := by rw [List.length_append, hTl, hPe]; rfl
    rw [hPl] at hr6 ho6
    have hB6 : Below wA.heap.size wA w6 := (hB5.alloc hB5.size (.cells #[.int .u8 (jb.toNat : Int)] 5)).grown hg6 (by have := hB5.size; simp; omega) (fun j e => (ho5.lt j e).1)
    have HB6 : Hid (Below wA.heap.size wA w6) := hB6
    have HO6 : Hid _ := ho6
    have HR6 : Hid _ := hr6
    have HPE : Hid (P = n + 1) := hPe
    have hP1 : P ≤ 30000001 := by omega
    have hnP : n < P := by omega
    obtain ⟨gt, rfl⟩ : ∃ g, A6 = some ⟨g, 0, none⟩ := by
      rcases HO6.out.2 with ⟨e, h0⟩ | ⟨g, cp0, cur, e, _⟩
      · omega
      · cases e; exact ⟨g, rfl⟩
    clear hcp hsl hTl hlit hg6 ho5 hr6 ho6 hB6 hPl hB5 hPe
    go_wp2_with (first | (at_builtin; refine wpList_run_append rfl (.tmp 105) (.tmp 107) 25 rfl rfl rfl HR6.out ?_) | fail)
    obtain ⟨bq, hbq⟩ : ∃ bq, bq = decide (n < M ∧ (catI its)[n]? = some jb) := ⟨_, rfl⟩
    have HBQ : Hid (bq = decide (n < M ∧ (catI its)[n]? = some jb)) := hbq
    clear hbq HR6
    have hgtl := World.ownsRow.lt HO6.out gt rfl
    go_cut [123] from 109 to 131 (fun v123 wx => Chg Non w6 wx ∧ v123 = .bool bq)
    case first =>
      by_cases hnM : n < M
      · have hnl : n < (catI its).length := by have := HM.out; omega
        obtain ⟨gb, rfl⟩ : ∃ g, Ab = some ⟨g, 0, none⟩ := by
          rcases HRB.out.2 with ⟨e, h0⟩ | ⟨g, cp0, cur, e, _⟩
          · omega
          · cases e; exact ⟨g, rfl⟩
        have hgbl := (World.ownsRow.lt HRB.out gb rfl).2
        have hcb : w6.cell? ⟨gb, n, none⟩ = some (.int .u8 (((catI its)[n]'hnl).toNat : Int)) := (HB6.out.cell (p := ⟨gb, n, none⟩) hgbl).trans (byte_own HRB.out n _ (List.getElem?_eq_getElem hnl))
        have hct : w6.cell? ⟨gt, n, none⟩ = some (.int .u8 (jb.toNat : Int)) := byte_own HO6.out n jb (at_end _ _ n (take_len _ n (by rw [← HM.out]; exact hnM')))
        obtain ⟨y, hy⟩ : ∃ y : UInt8, y = (catI its)[n]'hnl := ⟨_, rfl⟩
        rw [← hy] at hcb
        have HBE : Hid (bq = decide (jb = y)) := by
          show _ = _
          rw [HBQ.out, List.getElem?_eq_getElem hnl, ← hy]
          simp [hnM]
          exact eq_comm
        have i2 : (n : Int) < (M : Int) := by omega
        have i3 : (0 : Int) ≤ (n : Int) := by omega
        have i4 : (n : Int) < (P : Int) := by omega
        have i5 : n < P := by omega
        have i6 : decide ((n : Int) < (M : Int)) = true := decide_eq_true i2
        clear hy hnl
        by_cases hjy : jb = y
        · have hb : ((jb.toNat : Int) == (y.toNat : Int)) = true := by rw [hjy]; simp
          have HBE2 : Hid (bq = true) := by show _ = _; rw [HBE.out]; exact decide_eq_true hjy
          clear hjy
          go_quiet (fail)
          go_wp2_with fail
          go_meet
          exact ⟨Chg.drewN Non w6 _, by rw [HBE2.out]⟩
        · have hb : ((jb.toNat : Int) == (y.toNat : Int)) = false := by simp; intro e; exact hjy (u8_inj e)
          have HBE2 : Hid (bq = false) := by show _ = _; rw [HBE.out]; exact decide_eq_false hjy
          clear hjy
          go_quiet (fail)
          go_wp2_with fail
          go_meet
          exact ⟨Chg.drewN Non w6 _, by rw [HBE2.out]⟩
      · have i2 : ¬ (n : Int) < (M : Int) := by omega
        have i6 : decide ((n : Int) < (M : Int)) = false := decide_eq_false i2
        have HBE2 : Hid (bq = false) := by show _ = _; rw [HBQ.out]; exact decide_eq_false (fun h => hnM h.1)
        go_quiet (fail)
        go_wp2_with fail
        go_meet
        exact ⟨Chg.drewN Non w6 _, by rw [HBE2.out]⟩
    case rest =>
    obtain ⟨hc7, rfl⟩ := hcut
    have HO7 : Hid (wc.ownsRow wA.heap.size 5 1 (.slice (some ⟨gt, 0, none⟩) P C6) P (bv ((catI its).take n ++ [jb]))) := owns_keep HO6.out hc7 (fun _ _ e => e)
    have HC7 : Hid (Chg (fun i => wA.heap.size ≤ i) wA wc) := ((Chg.of_below HB6.out).weak (fun _ _ e => e.elim)).trans (hc7.weak (fun _ _ e => e.elim))
    obtain ⟨w7, hw7⟩ : ∃ x, x = wc := ⟨_, rfl⟩
    subst hw7
    clear hc7
    go_upto_if 123 with fail
    go_cut [] from 109 to 131 (fun wx => ∃ j' : UInt8, (∀ h : n < (catI its).length, j' ≠ (catI its)[n]'h) ∧ wx.ownsRow wA.heap.size 5 1 (.slice (some ⟨gt, 0, none⟩) P C6) P (bv ((catI its).take n ++ [j'])) ∧ Chg (fun i => wA.heap.size ≤ i) wA wx)
    case first =>
      cases hb : bq with
      | true =>
        have hb2 := HBQ.out
        rw [hb] at hb2
        have hd := of_decide_eq_true hb2.symm
        have HD : Hid (n < M ∧ (catI its)[n]? = some jb) := hd
        have i2 : (n : Int) < (M : Int) := by omega
        have i3 : (0 : Int) ≤ (n : Int) := by omega
        have i4 : (n : Int) < (P : Int) := by omega
        have hct : w7.cell? ⟨gt, n, none⟩ = some (.int .u8 (jb.toNat : Int)) := byte_own HO7.out n jb (at_end _ _ n (take_len _ n (by rw [← HM.out]; exact hnM')))
        have hfz : w7.frozen? ⟨gt, n, none⟩ = false := by
          rcases HO7.out.2 with ⟨e, h0⟩ | ⟨g, cp0, cur, e, _, hg, _⟩
          · cases e
          · cases e; exact frozen_at hg _
        have HS : Hid ((w7.setCell ⟨gt, n, none⟩ (.int .u8 ((jb ^^^ 255).toNat : Int))).ownsRow wA.heap.size 5 1 (.slice (some ⟨gt, 0, none⟩) P C6) P (bv ((catI its).take n ++ [jb ^^^ 255]))) := by
          have := owns_set1 HO7.out n (by omega) (.int .u8 ((jb ^^^ 255).toNat : Int))
          rw [bv_set _ _ _ n (take_len _ n (by rw [← HM.out]; exact hnM'))] at this
          exact this
        have hxo := xor255 jb
        clear hb hb2 hd
        go_wp2_with fail
        go_meet
        refine ⟨jb ^^^ 255, fun h e => ?_, HS.out, HC7.out.trans (Chg.setCell w7 ⟨gt, n, none⟩ _ hgtl.1)⟩
        have h2 := HD.out.2
        rw [List.getElem?_eq_getElem h] at h2
        exact xor255_ne jb (e.trans (Option.some.inj h2))
      | false =>
        have hb2 := HBQ.out
        rw [hb] at hb2
        have hd := of_decide_eq_false hb2.symm
        have HD : Hid (¬ (n < M ∧ (catI its)[n]? = some jb)) := hd
        clear hb hb2 hd
        go_wp2_with fail
        go_meet
        refine ⟨jb, fun h e => HD.out ⟨by rw [HM.out]; exact h, by rw [List.getElem?_eq_getElem h, ← e]⟩, HO7.out, HC7.out⟩
    case rest =>
    obtain ⟨j', hj', hO, hC⟩ := hcut
    have hok := HPA.out.ok
    have hst := scan_torn its hok HPA.out.ri n k2 (by rw [← HM.out]; exact hnM') (by rw [← Hm.out]; exact hk2) HLE.out (by rw [← Hm.out]; exact HGT.out) j' hj'
    have hTl := torn_len its n k2 (by rw [← HM.out]; exact hnM') j'
    have hsc := scan_any (Bs.of_owns hO) (by rw [hTl]; omega) (HL1.out.below (HPA.out.bel.trans ((hC.below (fun i e => e) (Nat.le_refl _)).mono HPA.out.bel.size)))
    have hTk : (its.take k2).length = k2 := by rw [List.length_take]; have := Hm.out; omega
    obtain ⟨Z, hZ⟩ : ∃ Z, Z = (catI (its.take k2)).length := ⟨_, rfl⟩
    rw [hst, hTk, ← hZ] at hsc
    have HZ : Hid (Z = (catI (its.take k2)).length) := hZ
    have HCC : Hid (Chg (fun i => wA.heap.size ≤ i) wA wc) := hC
    have HBE : Hid (Below w.heap.size w wc) := HB1.out.trans ((HPA.out.bel.trans ((hC.below (fun i e => e) (Nat.le_refl _)).mono HPA.out.bel.size)).mono HB1.out.size)
    clear hok hst hTl hTk hZ hC hO hj' HO7 HC7 HO6 HB6 HLE HGT HBQ hgtl hP1 HPE HRB hMb hnM' HCUT
    go_wp2_with fail
    refine hsc.mono ?_
    rintro e w8 ⟨els', vd, ve, rfl, hel, hrd, hre, hdv, hB8⟩
    obtain ⟨Ad', Cd', rfl⟩ := owns_form' hrd
    obtain ⟨Ae', Ce', rfl⟩ := owns_form' hre
    have hc8 : Chg (fun i => wA.heap.size ≤ i) wA w8 := HCC.out.trans ((Chg.of_below hB8).weak (fun _ _ e => e.elim))
    have HRD8 : Hid _ := owns_keep HRD.out hc8 (fun j e1 e2 => by have := (World.ownsRow.lt HRD.out j e1).2; omega)
    have HRE8 : Hid _ := owns_keep HRE.out hc8 (fun j e1 e2 => by have := (World.ownsRow.lt HRE.out j e1).2; omega)
    have HB8 : Hid (Below w.heap.size w w8) := HBE.out.trans (hB8.mono HBE.out.size)
    have HB81 : Hid (Below w1.heap.size w1 w8) := HPA.out.bel.trans ((hc8.below (fun i e => e) (Nat.le_refl _)).mono HPA.out.bel.size)
    have HEL : Hid (els'.map El2.p = its.take k2) := hel
    have HRD' : Hid _ := hrd
    have HRE' : Hid _ := hre
    have HDV' : Hid (∀ e ∈ els', DV w8 e) := hdv
    clear hsc hel hrd hre hdv hB8 hc8 HRD HRE HCC HBE
    go_upto_if 139 with fail
    go_cut [20] from 138 to 144 (fun v20 wx => w8 = wx ∧ v20 = .int .i64 (Z : Int))
    case first =>
      by_cases hk0 : k2 = 0
      · have HZ0 : Hid (Z = 0) := by show _ = _; rw [HZ.out, hk0]; simp [catI]
        have i2 : ¬ (0 : Int) < (k2 : Int) := by omega
        clear hk0
        go_wp2_with fail
        go_meet
        exact ⟨rfl, by rw [HZ0.out]; rfl⟩
      · obtain ⟨m2, hm2⟩ : ∃ m2, k2 = m2 + 1 := ⟨k2 - 1, by omega⟩
        obtain ⟨ge, x, rfl, hgl, -, hx, hcell⟩ := int_at HRE8.out m2 (by omega)
        have hxe : x = Z := by
          rw [ends_at its 0 m2 (by have := Hm.out; omega), Nat.zero_add, ← hm2, ← HZ.out] at hx
          exact (Option.some.inj hx).symm
        subst hxe
        have j1 : IntKind.i64.wrap ((k2 : Int) - 1) = (m2 : Int) := by rw [show (k2 : Int) - 1 = (m2 : Int) by omega]; exact wrap64_id (by omega) (by omega)
        have j2 : (0 : Int) < (k2 : Int) := by omega
        have j3 : (m2 : Int) < (m : Int) := by omega
        have j4 : (0 : Int) ≤ (m2 : Int) := by omega
        have j5 : m2 < m := by omega
        clear hx hm2 hk0
        go_wp2_with fail
        go_meet
        exact ⟨rfl, rfl⟩
    case rest =>
    obtain ⟨rfl, rfl⟩ := hcut
    have hcD := owns_head HRD8.out k2 hk2
    have hcI := owns_head HRE8.out k2 hk2
    have hkD : k2 ≤ Cd := by
      rcases HRD8.out.2 with ⟨e, h0⟩ | ⟨g, cp0, cur, e, _, _, hc, _⟩
      · omega
      · cases e; omega
    have hkI : k2 ≤ Ce := by
      rcases HRE8.out.2 with ⟨e, h0⟩ | ⟨g, cp0, cur, e, _, _, hc, _⟩
      · omega
      · cases e; omega
    have hsD : ∀ w', (Instr.sliceAt 22 (.slice Ad m Cd) none (some (.int .i64 (k2 : Int))) none).run Tryd.prog w' = .ok (.slice Ad k2 Cd) w' := fun w' => sliceD_run hkD w'
    have hsI : ∀ w', (Instr.sliceAt 24 (.slice Ae m Ce) none (some (.int .i64 (k2 : Int))) none).run Tryd.prog w' = .ok (.slice Ae k2 Ce) w' := fun w' => sliceI_run hkI w'
    rw [evd2_take] at hcD
    rw [Nat.mul_one, ← List.map_take] at hcI
    have hendsT : ((endsF 0 its).take k2) = endsF 0 (its.take k2) := by
      apply List.ext_getElem?
      intro i
      by_cases hi : i < k2
      · rw [List.getElem?_take_of_lt hi, ends_at its 0 i (by have := Hm.out; omega), ends_at _ 0 i (by rw [List.length_take]; have := Hm.out; omega), List.take_take, Nat.min_eq_left (by omega)]
      · rw [List.getElem?_eq_none (by rw [List.length_take]; omega), List.getElem?_eq_none (by rw [endsF_len, List.length_take]; omega)]
    rw [hendsT] at hcI
    have hsd := sameEls HRD'.out hcD (by have := congrArg List.length HEL.out; rw [List.length_map, List.length_take] at this; have := Hm.out; omega) (by rw [HEL.out, List.map_take, HPA.out.el]) HDV'.out (fun e he => (HPA.out.dv e (List.mem_of_mem_take he)).grow HB81.out) (fun e he => HPA.out.ok _ (List.mem_of_mem_take (by rw [← HEL.out]; exact List.mem_map_of_mem he))) (by omega)
    have HSI : Hid (∀ X, Below w8.heap.size w8 X → Calls Tryd.prog 12 #[.slice Ae' k2 Ce', .slice Ae k2 Ce] X fun e w' => e = .returned (.bool true) ∧ Below X.heap.size X w') := fun X hX => sameI_any (owns_keep HRE'.out (Chg.of_below hX) (fun _ _ e => e)) (owns_keep hcI (Chg.of_below hX) (fun _ _ e => e)) (by omega)
    have hzz : ((Z : Int) == (Z : Int)) = true := by simp
    clear hcD hcI hendsT
    go_wp2_with fail
    refine hsd.mono ?_
    rintro e w9 ⟨rfl, hB9⟩
    have HB9 : Hid (Below w.heap.size w w9) := HB8.out.trans (hB9.mono HB8.out.size)
    have hsi := HSI.out w9 hB9
    clear hsd hB9 HSI
    go_wp2_with fail
    refine hsi.mono ?_
    rintro e w10 ⟨rfl, hB10⟩
    have HB10 : Hid (Below w.heap.size w w10) := HB9.out.trans (hB10.mono HB9.out.size)
    clear hsi hB10
    go_wp2
    go_ret
    exact ⟨rfl, HB10.out⟩
end Go.Proofs.YtaeoafedfgbcaaaDoor.DD
