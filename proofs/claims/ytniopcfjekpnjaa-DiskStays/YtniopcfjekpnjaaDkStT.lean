/- The walk of DiskStays, synced: true. -/
import Derived.Test.YtniopcfjekpnjaaDkP
namespace Go.Proofs.Ytniopcfjekpnjaa
open Go.RowKit Go.MapKept

set_option maxRecDepth 100000 in
set_option maxHeartbeats 4000000 in
theorem stays_true {w : World} {A1 A2 : Option Addr} {n1 c1 n2 c2 : Nat} {was now : List UInt8} (hx1 : Bs w (.slice A1 n1 c1) was) (hx2 : Bs w (.slice A2 n2 c2) now) (hn1 : n1 = was.length) (hn2 : n2 = now.length) (h1 : was.length ≤ 5000) (h2 : now.length ≤ 5000) (keep : Int) (hk : -9223372036854775808 ≤ keep ∧ keep < 9223372036854775808) :
    Calls Try.prog 7 #[.slice A1 n1 c1, .slice A2 n2 c2, .int .i64 keep, .bool true] w fun e w' => e = .returned (.bool true) ∧ Below w.heap.size w w' := by
  have HX1 : Hid (Bs w (.slice A1 n1 c1) was) := hx1
  have HX2 : Hid (Bs w (.slice A2 n2 c2) now) := hx2
  have HN1 : Hid (n1 = was.length) := hn1
  have HN2 : Hid (n2 = now.length) := hn2
  have HL1 : Hid (was.length ≤ 5000) := h1
  have HL2 : Hid (now.length ≤ 5000) := h2
  have HK : Hid (-9223372036854775808 ≤ keep ∧ keep < 9223372036854775808) := hk
  have t1 : ¬ (5000 : Int) < n1 := by omega
  have t2 : ¬ (5000 : Int) < n2 := by omega
  clear hx1 hx2 hn1 hn2 h1 h2 hk
  go_enter Try.func7, Try.ntmps7
  go_wp2_with fail
  refine (awake_any w).mono ?_
  rintro e w1 ⟨rfl, hB1⟩
  have HB : Hid (Below w.heap.size w w1) := hB1
  clear hB1
  go_wp2_with fail
  refine (new_dx 1048576 (by omega) w1).mono ?_
  rintro e w2 ⟨d, rfl, hd2, hB2⟩
  rw [show max (1048576 : Int) 0 = 1048576 from rfl] at hd2
  replace hd2 := hd2.fewer (T' := fun k => k < w.heap.size) (fun k hk => Nat.lt_of_lt_of_le hk HB.out.size)
  replace HB : Hid (Below w.heap.size w w2) := HB.out.trans (hB2.mono HB.out.size)
  clear hB2
  have HE1 : Hid (appE 1048576 [] [97] was = 0 ∧ appR 1048576 [] [97] was = [⟨[97], was, 0⟩]) := by
    have := HL1.out
    obtain ⟨a, b⟩ := appE_ok (room := 1048576) (F := []) (k := [97]) (l := was) (by decide) (by simp [getF, lookF]; omega) (by simp [used]; omega)
    exact ⟨a, by rw [b]; rfl⟩
  have hc := append_dx hd2 [97] (Bs.below' HX1.out HB.out) HN1.out
  rw [HE1.out.1, HE1.out.2] at hc
  go_wp2_with fail
  refine hc.mono ?_
  rintro e w3 ⟨rfl, hd3, k3⟩
  replace HB : Hid (Below w.heap.size w w3) := HB.out.trans (k3.below (fun _ h => h) HB.out.size)
  clear hc hd2 k3 HE1
  have hc := sync_dx hd3 [97]
  rw [show synE [⟨[97], was, 0⟩] [97] = 0 from rfl, show synR [⟨[97], was, 0⟩] [97] = [⟨[97], was, was.length⟩] from rfl] at hc
  go_wp2_with fail
  refine hc.mono ?_
  rintro e w4 ⟨rfl, hd4, k4⟩
  replace HB : Hid (Below w.heap.size w w4) := HB.out.trans (k4.below (fun _ h => h) HB.out.size)
  clear hc hd3 k4
  have HE2 : Hid (appE 1048576 [⟨[97], was, was.length⟩] [110, 101, 119] now = 0 ∧ appR 1048576 [⟨[97], was, was.length⟩] [110, 101, 119] now = [⟨[97], was, was.length⟩, ⟨[110, 101, 119], now, 0⟩]) := by
    have := HL1.out
    have := HL2.out
    obtain ⟨a, b⟩ := appE_ok (room := 1048576) (F := [⟨[97], was, was.length⟩]) (k := [110, 101, 119]) (l := now) (by decide) (by simp [getF, lookF]; omega) (by simp [used]; omega)
    exact ⟨a, by rw [b]; rfl⟩
  have hc := append_dx hd4 [110, 101, 119] (Bs.below' HX2.out HB.out) HN2.out
  rw [HE2.out.1, HE2.out.2] at hc
  go_wp2_with fail
  refine hc.mono ?_
  rintro e w5 ⟨rfl, hd5, k5⟩
  replace HB : Hid (Below w.heap.size w w5) := HB.out.trans (k5.below (fun _ h => h) HB.out.size)
  clear hc hd4 k5 HE2
  go_wp2_with fail
  refine (copy_dx hd5).mono ?_
  rintro e w6 ⟨d', F', rfl, hp, he6, hB6⟩
  have HB5 : Hid (Below w.heap.size w w5) := HB.out
  clear HB
  have HP : Hid (F'.Perm [⟨[97], was, was.length⟩, ⟨[110, 101, 119], now, 0⟩]) := hp
  have HB6 : Hid (Below w5.heap.size w5 w6) := hB6
  have HD5 : Hid (Dx w5 d 1048576 [⟨[97], was, was.length⟩, ⟨[110, 101, 119], now, 0⟩] (fun k => k < w.heap.size)) := hd5
  clear hp hB6 hd5
  go_wp2_with fail
  refine (crash_dx he6 keep HK.out).mono ?_
  rintro e w7 ⟨rfl, he7, k7⟩
  have HB7 : Hid (Below w5.heap.size w5 w7) := HB6.out.trans (k7.below (fun _ h => h) HB6.out.size)
  clear he6 k7 HB6
  have HG : Hid (getF [97] (F'.map (crash1 keep)) = ⟨[97], was, was.length⟩ ∧ synE (F'.map (crash1 keep)) [97] = 0) := by
    have h1 : lookF [97] (F'.map (crash1 keep)) = some ⟨[97], was, was.length⟩ := by
      rw [lookF_crash, lookF_perm HP.out (show ([[97], [110, 101, 119]] : List (List UInt8)).Nodup by decide)]
      simp only [lookF, if_true, Option.map_some]
      rw [crash_synced keep _ rfl]
    exact ⟨by rw [getF, h1]; rfl, by rw [synE, h1]; rfl⟩
  have hc := read_dx he7 [97]
  rw [HG.out.1, HG.out.2] at hc
  go_wp2_with fail
  refine hc.mono ?_
  rintro e w8 ⟨A8, C8, rfl, ho8, hB8⟩
  have HB8 : Hid (Below w5.heap.size w5 w8) := HB7.out.trans (hB8.mono HB7.out.size)
  have hb8 := Bs.of_owns ho8
  clear hc hB8 HB7 he7 HG ho8
  have HB8w : Hid (Below w.heap.size w w8) := HB5.out.trans (HB8.out.mono HB5.out.size)
  have hc := same_any hb8 (Bs.below' HX1.out HB8w.out) (by have := HL1.out; omega)
  rw [decide_eq_true rfl] at hc
  go_wp2_with fail
  refine hc.mono ?_
  rintro e w9 ⟨rfl, q9, hw9⟩
  have hB9 : Below w8.heap.size w8 w9 := by rw [hw9]; exact below_drewN (Below.refl _ _) _
  have hd9 := HD5.out.below (HB8.out.trans (hB9.mono HB8.out.size))
  have HB : Hid (Below w.heap.size w w9) := HB8w.out.trans (hB9.mono HB8w.out.size)
  clear hc hb8 hw9 HB8w HB8 hB9 HD5 HB5 HP
  have hc := sync_dx hd9 [110, 101, 119]
  rw [show synE [⟨[97], was, was.length⟩, ⟨[110, 101, 119], now, 0⟩] [110, 101, 119] = 0 from rfl, show synR [⟨[97], was, was.length⟩, ⟨[110, 101, 119], now, 0⟩] [110, 101, 119] = [⟨[97], was, was.length⟩, ⟨[110, 101, 119], now, now.length⟩] from rfl] at hc
  go_wp2_with fail
  refine hc.mono ?_
  rintro e w10 ⟨rfl, hd10, k10⟩
  replace HB : Hid (Below w.heap.size w w10) := HB.out.trans (k10.below (fun _ h => h) HB.out.size)
  clear hc hd9 k10
  obtain ⟨sy, hsy⟩ : ∃ sy, sy = now.length := ⟨_, rfl⟩
  have HSY : Hid (sy = now.length) := hsy
  have HSL : Hid (sy ≤ now.length) := by rw [hsy]; exact Nat.le_refl _
  rw [← hsy] at hd10
  clear hsy
  have hc := rename_dx hd10 [110, 101, 119] [97]
  rw [show renE [⟨[97], was, was.length⟩, ⟨[110, 101, 119], now, sy⟩] [110, 101, 119] [97] = 0 from rfl, show renR [⟨[97], was, was.length⟩, ⟨[110, 101, 119], now, sy⟩] [110, 101, 119] [97] = [⟨[97], now, sy⟩] from rfl] at hc
  go_wp2_with fail
  refine hc.mono ?_
  rintro e w11 ⟨rfl, hd11, k11⟩
  replace HB : Hid (Below w.heap.size w w11) := HB.out.trans (k11.below (fun _ h => h) HB.out.size)
  clear hc hd10 k11
  have hc := crash_dx hd11 keep HK.out
  obtain ⟨N, hN⟩ : ∃ N, N = keepN keep ⟨[97], now, sy⟩ := ⟨_, rfl⟩
  rw [show [(⟨[97], now, sy⟩ : Fi)].map (crash1 keep) = [⟨[97], now.take N, N⟩] by rw [hN]; rfl] at hc
  have HN : Hid (N = sy + min (max keep 0).toNat (now.length - sy)) := hN
  have HNL : Hid (N ≤ now.length) := by rw [hN]; exact keepN_le keep _ HSL.out
  clear hN
  go_wp2_with fail
  refine hc.mono ?_
  rintro e w12 ⟨rfl, hd12, k12⟩
  replace HB : Hid (Below w.heap.size w w12) := HB.out.trans (k12.below (fun _ h => h) HB.out.size)
  clear hc hd11 k12
  have HTL : Hid ((now.take N).length = N) := by have := HNL.out; unfold Hid; simp; omega
  have hc := read_dx hd12 [97]
  rw [show synE [⟨[97], now.take N, N⟩] [97] = 0 from rfl, show getF [97] [⟨[97], now.take N, N⟩] = ⟨[97], now.take N, N⟩ from rfl] at hc
  simp only [HTL.out] at hc
  go_wp2_with fail
  refine hc.mono ?_
  rintro e w13 ⟨A13, C13, rfl, ho13, hB13⟩
  replace HB : Hid (Below w.heap.size w w13) := HB.out.trans (hB13.mono HB.out.size)
  have HBL : Hid (∀ k, bk (.slice A13 N C13) = some k → w12.heap.size ≤ k ∧ k < w13.heap.size) := by
    intro k hk
    obtain ⟨cur, hc, hle⟩ := owns_block ho13 (bk_blk hk)
    exact ⟨hle, heap_lt hc⟩
  have HB13 : Hid (Bs w13 (.slice A13 N C13) (now.take N)) := Bs.of_owns ho13
  have hd13 := hd12.more hB13
  clear hc hd12 hB13 ho13
  have HNN : Hid (now.take N = now) := by
    have h1 := HN.out; have h2 := HSY.out
    have h3 : N = now.length := by omega
    rw [h3]; exact List.take_length
  have hc := same_any HB13.out (Bs.below' HX2.out HB.out) (by rw [HTL.out]; have := HNL.out; have := HL2.out; omega)
  rw [HNN.out, decide_eq_true rfl] at hc
  go_wp2_with fail
  refine hc.mono ?_
  rintro e w14 ⟨rfl, q14, hw14⟩
  have hB14 : Below w13.heap.size w13 w14 := by rw [hw14]; exact below_drewN (Below.refl _ _) _
  replace HB : Hid (Below w.heap.size w w14) := HB.out.trans (hB14.mono HB.out.size)
  have HB14 : Hid (Bs w14 (.slice A13 N C13) (now.take N)) := Bs.below' HB13.out hB14
  have hd14 := hd13.below hB14
  clear hc hd13 hw14 HB13 hB14
  have hc := list_dx hd14 (by simp)
  rw [show sortN ([(⟨[97], now.take N, N⟩ : Fi)].map (fun f : Fi => f.nm)) = [[97]] by simp [sortN]] at hc
  go_wp2_with fail
  refine hc.mono ?_
  rintro e w15 ⟨A15, C15, rfl, ho15, hB15⟩
  replace HB : Hid (Below w.heap.size w w15) := HB.out.trans (hB15.mono HB.out.size)
  have HB15 : Hid (Bs w15 (.slice A13 N C13) (now.take N)) := Bs.below' HB14.out hB15
  have hd15 := hd14.below hB15
  have htx := Txs.of_owns ho15
  simp only [List.length_cons, List.length_nil] at htx
  have hX15 := litT w15 [[97]] (cs := #[.string ⟨#[97]⟩]) rfl rfl
  clear hc
  have hc := texts_any (htx.keep (Chg.alloc Non w15 (.cells #[.string ⟨#[97]⟩] 9)) (fun _ _ => id)) hX15 (by decide)
  rw [show decide (([[97]] : List (List UInt8)) = [[97]]) = true by decide] at hc
  clear hd14 HB14 ho15 htx hX15 hB15
  go_wp2_with fail
  refine hc.mono ?_
  rintro e w16 ⟨rfl, q16, hw16⟩
  have hB16 : Below w15.heap.size w15 w16 := by rw [hw16]; exact below_drewN ((Below.refl _ _).alloc (Nat.le_refl _) _) _
  replace HB : Hid (Below w.heap.size w w16) := HB.out.trans (hB16.mono HB.out.size)
  have HB16 : Hid (Bs w16 (.slice A13 N C13) (now.take N)) := Bs.below' HB15.out hB16
  have hd16 := hd15.below hB16
  clear hc hd15 hw16 HB15 hB16
  have hpk := nxt_mod keep N
  obtain ⟨n, hn⟩ : ∃ n : Nat, (n : Int) = keep % ((N : Int) + 1) := ⟨(keep % ((N : Int) + 1)).toNat, by omega⟩
  have HNn : Hid (n ≤ N) := by unfold Hid; omega
  have hc := pick_any keep ((N : Int) + 1) HK.out (by have := HNL.out; have := HL2.out; omega) (by omega) w16
  rw [← hn] at hc
  have hNs : (N : Int) + 1 ≤ 5001 := by have := HNL.out; have := HL2.out; omega
  clear hpk hn
  go_wp2_with fail
  refine hc.mono ?_
  rintro e w17 ⟨rfl, rfl⟩
  clear hc
  have hc := cut_dx hd16 [97] (n : Int)
  have HC : Hid (cutE [⟨[97], now.take N, N⟩] [97] (n : Int) = 0 ∧ cutR [⟨[97], now.take N, N⟩] [97] (n : Int) = [⟨[97], (now.take N).take n, n⟩]) := by
    have h1 := HTL.out; have h2 := HNn.out
    have hno : ¬ ((n : Int) < 0 ∨ ((now.take N).length : Int) < (n : Int)) := by omega
    have hl : lookF [97] [⟨[97], now.take N, N⟩] = some ⟨[97], now.take N, N⟩ := rfl
    constructor
    · rw [cutE, getF, hl]
      simp only [Option.isSome_some, if_true, Option.getD_some]
      rw [if_neg hno]
    · rw [cutR, hl]
      simp only
      rw [if_neg hno]
      simp [putF]
  rw [HC.out.1, HC.out.2] at hc
  go_wp2_with fail
  refine hc.mono ?_
  rintro e w18 ⟨rfl, hd18, k18⟩
  have HT18 : Hid (∀ k, bk (.slice A13 N C13) = some k → k < w.heap.size ∨ (w12.heap.size ≤ k ∧ k < w13.heap.size)) := fun k hk => .inr (HBL.out k hk)
  have HB18 : Hid (Bs w18 (.slice A13 N C13) (now.take N)) := Bs.kp HB16.out k18 HT18.out
  replace HB : Hid (Below w.heap.size w w18) := HB.out.trans (k18.below (fun _ h => .inl h) HB.out.size)
  clear hc hd16 k18 HB16 HC
  have hc := crash_dx hd18 0 (by omega)
  have HTn : Hid (((now.take N).take n).length = n) := by
    have h1 := HNL.out; have h2 := HNn.out
    show ((now.take N).take n).length = n
    rw [List.length_take, List.length_take]; omega
  rw [show [(⟨[97], (now.take N).take n, n⟩ : Fi)].map (crash1 0) = [⟨[97], (now.take N).take n, n⟩] by rw [List.map_cons, crash_synced 0 _ HTn.out.symm]; rfl] at hc
  go_wp2_with fail
  refine hc.mono ?_
  rintro e w19 ⟨rfl, hd19, k19⟩
  have HB19 : Hid (Bs w19 (.slice A13 N C13) (now.take N)) := Bs.kp HB18.out k19 HT18.out
  replace HB : Hid (Below w.heap.size w w19) := HB.out.trans (k19.below (fun _ h => .inl h) HB.out.size)
  clear hc hd18 k19 HB18
  have hc := read_dx hd19 [97]
  rw [show synE [⟨[97], (now.take N).take n, n⟩] [97] = 0 from rfl, show getF [97] [⟨[97], (now.take N).take n, n⟩] = ⟨[97], (now.take N).take n, n⟩ from rfl] at hc
  simp only [HTn.out] at hc
  go_wp2_with fail
  refine hc.mono ?_
  rintro e w20 ⟨A20, C20, rfl, ho20, hB20⟩
  replace HB : Hid (Below w.heap.size w w20) := HB.out.trans (hB20.mono HB.out.size)
  have HB20 : Hid (Bs w20 (.slice A13 N C13) (now.take N)) := Bs.below' HB19.out hB20
  have hd20 := hd19.below hB20
  have hb20 := Bs.of_owns ho20
  have hq2 := bs_part HB20.out n (by rw [HTL.out]; exact HNn.out)
  have hsl2 : ∀ w, (Instr.sliceAt 28 (.slice A13 N C13) none (some (.int .i64 (n : Int))) none).run Try.prog w = .ok (.slice A13 n C13) w := fun w => slice_run hq2.1 w
  clear hc
  have hc := same_any hb20 hq2.2.2.1 (by rw [HTn.out]; have := HNn.out; omega)
  rw [decide_eq_true rfl] at hc
  clear hd19 hB20 HB19 ho20 hb20 hq2
  go_wp2_with fail
  refine hc.mono ?_
  rintro e w21 ⟨rfl, q21, hw21⟩
  have hB21 : Below w20.heap.size w20 w21 := by rw [hw21]; exact below_drewN (Below.refl _ _) _
  replace HB : Hid (Below w.heap.size w w21) := HB.out.trans (hB21.mono HB.out.size)
  have hd21 := hd20.below hB21
  clear hc hd20 hw21 hB21 HB20
  have hc := remove_dx hd21 [97]
  rw [show delF [97] [⟨[97], (now.take N).take n, n⟩] = [] from rfl] at hc
  go_wp2_with fail
  refine hc.mono ?_
  rintro e w22 ⟨rfl, hd22, k22⟩
  replace HB : Hid (Below w.heap.size w w22) := HB.out.trans (k22.below (fun _ h => .inl h) HB.out.size)
  clear hc hd21 k22
  have hc := crash_dx hd22 keep HK.out
  rw [List.map_nil] at hc
  go_wp2_with fail
  refine hc.mono ?_
  rintro e w23 ⟨rfl, hd23, k23⟩
  replace HB : Hid (Below w.heap.size w w23) := HB.out.trans (k23.below (fun _ h => .inl h) HB.out.size)
  clear hc hd22 k23
  have hc := list_dx hd23 (by simp)
  go_wp2_with fail
  refine hc.mono ?_
  rintro e w24 ⟨A24, C24, rfl, ho24, hB24⟩
  replace HB : Hid (Below w.heap.size w w24) := HB.out.trans (hB24.mono HB.out.size)
  have hd24 := hd23.below hB24
  clear hc hd23 hB24 ho24
  have hc := used_dx hd24
  go_wp2_with fail
  refine hc.mono ?_
  rintro e w25 ⟨rfl, hB25⟩
  replace HB : Hid (Below w.heap.size w w25) := HB.out.trans (hB25.mono HB.out.size)
  clear hc hd24 hB25
  go_wp2_with fail
  go_ret
  exact ⟨rfl, HB.out⟩
end Go.Proofs.Ytniopcfjekpnjaa
