/- The walks of the document's own answer on sums and frames. The walk of the document's own answer on what bytes begin with. -/
import Derived.Test.YtaeoafedfgbcaaaGreatDoorWalksS
import Derived.Test.YtaeoafedfgbcaaaGreatDoorWalksHa
namespace Go.Proofs.YtaeoafedfgbcaaaGreatDoor.RA
open Go.RowKit

theorem bit_odd (z : Nat) (hz : z < 4294967296) (h : z % 2 = 1) : bits BinOp.xor IntKind.u32 ((z : Int) / 2) 3988292384 = ((bit1 z : Nat) : Int) := by
  rw [show ((z : Int) / 2) = ((z / 2 : Nat) : Int) by omega]
  have := u32_xor_nat (z / 2) 3988292384 (by omega) (by omega)
  rw [show bit1 z = z / 2 ^^^ 3988292384 by unfold bit1; rw [h, Nat.one_mul]]
  exact this
theorem bit_even (z : Nat) (h : ¬ z % 2 = 1) : ((z : Int) / 2) = ((bit1 z : Nat) : Int) := by
  rw [show bit1 z = z / 2 by unfold bit1; rw [show z % 2 = 0 by omega, Nat.zero_mul, Nat.xor_zero]]
  omega
set_option maxRecDepth 100000 in
theorem refSum_row {w : World} {b o c : Nat} {l : List UInt8} (hcm : l.length ≤ 140737488355328) (hx : ∀ j (h : j < l.length), w.cell? ⟨b, o + j, none⟩ = some (.int .u8 ((l[j]'h).toNat : Int))) :
    Calls Tryz.prog 31 #[.slice (some ⟨b, o, none⟩) l.length c] w fun e w' => e = .returned (.int .u32 (sumOf l : Nat)) ∧ w' = w := by
  go_enter Tryz.func31, Tryz.ntmps31
  go_wp2_with fail
  go_loop [3, 4] (fun s i => ∃ (k x : Nat), i = .int .i64 k ∧ s = .int .u32 x ∧ k ≤ l.length ∧ x < 4294967296 ∧ x = crcOn 4294967295 (l.take k))
    (fun _ i => l.length - (intOf i).toNat)
  case atStart => exact ⟨0, 4294967295, rfl, rfl, by omega, by omega, rfl⟩
  case round =>
    obtain ⟨k, x, rfl, rfl, hk, hx1, hx2⟩ := hrel
    have HX : Hid (x = crcOn 4294967295 (l.take k)) := hx2
    clear hx2
    by_cases hkl : k < l.length
    · have hb := hx k hkl
      have hxb := xor_byte x (l[k]'hkl) hx1
      have hlt := xor_lt hx1 (show (l[k]'hkl).toNat < 4294967296 by have := (l[k]'hkl).toNat_lt; omega)
      generalize hy : x ^^^ (l[k]'hkl).toNat = y at hxb hlt
      have HY : Hid (x ^^^ (l[k]'hkl).toNat = y) := hy
      clear hy
      go_wp2_with fail
      go_hide hQ
      go_loop [3, 5] (fun s i => ∃ (j z : Nat), i = .int .i64 j ∧ s = .int .u32 z ∧ j ≤ 8 ∧ z < 4294967296 ∧ bitN (8 - j) z = bitN 8 y)
        (fun _ i => 8 - (intOf i).toNat)
      case atStart => exact ⟨0, y, rfl, rfl, by omega, by omega, rfl⟩
      case round =>
        obtain ⟨j, z, rfl, rfl, hj, hz1, hz2⟩ := hrel
        have HZ : Hid (bitN (8 - j) z = bitN 8 y) := hz2
        clear hz2
        by_cases hj8 : j < 8
        · have hstep : bitN (8 - (j + 1)) (bit1 z) = bitN 8 y := by
            rw [← HZ.out, show 8 - j = (8 - (j + 1)) + 1 by omega]
            rfl
          have HS : Hid (bitN (8 - (j + 1)) (bit1 z) = bitN 8 y) := hstep
          clear hstep
          by_cases hodd : z % 2 = 1
          · have ho : ((z : Int) % 2 == 1) = true := by simp; omega
            have ho2 : ((z : Int) % 2) = 1 := by omega
            go_wp2_with fail
            have hs := bit_odd z hz1 hodd
            refine ⟨⟨j + 1, bit1 z, by go_num, by rw [hs], by omega, bit1_lt hz1, HS.out⟩, by simp [intOf]; omega⟩
          · have ho : ((z : Int) % 2 == 1) = false := by simp; omega
            have ho2 : ¬ ((z : Int) % 2) = 1 := by omega
            go_wp2_with fail
            have hs := bit_even z hodd
            refine ⟨⟨j + 1, bit1 z, by go_num, by rw [hs], by omega, bit1_lt hz1, HS.out⟩, by simp [intOf]; omega⟩
        · go_wp2
          subst hQ
          go_wp2
          have h8 : z = bitN 8 y := by
            have := HZ.out
            rw [show 8 - j = 0 by omega] at this
            exact this
          refine ⟨⟨k + 1, z, by go_num, rfl, by omega, hz1, ?_⟩, by simp [intOf]; omega⟩
          rw [crcOn_take hkl, ← HX.out, h8, ← HY.out]
          rfl
    · have hsb : (4294967295 : Int) - x = ((4294967295 - x : Nat) : Int) := by omega
      go_wp2
      go_ret
      refine ⟨?_, rfl⟩
      have hkk : k = l.length := by omega
      have hs : sumOf l = 4294967295 - x := by
        unfold sumOf
        rw [HX.out, hkk, List.take_length]
      rw [hs]
      first | rfl | exact congrArg (fun z => Ending.returned (.int .u32 z)) hsb
theorem refSum_any {w : World} {x : Value} {l : List UInt8} (hx : Bs w x l) (hl : l.length ≤ 140737488355328) :
    Calls Tryz.prog 31 #[x] w fun e w' => e = .returned (.int .u32 (sumOf l : Nat)) ∧ w' = w := by
  rcases hx with ⟨rfl, rfl⟩ | ⟨ad, c, rfl, rfl⟩ | ⟨-, b, o, c, rfl, -, -, h3⟩
  · go_enter Tryz.func31, Tryz.ntmps31
    go_wp2_with fail
    refine wp_loop_rounds 1 ?_
    rw [rounds_succ]
    go_wp2
    go_ret
    exact ⟨rfl, rfl⟩
  · go_enter Tryz.func31, Tryz.ntmps31
    go_wp2_with fail
    refine wp_loop_rounds 1 ?_
    rw [rounds_succ]
    go_wp2
    go_ret
    exact ⟨rfl, rfl⟩
  · exact refSum_row hl h3
set_option maxRecDepth 100000 in
theorem number_ref {w : World} {b o c : Nat} {l : List UInt8} (h4 : 4 ≤ l.length) (hcm : l.length ≤ 140737488355328) (hx : ∀ j (h : j < l.length), w.cell? ⟨b, o + j, none⟩ = some (.int .u8 ((l[j]'h).toNat : Int))) :
    Calls Tryz.prog 30 #[.slice (some ⟨b, o, none⟩) l.length c] w fun e w' => e = .returned (.int .u32 (numOf l : Nat)) ∧ ∃ n, w' = w.drewN n := by
  have c0 := hx 0 (by omega)
  have c1 := hx 1 (by omega)
  have c2 := hx 2 (by omega)
  have c3 := hx 3 (by omega)
  rw [Nat.add_zero] at c0
  have hnum : numOf l = (l[0]'(by omega)).toNat + 256 * (l[1]'(by omega)).toNat + 65536 * (l[2]'(by omega)).toNat + 16777216 * (l[3]'(by omega)).toNat := by
    unfold numOf
    simp [List.getD_eq_getElem?_getD, List.getElem?_eq_getElem (show 0 < l.length by omega), List.getElem?_eq_getElem (show 1 < l.length by omega), List.getElem?_eq_getElem (show 2 < l.length by omega), List.getElem?_eq_getElem (show 3 < l.length by omega)]
  rw [hnum]
  have b0 := (l[0]'(by omega)).toNat_lt
  have b1 := (l[1]'(by omega)).toNat_lt
  have b2 := (l[2]'(by omega)).toNat_lt
  have b3 := (l[3]'(by omega)).toNat_lt
  clear hnum hx
  generalize (l[0]'(by omega)).toNat = x0 at *
  generalize (l[1]'(by omega)).toNat = x1 at *
  generalize (l[2]'(by omega)).toNat = x2 at *
  generalize (l[3]'(by omega)).toNat = x3 at *
  have h4' : (4 : Int) ≤ l.length := by omega
  go_enter Tryz.func30, Tryz.ntmps30
  go_wp2_with fail
  go_quiet (fail)
  go_wp2
  go_ret
  refine ⟨?_, nq, rfl⟩
  have hz : (x0 : Int) + (x1 : Int) * 256 + (x2 : Int) * 65536 + (x3 : Int) * 16777216 = ((x0 + 256 * x1 + 65536 * x2 + 16777216 * x3 : Nat) : Int) := by omega
  exact congrArg (fun z => Ending.returned (.int .u32 z)) hz
theorem Bs.some' {w : World} {A : Option Addr} {n C : Nat} {l : List UInt8} (h : Bs w (.slice A n C) l) (hp : 0 < l.length) : ∃ b o, A = some ⟨b, o, none⟩ ∧ l.length ≤ C ∧ b < w.heap.size ∧ ∀ j (h : j < l.length), w.cell? ⟨b, o + j, none⟩ = some (.int .u8 ((l[j]'h).toNat : Int)) := by
  rcases h with ⟨_, rfl⟩ | ⟨_, _, _, rfl⟩ | ⟨_, b, o, c, he, h1, h2, h3⟩
  · simp at hp
  · simp at hp
  · cases he
    exact ⟨b, o, rfl, h1, h2, h3⟩
theorem owns_base {w : World} {base base' n : Nat} {v : Value} {xs : List Value} (h : w.ownsRow base 5 1 v n xs) (hb : base' ≤ base) : w.ownsRow base' 5 1 v n xs := by
  refine ⟨h.1, ?_⟩
  rcases h.2 with h2 | ⟨g, cap, cur, hv, hg, h3⟩
  · exact .inl h2
  · exact .inr ⟨g, cap, cur, hv, Nat.le_trans hb hg, h3⟩
theorem owns_below {w w' : World} {base B n : Nat} {v : Value} {xs : List Value} (h : w.ownsRow base 5 1 v n xs) (hb : Below B w w') (hB : w.heap.size ≤ B) : w'.ownsRow base 5 1 v n xs := by
  refine ⟨h.1, ?_⟩
  rcases h.2 with h2 | ⟨g, cap, cur, hv, hg, h3, h4⟩
  · exact .inl h2
  · exact .inr ⟨g, cap, cur, hv, hg, by rw [hb.block g (by have := heap_lt h3; omega)]; exact h3, h4⟩
end Go.Proofs.YtaeoafedfgbcaaaGreatDoor.RA

namespace Go.Proofs.YtaeoafedfgbcaaaGreatDoor.RA
open Go.RowKit

theorem unf_no {l : List UInt8} (h : l.length < 8 ∨ 1048576 < numOf l ∨ l.length - 8 < numOf l ∨ sumOf ((l.drop 8).take (numOf l)) ≠ numOf (l.drop 4)) : unframe l = none := by
  unfold unframe; rw [if_pos h]
theorem unf_yes {l : List UInt8} (h : ¬ (l.length < 8 ∨ 1048576 < numOf l ∨ l.length - 8 < numOf l ∨ sumOf ((l.drop 8).take (numOf l)) ≠ numOf (l.drop 4))) : unframe l = some ((l.drop 8).take (numOf l)) := by
  unfold unframe; rw [if_neg h]
theorem owns_emptyN (w : World) (n : Nat) : ((w.alloc (.cells #[] 5)).drewN n).ownsRow w.heap.size 5 1 (.slice (some ⟨w.heap.size, 0, none⟩) 0 0) 0 (bv []) := owns_empty w
theorem wrap_id {n : Int} (h1 : -9223372036854775808 ≤ n) (h2 : n < 9223372036854775808) : IntKind.i64.wrap n = n := by
  rw [IntKind.wrap_i64]; omega
theorem wrap32_id {n : Int} (h1 : 0 ≤ n) (h2 : n < 4294967296) : IntKind.u32.wrap n = n := by
  rw [u32_wrap]; omega
set_option maxRecDepth 100000 in
set_option maxHeartbeats 1000000 in
theorem refUnframe_any {w : World} {x : Value} {l : List UInt8} (hx : Bs w x l) (hl : l.length ≤ 140737488355328) :
    Calls Tryz.prog 14 #[x] w fun e w' => Unf w w' e (unframe l) := by
  by_cases h8 : l.length < 8
  · rw [unf_no (.inl h8)]
    obtain ⟨A, C, rfl⟩ := bs_form hx
    have h8' : (l.length : Int) < 8 := by omega
    go_enter Tryz.func14, Tryz.ntmps14
    go_wp2
    go_ret3
    exact Unf.no (Below.refl _ _)
  · obtain ⟨A, C, rfl⟩ := bs_form hx
    obtain ⟨b, o, rfl, hLC, hb, hcl⟩ := RA.Bs.some' hx (by omega)
    have h8' : ¬ (l.length : Int) < 8 := by omega
    have HN : Hid (∀ w', (∀ j (h : j < l.length), w'.cell? ⟨b, o + j, none⟩ = some (.int .u8 ((l[j]'h).toNat : Int))) → Calls Tryz.prog 30 #[.slice (some ⟨b, o, none⟩) l.length C] w' fun e w'' => e = .returned (.int .u32 (numOf l : Nat)) ∧ ∃ n, w'' = w'.drewN n) := fun w' h => number_ref (by omega) hl h
    have HC : Hid (∀ j (h : j < l.length), w.cell? ⟨b, o + j, none⟩ = some (.int .u8 ((l[j]'h).toNat : Int))) := hcl
    clear hcl hx
    have hnl := numOf_lt l
    by_cases hm : 1048576 < numOf l
    · rw [unf_no (.inr (.inl hm))]
      generalize numOf l = n at *
      have hm' : (1048576 : Int) < n := by omega
      go_enter Tryz.func14, Tryz.ntmps14
      go_wp2_with fail
      refine (HN.out w HC.out).mono ?_
      rintro e w1 ⟨rfl, n1, rfl⟩
      go_wp2_with fail
      go_quiet (fail)
      go_wp2
      go_ret3
      exact Unf.no (below_drewN (below_drewN (Below.refl _ _) _) _)
    · by_cases hk : l.length - 8 < numOf l
      · rw [unf_no (.inr (.inr (.inl hk)))]
        generalize numOf l = n at *
        have hm' : ¬ (1048576 : Int) < n := by omega
        have hk' : decide ((l.length : Int) - 8 < n) = true := by simp; omega
        have hd1 : decide ((1048576 : Int) < n) = false := by simp; omega
        have hw1 : IntKind.i64.wrap (n : Int) = n := wrap_id (by omega) (by omega)
        have hw2 : IntKind.i64.wrap ((l.length : Int) - 8) = (l.length : Int) - 8 := wrap_id (by omega) (by omega)
        go_enter Tryz.func14, Tryz.ntmps14
        go_wp2_with fail
        refine (HN.out w HC.out).mono ?_
        rintro e w1 ⟨rfl, n1, rfl⟩
        go_wp2_with fail
        go_quiet (fail)
        go_wp2
        go_ret3
        exact Unf.no (below_drewN (below_drewN (Below.refl _ _) _) _)
      · have hm' : ¬ (1048576 : Int) < (numOf l : Nat) := by omega
        have hk' : ¬ (l.length : Int) - 8 < (numOf l : Nat) := by omega
        have h4C : Bs w (.slice (some ⟨b, o + 4, none⟩) (l.length - 4) (C - 4)) (l.drop 4) := Bs.tail HC.out hb 4 rfl (by omega)
        have number4 : ∀ (wq : World), Bs wq (.slice (some ⟨b, o + 4, none⟩) (l.length - 4) (C - 4)) (l.drop 4) → Calls Tryz.prog 30 #[.slice (some ⟨b, o + 4, none⟩) (l.length - 4) (C - 4)] wq fun e w'' => e = .returned (.int .u32 (numOf (l.drop 4) : Nat)) ∧ ∃ n, w'' = wq.drewN n := fun wq hd => by
          obtain ⟨b', o', he, _, _, h3⟩ := RA.Bs.some' hd (by rw [List.length_drop]; omega)
          have e1 : b' = b := by have := congrArg (fun x => (x.map Addr.block).getD 0) he; simpa using this.symm
          have e2 : o' = o + 4 := by have := congrArg (fun x => (x.map Addr.off).getD 0) he; simpa using this.symm
          subst e1; subst e2
          have := number_ref (c := C - 4) (by rw [List.length_drop]; omega) (by rw [List.length_drop]; omega) h3
          rw [List.length_drop] at this
          exact this
        have H4 : Hid (∀ (n1 : Nat) (w1 : World), w1 = w.drewN n1 → ∀ m, Calls Tryz.prog 30 #[.slice (some ⟨b, o + 4, none⟩) (l.length - 4) (C - 4)] (w1.drewN m) fun e w'' => e = .returned (.int .u32 (numOf (l.drop 4) : Nat)) ∧ ∃ n, w'' = (w1.drewN m).drewN n) := fun n1 w1 e m => number4 _ (by rw [e]; exact (h4C.drewN n1).drewN m)
        have hd1 : decide ((1048576 : Int) < (numOf l : Nat)) = false := by simp; omega
        have hd2 : decide ((l.length : Int) - 8 < (numOf l : Nat)) = false := by simp; omega
        have hw1 : IntKind.i64.wrap ((numOf l : Nat) : Int) = (numOf l : Nat) := wrap_id (by omega) (by omega)
        have hw2 : IntKind.i64.wrap ((l.length : Int) - 8) = (l.length : Int) - 8 := wrap_id (by omega) (by omega)
        have hw3 : IntKind.u32.wrap (8 + ((numOf l : Nat) : Int)) = 8 + ((numOf l : Nat) : Int) := wrap32_id (by omega) (by omega)
        by_cases hC8 : C = 8
        · have hn0 : numOf l = 0 := by omega
          have hheld : Bs w (.slice (some ⟨b, o, none⟩) 0 0) ((l.drop 8).take (numOf l)) := by rw [hn0]; exact Bs.none'
          have hhl : ((l.drop 8).take (numOf l)).length = numOf l := by rw [List.length_take, List.length_drop]; omega
          have HS : Hid (∀ (n1 : Nat) (w1 : World), w1 = w.drewN n1 → ∀ m, Calls Tryz.prog 31 #[.slice (some ⟨b, o, none⟩) 0 0] (w1.drewN m) fun e w'' => e = .returned (.int .u32 (sumOf ((l.drop 8).take (numOf l)) : Nat)) ∧ w'' = w1.drewN m) := fun n1 w1 e m => refSum_any (by rw [e]; exact (hheld.drewN n1).drewN m) (by rw [hhl]; omega)
          have HH : Hid (Bs w (.slice (some ⟨b, o, none⟩) 0 0) ((l.drop 8).take (numOf l))) := hheld
          have HHL : Hid (((l.drop 8).take (numOf l)).length = numOf l) := hhl
          clear number4 hheld h4C hhl
          by_cases hs : sumOf ((l.drop 8).take (numOf l)) = numOf (l.drop 4)
          · rw [unf_yes (by rintro (h | h | h | h); exact h8 h; exact hm h; exact hk h; exact h hs)]
            have hsb : (((sumOf ((l.drop 8).take (numOf l)) : Nat) : Int) != ((numOf (l.drop 4) : Nat) : Int)) = false := by rw [hs]; simp
            generalize sumOf ((l.drop 8).take (numOf l)) = S1 at *
            generalize numOf (l.drop 4) = S2 at *
            generalize (l.drop 8).take (numOf l) = held at *
            generalize numOf l = n at *
            subst hn0
            subst hC8
            have hl8 : l.length = 8 := by omega
            have HL8 : Hid (l.length = 8) := hl8
            clear hl8
            have HSS : Hid (S1 = S2) := hs
            have hz0 : IntKind.i64.wrap 0 = 0 := wrap_id (by omega) (by omega)
            have hz1 : decide ((l.length : Int) - 8 < 0) = false := by simp; omega
            have hz2 : IntKind.u32.wrap 8 = 8 := wrap32_id (by omega) (by omega)
            have hq3 : (4 : Int) ≤ (l.length : Int) := by omega
            have hq4 : (l.length : Int) ≤ 8 := by omega
            clear hs hm hk
            go_enter Tryz.func14, Tryz.ntmps14
            go_wp2_with fail
            refine (HN.out w HC.out).mono ?_
            rintro e w1 ⟨rfl, n1, hn1⟩
            have HW : Hid (w1 = w.drewN n1) := hn1
            clear hn1
            go_wp2_with fail
            go_quiet ((first | (go_at_call 31; exact Calls.quiet_of_same (HS.out n1 w1 HW.out _)) | (go_at_call 30; exact Calls.quiet_of (H4.out n1 w1 HW.out _))))
            have hB1 : Below w.heap.size w w1 := by rw [HW.out]; exact below_drewN (Below.refl _ _) _
            have hH1 : Bs w1 (.slice (some ⟨b, o, none⟩) 0 0) held := by rw [HW.out]; exact HH.out.drewN n1
            have HH1 : Hid (Bs w1 (.slice (some ⟨b, o, none⟩) 0 0) held) := hH1
            clear hH1
            go_wp2_with (at_builtin; refine wpList_app rfl (.tmp 32) (.tmp 36) rfl (.slice (some ⟨w1.heap.size, 0, none⟩) 0 0) (.slice (some ⟨b, o, none⟩) 0 0) rfl rfl (owns_emptyN w1 nq) ((HH1.out.alloc _).drewN nq) (by simp) (by have := HHL.out; simp only [List.length_nil]; omega) ?_; intro A5 C5 w5 ho5 hg5 hat5 _)
            have hB5 : Below w1.heap.size w1 w5 := (below_drewN ((Below.refl _ _).alloc (Nat.le_refl _) _) nq).grown hg5 (by simp) (fun k hk => by simp [blk, Value.ownBlock] at hk; omega)
            go_ret3
            refine ⟨.slice A5 held.length C5, w1, ?_, ⟨by simpa using ho5, hB5⟩, hB1.trans (hB5.mono hB1.size), hB1.size⟩
            rw [HHL.out]
            first | rfl | simp
          · rw [unf_no (.inr (.inr (.inr hs)))]
            have hsb : (((sumOf ((l.drop 8).take (numOf l)) : Nat) : Int) != ((numOf (l.drop 4) : Nat) : Int)) = true := by simp; omega
            generalize sumOf ((l.drop 8).take (numOf l)) = S1 at *
            generalize numOf (l.drop 4) = S2 at *
            generalize (l.drop 8).take (numOf l) = held at *
            generalize numOf l = n at *
            subst hn0
            subst hC8
            have hl8 : l.length = 8 := by omega
            have HL8 : Hid (l.length = 8) := hl8
            clear hl8
            have hz0 : IntKind.i64.wrap 0 = 0 := wrap_id (by omega) (by omega)
            have hz1 : decide ((l.length : Int) - 8 < 0) = false := by simp; omega
            have hz2 : IntKind.u32.wrap 8 = 8 := wrap32_id (by omega) (by omega)
            have hq3 : (4 : Int) ≤ (l.length : Int) := by omega
            have hq4 : (l.length : Int) ≤ 8 := by omega
            clear hs hm hk
            go_enter Tryz.func14, Tryz.ntmps14
            go_wp2_with fail
            refine (HN.out w HC.out).mono ?_
            rintro e w1 ⟨rfl, n1, hn1⟩
            have HW : Hid (w1 = w.drewN n1) := hn1
            clear hn1
            go_wp2_with fail
            go_quiet ((first | (go_at_call 31; exact Calls.quiet_of_same (HS.out n1 w1 HW.out _)) | (go_at_call 30; exact Calls.quiet_of (H4.out n1 w1 HW.out _))))
            have hB1 : Below w.heap.size w w1 := by rw [HW.out]; exact below_drewN (Below.refl _ _) _
            go_wp2
            go_ret3
            exact Unf.no (below_drewN hB1 _)
        · have hC8' : 8 < C := by omega
          have h1 := Bs.tail (m := l.length - 8) (c := C - 8) HC.out hb 8 rfl (by omega)
          have hheld : Bs w (.slice (some ⟨b, o + 8, none⟩) (numOf l) (C - 8)) ((l.drop 8).take (numOf l)) := by
            by_cases hz : 0 < (l.drop 8).length
            · obtain ⟨b', o', he, _, _, h3⟩ := RA.Bs.some' h1 hz
              have e1 : b' = b := by have := congrArg (fun x => (x.map Addr.block).getD 0) he; simpa using this.symm
              have e2 : o' = o + 8 := by have := congrArg (fun x => (x.map Addr.off).getD 0) he; simpa using this.symm
              subst e1; subst e2
              exact Bs.head h3 hb _ (by rw [List.length_drop]; omega) (by omega)
            · rw [List.length_drop] at hz
              have e0 : numOf l = 0 := by omega
              rw [e0]
              exact Bs.none'
          have hhl : ((l.drop 8).take (numOf l)).length = numOf l := by rw [List.length_take, List.length_drop]; omega
          have HS : Hid (∀ (n1 : Nat) (w1 : World), w1 = w.drewN n1 → ∀ m, Calls Tryz.prog 31 #[.slice (some ⟨b, o + 8, none⟩) (numOf l) (C - 8)] (w1.drewN m) fun e w'' => e = .returned (.int .u32 (sumOf ((l.drop 8).take (numOf l)) : Nat)) ∧ w'' = w1.drewN m) := fun n1 w1 e m => refSum_any (by rw [e]; exact (hheld.drewN n1).drewN m) (by rw [hhl]; omega)
          have HH : Hid (Bs w (.slice (some ⟨b, o + 8, none⟩) (numOf l) (C - 8)) ((l.drop 8).take (numOf l))) := hheld
          have HHL : Hid (((l.drop 8).take (numOf l)).length = numOf l) := hhl
          clear number4 h1 hheld h4C hhl
          by_cases hs : sumOf ((l.drop 8).take (numOf l)) = numOf (l.drop 4)
          · rw [unf_yes (by rintro (h | h | h | h); exact h8 h; exact hm h; exact hk h; exact h hs)]
            have hsb : (((sumOf ((l.drop 8).take (numOf l)) : Nat) : Int) != ((numOf (l.drop 4) : Nat) : Int)) = false := by rw [hs]; simp
            generalize sumOf ((l.drop 8).take (numOf l)) = S1 at *
            generalize numOf (l.drop 4) = S2 at *
            generalize (l.drop 8).take (numOf l) = held at *
            generalize numOf l = n at *
            have HSS : Hid (S1 = S2) := hs
            have hq1 : (8 : Int) ≤ 8 + (n : Int) := by omega
            have hq2 : 8 + (n : Int) ≤ (C : Int) := by omega
            have hq3 : (4 : Int) ≤ (l.length : Int) := by omega
            have hq4 : (l.length : Int) ≤ (C : Int) := by omega
            have hq5 : (0 : Int) ≤ 8 + (n : Int) := by omega
            have hq6 : (8 + (n : Int)).toNat - 8 = n := by omega
            have hq7 : (8 + (n : Int)).toNat = 8 + n := by omega
            have hq8 : 8 + n - 8 = n := by omega
            clear hs hm hk
            go_enter Tryz.func14, Tryz.ntmps14
            go_wp2_with fail
            refine (HN.out w HC.out).mono ?_
            rintro e w1 ⟨rfl, n1, hn1⟩
            have HW : Hid (w1 = w.drewN n1) := hn1
            clear hn1
            go_wp2_with fail
            go_quiet ((first | (go_at_call 31; exact Calls.quiet_of_same (HS.out n1 w1 HW.out _)) | (go_at_call 30; exact Calls.quiet_of (H4.out n1 w1 HW.out _))))
            have hB1 : Below w.heap.size w w1 := by rw [HW.out]; exact below_drewN (Below.refl _ _) _
            have hH1 : Bs w1 (.slice (some ⟨b, o + 8, none⟩) n (C - 8)) held := by rw [HW.out]; exact HH.out.drewN n1
            have HH1 : Hid (Bs w1 (.slice (some ⟨b, o + 8, none⟩) n (C - 8)) held) := hH1
            clear hH1
            go_wp2_with (at_builtin; refine wpList_app rfl (.tmp 32) (.tmp 36) rfl (.slice (some ⟨w1.heap.size, 0, none⟩) 0 0) (.slice (some ⟨b, o + 8, none⟩) n (C - 8)) rfl rfl (owns_emptyN w1 nq) ((HH1.out.alloc _).drewN nq) (by simp) (by have := HHL.out; simp only [List.length_nil]; omega) ?_; intro A5 C5 w5 ho5 hg5 hat5 _)
            have hB5 : Below w1.heap.size w1 w5 := (below_drewN ((Below.refl _ _).alloc (Nat.le_refl _) _) nq).grown hg5 (by simp) (fun k hk => by simp [blk, Value.ownBlock] at hk; omega)
            go_ret3
            refine ⟨.slice A5 held.length C5, w1, ?_, ⟨by simpa using ho5, hB5⟩, hB1.trans (hB5.mono hB1.size), hB1.size⟩
            rw [HHL.out]
            first | rfl | simp
          · rw [unf_no (.inr (.inr (.inr hs)))]
            have hsb : (((sumOf ((l.drop 8).take (numOf l)) : Nat) : Int) != ((numOf (l.drop 4) : Nat) : Int)) = true := by simp; omega
            generalize sumOf ((l.drop 8).take (numOf l)) = S1 at *
            generalize numOf (l.drop 4) = S2 at *
            generalize (l.drop 8).take (numOf l) = held at *
            generalize numOf l = n at *
            have hq1 : (8 : Int) ≤ 8 + (n : Int) := by omega
            have hq2 : 8 + (n : Int) ≤ (C : Int) := by omega
            have hq3 : (4 : Int) ≤ (l.length : Int) := by omega
            have hq4 : (l.length : Int) ≤ (C : Int) := by omega
            have hq5 : (0 : Int) ≤ 8 + (n : Int) := by omega
            have hq6 : (8 + (n : Int)).toNat - 8 = n := by omega
            have hq7 : (8 + (n : Int)).toNat = 8 + n := by omega
            have hq8 : 8 + n - 8 = n := by omega
            clear hs hm hk
            go_enter Tryz.func14, Tryz.ntmps14
            go_wp2_with fail
            refine (HN.out w HC.out).mono ?_
            rintro e w1 ⟨rfl, n1, hn1⟩
            have HW : Hid (w1 = w.drewN n1) := hn1
            clear hn1
            go_wp2_with fail
            go_quiet ((first | (go_at_call 31; exact Calls.quiet_of_same (HS.out n1 w1 HW.out _)) | (go_at_call 30; exact Calls.quiet_of (H4.out n1 w1 HW.out _))))
            have hB1 : Below w.heap.size w w1 := by rw [HW.out]; exact below_drewN (Below.refl _ _) _
            go_wp2
            go_ret3
            exact Unf.no (below_drewN hB1 _)
end Go.Proofs.YtaeoafedfgbcaaaGreatDoor.RA
