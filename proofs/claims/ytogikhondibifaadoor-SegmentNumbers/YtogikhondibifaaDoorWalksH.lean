/- The walk of the sum of a row of bytes. -/
import Derived.Laws.BitsAllLaws
import Derived.Test.YtogikhondibifaaDoorWalksG
namespace Go.Proofs.YtogikhondibifaaDoor
open Go.RowKit

theorem u32_wrap (n : Int) : IntKind.u32.wrap n = n % 4294967296 := by simp [IntKind.wrap, IntKind.bits, IntKind.signed]
theorem xor_byte (c : Nat) (x : UInt8) (hc : c < 4294967296) : bits BinOp.xor IntKind.u32 (c : Int) ((x.toNat : Int) % 4294967296) = ((c ^^^ x.toNat : Nat) : Int) := by
  have hx := x.toNat_lt
  rw [show ((x.toNat : Int) % 4294967296) = (x.toNat : Int) by omega]
  exact u32_xor_nat c x.toNat hc (by omega)
theorem bit_step (z : Nat) (hz : z < 4294967296) : bits BinOp.xor IntKind.u32 ((z : Int) / 2) (bits BinOp.and IntKind.u32 (z : Int) 1 * 3988292384 % 4294967296) = ((bit1 z : Nat) : Int) := by
  have e1 : bits BinOp.and IntKind.u32 (z : Int) 1 = ((z % 2 : Nat) : Int) := by
    have := u32_and_nat z 1 hz (by omega)
    rw [Nat.and_one_is_mod] at this
    exact this
  have h2 := Nat.mod_lt z (show 2 > 0 by omega)
  rw [e1, show ((z : Int) / 2) = ((z / 2 : Nat) : Int) by omega, show (((z % 2 : Nat) : Int) * 3988292384 % 4294967296) = ((z % 2 * 3988292384 : Nat) : Int) by omega]
  exact u32_xor_nat _ _ (by omega) (by omega)
theorem not_u32 (x : Nat) (hx : x < 4294967296) : bits BinOp.xor IntKind.u32 IntKind.u32.max (x : Int) = ((4294967295 - x : Nat) : Int) := by
  have e : IntKind.u32.max = ((4294967295 : Nat) : Int) := by decide
  rw [e, u32_xor_nat _ _ (by omega) hx]
  have h1 := BitVec.toNat_not (x := BitVec.ofNat 32 x)
  have h2 := BitVec.allOnes_xor (x := BitVec.ofNat 32 x)
  have h3 := congrArg BitVec.toNat h2
  rw [BitVec.toNat_xor, h1] at h3
  simp only [BitVec.toNat_ofNat, BitVec.toNat_allOnes] at h3
  rw [Nat.mod_eq_of_lt (by omega)] at h3
  have e2 : (2 : Nat) ^ 32 - 1 = 4294967295 := rfl
  rw [e2] at h3
  rw [h3]
theorem crcOn_take {l : List UInt8} {k : Nat} (h : k < l.length) (c : Nat) : crcOn c (l.take (k + 1)) = crcByte (crcOn c (l.take k)) (l[k]'h) := by
  rw [List.take_succ_eq_append_getElem h, crcOn_append]; rfl

set_option maxRecDepth 100000 in
theorem sum_row {w : World} {b o c : Nat} {l : List UInt8} (hcm : l.length ≤ 140737488355328) (hx : ∀ j (h : j < l.length), w.cell? ⟨b, o + j, none⟩ = some (.int .u8 ((l[j]'h).toNat : Int))) :
    Calls Tryd.prog 28 #[.slice (some ⟨b, o, none⟩) l.length c] w fun e w' => e = .returned (.int .u32 (sumOf l : Nat)) ∧ w' = w := by
  go_enter Tryd.func28, Tryd.ntmps28
  go_wp2_with fail
  go_loop [3, 8] (fun s i => ∃ (k x : Nat), i = .int .i64 k ∧ s = .int .u32 x ∧ k ≤ l.length ∧ x < 4294967296 ∧ x = crcOn 4294967295 (l.take k))
    (fun _ i => l.length - (intOf i).toNat)
  case atStart => exact ⟨0, 4294967295, rfl, rfl, by omega, by omega, rfl⟩
  case round =>
    obtain ⟨k, x, rfl, rfl, hk, hx1, hx2⟩ := hrel
    have HX : Hid (x = crcOn 4294967295 (l.take k)) := hx2
    clear hx2
    by_cases hkl : k < l.length
    · have hb := hx k hkl
      have hxb := xor_byte x (l[k]'hkl) hx1
      have hlt := xor_lt hx1 (show (l[k]'hkl).toNat < 4294967296 by have := (l[k]'hkl).toNat_lt; omega)
      generalize hy : x ^^^ (l[k]'hkl).toNat = y at hxb hlt
      have HY : Hid (x ^^^ (l[k]'hkl).toNat = y) := hy
      clear hy
      go_wp2_with fail
      go_hide hQ
      go_loop [3, 16] (fun s i => ∃ (j z : Nat), i = .int .i64 j ∧ s = .int .u32 z ∧ j ≤ 8 ∧ z < 4294967296 ∧ bitN (8 - j) z = bitN 8 y)
        (fun _ i => 8 - (intOf i).toNat)
      case atStart => exact ⟨0, y, rfl, rfl, by omega, by omega, rfl⟩
      case round =>
        obtain ⟨j, z, rfl, rfl, hj, hz1, hz2⟩ := hrel
        have HZ : Hid (bitN (8 - j) z = bitN 8 y) := hz2
        clear hz2
        by_cases hj8 : j < 8
        · go_wp2_with fail
          have hs := bit_step z hz1
          refine ⟨⟨j + 1, bit1 z, by go_num, by rw [hs], by omega, bit1_lt hz1, ?_⟩, by simp [intOf]; omega⟩
          rw [← HZ.out, show 8 - j = (8 - (j + 1)) + 1 by omega]
          rfl
        · go_wp2
          subst hQ
          go_wp2
          have h8 : z = bitN 8 y := by
            have := HZ.out
            rw [show 8 - j = 0 by omega] at this
            exact this
          refine ⟨⟨k + 1, z, by go_num, rfl, by omega, hz1, ?_⟩, by simp [intOf]; omega⟩
          rw [crcOn_take hkl, ← HX.out, h8, ← HY.out]
          rfl
    · go_wp2
      go_ret
      refine ⟨?_, rfl⟩
      have hn := not_u32 x hx1
      have hkk : k = l.length := by omega
      have hs : sumOf l = 4294967295 - x := by
        unfold sumOf
        rw [HX.out, hkk, List.take_length]
      rw [hs]
      exact congrArg (fun z => Ending.returned (.int .u32 z)) hn
theorem sum_any {w : World} {x : Value} {l : List UInt8} (hx : Bs w x l) (hl : l.length ≤ 140737488355328) :
    Calls Tryd.prog 28 #[x] w fun e w' => e = .returned (.int .u32 (sumOf l : Nat)) ∧ w' = w := by
  rcases hx with ⟨rfl, rfl⟩ | ⟨ad, c, rfl, rfl⟩ | ⟨-, b, o, c, rfl, -, -, h3⟩
  · go_enter Tryd.func28, Tryd.ntmps28
    go_wp2_with fail
    refine wp_loop_rounds 1 ?_
    rw [rounds_succ]
    go_wp2
    go_ret
    exact ⟨rfl, rfl⟩
  · go_enter Tryd.func28, Tryd.ntmps28
    go_wp2_with fail
    refine wp_loop_rounds 1 ?_
    rw [rounds_succ]
    go_wp2
    go_ret
    exact ⟨rfl, rfl⟩
  · exact sum_row hl h3
end Go.Proofs.YtogikhondibifaaDoor
