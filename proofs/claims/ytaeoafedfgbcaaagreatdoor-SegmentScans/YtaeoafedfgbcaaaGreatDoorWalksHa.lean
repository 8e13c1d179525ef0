/- The walk of the sum of a row of bytes. The walks of frames. -/
import Derived.Laws.BitsAllLaws
import Derived.Test.YtaeoafedfgbcaaaGreatDoorWalksG
namespace Go.Proofs.YtaeoafedfgbcaaaGreatDoor
open Go.RowKit

theorem u32_wrap (n : Int) : IntKind.u32.wrap n = n % 4294967296 := by simp [IntKind.wrap, IntKind.bits, IntKind.signed]
theorem xor_byte (c : Nat) (x : UInt8) (hc : c < 4294967296) : bits BinOp.xor IntKind.u32 (c : Int) ((x.toNat : Int) % 4294967296) = ((c ^^^ x.toNat : Nat) : Int) := by
  have hx := x.toNat_lt
  rw [show ((x.toNat : Int) % 4294967296) = (x.toNat : Int) by omega]
  exact u32_xor_nat c x.toNat hc (by omega)
theorem bit_step (z : Nat) (hz : z < 4294967296) : bits BinOp.xor IntKind.u32 ((z : Int) / 2) (bits BinOp.and IntKind.u32 (z : Int) 1 * 3988292384 % 4294967296) = ((bit1 z : Nat) : Int) := by
  have e1 : bits BinOp.and IntKind.u32 (z : Int) 1 = ((z % 2 : Nat) : Int) := by
    have := u32_and_nat z 1 hz (by omega)
    rw [Nat.and_one_is_mod] at this
    exact this
  have h2 := Nat.mod_lt z (show 2 > 0 by omega)
  rw [e1, show ((z : Int) / 2) = ((z / 2 : Nat) : Int) by omega, show (((z % 2 : Nat) : Int) * 3988292384 % 4294967296) = ((z % 2 * 3988292384 : Nat) : Int) by omega]
  exact u32_xor_nat _ _ (by omega) (by omega)
theorem not_u32 (x : Nat) (hx : x < 4294967296) : bits BinOp.xor IntKind.u32 IntKind.u32.max (x : Int) = ((4294967295 - x : Nat) : Int) := by
  have e : IntKind.u32.max = ((4294967295 : Nat) : Int) := by decide
  rw [e, u32_xor_nat _ _ (by omega) hx]
  have h1 := BitVec.toNat_not (x := BitVec.ofNat 32 x)
  have h2 := BitVec.allOnes_xor (x := BitVec.ofNat 32 x)
  have h3 := congrArg BitVec.toNat h2
  rw [BitVec.toNat_xor, h1] at h3
  simp only [BitVec.toNat_ofNat, BitVec.toNat_allOnes] at h3
  rw [Nat.mod_eq_of_lt (by omega)] at h3
  have e2 : (2 : Nat) ^ 32 - 1 = 4294967295 := rfl
  rw [e2] at h3
  rw [h3]
theorem crcOn_take {l : List UInt8} {k : Nat} (h : k < l.length) (c : Nat) : crcOn c (l.take (k + 1)) = crcByte (crcOn c (l.take k)) (l[k]'h) := by
  rw [List.take_succ_eq_append_getElem h, crcOn_append]; rfl

set_option maxRecDepth 100000 in
theorem sum_row {w : World} {b o c : Nat} {l : List UInt8} (hcm : l.length ≤ 140737488355328) (hx : ∀ j (h : j < l.length), w.cell? ⟨b, o + j, none⟩ = some (.int .u8 ((l[j]'h).toNat : Int))) :
    Calls Tryz.prog 48 #[.slice (some ⟨b, o, none⟩) l.length c] w fun e w' => e = .returned (.int .u32 (sumOf l : Nat)) ∧ w' = w := by
  go_enter Tryz.func48, Tryz.ntmps48
  go_wp2_with fail
  go_loop [3, 8] (fun s i => ∃ (k x : Nat), i = .int .i64 k ∧ s = .int .u32 x ∧ k ≤ l.length ∧ x < 4294967296 ∧ x = crcOn 4294967295 (l.take k))
    (fun _ i => l.length - (intOf i).toNat)
  case atStart => exact ⟨0, 4294967295, rfl, rfl, by omega, by omega, rfl⟩
  case round =>
    obtain ⟨k, x, rfl, rfl, hk, hx1, hx2⟩ := hrel
    have HX : Hid (x = crcOn 4294967295 (l.take k)) := hx2
    clear hx2
    by_cases hkl : k < l.length
    · have hb := hx k hkl
      have hxb := xor_byte x (l[k]'hkl) hx1
      have hlt := xor_lt hx1 (show (l[k]'hkl).toNat < 4294967296 by have := (l[k]'hkl).toNat_lt; omega)
      generalize hy : x ^^^ (l[k]'hkl).toNat = y at hxb hlt
      have HY : Hid (x ^^^ (l[k]'hkl).toNat = y) := hy
      clear hy
      go_wp2_with fail
      go_hide hQ
      go_loop [3, 16] (fun s i => ∃ (j z : Nat), i = .int .i64 j ∧ s = .int .u32 z ∧ j ≤ 8 ∧ z < 4294967296 ∧ bitN (8 - j) z = bitN 8 y)
        (fun _ i => 8 - (intOf i).toNat)
      case atStart => exact ⟨0, y, rfl, rfl, by omega, by omega, rfl⟩
      case round =>
        obtain ⟨j, z, rfl, rfl, hj, hz1, hz2⟩ := hrel
        have HZ : Hid (bitN (8 - j) z = bitN 8 y) := hz2
        clear hz2
        by_cases hj8 : j < 8
        · go_wp2_with fail
          have hs := bit_step z hz1
          refine ⟨⟨j + 1, bit1 z, by go_num, by rw [hs], by omega, bit1_lt hz1, ?_⟩, by simp [intOf]; omega⟩
          rw [← HZ.out, show 8 - j = (8 - (j + 1)) + 1 by omega]
          rfl
        · go_wp2
          subst hQ
          go_wp2
          have h8 : z = bitN 8 y := by
            have := HZ.out
            rw [show 8 - j = 0 by omega] at this
            exact this
          refine ⟨⟨k + 1, z, by go_num, rfl, by omega, hz1, ?_⟩, by simp [intOf]; omega⟩
          rw [crcOn_take hkl, ← HX.out, h8, ← HY.out]
          rfl
    · go_wp2
      go_ret
      refine ⟨?_, rfl⟩
      have hn := not_u32 x hx1
      have hkk : k = l.length := by omega
      have hs : sumOf l = 4294967295 - x := by
        unfold sumOf
        rw [HX.out, hkk, List.take_length]
      rw [hs]
      exact congrArg (fun z => Ending.returned (.int .u32 z)) hn
theorem sum_any {w : World} {x : Value} {l : List UInt8} (hx : Bs w x l) (hl : l.length ≤ 140737488355328) :
    Calls Tryz.prog 48 #[x] w fun e w' => e = .returned (.int .u32 (sumOf l : Nat)) ∧ w' = w := by
  rcases hx with ⟨rfl, rfl⟩ | ⟨ad, c, rfl, rfl⟩ | ⟨-, b, o, c, rfl, -, -, h3⟩
  · go_enter Tryz.func48, Tryz.ntmps48
    go_wp2_with fail
    refine wp_loop_rounds 1 ?_
    rw [rounds_succ]
    go_wp2
    go_ret
    exact ⟨rfl, rfl⟩
  · go_enter Tryz.func48, Tryz.ntmps48
    go_wp2_with fail
    refine wp_loop_rounds 1 ?_
    rw [rounds_succ]
    go_wp2
    go_ret
    exact ⟨rfl, rfl⟩
  · exact sum_row hl h3
end Go.Proofs.YtaeoafedfgbcaaaGreatDoor

namespace Go.Proofs.YtaeoafedfgbcaaaGreatDoor
open Go.RowKit

def rdWord : Rd → Nat × Rd
  | some l => if l.length < 4 then (0, none) else (numOf l, some (l.drop 4))
  | none => (0, none)
theorem or_u32 (x d k : Nat) (hk : k < 4) (hx : x < 256 ^ k) (hd : d < 256) :
    bits BinOp.or IntKind.u32 (x : Int) (((d : Int) % 4294967296 * (256 ^ k : Nat)) % 4294967296) = ((x + 256 ^ k * d : Nat) : Int) ∧ x + 256 ^ k * d < 256 ^ (k + 1) := by
  have hp : 256 ^ k * 256 ≤ 4294967296 := by
    have : ∀ j, j < 4 → 256 ^ j * 256 ≤ 4294967296 := by decide +kernel
    exact this k hk
  have h1 : 256 ^ k * d + 256 ^ k ≤ 256 ^ k * 256 := by
    rw [← Nat.mul_succ]; exact Nat.mul_le_mul_left _ (by omega)
  have e1 : (((d : Int) % 4294967296 * (256 ^ k : Nat)) % 4294967296) = ((256 ^ k * d : Nat) : Int) := by
    rw [show ((d : Int) % 4294967296) = (d : Int) by omega, Nat.mul_comm, ← Int.natCast_mul]
    exact Int.emod_eq_of_lt (by omega) (by rw [Nat.mul_comm]; omega)
  rw [e1, u32_or_nat _ _ (by omega) (by omega)]
  have hpw : (2 : Nat) ^ (8 * k) = 256 ^ k := by rw [Nat.pow_mul]
  have e3 := Nat.two_pow_add_eq_or_of_lt (i := 8 * k) (b := x) (by rw [hpw]; exact hx) d
  rw [hpw] at e3
  rw [Nat.or_comm, ← e3, Nat.add_comm]
  refine ⟨rfl, ?_⟩
  rw [Nat.pow_succ]; omega
theorem word4 (a b c d : UInt8) : bits BinOp.or IntKind.u32 (bits BinOp.or IntKind.u32 (bits BinOp.or IntKind.u32 (bits BinOp.or IntKind.u32 0 ((a.toNat : Int) % 4294967296)) ((b.toNat : Int) % 4294967296 * 256 % 4294967296)) ((c.toNat : Int) % 4294967296 * 65536 % 4294967296)) ((d.toNat : Int) % 4294967296 * 16777216 % 4294967296) = ((numOf [a, b, c, d] : Nat) : Int) := by
  have h0 := or_u32 0 a.toNat 0 (by omega) (by omega) a.toNat_lt
  have e0 : ((0 : Nat) : Int) = 0 := rfl
  rw [e0] at h0
  simp only [Nat.pow_zero, Int.natCast_one, Int.mul_one, Int.emod_emod_of_dvd _ (Int.dvd_refl _), Nat.zero_add, Nat.one_mul, Nat.pow_one] at h0
  have h1 := or_u32 a.toNat b.toNat 1 (by omega) (by rw [Nat.pow_one]; exact a.toNat_lt) b.toNat_lt
  have h2 := or_u32 _ c.toNat 2 (by omega) h1.2 c.toNat_lt
  have h3 := or_u32 _ d.toNat 3 (by omega) h2.2 d.toNat_lt
  simp only [show ((256 ^ 1 : Nat) : Int) = 256 from rfl, show ((256 ^ 2 : Nat) : Int) = 65536 from rfl, show ((256 ^ 3 : Nat) : Int) = 16777216 from rfl, show 256 ^ 1 = 256 from rfl, show 256 ^ 2 = 65536 from rfl, show 256 ^ 3 = 16777216 from rfl] at h1 h2 h3
  rw [h0.1, h1.1, h2.1, h3.1]
  rfl
set_option maxRecDepth 100000 in
theorem rWord_any {w : World} {g : Nat} {q : Option Nat} {r : Rd} (h : Rdr w g q r) :
    Calls Tryz.prog 50 #[.pointer (some ⟨g, 0, none⟩)] w fun e w' => e = .returned (.int .u32 ((rdWord r).1 : Nat)) ∧ Rdr w' g q (rdWord r).2 ∧ Chg (One g) w w' := by
  have ht := take_any h 4
  have hcase : (∃ a b c d t, r = some (a :: b :: c :: d :: t)) ∨ (rdWord r = (0, none) ∧ rdTake r 4 = ([], none)) := by
    rcases r with _ | _ | ⟨a, _ | ⟨b, _ | ⟨c, _ | ⟨d, t⟩⟩⟩⟩
    · exact .inr ⟨rfl, rfl⟩
    · exact .inr ⟨rfl, rfl⟩
    · exact .inr ⟨rfl, rfl⟩
    · exact .inr ⟨rfl, rfl⟩
    · exact .inr ⟨rfl, rfl⟩
    · exact .inl ⟨a, b, c, d, t, rfl⟩
  have HT : Hid (Calls Tryz.prog 51 #[.pointer (some ⟨g, 0, none⟩), .int .i64 (4 : Nat)] w fun e w' => ∃ v, e = .returned v ∧ Bs w' v (rdTake r 4).1 ∧ (∀ k, bk v = some k → q = some k) ∧ Rdr w' g q (rdTake r 4).2 ∧ Chg (One g) w w') := ht
  clear ht h
  rcases hcase with ⟨a, b, c, d, t, rfl⟩ | ⟨e1, e2⟩
  · have e2 : rdTake (some (a :: b :: c :: d :: t)) 4 = ([a, b, c, d], some t) := by simp [rdTake]
    have e3 : rdWord (some (a :: b :: c :: d :: t)) = (numOf [a, b, c, d], some t) := by simp [rdWord, numOf]
    rw [e2] at HT
    rw [e3]
    clear e2 e3
    go_enter Tryz.func50, Tryz.ntmps50
    go_wp2_with fail
    refine HT.out.mono ?_
    rintro e w1 ⟨v, rfl, hb, _, hr, hc⟩
    rcases hb with ⟨_, h0⟩ | ⟨_, _, _, h0⟩ | ⟨_, B, o, C, rfl, hcap, hlt, hcl⟩
    · cases h0
    · cases h0
    · have hc0 := hcl 0 (by simp)
      have hc1 := hcl 1 (by simp)
      have hc2 := hcl 2 (by simp)
      have hc3 := hcl 3 (by simp)
      simp only [Nat.add_zero, List.getElem_cons_zero, List.getElem_cons_succ] at hc0 hc1 hc2 hc3
      have hcap' : 4 ≤ C := hcap
      clear hcl HT hcap
      go_wp2_with fail
      refine wp_loop_rounds 5 ?_
      rw [rounds_succ]
      go_wp2
      rw [rounds_succ]
      go_wp2
      rw [rounds_succ]
      go_wp2
      rw [rounds_succ]
      go_wp2
      rw [rounds_succ]
      go_wp2
      go_ret
      exact ⟨congrArg (fun z => Ending.returned (.int .u32 z)) (word4 a b c d), hr, hc⟩
  · rw [e1]
    rw [e2] at HT
    go_enter Tryz.func50, Tryz.ntmps50
    go_wp2_with fail
    refine HT.out.mono ?_
    rintro e w1 ⟨v, rfl, hb, _, hr, hc⟩
    obtain ⟨A, C, rfl⟩ := bs_form hb
    go_wp2_with fail
    refine wp_loop_rounds 1 ?_
    rw [rounds_succ]
    go_wp2
    go_ret
    exact ⟨rfl, hr, hc⟩
theorem Bs.below {w w' : World} {B : Nat} {v : Value} {l : List UInt8} (h : Bs w v l) (hb : Below B w w') (hk : ∀ k, bk v = some k → k < B) : Bs w' v l := by
  rcases h with h | h | ⟨h0, b, o, c, rfl, h1, h2, h3⟩
  · exact .inl h
  · exact .inr (.inl h)
  · refine .inr (.inr ⟨h0, b, o, c, rfl, h1, Nat.lt_of_lt_of_le h2 hb.size, fun j hj => ?_⟩)
    rw [hb.cell (p := ⟨b, o + j, none⟩) (hk b (bk_pos h0))]
    exact h3 j hj
theorem Put.far {w w' : World} {base g T : Nat} {tl : List Value} {q q' : Option Nat} {l : List UInt8} (h : RowAt w base g T tl q l) (hg : base ≤ g) (hp : Put g q w w' q') : Below base w w' := by
  refine hp.chg.below ?_ ?_
  · rintro k (rfl | e)
    · exact hg
    · exact (h.qlt k e).1
  · exact Nat.le_trans hg (Nat.le_of_lt h.lt)
theorem frame_long {w : World} {A : Option Addr} {n c : Nat} (hn : 1048576 < n) :
    Calls Tryz.prog 19 #[.slice A n c] w fun e w' => e = .returned (.tuple #[.slice none 0 0, .int .i64 3]) ∧ w' = w := by
  have : (1048576 : Int) < n := by omega
  go_enter Tryz.func19, Tryz.ntmps19
  go_wp2
  go_ret2
  exact ⟨rfl, rfl⟩
set_option maxRecDepth 100000 in
theorem frame_any {w : World} {x : Value} {l : List UInt8} (hx : Bs w x l) (hl : l.length ≤ 1048576) :
    Calls Tryz.prog 19 #[x] w fun e w' => ∃ v, e = .returned (.tuple #[v, .int .i64 0]) ∧ New w w' v (frameOf l) := by
  have HX : Hid (Bs w x l) := hx
  obtain ⟨A, C, rfl⟩ := bs_form hx
  have hn : ¬ ((1048576 : Int) < l.length) := by omega
  have hsl : sumOf l < 4294967296 := sumOf_lt l
  obtain ⟨i0, hi, hz0, hz1, hz2⟩ := info_parts info5
  obtain ⟨w1, hmk, ho1, hg1⟩ := run_make_own (P := Tryz.prog) w w.heap.size 22 5 i0 (.int .u8 0) 1 Tryz.underlying22 hi hz0 hz1 .i64 .i64 (8 + l.length) (by rw [hz2]; omega) (by unfold maxLen; omega) (Nat.le_refl _)
  rw [show ((8 + l.length : Nat) : Int) = 8 + (l.length : Int) by omega] at hmk
  clear hi hz0 hz1 hz2
  have hlt1 : w.heap.size < w1.heap.size := (ho1.lt w.heap.size rfl).2
  have HG : Hid (w.grownBy w1 none) := hg1
  have HO : Hid (w1.ownsRow w.heap.size 5 1 (.slice (some ⟨w.heap.size, 0, none⟩) 0 (8 + l.length)) 0 (bv [])) := ho1
  clear hx hg1 ho1
  go_enter Tryz.func19, Tryz.ntmps19
  go_wp2_with fail
  have hr1 : RowAt (w1.alloc (.cells #[.slice (some ⟨w.heap.size, 0, none⟩) 0 (8 + l.length)] 83)) w.heap.size w1.heap.size 83 [] (some w.heap.size) [] :=
    ⟨_, heap_alloc_new w1 _, HO.out.alloc _, rfl, by simp; omega, by simp; omega⟩
  have hB1 : Below w.heap.size w (w1.alloc (.cells #[.slice (some ⟨w.heap.size, 0, none⟩) 0 (8 + l.length)] 83)) :=
    (((Below.refl _ _).grown HG.out (Nat.le_refl _) (fun k hk => by cases hk))).alloc (by omega) _
  refine (word_any hr1 l.length (by omega) (by simp)).mono ?_
  rintro e w2 ⟨rfl, q2, hr2, hp2⟩
  have hB2 := hB1.trans (hp2.far hr1 (Nat.le_of_lt hlt1))
  have hX2 := HX.out.below hB2 (fun k hk => HX.out.lt hk)
  go_wp2_with fail
  refine (sum_any hX2 (by omega)).mono ?_
  rintro e w3 ⟨rfl, rfl⟩
  go_wp2_with fail
  refine (word_any hr2 (sumOf l) hsl (by simp [four])).mono ?_
  rintro e w4 ⟨rfl, q4, hr4, hp4⟩
  have hB4 := hB2.trans (hp4.far hr2 (Nat.le_of_lt hlt1))
  have hX4 := HX.out.below hB4 (fun k hk => HX.out.lt hk)
  go_wp2_with fail
  refine (put_any hr4 hX4 (by simp [four]; omega)).mono ?_
  rintro e w5 ⟨rfl, q5, hr5, hp5⟩
  have hB5 := hB4.trans (hp5.far hr4 (Nat.le_of_lt hlt1))
  obtain ⟨v, h1, h2, -⟩ := hr5
  have hc0 := cell_at h1 0
  rw [show [v].toArray[0]? = some v from rfl] at hc0
  obtain ⟨A5, C5, rfl⟩ := owns_form h2
  have HN : Hid (New w w5 (.slice A5 ([] ++ four l.length ++ four (sumOf l) ++ l).length C5) (frameOf l)) := ⟨by simpa [frameOf] using h2, hB5⟩
  clear h1 h2 hmk
  generalize ([] ++ four l.length ++ four (sumOf l) ++ l).length = N5 at hc0 HN
  go_wp2
  go_ret2
  exact ⟨_, rfl, HN.out⟩

/- What is taken for a frame, step by step. -/
def unf (l : List UInt8) : Option (List UInt8) :=
  if 1048576 < (rdWord (some l)).1 then none
  else if (rdTake (rdWord (rdWord (some l)).2).2 (rdWord (some l)).1).2 = none ∨ sumOf (rdTake (rdWord (rdWord (some l)).2).2 (rdWord (some l)).1).1 ≠ (rdWord (rdWord (some l)).2).1 then none
  else some (rdTake (rdWord (rdWord (some l)).2).2 (rdWord (some l)).1).1
theorem unf_eq (l : List UInt8) : unf l = unframe l := by
  unfold unf unframe
  by_cases h4 : l.length < 4
  · have e1 : rdWord (some l) = (0, none) := by simp [rdWord, h4]
    rw [e1]
    rw [if_pos (show l.length < 8 ∨ _ from .inl (by omega))]
    simp [rdWord, rdTake]
  · have e1 : rdWord (some l) = (numOf l, some (l.drop 4)) := by simp [rdWord, h4]
    rw [e1]
    dsimp only
    by_cases h8 : l.length < 8
    · have e2 : rdWord (some (l.drop 4)) = (0, none) := by simp [rdWord]; omega
      rw [e2]
      rw [if_pos (show l.length < 8 ∨ _ from .inl h8)]
      simp [rdTake]
    · have e2 : rdWord (some (l.drop 4)) = (numOf (l.drop 4), some (l.drop 8)) := by
        have : ¬ (l.drop 4).length < 4 := by rw [List.length_drop]; omega
        simp only [rdWord, if_neg this, List.drop_drop]
      rw [e2]
      dsimp only
      by_cases hm : 1048576 < numOf l
      · rw [if_pos hm, if_pos (.inr (.inl hm))]
      · rw [if_neg hm]
        by_cases hl : l.length - 8 < numOf l
        · have e3 : rdTake (some (l.drop 8)) (numOf l) = ([], none) := by
            simp only [rdTake]; rw [if_pos (by rw [List.length_drop]; exact hl)]
          rw [e3, if_pos (.inl rfl), if_pos (.inr (.inr (.inl hl)))]
        · have e3 : rdTake (some (l.drop 8)) (numOf l) = ((l.drop 8).take (numOf l), some ((l.drop 8).drop (numOf l))) := by
            simp only [rdTake]; rw [if_neg (by rw [List.length_drop]; exact hl)]
          rw [e3]
          dsimp only
          by_cases hs : sumOf ((l.drop 8).take (numOf l)) ≠ numOf (l.drop 4)
          · rw [if_pos (.inr hs), if_pos (.inr (.inr (.inr hs)))]
          · rw [if_neg, if_neg]
            · rintro (h | h | h | h)
              · exact h8 h
              · exact hm h
              · exact hl h
              · exact hs h
            · rintro (h | h)
              · cases h
              · exact hs h
theorem rdWord_lt (r : Rd) : (rdWord r).1 < 4294967296 := by
  cases r with
  | none => simp [rdWord]
  | some l =>
    unfold rdWord
    dsimp only
    split
    · simp
    · exact numOf_lt l
theorem rdWord_len (r : Rd) {b : Nat} (h : (r.getD []).length ≤ b) : ((rdWord r).2.getD []).length ≤ b := by
  cases r with
  | none => simp [rdWord]
  | some l =>
    unfold rdWord
    dsimp only at h ⊢
    split
    · simp
    · simp at h ⊢; omega
/- What Unframe leaves: nothing that was there has turned; what it tells is new. -/
def Unf (w w' : World) (e : Ending) (o : Option (List UInt8)) : Prop :=
  match o with
  | none => e = .returned (.tuple #[.slice none 0 0, .int .i64 0, .int .i64 4]) ∧ Below w.heap.size w w'
  | some h => ∃ v w1, e = .returned (.tuple #[v, .int .i64 (8 + (h.length : Int)), .int .i64 0]) ∧ New w1 w' v h ∧ Below w.heap.size w w' ∧ w.heap.size ≤ w1.heap.size
theorem Unf.no {w w' : World} (h : Below w.heap.size w w') : Unf w w' (.returned (.tuple #[.slice none 0 0, .int .i64 0, .int .i64 4])) none := ⟨rfl, h⟩
theorem one_below {w w1 w' : World} (hb : Below w.heap.size w w1) (hc : Chg (One w.heap.size) w1 w') : Below w.heap.size w w' :=
  hb.trans (hc.below (fun k hk => by rw [hk]; exact Nat.le_refl _) hb.size)
set_option maxRecDepth 100000 in
theorem unframe_any {w : World} {x : Value} {l : List UInt8} (hx : Bs w x l) (hl : l.length ≤ 140737488355328) :
    Calls Tryz.prog 21 #[x] w fun e w' => Unf w w' e (unframe l) := by
  rw [← unf_eq]
  have hrd : Rdr (w.alloc (.cells #[x, .bool true] 87)) w.heap.size (bk x) (some l) := by
    refine ⟨x, heap_alloc_new w _, hx.alloc _, fun k hk => hk, fun e => ?_, hl⟩
    have := hx.lt e
    omega
  have hB1 : Below w.heap.size w (w.alloc (.cells #[x, .bool true] 87)) := (Below.refl _ _).alloc (Nat.le_refl _) _
  have HR : Hid (Rdr (w.alloc (.cells #[x, .bool true] 87)) w.heap.size (bk x) (some l)) := hrd
  have HX : Hid (Bs w x l) := hx
  have hs1 := rdWord_lt (some l)
  have hs2 := rdWord_lt (rdWord (some l)).2
  obtain ⟨A, C, rfl⟩ := bs_form hx
  unfold unf
  generalize hq1 : rdWord (some l) = p1 at hs1 hs2
  obtain ⟨s1, r1⟩ := p1
  dsimp only at hs1 hs2 ⊢
  generalize hq2 : rdWord r1 = p2 at hs2
  obtain ⟨s2, r2⟩ := p2
  dsimp only at hs2 ⊢
  generalize hq3 : rdTake r2 s1 = p3
  obtain ⟨h, r3⟩ := p3
  dsimp only
  have HW1 : Hid (rdWord (some l) = (s1, r1)) := hq1
  have HW2 : Hid (rdWord r1 = (s2, r2)) := hq2
  have HW3 : Hid (rdTake r2 s1 = (h, r3)) := hq3
  clear hq1 hq2 hq3 hx hrd
  have first : ∀ {w1 : World}, Rdr w1 w.heap.size (bk (.slice A l.length C)) (some l) → Calls Tryz.prog 50 #[.pointer (some ⟨w.heap.size, 0, none⟩)] w1 fun e w' => e = .returned (.int .u32 (s1 : Nat)) ∧ Rdr w' w.heap.size (bk (.slice A l.length C)) r1 ∧ Chg (One w.heap.size) w1 w' := fun hh => by
    have := rWord_any hh
    rw [HW1.out] at this
    exact this
  have second : ∀ {w1 : World}, Rdr w1 w.heap.size (bk (.slice A l.length C)) r1 → Calls Tryz.prog 50 #[.pointer (some ⟨w.heap.size, 0, none⟩)] w1 fun e w' => e = .returned (.int .u32 (s2 : Nat)) ∧ Rdr w' w.heap.size (bk (.slice A l.length C)) r2 ∧ Chg (One w.heap.size) w1 w' := fun hh => by
    have := rWord_any hh
    rw [HW2.out] at this
    exact this
  have third : ∀ {w1 : World}, Rdr w1 w.heap.size (bk (.slice A l.length C)) r2 → Calls Tryz.prog 51 #[.pointer (some ⟨w.heap.size, 0, none⟩), .int .i64 (s1 : Nat)] w1 fun e w' => ∃ v, e = .returned v ∧ Bs w' v h ∧ (∀ k, bk v = some k → bk (.slice A l.length C) = some k) ∧ Rdr w' w.heap.size (bk (.slice A l.length C)) r3 ∧ Chg (One w.heap.size) w1 w' := fun hh => by
    have := take_any hh s1
    rw [HW3.out] at this
    exact this
  by_cases hm : 1048576 < s1
  · rw [if_pos hm]
    have hm' : (1048576 : Int) < s1 := by omega
    go_enter Tryz.func21, Tryz.ntmps21
    go_wp2_with fail
    refine (first HR.out).mono ?_
    rintro e w1 ⟨rfl, hr1, hc1⟩
    go_wp2_with fail
    refine (second hr1).mono ?_
    rintro e w2 ⟨rfl, hr2, hc2⟩
    go_wp2
    go_ret3
    exact Unf.no (one_below hB1 (hc1.trans hc2))
  · rw [if_neg hm]
    have hm' : ¬ ((1048576 : Int) < s1) := by omega
    cases r3 with
    | none =>
      rw [if_pos (.inl rfl)]
      go_enter Tryz.func21, Tryz.ntmps21
      go_wp2_with fail
      refine (first HR.out).mono ?_
      rintro e w1 ⟨rfl, hr1, hc1⟩
      go_wp2_with fail
      refine (second hr1).mono ?_
      rintro e w2 ⟨rfl, hr2, hc2⟩
      go_wp2_with fail
      refine (third hr2).mono ?_
      rintro e w3 ⟨v3, rfl, hb3, -, hr3, hc3⟩
      obtain ⟨A3, C3, rfl⟩ := bs_form hb3
      go_wp2_with fail
      refine (good_any hr3).mono ?_
      rintro e w4 ⟨rfl, rfl⟩
      go_wp2
      go_ret3
      exact Unf.no (one_below hB1 ((hc1.trans hc2).trans hc3))
    | some t3 =>
      have hlen : h.length ≤ 140737488355328 := by
        have h1 := rdWord_len (some l) (b := 140737488355328) hl
        rw [HW1.out] at h1
        have h2 := rdWord_len r1 h1
        rw [HW2.out] at h2
        have h3 := rdTake_len r2 s1 h2
        rw [HW3.out] at h3
        exact h3
      by_cases hs : sumOf h = s2
      · rw [if_neg (by rintro (e | e); cases e; exact e hs)]
        have hs' : ((sumOf h : Nat) : Int) = s2 := by omega
        have hlt := sumOf_lt h
        have hkk : h.length ≤ 140737488355328 := hlen
        go_enter Tryz.func21, Tryz.ntmps21
        go_wp2_with fail
        refine (first HR.out).mono ?_
        rintro e w1 ⟨rfl, hr1, hc1⟩
        go_wp2_with fail
        refine (second hr1).mono ?_
        rintro e w2 ⟨rfl, hr2, hc2⟩
        go_wp2_with fail
        refine (third hr2).mono ?_
        rintro e w3 ⟨v3, rfl, hb3, -, hr3, hc3⟩
        have HB3 : Hid (Bs w3 v3 h) := hb3
        obtain ⟨A3, C3, rfl⟩ := bs_form hb3
        clear hb3
        go_wp2_with fail
        refine (good_any hr3).mono ?_
        rintro e w4 ⟨rfl, rfl⟩
        go_wp2_with fail
        refine (sum_any HB3.out hlen).mono ?_
        rintro e w5 ⟨rfl, rfl⟩
        go_wp2_with fail
        refine (clone_any HB3.out hlen).mono ?_
        rintro e w6 ⟨v6, rfl, hv6⟩
        obtain ⟨A6, C6, rfl⟩ := bs_form hv6.bs
        have hB6 := one_below hB1 ((hc1.trans hc2).trans hc3)
        go_wp2
        go_ret3
        exact ⟨_, _, rfl, hv6, hB6.trans (hv6.below.mono hB6.size), hB6.size⟩
      · rw [if_pos (.inr hs)]
        have hs' : ¬ (((sumOf h : Nat) : Int) = s2) := by omega
        go_enter Tryz.func21, Tryz.ntmps21
        go_wp2_with fail
        refine (first HR.out).mono ?_
        rintro e w1 ⟨rfl, hr1, hc1⟩
        go_wp2_with fail
        refine (second hr1).mono ?_
        rintro e w2 ⟨rfl, hr2, hc2⟩
        go_wp2_with fail
        refine (third hr2).mono ?_
        rintro e w3 ⟨v3, rfl, hb3, -, hr3, hc3⟩
        have HB3 : Hid (Bs w3 v3 h) := hb3
        obtain ⟨A3, C3, rfl⟩ := bs_form hb3
        clear hb3
        go_wp2_with fail
        refine (good_any hr3).mono ?_
        rintro e w4 ⟨rfl, rfl⟩
        go_wp2_with fail
        refine (sum_any HB3.out hlen).mono ?_
        rintro e w5 ⟨rfl, rfl⟩
        go_wp2
        go_ret3
        exact Unf.no (one_below hB1 ((hc1.trans hc2).trans hc3))
end Go.Proofs.YtaeoafedfgbcaaaGreatDoor
