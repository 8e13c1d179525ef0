/- The walks of the document's own answer on sums and frames. -/
import Derived.Test.YtegcchakfabpiaaGreatWalksJ
namespace Go.Proofs.YtegcchakfabpiaaGreat
open Go.RowKit

theorem bit_odd (z : Nat) (hz : z < 4294967296) (h : z % 2 = 1) : bits BinOp.xor IntKind.u32 ((z : Int) / 2) 3988292384 = ((bit1 z : Nat) : Int) := by
  rw [show ((z : Int) / 2) = ((z / 2 : Nat) : Int) by omega]
  have := u32_xor_nat (z / 2) 3988292384 (by omega) (by omega)
  rw [show bit1 z = z / 2 ^^^ 3988292384 by unfold bit1; rw [h, Nat.one_mul]]
  exact this
theorem bit_even (z : Nat) (h : ¬ z % 2 = 1) : ((z : Int) / 2) = ((bit1 z : Nat) : Int) := by
  rw [show bit1 z = z / 2 by unfold bit1; rw [show z % 2 = 0 by omega, Nat.zero_mul, Nat.xor_zero]]
  omega
set_option maxRecDepth 100000 in
theorem refSum_row {w : World} {b o c : Nat} {l : List UInt8} (hcm : l.length ≤ 140737488355328) (hx : ∀ j (h : j < l.length), w.cell? ⟨b, o + j, none⟩ = some (.int .u8 ((l[j]'h).toNat : Int))) :
    Calls Tryz.prog 43 #[.slice (some ⟨b, o, none⟩) l.length c] w fun e w' => e = .returned (.int .u32 (sumOf l : Nat)) ∧ w' = w := by
  go_enter Tryz.func43, Tryz.ntmps43
  go_wp2_with fail
  go_loop [3, 4] (fun s i => ∃ (k x : Nat), i = .int .i64 k ∧ s = .int .u32 x ∧ k ≤ l.length ∧ x < 4294967296 ∧ x = crcOn 4294967295 (l.take k))
    (fun _ i => l.length - (intOf i).toNat)
  case atStart => exact ⟨0, 4294967295, rfl, rfl, by omega, by omega, rfl⟩
  case round =>
    obtain ⟨k, x, rfl, rfl, hk, hx1, hx2⟩ := hrel
    have HX : Hid (x = crcOn 4294967295 (l.take k)) := hx2
    clear hx2
    by_cases hkl : k < l.length
    · have hb := hx k hkl
      have hxb := xor_byte x (l[k]'hkl) hx1
      have hlt := xor_lt hx1 (show (l[k]'hkl).toNat < 4294967296 by have := (l[k]'hkl).toNat_lt; omega)
      generalize hy : x ^^^ (l[k]'hkl).toNat = y at hxb hlt
      have HY : Hid (x ^^^ (l[k]'hkl).toNat = y) := hy
      clear hy
      go_wp2_with fail
      go_hide hQ
      go_loop [3, 5] (fun s i => ∃ (j z : Nat), i = .int .i64 j ∧ s = .int .u32 z ∧ j ≤ 8 ∧ z < 4294967296 ∧ bitN (8 - j) z = bitN 8 y)
        (fun _ i => 8 - (intOf i).toNat)
      case atStart => exact ⟨0, y, rfl, rfl, by omega, by omega, rfl⟩
      case round =>
        obtain ⟨j, z, rfl, rfl, hj, hz1, hz2⟩ := hrel
        have HZ : Hid (bitN (8 - j) z = bitN 8 y) := hz2
        clear hz2
        by_cases hj8 : j < 8
        · have hstep : bitN (8 - (j + 1)) (bit1 z) = bitN 8 y := by
            rw [← HZ.out, show 8 - j = (8 - (j + 1)) + 1 by omega]
            rfl
          have HS : Hid (bitN (8 - (j + 1)) (bit1 z) = bitN 8 y) := hstep
          clear hstep
          by_cases hodd : z % 2 = 1
          · have ho : ((z : Int) % 2 == 1) = true := by simp; omega
            have ho2 : ((z : Int) % 2) = 1 := by omega
            go_wp2_with fail
            have hs := bit_odd z hz1 hodd
            refine ⟨⟨j + 1, bit1 z, by go_num, by rw [hs], by omega, bit1_lt hz1, HS.out⟩, by simp [intOf]; omega⟩
          · have ho : ((z : Int) % 2 == 1) = false := by simp; omega
            have ho2 : ¬ ((z : Int) % 2) = 1 := by omega
            go_wp2_with fail
            have hs := bit_even z hodd
            refine ⟨⟨j + 1, bit1 z, by go_num, by rw [hs], by omega, bit1_lt hz1, HS.out⟩, by simp [intOf]; omega⟩
        · go_wp2
          subst hQ
          go_wp2
          have h8 : z = bitN 8 y := by
            have := HZ.out
            rw [show 8 - j = 0 by omega] at this
            exact this
          refine ⟨⟨k + 1, z, by go_num, rfl, by omega, hz1, ?_⟩, by simp [intOf]; omega⟩
          rw [crcOn_take hkl, ← HX.out, h8, ← HY.out]
          rfl
    · have hsb : (4294967295 : Int) - x = ((4294967295 - x : Nat) : Int) := by omega
      go_wp2
      go_ret
      refine ⟨?_, rfl⟩
      have hkk : k = l.length := by omega
      have hs : sumOf l = 4294967295 - x := by
        unfold sumOf
        rw [HX.out, hkk, List.take_length]
      rw [hs]
      first | rfl | exact congrArg (fun z => Ending.returned (.int .u32 z)) hsb
theorem refSum_any {w : World} {x : Value} {l : List UInt8} (hx : Bs w x l) (hl : l.length ≤ 140737488355328) :
    Calls Tryz.prog 43 #[x] w fun e w' => e = .returned (.int .u32 (sumOf l : Nat)) ∧ w' = w := by
  rcases hx with ⟨rfl, rfl⟩ | ⟨ad, c, rfl, rfl⟩ | ⟨-, b, o, c, rfl, -, -, h3⟩
  · go_enter Tryz.func43, Tryz.ntmps43
    go_wp2_with fail
    refine wp_loop_rounds 1 ?_
    rw [rounds_succ]
    go_wp2
    go_ret
    exact ⟨rfl, rfl⟩
  · go_enter Tryz.func43, Tryz.ntmps43
    go_wp2_with fail
    refine wp_loop_rounds 1 ?_
    rw [rounds_succ]
    go_wp2
    go_ret
    exact ⟨rfl, rfl⟩
  · exact refSum_row hl h3
theorem four_any (w : World) (n : Nat) (hn : n < 4294967296) : Calls Tryz.prog 42 #[.int .u32 n] w fun e w' => ∃ v, e = .returned v ∧ New w w' v (four n) := by
  go_enter Tryz.func42, Tryz.ntmps42
  go_wp2
  go_ret
  refine ⟨_, rfl, ?_, (Below.refl _ _).alloc (Nat.le_refl _) _⟩
  have hbv : bv (four n) = [.int .u8 ((n : Int) % 256), .int .u8 ((n : Int) / 256 % 256), .int .u8 ((n : Int) / 65536 % 256), .int .u8 ((n : Int) / 16777216)] := by
    simp [bv, four, UInt8.toNat_ofNat']
    omega
  rw [hbv]
  exact World.ownsRow_lit (base := w.heap.size) (e := 5) (size := 1) w #[.int .u8 ((n : Int) % 256), .int .u8 ((n : Int) / 256 % 256), .int .u8 ((n : Int) / 65536 % 256), .int .u8 ((n : Int) / 16777216)] 4 (Nat.le_refl _) (by decide) rfl
set_option maxRecDepth 100000 in
theorem number_ref {w : World} {b o c : Nat} {l : List UInt8} (h4 : 4 ≤ l.length) (hcm : l.length ≤ 140737488355328) (hx : ∀ j (h : j < l.length), w.cell? ⟨b, o + j, none⟩ = some (.int .u8 ((l[j]'h).toNat : Int))) :
    Calls Tryz.prog 44 #[.slice (some ⟨b, o, none⟩) l.length c] w fun e w' => e = .returned (.int .u32 (numOf l : Nat)) ∧ ∃ n, w' = w.drewN n := by
  have c0 := hx 0 (by omega)
  have c1 := hx 1 (by omega)
  have c2 := hx 2 (by omega)
  have c3 := hx 3 (by omega)
  rw [Nat.add_zero] at c0
  have hnum : numOf l = (l[0]'(by omega)).toNat + 256 * (l[1]'(by omega)).toNat + 65536 * (l[2]'(by omega)).toNat + 16777216 * (l[3]'(by omega)).toNat := by
    unfold numOf
    simp [List.getD_eq_getElem?_getD, List.getElem?_eq_getElem (show 0 < l.length by omega), List.getElem?_eq_getElem (show 1 < l.length by omega), List.getElem?_eq_getElem (show 2 < l.length by omega), List.getElem?_eq_getElem (show 3 < l.length by omega)]
  rw [hnum]
  have b0 := (l[0]'(by omega)).toNat_lt
  have b1 := (l[1]'(by omega)).toNat_lt
  have b2 := (l[2]'(by omega)).toNat_lt
  have b3 := (l[3]'(by omega)).toNat_lt
  clear hnum hx
  generalize (l[0]'(by omega)).toNat = x0 at *
  generalize (l[1]'(by omega)).toNat = x1 at *
  generalize (l[2]'(by omega)).toNat = x2 at *
  generalize (l[3]'(by omega)).toNat = x3 at *
  have h4' : (4 : Int) ≤ l.length := by omega
  go_enter Tryz.func44, Tryz.ntmps44
  go_wp2_with fail
  go_quiet (fail)
  go_wp2
  go_ret
  refine ⟨?_, nq, rfl⟩
  have hz : (x0 : Int) + (x1 : Int) * 256 + (x2 : Int) * 65536 + (x3 : Int) * 16777216 = ((x0 + 256 * x1 + 65536 * x2 + 16777216 * x3 : Nat) : Int) := by omega
  exact congrArg (fun z => Ending.returned (.int .u32 z)) hz
theorem Bs.some' {w : World} {A : Option Addr} {n C : Nat} {l : List UInt8} (h : Bs w (.slice A n C) l) (hp : 0 < l.length) : ∃ b o, A = some ⟨b, o, none⟩ ∧ l.length ≤ C ∧ b < w.heap.size ∧ ∀ j (h : j < l.length), w.cell? ⟨b, o + j, none⟩ = some (.int .u8 ((l[j]'h).toNat : Int)) := by
  rcases h with ⟨_, rfl⟩ | ⟨_, _, _, rfl⟩ | ⟨_, b, o, c, he, h1, h2, h3⟩
  · simp at hp
  · simp at hp
  · cases he
    exact ⟨b, o, rfl, h1, h2, h3⟩
theorem refFrame_long {w : World} {A : Option Addr} {n c : Nat} (hn : 1048576 < n) :
    Calls Tryz.prog 21 #[.slice A n c] w fun e w' => e = .returned (.tuple #[.slice none 0 0, .int .i64 3]) ∧ w' = w := by
  have : (1048576 : Int) < n := by omega
  go_enter Tryz.func21, Tryz.ntmps21
  go_wp2
  go_ret2
  exact ⟨rfl, rfl⟩
theorem owns_base {w : World} {base base' n : Nat} {v : Value} {xs : List Value} (h : w.ownsRow base 5 1 v n xs) (hb : base' ≤ base) : w.ownsRow base' 5 1 v n xs := by
  refine ⟨h.1, ?_⟩
  rcases h.2 with h2 | ⟨g, cap, cur, hv, hg, h3⟩
  · exact .inl h2
  · exact .inr ⟨g, cap, cur, hv, Nat.le_trans hb hg, h3⟩
theorem owns_below {w w' : World} {base B n : Nat} {v : Value} {xs : List Value} (h : w.ownsRow base 5 1 v n xs) (hb : Below B w w') (hB : w.heap.size ≤ B) : w'.ownsRow base 5 1 v n xs := by
  refine ⟨h.1, ?_⟩
  rcases h.2 with h2 | ⟨g, cap, cur, hv, hg, h3, h4⟩
  · exact .inl h2
  · exact .inr ⟨g, cap, cur, hv, hg, by rw [hb.block g (by have := heap_lt h3; omega)]; exact h3, h4⟩
set_option maxRecDepth 100000 in
theorem refFrame_any {w : World} {x : Value} {l : List UInt8} (hx : Bs w x l) (hl : l.length ≤ 1048576) :
    Calls Tryz.prog 21 #[x] w fun e w' => ∃ v, e = .returned (.tuple #[v, .int .i64 0]) ∧ New w w' v (frameOf l) := by
  have HX : Hid (Bs w x l) := hx
  obtain ⟨A, C, rfl⟩ := bs_form hx
  have hn : ¬ ((1048576 : Int) < l.length) := by omega
  have hsl : sumOf l < 4294967296 := sumOf_lt l
  clear hx
  go_enter Tryz.func21, Tryz.ntmps21
  go_wp2_with fail
  refine (four_any w l.length (by omega)).mono ?_
  rintro e w1 ⟨v1, rfl, hn1⟩
  have hX1 := HX.out.below hn1.below (fun k hk => HX.out.lt hk)
  go_wp2_with fail
  refine (refSum_any hX1 (by omega)).mono ?_
  rintro e w2 ⟨rfl, rfl⟩
  go_wp2_with fail
  refine (four_any w2 (sumOf l) hsl).mono ?_
  rintro e w3 ⟨v3, rfl, hn3⟩
  have hB3 := hn1.below.trans (hn3.below.mono hn1.below.size)
  have ho1 := owns_below hn1.owns hn3.below (Nat.le_refl _)
  have HO1 : Hid (w3.ownsRow w.heap.size 5 1 v1 (four l.length).length (bv (four l.length))) := ho1
  have HB3 : Hid (Bs w3 v3 (four (sumOf l))) := hn3.bs
  obtain ⟨A1, C1, rfl⟩ := owns_form ho1
  obtain ⟨A3, C3, rfl⟩ := bs_form hn3.bs
  have H1at : Hid (∀ k, blk (.slice A1 (four l.length).length C1) = some k → w.heap.size ≤ k) := fun k hk => (hn1.own k hk).1
  clear ho1 hn1 hn3 hX1
  go_wp2_with (first
    | (at_builtin; refine wpList_app rfl (.tmp 11) (.tmp 14) rfl (.slice A1 (four l.length).length C1) (.slice A3 (four (sumOf l)).length C3) rfl rfl HO1.out HB3.out (by have := hB3.size; omega) (by simp [four_len]) ?_; intro A4 C4 w4 ho4 hg4 hat4 _; (have hB4 : Below w.heap.size w w4 := hB3.grown hg4 hB3.size (fun k hk => H1at.out k hk)); (have HO4 : Hid (w4.ownsRow w.heap.size 5 1 (.slice A4 ((four l.length).length + (four (sumOf l)).length) C4) ((four l.length).length + (four (sumOf l)).length) (bv (four l.length ++ four (sumOf l)))) := ho4); (have hX4 := HX.out.below hB4 (fun k hk => HX.out.lt hk)); (have HX4 : Hid (Bs w4 (.slice A l.length C) l) := hX4); clear ho4 hX4)
    | (at_builtin; refine wpList_app rfl (.tmp 16) (.tmp 17) rfl (.slice A4 ((four l.length).length + (four (sumOf l)).length) C4) (.slice A l.length C) rfl rfl HO4.out HX4.out (by have := hB4.size; omega) (by simp [four_len]; omega) ?_; intro A5 C5 w5 ho5 hg5 hat5 _))
  have hB5 : Below w.heap.size w w5 := hB4.grown hg5 hB4.size (fun k hk => (HO4.out.lt k hk).1)
  go_ret2
  exact ⟨_, rfl, by simpa [frameOf, Nat.add_assoc] using ho5, hB5⟩
end Go.Proofs.YtegcchakfabpiaaGreat
