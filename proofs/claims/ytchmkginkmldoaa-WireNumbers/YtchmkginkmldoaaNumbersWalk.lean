/- The walk of the statement on numbers at their ends, bytes that say none, and frames of the greatest length. -/
import Derived.Deep.RegionHeld3
import Derived.Deep.DrawnRows
import Derived.Test.YtchmkginkmldoaaReadsWalk
import Derived.Test.YtchmkginkmldoaaWritesWalk
namespace Go.Proofs.Ytchmkginkmldoaa
open Go.RowKit

def numsL : List Int := [0, -1, 1, 63, 64, -64, -65, 8191, 8192, 2147483647, -2147483648, 4611686018427387903, 4611686018427387904, 9223372036854775807, -9223372036854775808]
theorem nums_range : ∀ n ∈ numsL, -9223372036854775808 ≤ n ∧ n < 9223372036854775808 := by decide
def iv (l : List Int) : List Value := l.map fun n => .int .i64 n
theorem nums_cell (w : World) (j : Nat) (h : j < numsL.length) : (w.alloc (.cells (iv numsL).toArray 2)).cell? ⟨w.heap.size, j, none⟩ = some (.int .i64 (numsL[j]'h)) := by
  rw [box_cell]
  simp [iv, h]
theorem deed_one (w : World) (n : Int) : Deeds (w.alloc (.cells #[.int .i64 1, .int .i64 n, .slice none 0 0] 30)) (w.alloc (.cells #[.int .i64 1, .int .i64 n, .slice none 0 0] 30)).heap.size (.slice (some ⟨w.heap.size, 0, none⟩) 1 1) [⟨1, n, []⟩] := by
  refine .inr ⟨w.heap.size, 0, 1, rfl, by simp, by simp, Nat.le_refl _, fun j hj => ?_⟩
  have : j = 0 := by simpa using hj
  subst this
  refine ⟨by rw [box_cell]; rfl, by rw [box_cell]; rfl, none, 0, by rw [box_cell]; rfl, Bs.nil _, fun k hk => absurd hk (bk_zero _ _ _)⟩
theorem one_len (n : Int) (h1 : -9223372036854775808 ≤ n) (h2 : n < 9223372036854775808) : (allB (List.take 60 [(⟨1, n, []⟩ : Th)])).length ≤ 70368744177664 := by
  have := num_len n h1 h2
  simp [allB, putB, pick]
  omega
def oddL : List (List UInt8) := [[128, 0], [128], [129, 128, 0], [255, 255, 255, 255, 255, 255, 255, 255, 255, 2], [255, 255, 255, 255, 255, 255, 255, 255, 255, 129, 0], [], [4, 97], [1], [8, 97, 98, 99]]
def allocB (w : World) (l : List UInt8) : World := w.alloc (.cells (bv l).toArray 5)
theorem fold_size (L : List (List UInt8)) : ∀ w : World, (L.foldl allocB w).heap.size = w.heap.size + L.length := by
  induction L with
  | nil => intro w; rfl
  | cons l t ih => intro w; simp only [List.foldl_cons, ih, List.length_cons]; simp [allocB]; omega
theorem fold_below (L : List (List UInt8)) : ∀ (w : World) (B : Nat), B ≤ w.heap.size → Below B w (L.foldl allocB w) := by
  induction L with
  | nil => intro w B _; exact Below.refl _ _
  | cons l t ih => intro w B h; exact ((Below.refl _ _).alloc h _).trans (ih (allocB w l) B (by simp [allocB]; omega))
theorem fold_bs (L : List (List UInt8)) : ∀ (w : World) (j : Nat) (h : j < L.length), Bs (L.foldl allocB w) (.slice (some ⟨w.heap.size + j, 0, none⟩) (L[j]'h).length (L[j]'h).length) (L[j]'h) := by
  induction L with
  | nil => intro w j h; simp at h
  | cons l t ih =>
    intro w j h
    cases j with
    | zero =>
      have hb := Bs_lit w l
      exact hb.below (fold_below t (allocB w l) (allocB w l).heap.size (Nat.le_refl _)) (fun k hk => hb.lt hk)
    | succ j =>
      have := ih (allocB w l) j (by simpa using h)
      rw [show (allocB w l).heap.size = w.heap.size + 1 by simp [allocB], show w.heap.size + 1 + j = w.heap.size + (j + 1) by omega] at this
      exact this
def oddV (b : Nat) : List Value := [.slice (some ⟨b, 0, none⟩) 2 2, .slice (some ⟨b + 1, 0, none⟩) 1 1, .slice (some ⟨b + 2, 0, none⟩) 3 3, .slice (some ⟨b + 3, 0, none⟩) 10 10, .slice (some ⟨b + 4, 0, none⟩) 11 11, .slice (some ⟨b + 5, 0, none⟩) 0 0,
  .slice (some ⟨b + 6, 0, none⟩) 2 2, .slice (some ⟨b + 7, 0, none⟩) 1 1, .slice (some ⟨b + 8, 0, none⟩) 4 4]
def oddW (w : World) : World := (oddL.foldl allocB w).alloc (.cells (oddV w.heap.size).toArray 28)
theorem oddW_size (w : World) : (oddW w).heap.size = w.heap.size + 10 := by
  unfold oddW; rw [World.alloc]; simp [fold_size]; rfl
theorem oddV_at (b j : Nat) (h : j < oddL.length) : (oddV b).toArray[j]? = some (.slice (some ⟨b + j, 0, none⟩) (oddL[j]'h).length (oddL[j]'h).length) := by
  have h9 : j < 9 := h
  have hh : j = 0 ∨ j = 1 ∨ j = 2 ∨ j = 3 ∨ j = 4 ∨ j = 5 ∨ j = 6 ∨ j = 7 ∨ j = 8 := by omega
  rcases hh with rfl | rfl | rfl | rfl | rfl | rfl | rfl | rfl | rfl <;> rfl
theorem odd_at (w : World) (j : Nat) (h : j < oddL.length) : ∃ A C, (oddW w).cell? ⟨w.heap.size + 9, j, none⟩ = some (.slice A (oddL[j]'h).length C) ∧ Bs (oddW w) (.slice A (oddL[j]'h).length C) (oddL[j]'h) ∧ (∀ k, bk (.slice A (oddL[j]'h).length C) = some k → k < w.heap.size + 10) := by
  have hs := fold_size oddL w
  have hl : oddL.length = 9 := rfl
  refine ⟨some ⟨w.heap.size + j, 0, none⟩, (oddL[j]'h).length, ?_, (fold_bs oddL w j h).alloc _, fun k hk => ?_⟩
  · have := box_cell (oddL.foldl allocB w) (oddV w.heap.size).toArray 28 j
    rw [hs, hl] at this
    exact this.trans (oddV_at _ j h)
  · have := bk_blk hk
    have e : w.heap.size + j = k := by simpa [blk, Value.ownBlock] using this
    omega
theorem oddW_below (w : World) : Below w.heap.size w (oddW w) := (fold_below oddL w w.heap.size (Nat.le_refl _)).alloc (by rw [fold_size]; omega) _
theorem deed_three (w : World) (s n : Int) : Deeds (w.alloc (.cells #[.int .i64 s, .int .i64 n, .slice none 0 0, .int .i64 0, .int .i64 0, .slice none 0 0, .int .i64 1, .int .i64 0, .slice none 0 0] 30)) (w.alloc (.cells #[.int .i64 s, .int .i64 n, .slice none 0 0, .int .i64 0, .int .i64 0, .slice none 0 0, .int .i64 1, .int .i64 0, .slice none 0 0] 30)).heap.size (.slice (some ⟨w.heap.size, 0, none⟩) 3 3) [⟨s, n, []⟩, ⟨0, 0, []⟩, ⟨1, 0, []⟩] := by
  refine .inr ⟨w.heap.size, 0, 3, rfl, by simp, by simp, Nat.le_refl _, fun j hj => ?_⟩
  have hj3 : j < 3 := hj
  have hh : j = 0 ∨ j = 1 ∨ j = 2 := by omega
  rcases hh with rfl | rfl | rfl <;> exact ⟨by rw [box_cell]; rfl, by rw [box_cell]; rfl, none, 0, by rw [box_cell]; rfl, Bs.nil _, fun k hk => absurd hk (bk_zero _ _ _)⟩
theorem three_fit (s n : Int) (hs : -1 ≤ s ∧ s < 9) (hn : -1 ≤ n ∧ n < 9) : ∀ y ∈ [(⟨s, n, []⟩ : Th), ⟨0, 0, []⟩, ⟨1, 0, []⟩], (-9223372036854775808 ≤ y.sort ∧ y.sort < 9223372036854775808) ∧ (-9223372036854775808 ≤ y.n ∧ y.n < 9223372036854775808) := by
  intro y hy
  simp at hy
  rcases hy with rfl | rfl | rfl
  · exact ⟨⟨by show -9223372036854775808 ≤ s; omega, by show s < 9223372036854775808; omega⟩, by show -9223372036854775808 ≤ n; omega, by show n < 9223372036854775808; omega⟩
  · simp
  · simp
theorem odd_len' : ∀ l ∈ oddL, l.length ≤ 11 := by decide
theorem odd_len (j : Nat) (h : j < oddL.length) : (oddL[j]'h).length ≤ 11 := odd_len' _ (List.getElem_mem h)
theorem make_any (w : World) (n : Nat) (hn : n ≤ 1048577) : ∃ w1 l, (Instr.makeSlice 28 (.int .i64 (n : Int)) (.int .i64 (n : Int))).run Try.prog w = .ok (.slice (some ⟨w.heap.size, 0, none⟩) n n) w1 ∧ l = List.replicate n (0 : UInt8) ∧ l.length = n ∧ Bs w1 (.slice (some ⟨w.heap.size, 0, none⟩) n n) l ∧ Below w.heap.size w w1 := by
  obtain ⟨i0, hi, hz0, hz1, hz2⟩ := info_parts info5
  obtain ⟨w1, hr, ho, hg⟩ := run_make_full (P := Try.prog) w w.heap.size 28 5 i0 (.int .u8 0) 1 Try.underlying28 hi hz0 hz1 .i64 .i64 n (by rw [hz2]; omega) (by unfold maxLen; omega) (Nat.le_refl _)
  refine ⟨w1, List.replicate n 0, hr, rfl, by simp, ?_, (Below.refl _ _).grown hg (Nat.le_refl _) (fun k hk => by cases hk)⟩
  rw [Nat.mul_one, show (Value.int IntKind.u8 0).cells = #[.int .u8 0] from rfl, toList_madeCells_one, show List.replicate n (Value.int .u8 0) = bv (List.replicate n 0) by simp [bv]] at ho
  exact Bs.of_owns ho
theorem frame_nil : frameOf [] = [0, 0, 0, 0, 0, 0, 0, 0] := by decide +kernel
theorem unf_seven : unframe ([0, 0, 0, 0, 0, 0, 0, 0] ++ [7]) = some [] := by decide +kernel
theorem unf_over : unframe [1, 0, 16, 0, 0, 0, 0, 0, 1] = none := by decide +kernel
theorem unf_some_nil {w w' : World} {e : Ending} (h : Unf w w' e (some [])) : ∃ A C, e = .returned (.tuple #[.slice A 0 C, .int .i64 8, .int .i64 0]) ∧ Below w.heap.size w w' := by
  obtain ⟨v, w1, he, hn, hB, -⟩ := h
  obtain ⟨A, C, hv⟩ := bs_form hn.bs
  exact ⟨A, C, by rw [he, hv]; rfl, hB⟩
theorem below_drew {B : Nat} {a w : World} (h : Below B a w) : Below B a w.drew := ⟨h.os, h.tape, h.output, h.size, h.block⟩
theorem Bs.pre {w : World} {A : Option Addr} {n C : Nat} {l : List UInt8} (h : Bs w (.slice A n C) l) (k : Nat) (hk : k ≤ l.length) (hp : 0 < l.length) : ∃ b o, A = some ⟨b, o, none⟩ ∧ l.length ≤ C ∧ Bs w (.slice (some ⟨b, o, none⟩) k C) (l.take k) := by
  rcases h with ⟨_, rfl⟩ | ⟨_, _, _, rfl⟩ | ⟨_, b, o, c, he, h1, h2, h3⟩
  · simp at hp
  · simp at hp
  · cases he
    exact ⟨b, o, rfl, h1, Bs.head h3 h2 k hk (by omega)⟩
theorem good_no {w : World} {g : Nat} {q : Option Nat} (h : Rdr w g q none) :
    Calls Try.prog 27 #[.pointer (some ⟨g, 0, none⟩)] w fun e w' => e = .returned (.bool false) ∧ w' = w := good_any h
theorem whole_yes {w : World} {g : Nat} {q : Option Nat} (h : Rdr w g q (some [])) :
    Calls Try.prog 29 #[.pointer (some ⟨g, 0, none⟩)] w fun e w' => e = .returned (.bool true) ∧ w' = w := by
  have := whole_any h
  rwa [decide_eq_true rfl] at this
set_option maxRecDepth 100000 in
set_option maxHeartbeats 8000000 in
theorem numbers_any (w : World) : Calls Try.prog 5 #[] w fun e w' => e = .returned (.bool true) ∧ Below w.heap.size w w' := by
  go_enter Try.func5, Try.ntmps5
  go_wp2_with fail
  go_loopw [2, 3, 4, 5, 6, 7] (fun i _ _ _ _ _ wr => ∃ j : Nat, i = .int .i64 j ∧ j ≤ 15 ∧ Below (w.heap.size + 1) (w.alloc (.cells (iv numsL).toArray 2)) wr) (fun i _ _ _ _ _ _ => 15 - (intOf i).toNat)
  case atStart => exact ⟨0, rfl, by omega, Below.refl _ _⟩
  case round =>
    obtain ⟨j, rfl, hj, hB⟩ := hrel
    obtain ⟨wA, hwA⟩ : ∃ x, x = wr := ⟨wr, rfl⟩
    subst hwA
    have HB : Hid (Below (w.heap.size + 1) (w.alloc (.cells (iv numsL).toArray 2)) wA) := hB
    clear hB
    by_cases hlt : j < 15
    · have hlt' : j < numsL.length := hlt
      have c1 : wA.cell? ⟨w.heap.size, j, none⟩ = some (.int .i64 (numsL[j]'hlt')) := (HB.out.cell (p := ⟨w.heap.size, j, none⟩) (by simp)).trans (nums_cell w j hlt')
      obtain ⟨f1, f2⟩ := nums_range _ (List.getElem_mem hlt')
      generalize (numsL[j]'hlt') = n at *
      have hsz : w.heap.size < wA.heap.size := by have := HB.out.size; simp at this; omega
      have hnl := num_len n f1 f2
      go_wp2_with fail
      refine (newWriter_any wA wA.heap.size (Nat.le_refl _)).mono ?_
      rintro e w1 ⟨rfl, hw1, hB1, hs1⟩
      have c2 : w1.cell? ⟨w.heap.size, j, none⟩ = some (.int .i64 n) := (hB1.cell (p := ⟨w.heap.size, j, none⟩) hsz).trans c1
      have h2 := wInt_any hw1 n f1 f2 (by simp; omega)
      rw [List.nil_append] at h2
      go_wp2_with fail
      refine h2.mono ?_
      rintro e w2 ⟨rfl, q2, hw2, hp2⟩
      have hB2 := hB1.trans (hp2.far hw1 (Nat.le_refl _))
      clear h2
      go_wp2_with fail
      refine (wDone_any hw2 (by omega)).mono ?_
      rintro e w3 ⟨v3, rfl, hn3⟩
      have hB3 := hB2.trans (hn3.below.mono hB2.size)
      have HV3 : Hid (Bs w3 v3 (numB n)) := hn3.bs
      obtain ⟨A3, C3, rfl⟩ := bs_form hn3.bs
      clear hn3 hw2 hp2 hw1
      go_wp2_with fail
      refine (newReader_any HV3.out (by omega)).mono ?_
      rintro e w4 ⟨g4, q4, rfl, hr4, hB4, hg4, hq4⟩
      have hB4' := hB3.trans (hB4.mono hB3.size)
      have hri := rdInt_num n f1 f2 []
      rw [List.append_nil] at hri
      have h5 := rInt_any (hr4.keep (Chg.drew Non w4) id (fun _ _ => id))
      rw [hri] at h5
      have H5 : Hid (Calls Try.prog 19 #[.pointer (some ⟨g4, 0, none⟩)] w4.drew fun e w' => e = .returned (.int .i64 n) ∧ Rdr w' g4 q4 (some []) ∧ Chg (One g4) w4.drew w') := h5
      have c4 : w4.cell? ⟨w.heap.size, j, none⟩ = some (.int .i64 n) := (hB4'.cell (p := ⟨w.heap.size, j, none⟩) hsz).trans c1
      have HK : Hid (∀ w', Chg (One g4) w4.drew w' → w'.cell? ⟨w.heap.size, j, none⟩ = some (.int .i64 n)) := fun w' hc => (hc.cell (a := ⟨w.heap.size, j, none⟩) (by show w.heap.size < w4.heap.size; have := hB4'.size; omega) (fun e => by have : w.heap.size = g4 := e; have := hB3.size; omega)).trans c4
      have HS : Hid (w.heap.size < w4.heap.size) := by show w.heap.size < w4.heap.size; have := hB4'.size; omega
      have HFIT : Hid (Fit [(⟨1, n, []⟩ : Th)]) := by
        intro y hy
        simp at hy
        subst hy
        exact ⟨⟨by simp, by simp⟩, f1, f2, by simp⟩
      have HLN : Hid ((allB (List.take 60 [(⟨1, n, []⟩ : Th)])).length ≤ 70368744177664) := one_len n f1 f2
      clear h5 hri hr4
      go_wp2_with fail
      go_region_held3 (fun w' => w'.cell? ⟨w.heap.size, j, none⟩ = some (.int .i64 n)) (first | exact HK.out _ hc5 | (rw [hB7.cell (p := ⟨w.heap.size, j, none⟩) (by have := HS.out; have := hc5.size; simp at this; simp; omega)]; go_keep) | go_keep)
        ((first | (go_at_call 19; refine H5.out.mono ?_; rintro e w5 ⟨rfl, hr5, hc5⟩) | (go_at_call 29; refine (whole_yes hr5).mono ?_; rintro e w6 ⟨rfl, rfl⟩) | (go_at_call 3; refine (writes_any (deed_one _ n) (by simp) HFIT.out HLN.out).mono ?_; rintro e w7 ⟨rfl, hB7⟩)))
      have hB5 : Below w3.heap.size w3 w6 := (below_drew hB4).trans (hc5.below (fun k e => by have : k = g4 := e; omega) hB4.size)
      have hB37 : Below w3.heap.size w3 w7 := (hB5.alloc hB5.size _).trans (hB7.mono (by have := hB5.size; simp; omega))
      have HV7 : Hid (Bs w7 (.slice A3 (numB n).length C3) (numB n)) := HV3.out.below hB37 (fun k hk => HV3.out.lt hk)
      have HB7 : Hid (Below wA.heap.size wA w7) := hB3.trans (hB37.mono hB3.size)
      have hpos : 0 < (numB n).length := digs_pos (zz n)
      clear hB5 hB37 hB7 hc5 hr5 H5 HK HFIT HLN hB4 hB4' hB3 hB2 hB1 hq4 hg4 HV3 c4 c2
      go_wp2_with fail
      go_loopw [6, 7] (fun k _ wr => ∃ kk : Nat, k = .int .i64 kk ∧ kk ≤ (numB n).length ∧ Below w7.heap.size w7 wr) (fun k _ _ => (numB n).length - (intOf k).toNat)
      case atStart => exact ⟨0, rfl, by omega, Below.refl _ _⟩
      case round =>
        obtain ⟨kk, rfl, hkk, hBk⟩ := hrel
        have HBK : Hid (Below w7.heap.size w7 wr) := hBk
        clear hBk
        by_cases hlk : kk < (numB n).length
        · obtain ⟨b0, o0, rfl, hC0, hpre⟩ := (HV7.out.below HBK.out (fun k hk => HV7.out.lt hk)).pre kk (by omega) hpos
          have HP : Hid (Bs wr (.slice (some ⟨b0, o0, none⟩) kk C3) ((numB n).take kk)) := hpre
          clear hpre
          have hrs := rdInt_short n kk hlk
          have hkC : kk ≤ C3 := by omega
          go_wp2_with fail
          refine (newReader_any HP.out (by rw [List.length_take]; omega)).mono ?_
          rintro e w8 ⟨g8, q8, rfl, hr8, hB8, hg8, hq8⟩
          have h9 := rInt_any hr8
          rw [hrs] at h9
          go_wp2_with fail
          refine h9.mono ?_
          rintro e w9 ⟨rfl, hr9, hc9⟩
          clear h9
          have hB9 := HBK.out.trans ((hB8.trans (hc9.below (fun k e => by have : k = g8 := e; omega) hB8.size)).mono HBK.out.size)
          go_wp2_with fail
          refine (good_no hr9).mono ?_
          rintro e w10 ⟨rfl, rfl⟩
          go_wp2
          go_roundw
          case rel => exact ⟨kk + 1, by go_num, by omega, hB9⟩
          case measure => simp [intOf]; omega
        · go_wp2
          go_roundw
          case rel => exact ⟨j + 1, by go_num, by omega, HB.out.trans ((HB7.out.trans (HBK.out.mono HB7.out.size)).mono (by omega))⟩
          case measure => simp [intOf]; omega
    · have HBA : Hid (Below w.heap.size w wA) := ((Below.refl _ _).alloc (Nat.le_refl _) _).trans (HB.out.mono (by omega))
      clear HB
      go_wp2_with fail
      go_loopw [9, 10, 11] (fun i _ _ wr => ∃ a : Nat, i = .int .i64 a ∧ a ≤ 9 ∧ Below (wA.heap.size + 10) (oddW wA) wr) (fun i _ _ _ => 9 - (intOf i).toNat)
      case atStart => exact ⟨0, rfl, by omega, Below.refl _ _⟩
      case round =>
        obtain ⟨a, rfl, ha, hBa⟩ := hrel
        obtain ⟨wB, hwB⟩ : ∃ x, x = wr := ⟨wr, rfl⟩
        subst hwB
        have HBB : Hid (Below (wA.heap.size + 10) (oddW wA) wB) := hBa
        clear hBa
        by_cases hla : a < 9
        · have hla' : a < oddL.length := hla
          obtain ⟨A1, C1, o1, o2, o3⟩ := odd_at wA a hla'
          have hol := odd_len a hla'
          generalize (oddL[a]'hla') = od at *
          have O2 : Hid (Bs (oddW wA) (.slice A1 od.length C1) od) := o2
          have O3 : Hid (∀ k, bk (.slice A1 od.length C1) = some k → k < wA.heap.size + 10) := o3
          have O1 : Hid ((oddW wA).cell? ⟨wA.heap.size + 9, a, none⟩ = some (.slice A1 od.length C1)) := o1
          clear o1 o2 o3
          go_wp2_with fail
          rw [show decide ((a : Int) < 9) = true from decide_eq_true (by omega)]
          go_loopw [10, 11] (fun i _ wr => ∃ b : Nat, i = .int .i64 b ∧ b ≤ 5 ∧ Below (wA.heap.size + 10) (oddW wA) wr) (fun i _ _ => 5 - (intOf i).toNat)
          case atStart => exact ⟨0, rfl, by omega, HBB.out⟩
          case round =>
            obtain ⟨b, rfl, hb, hBb⟩ := hrel
            obtain ⟨wC, hwC⟩ : ∃ x, x = wr := ⟨wr, rfl⟩
            subst hwC
            have HBC : Hid (Below (wA.heap.size + 10) (oddW wA) wC) := hBb
            clear hBb
            by_cases hlb : b < 5
            · go_wp2_with fail
              rw [show decide ((b : Int) < 5) = true from decide_eq_true (by omega)]
              go_loopw [11] (fun i wr => ∃ c : Nat, i = .int .i64 ((c : Int) - 1) ∧ c ≤ 6 ∧ Below (wA.heap.size + 10) (oddW wA) wr) (fun i _ => 6 - (intOf i + 1).toNat)
              case atStart => exact ⟨0, rfl, by omega, HBC.out⟩
              case round =>
                obtain ⟨c, rfl, hc, hBc⟩ := hrel
                have HBD : Hid (Below (wA.heap.size + 10) (oddW wA) wr) := hBc
                clear hBc
                have hszo := oddW_size wA
                have hszd := HBD.out.size
                by_cases hlc : c < 6
                · have hlc' : (c : Int) - 1 < 5 := by omega
                  have c1 : wr.cell? ⟨wA.heap.size + 9, a, none⟩ = some (.slice A1 od.length C1) := (HBD.out.cell (p := ⟨wA.heap.size + 9, a, none⟩) (by simp)).trans O1.out
                  have b1 : Bs wr (.slice A1 od.length C1) od := O2.out.below HBD.out O3.out
                  have H6 := reads_any (b1.alloc _) (deed_three wr b ((c : Int) - 1)) (by simp) (three_fit _ _ (by omega) (by omega)) (by omega)
                  go_wp2_with fail
                  refine H6.mono ?_
                  rintro e w5 ⟨rfl, hB5⟩
                  have hB6 : Below (wA.heap.size + 10) (oddW wA) w5 := (HBD.out.alloc (by omega) _).trans (hB5.mono (by simp; omega))
                  go_wp2
                  go_roundw
                  case rel =>
                    exact ⟨c + 1, by congr 1; omega, by omega, hB6⟩
                  case measure => simp [intOf]; omega
                · have hlc' : ¬ (c : Int) - 1 < 5 := by omega
                  go_wp2
                  go_roundw
                  case rel => exact ⟨b + 1, by go_num, by omega, HBD.out⟩
                  case measure => simp [intOf]; omega
            · go_wp2
              go_roundw
              case rel => exact ⟨a + 1, by go_num, by omega, HBC.out⟩
              case measure => simp [intOf]; omega
        · have hsz := oddW_size wA
          have hszB := HBB.out.size
          have HBW : Hid (Below w.heap.size w wB) := HBA.out.trans (((oddW_below wA).mono (Nat.le_refl _) |>.trans (HBB.out.mono (by omega))).mono HBA.out.size)
          clear HBB hsz hszB
          obtain ⟨w1, L, hmk, hL, hLn, hLb, hB1⟩ := make_any wB 1048577 (by omega)
          rw [show ((1048577 : Nat) : Int) = 1048577 from rfl] at hmk
          clear hL
          go_wp2_with fail
          refine (frame_long (by omega)).mono ?_
          rintro e w2 ⟨rfl, rfl⟩
          obtain ⟨b0, o0, he, hC0, hpre⟩ := hLb.pre 1048576 (by omega) (by omega)
          cases he
          have hTl : (L.take 1048576).length = 1048576 := by rw [List.length_take]; omega
          generalize L.take 1048576 = T at *
          have HT : Hid (Bs w2 (.slice (some ⟨wB.heap.size, 0, none⟩) 1048576 1048577) T) := hpre
          clear hpre hLb hLn hC0 hmk
          go_wp2_with fail
          refine (frame_any HT.out (by omega)).mono ?_
          rintro e w3 ⟨v3, rfl, hn3⟩
          have HV3 : Hid (Bs w3 v3 (frameOf T)) := hn3.bs
          have hB3 : Below wB.heap.size wB w3 := hB1.trans (hn3.below.mono hB1.size)
          have hfl : (frameOf T).length = 1048584 := by rw [frameOf_len, hTl]
          obtain ⟨A3, C3, rfl⟩ := bs_form hn3.bs
          have hun := unframe_frame T [] (by omega)
          rw [List.append_nil] at hun
          have h4 := unframe_any HV3.out (by omega)
          rw [hun] at h4
          have h4' : Calls Try.prog 33 #[.slice A3 1048584 C3] w3 fun e w' => ∃ A C, e = .returned (.tuple #[.slice A 1048576 C, .int .i64 1048584, .int .i64 0]) ∧ Below w3.heap.size w3 w' := by
            rw [hfl] at h4
            refine h4.mono ?_
            rintro e w4 ⟨v4, w4a, he, hn4, hB4, -⟩
            obtain ⟨A4, C4, hv4⟩ := bs_form hn4.bs
            rw [hTl] at he hv4
            exact ⟨A4, C4, by rw [he, hv4]; rfl, hB4⟩
          rw [hfl]
          clear hn3 hun HT h4 hfl hTl HV3
          go_wp2_with fail
          refine h4'.mono ?_
          clear h4'
          rintro e w4 ⟨A4, C4, rfl, hB4⟩
          have hB4' := hB3.trans (hB4.mono hB3.size)
          go_wp2_with fail
          refine (frame_any (Bs.nil w4) (by simp)).mono ?_
          rintro e w5 ⟨v5, rfl, hn5⟩
          rw [frame_nil] at hn5
          have HV5 : Hid (Bs w5 v5 [0, 0, 0, 0, 0, 0, 0, 0]) := hn5.bs
          have hB5 := hB4'.trans (hn5.below.mono hB4'.size)
          obtain ⟨A5, C5, rfl⟩ := bs_form hn5.bs
          rw [show [(0 : UInt8), 0, 0, 0, 0, 0, 0, 0].length = 8 from rfl] at HV5 ⊢
          clear hn5
          go_wp2_with fail
          refine (copy_any HV5.out (by decide)).mono ?_
          rintro e w6 ⟨v6, rfl, hn6⟩
          have HV6 : Hid (Bs w6 (.slice A5 8 C5) [0, 0, 0, 0, 0, 0, 0, 0]) := HV5.out.below hn6.below (fun k hk => HV5.out.lt hk)
          have hB6 := hB5.trans (hn6.below.mono hB5.size)
          obtain ⟨A6, C6, rfl⟩ := bs_form hn6.bs
          rw [show [(0 : UInt8), 0, 0, 0, 0, 0, 0, 0].length = 8 from rfl] at hn6 ⊢
          have HN6 : Hid (New w5 w6 (.slice A6 8 C6) [0, 0, 0, 0, 0, 0, 0, 0]) := hn6
          clear hn6
          have hbl : w5.heap.size ≤ (w6.alloc (.cells #[.int .u8 7] 5)).heap.size := by have := HN6.out.below.size; simp; omega
          go_wp2_with (at_builtin; refine wpList_app rfl (.tmp 145) (.tmp 146) rfl (.slice A6 8 C6) _ rfl rfl (owns_al HN6.out.owns _) (Bs_one _ 7 7 rfl) hbl (by decide) ?_; intro A7 C7 w7 ho7 hg7 hat7 _; (have HO7 : Hid (w7.ownsRow w5.heap.size 5 1 (.slice A7 9 C7) 9 (bv ([0, 0, 0, 0, 0, 0, 0, 0] ++ [7]))) := ho7); (have HG7 : Hid ((w6.alloc (.cells #[.int .u8 7] 5)).grownBy w7 (blk (.slice A6 8 C6))) := hg7); clear ho7 hg7 hat7)
          have hB7 : Below w5.heap.size w6 w7 := ((Below.refl _ _).alloc HN6.out.below.size _).grown HG7.out hbl (fun k hk => (HN6.out.own k hk).1)
          have hB7' := hB6.trans (hB7.mono hB5.size)
          have h8 := unframe_any (Bs.of_owns HO7.out) (by decide)
          rw [unf_seven] at h8
          have HV7 : Hid (Bs w7 (.slice A5 8 C5) [0, 0, 0, 0, 0, 0, 0, 0]) := HV6.out.below hB7 (fun k hk => HV5.out.lt hk)
          clear HO7 HG7 HV6 hbl HN6
          refine h8.mono ?_
          clear h8
          intro e w8 hu8
          obtain ⟨A8, C8, rfl, hB8⟩ := unf_some_nil hu8
          have HV8 : Hid (Bs w8 (.slice A5 8 C5) [0, 0, 0, 0, 0, 0, 0, 0]) := HV7.out.below hB8 (fun k hk => HV7.out.lt hk)
          have hB8' := hB7'.trans (hB8.mono hB7'.size)
          clear hu8
          have h9 := unframe_any (Bs_lit w8 [1, 0, 16, 0, 0, 0, 0, 0, 1]) (by decide)
          rw [unf_over] at h9
          go_wp2_with fail
          refine h9.mono ?_
          clear h9
          rintro e w9 ⟨rfl, hB9⟩
          have hB89 : Below w8.heap.size w8 w9 := ((Below.refl _ _).alloc (Nat.le_refl _) _).trans (hB9.mono (by simp))
          have HV9 : Hid (Bs w9 (.slice A5 8 C5) [0, 0, 0, 0, 0, 0, 0, 0]) := HV8.out.below hB89 (fun k hk => HV8.out.lt hk)
          have hB9' := hB8'.trans (hB89.mono hB8'.size)
          clear hB9
          obtain ⟨w10, L10, hmk, hL10, -, hL10b, hB10⟩ := make_any w9 8 (by omega)
          rw [show ((8 : Nat) : Int) = 8 from rfl] at hmk
          rw [hL10, show List.replicate 8 (0 : UInt8) = [0, 0, 0, 0, 0, 0, 0, 0] from rfl] at hL10b
          have h11 := same_yes2 (HV9.out.below hB10 (fun k hk => HV9.out.lt hk)) hL10b (by decide)
          have hB10' := hB9'.trans (hB10.mono hB9'.size)
          go_wp2_with fail
          refine h11.mono ?_
          rintro e w11 ⟨rfl, n11, rfl⟩
          go_wp2_with fail
          refine (awake_any _).mono ?_
          rintro e w12 ⟨rfl, hB12⟩
          go_wp2
          go_ret
          have hB11 := below_drewN hB10' n11
          exact ⟨rfl, HBW.out.trans ((hB11.trans (hB12.mono hB11.size)).mono HBW.out.size)⟩
end Go.Proofs.Ytchmkginkmldoaa
