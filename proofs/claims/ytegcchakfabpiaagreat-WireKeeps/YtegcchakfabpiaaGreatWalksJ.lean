/- The walks of beadlekit's comparing of bytes, and of what wakes each statement. -/
import Derived.Lib.SlBytesConst
import Derived.Test.YtegcchakfabpiaaGreatWalksI
namespace Go.Proofs.YtegcchakfabpiaaGreat
open Go.RowKit

theorem take_step {α : Type} (k : Nat) (a b : List α) {ha : k < a.length} {hb : k < b.length} (h : a.take k = b.take k) (he : a[k]'ha = b[k]'hb) : a.take (k + 1) = b.take (k + 1) := by
  rw [List.take_succ_eq_append_getElem ha, List.take_succ_eq_append_getElem hb, h, he]
theorem ne_at {α : Type} (k : Nat) (a b : List α) {ha : k < a.length} {hb : k < b.length} (he : ¬ a[k]'ha = b[k]'hb) : a ≠ b := by
  rintro rfl; exact he rfl
theorem eq_of_take {α : Type} {a b : List α} (hl : a.length = b.length) (k : Nat) (hk : a.length ≤ k) (h : a.take k = b.take k) : a = b := by
  rw [List.take_of_length_le hk, List.take_of_length_le (by omega)] at h
  exact h
theorem ret_bool {a b : Bool} (h : a = b) : Ending.returned (.bool a) = .returned (.bool b) := by rw [h]
theorem Bs.at' {w : World} {A : Option Addr} {n C : Nat} {l : List UInt8} (h : Bs w (.slice A n C) l) (k : Nat) (hk : k < l.length) : ∃ b o, A = some ⟨b, o, none⟩ ∧ w.cell? ⟨b, o + k, none⟩ = some (.int .u8 ((l[k]'hk).toNat : Int)) := by
  rcases h with ⟨_, rfl⟩ | ⟨_, _, _, rfl⟩ | ⟨_, b, o, c, he, _, _, h3⟩
  · simp at hk
  · simp at hk
  · cases he
    exact ⟨b, o, rfl, h3 k hk⟩
theorem u8_inj {x y : UInt8} (h : (x.toNat : Int) = (y.toNat : Int)) : x = y := UInt8.toNat.inj (by omega)
theorem same_len {a1 a2 : Option Addr} {c1 c2 : Nat} {la lb : List UInt8} {w : World} (hA : Bs w (.slice a1 la.length c1) la) (hB : Bs w (.slice a2 lb.length c2) lb) (hl : la.length = lb.length) (hm : la.length ≤ 140737488355328) :
    Calls Tryz.prog 23 #[.slice a1 la.length c1, .slice a2 lb.length c2] w fun e w' => e = .returned (.bool (decide (la = lb))) ∧ ∃ q, w' = w.drewN q := by
  have HA : Hid (Bs w (.slice a1 la.length c1) la) := hA
  have HB : Hid (Bs w (.slice a2 lb.length c2) lb) := hB
  have HL : Hid (la.length = lb.length) := hl
  clear hA hB
  rw [← hl]
  obtain ⟨n, hn⟩ : ∃ n, n = la.length := ⟨_, rfl⟩
  rw [← hn] at hm ⊢
  have HN : Hid (n = la.length) := hn
  clear hl hn
  go_enter Tryz.func23, Tryz.ntmps23
  go_wp2
  go_loopw [5] (fun i wr => ∃ (k q : Nat), k ≤ n ∧ i = .int .i64 k ∧ la.take k = lb.take k ∧ wr = w.drewN q) (fun i _ => n - (intOf i).toNat)
  case atStart => exact ⟨0, 0, Nat.zero_le _, rfl, rfl, rfl⟩
  case round =>
    obtain ⟨k, q, hk, rfl, ht, rfl⟩ := hrel
    have HT : Hid (la.take k = lb.take k) := ht
    clear ht
    by_cases hlt : k < n
    · obtain ⟨b1, o1, e1, x1⟩ := HA.out.at' k (by have := HN.out; omega)
      obtain ⟨b2, o2, e2, x2⟩ := HB.out.at' k (by have := HN.out; have := HL.out; omega)
      obtain ⟨x, hx⟩ : ∃ x : Int, x = ((la[k]'(by have := HN.out; omega)).toNat : Int) := ⟨_, rfl⟩
      obtain ⟨y, hy⟩ : ∃ y : Int, y = ((lb[k]'(by have := HN.out; have := HL.out; omega)).toNat : Int) := ⟨_, rfl⟩
      rw [← hx] at x1
      rw [← hy] at x2
      have HX : Hid (x = ((la[k]'(by have := HN.out; omega)).toNat : Int)) := hx
      have HY : Hid (y = ((lb[k]'(by have := HN.out; have := HL.out; omega)).toNat : Int)) := hy
      clear hx hy
      subst e1 e2
      by_cases hne : x = y
      · have hb : (x != y) = false := by simpa using hne
        have HE : Hid (x = y) := hne
        clear hne
        go_wp2_with fail
        go_quiet (fail)
        go_wp2
        go_roundw
        case rel => exact ⟨k + 1, q + nq, by omega, by go_num, take_step k _ _ HT.out (u8_inj (by rw [← HX.out, ← HY.out]; exact HE.out)), rfl⟩
        case measure => simp [intOf]; omega
      · have hb : (x != y) = true := by simpa using hne
        have HE : Hid (¬ x = y) := hne
        clear hne
        go_wp2_with fail
        go_quiet (fail)
        go_wp2
        go_ret
        exact ⟨ret_bool (by rw [decide_eq_false (ne_at k _ _ (fun e => HE.out (by rw [HX.out, HY.out, e])))]), q + nq, by simp⟩
    · go_wp2
      go_ret
      exact ⟨ret_bool (by rw [decide_eq_true (eq_of_take HL.out k (by have := HN.out; omega) HT.out)]), q, rfl⟩
theorem same_any {x y : Value} {la lb : List UInt8} {w : World} (hA : Bs w x la) (hB : Bs w y lb) (hm : la.length ≤ 140737488355328) :
    Calls Tryz.prog 23 #[x, y] w fun e w' => e = .returned (.bool (decide (la = lb))) ∧ ∃ q, w' = w.drewN q := by
  obtain ⟨a1, c1, rfl⟩ := bs_form hA
  obtain ⟨a2, c2, rfl⟩ := bs_form hB
  by_cases hl : la.length = lb.length
  · exact same_len hA hB hl hm
  · have hd : decide (la = lb) = false := decide_eq_false (fun h => hl (by rw [h]))
    rw [hd]
    clear hd hA hB
    generalize la.length = n at *
    generalize lb.length = m at *
    have hb : ((n : Int) != (m : Int)) = true := by simp; omega
    clear hl
    go_enter Tryz.func23, Tryz.ntmps23
    go_wp2
    go_ret
    exact ⟨rfl, 0, rfl⟩
theorem Bs_lit (w : World) (l : List UInt8) : Bs (w.alloc (.cells (bv l).toArray 5)) (.slice (some ⟨w.heap.size, 0, none⟩) l.length l.length) l :=
  Bs_new w l _ _ _ (Nat.le_refl _) (fun j hj => by simp [bv, hj])
theorem Bs.drewN {w : World} {v : Value} {l : List UInt8} (h : Bs w v l) (n : Nat) : Bs (w.drewN n) v l := h.keep (Chg.drewN Non w n) (fun _ _ => id)
theorem below_drewN {B : Nat} {a w : World} (h : Below B a w) (n : Nat) : Below B a (w.drewN n) := ⟨h.os, h.tape, h.output, by cases n <;> exact h.size, by cases n <;> exact h.block⟩
theorem num65 : numB (-65) = [129, 1] := by
  unfold numB
  rw [show zz (-65) = 129 by decide, digs_big (by omega), digs_small (by omega)]
  rfl
theorem text_ab : textB [97, 98] = [4, 97, 98] := by
  unfold textB numB
  rw [show zz ([97, 98] : List UInt8).length = 4 by decide, digs_small (by omega)]
  rfl
theorem Bs_litf (w : World) (l : List UInt8) (fr : Nat × Nat) : Bs (w.alloc (.cells (bv l).toArray 5 fr)) (.slice (some ⟨w.heap.size, 0, none⟩) l.length l.length) l :=
  Bs_new w l _ _ _ (Nat.le_refl _) (fun j hj => by simp [bv, hj])
def nineB : List UInt8 := [49, 50, 51, 52, 53, 54, 55, 56, 57]
theorem conv_nine (w : World) : (convert 22 22 (.slice (some ⟨w.heap.size, 0, none⟩) 9 9)).run Tryz.prog (w.alloc (.cells #[.int .u8 49, .int .u8 50, .int .u8 51, .int .u8 52, .int .u8 53, .int .u8 54, .int .u8 55, .int .u8 56, .int .u8 57] 5)) =
    .ok (.slice (some ⟨w.heap.size, 0, none⟩) 9 9) (w.alloc (.cells #[.int .u8 49, .int .u8 50, .int .u8 51, .int .u8 52, .int .u8 53, .int .u8 54, .int .u8 55, .int .u8 56, .int .u8 57] 5 (9, 10))) :=
  Go.Lib.run_convert_bytes_const w 22 5 _ 9 9 Tryz.underlying22 Tryz.underlying5
theorem Bs_nine (w : World) : Bs (w.alloc (.cells #[.int .u8 49, .int .u8 50, .int .u8 51, .int .u8 52, .int .u8 53, .int .u8 54, .int .u8 55, .int .u8 56, .int .u8 57] 5 (9, 10))) (.slice (some ⟨w.heap.size, 0, none⟩) 9 9) nineB := Bs_litf w nineB (9, 10)
theorem nine_sum : sumOf nineB = 3421780262 := by decide +kernel
theorem aw_int : rdInt (some [129, 1, 4, 97, 98]) = (-65, some [4, 97, 98]) := by decide +kernel
theorem aw_text : rdText (some [4, 97, 98]) 9 = ([97, 98], some []) := by decide +kernel
theorem Below.chg {B : Nat} {w w' : World} (h : Below B w w') (hB : B = w.heap.size) : Chg Non w w' := Chg.of_below (hB ▸ h)
theorem Chg.none_to {S : Nat → Prop} {w w' : World} (h : Chg Non w w') : Chg S w w' := h.weak (fun _ _ e => e.elim)

set_option maxRecDepth 100000 in
set_option maxHeartbeats 1000000 in
theorem awake_any (w : World) : Calls Tryz.prog 4 #[] w fun e w' => e = .returned (.bool true) ∧ Below w.heap.size w w' := by
  go_enter Tryz.func4, Tryz.ntmps4
  go_wp2_with fail
  refine (newWriter_any w w.heap.size (Nat.le_refl _)).mono ?_
  rintro e w1 ⟨rfl, hw1, hB1, hs1⟩
  clear hs1
  have h2 := wInt_any hw1 (-65) (by omega) (by omega) (by rw [num65]; decide)
  rw [num65] at h2
  go_wp2_with fail
  refine h2.mono ?_
  rintro e w2 ⟨rfl, q2, hw2, hp2⟩
  have hB2 := hB1.trans (hp2.far hw1 (Nat.le_refl _))
  clear h2
  have h3 := wText_any hw2 [97, 98] (by decide) (by rw [text_ab]; decide)
  rw [text_ab, show mkS [97, 98] = ⟨#[97, 98]⟩ from rfl] at h3
  go_wp2_with fail
  refine h3.mono ?_
  rintro e w3 ⟨rfl, q3, hw3, hp3⟩
  have hB3 := hB2.trans (hp3.far hw2 (Nat.le_refl _))
  clear h3
  go_wp2_with fail
  refine (newReader_any (Bs_lit w3 [129, 1, 4, 97, 98]) (by decide)).mono ?_
  rintro e w4 ⟨g4, q4, rfl, hr4, hB4, hg4, hq4⟩
  have hlt3 := hw3.lt
  have hg3 : w3.heap.size < g4 := by simp at hg4; omega
  have hB4' := hB3.trans (((Below.refl w3.heap.size w3).alloc (Nat.le_refl _) _).mono hB3.size |>.trans (hB4.mono (by simp; omega)))
  have hc34 : Chg (One g4) w3 w4 := (Chg.alloc _ _ _).trans (Chg.none_to (Chg.of_below hB4))
  have h5 := rInt_any hr4
  rw [aw_int] at h5
  go_wp2_with fail
  refine h5.mono ?_
  rintro e w5 ⟨rfl, hr5, hc5⟩
  clear h5
  have h6 := rText_any hr5 9
  rw [aw_text, show mkS [97, 98] = ⟨#[97, 98]⟩ from rfl] at h6
  go_wp2_with fail
  refine h6.mono ?_
  rintro e w6 ⟨rfl, hr6, hc6⟩
  clear h6
  have hc36 := (hc34.trans hc5).trans hc6
  have hcv := conv_nine w6
  go_wp2_with fail
  refine (frame_any (Bs_nine w6) (by decide)).mono ?_
  rintro e w7 ⟨v7, rfl, hn7⟩
  obtain ⟨A7, C7, rfl⟩ := bs_form hn7.bs
  rw [show (frameOf nineB).length = 17 from rfl] at hn7 ⊢
  have hc67 : Chg Non w6 w7 := (Chg.alloc _ _ _).trans (Chg.of_below hn7.below)
  have hw7 : WrAt w7 w.heap.size w.heap.size q3 ([] ++ [129, 1] ++ [4, 97, 98]) := hw3.keep (hc36.trans hc67.none_to) (fun e => by have : w.heap.size = g4 := e; omega) (fun k hk e => by have := (hw3.qlt k hk).2; have : k = g4 := e; omega)
  have hr7 := hr6.keep hc67 id (fun _ _ => id)
  go_wp2_with fail
  refine (wDone_any hw7 (by decide)).mono ?_
  rintro e w8 ⟨v8, rfl, hn8⟩
  have HB8 : Hid (Bs w8 v8 [129, 1, 4, 97, 98]) := hn8.bs
  obtain ⟨A8, C8, rfl⟩ := bs_form hn8.bs
  have hr8 := hr7.keep (Chg.of_below hn8.below) id (fun _ _ => id)
  go_wp2_with fail
  refine (same_any (HB8.out.alloc _) (Bs_lit w8 [129, 1, 4, 97, 98]) (by decide)).mono ?_
  rintro e w9 ⟨rfl, n9, rfl⟩
  have hr9 := (hr8.keep (Chg.alloc Non w8 (.cells (bv [129, 1, 4, 97, 98]).toArray 5)) id (fun _ _ => id)).keep (Chg.drewN Non _ n9) id (fun _ _ => id)
  have hcv2 := conv_nine ((w8.alloc (.cells (bv [129, 1, 4, 97, 98]).toArray 5)).drewN n9)
  have hB10 := Bs_nine ((w8.alloc (.cells (bv [129, 1, 4, 97, 98]).toArray 5)).drewN n9)
  have hsz : ((w8.alloc (.cells (bv [129, 1, 4, 97, 98]).toArray 5)).drewN n9).heap.size = w8.heap.size + 1 := by simp
  rw [hsz] at hcv2 hB10
  clear hsz hcv
  have HB10 : Hid (Bs (((w8.alloc (.cells (bv [129, 1, 4, 97, 98]).toArray 5)).drewN n9).alloc (.cells #[.int .u8 49, .int .u8 50, .int .u8 51, .int .u8 52, .int .u8 53, .int .u8 54, .int .u8 55, .int .u8 56, .int .u8 57] 5 (9, 10))) (.slice (some ⟨w8.heap.size + 1, 0, none⟩) 9 9) nineB) := hB10
  clear hB10
  have h11 := sum_any HB10.out (by decide)
  rw [nine_sum] at h11
  go_wp2_with fail
  refine (whole_any hr9).mono ?_
  rintro e w10 ⟨rfl, rfl⟩
  go_wp2_with fail
  refine h11.mono ?_
  rintro e w11 ⟨rfl, rfl⟩
  clear h11 hcv2
  have hB7 : Below w.heap.size w w7 := hB4'.trans ((((hc5.trans hc6).trans hc67.none_to).below (fun k e => by have : k = g4 := e; have := hB3.size; omega) (by have := hB3.size; have := hc34.size; omega)))
  have hB8 := hB7.trans (hn8.below.mono hB7.size)
  go_wp2
  go_ret
  refine ⟨rfl, ?_⟩
  exact (below_drewN (hB8.alloc hB8.size _) n9).alloc (by have := hB8.size; simp; omega) _
end Go.Proofs.YtegcchakfabpiaaGreat
