/- The walk of the statement on what is put, in whichever order. -/
import Derived.Test.YtchmkginkmldoaaWrittenWalk
import Derived.Test.YtchmkginkmldoaaRefW
namespace Go.Proofs.Ytchmkginkmldoaa
open Go.RowKit

/- Two rows that share no block. -/
def Ap (g1 : Nat) (q1 : Option Nat) (g2 : Nat) (q2 : Option Nat) : Prop := g1 ≠ g2 ∧ q1 ≠ some g2 ∧ q2 ≠ some g1 ∧ ∀ k, q1 = some k → q2 ≠ some k
theorem Ap.symm {g1 g2 : Nat} {q1 q2 : Option Nat} (h : Ap g1 q1 g2 q2) : Ap g2 q2 g1 q1 := ⟨h.1.symm, h.2.2.1, h.2.1, fun k hk e => h.2.2.2 k e hk⟩
theorem Ap.turn {w w1 : World} {B g1 g2 T2 : Nat} {tl2 : List Value} {q1 q1' q2 : Option Nat} {l2 : List UInt8} (h2 : RowAt w B g2 T2 tl2 q2 l2) (ha : Ap g1 q1 g2 q2) (hp : Put g1 q1 w w1 q1') : RowAt w1 B g2 T2 tl2 q2 l2 ∧ Ap g1 q1' g2 q2 := by
  refine ⟨h2.keep hp.chg ?_ ?_, ha.1, ?_, ha.2.2.1, ?_⟩
  · rintro (e | e)
    · exact ha.1 e.symm
    · exact ha.2.1 e
  · rintro k hk (e | e)
    · subst e; exact ha.2.2.1 hk
    · exact ha.2.2.2 k e hk
  · intro e
    rcases hp.lies with rfl | ⟨k, hk, hle⟩
    · exact ha.2.1 e
    · rw [hk] at e; cases e; have := h2.lt; omega
  · intro k hk e
    rcases hp.lies with rfl | ⟨j, hj, hle⟩
    · exact ha.2.2.2 k hk e
    · rw [hj] at hk; cases hk; have := (h2.qlt _ e).2; omega
theorem box_cell (w : World) (cs : Array Value) (T i : Nat) : (w.alloc (.cells cs T)).cell? ⟨w.heap.size, i, none⟩ = cs[i]? := cell_at (heap_alloc_new w _) i
theorem Put.far' {w w' : World} {base g T : Nat} {tl : List Value} {q q' : Option Nat} {l : List UInt8} (h : RowAt w base g T tl q l) (hg : base ≤ g) (hp : Put g q w w' q') : Below base w w' := Put.far h hg hp

set_option maxRecDepth 100000 in
set_option maxHeartbeats 4000000 in
theorem lawput_any {w : World} {B g1 g2 : Nat} {q1 q2 : Option Nat} {l : List UInt8} (h1 : WrAt w B g1 q1 l) (h2 : WrF w B g2 q2 l) (ha : Ap g1 q1 g2 q2) (hB1 : B ≤ g1) (hB2 : B ≤ g2) {x : Th} {A : Option Addr} {C : Nat}
    (hs : -9223372036854775808 ≤ x.sort ∧ x.sort < 9223372036854775808) (hf : Fits x) (hbs : Bs w (.slice A x.b.length C) x.b) (hlo : ∀ k, bk (.slice A x.b.length C) = some k → k < B) (hl : (l ++ putB x).length ≤ 70368744177664) :
    Calls Try.prog 9 #[.pointer (some ⟨g1, 0, none⟩), .pointer (some ⟨g2, 0, none⟩), .agg #[.int .i64 x.sort, .int .i64 x.n, .slice A x.b.length C]] w fun e w' =>
      e = .returned (.tuple #[]) ∧ ∃ q1' q2', WrAt w' B g1 q1' (l ++ putB x) ∧ WrF w' B g2 q2' (l ++ putB x) ∧ Ap g1 q1' g2 q2' ∧ Below B w w' := by
  obtain ⟨f3, f4, f5⟩ := hf
  have hpk := pick_any x.sort 4 hs.1 hs.2 (by omega) (by omega)
  obtain ⟨p, hp1, hp2, hp3⟩ := pick_four x.sort
  have hput : putB x = if p = 0 then [Go.Proofs.Ytchmkginkmldoaa.u8 x.n] else if p = 1 then numB x.n else textB x.b := by
    unfold putB; rw [hp3]
  rw [hput] at hl ⊢
  rw [hp1] at hpk
  clear hput hp3 hp1 hs
  obtain ⟨xs, xn, xb⟩ := x
  dsimp only at *
  have hg1 := h1.lt
  have hg2 := h2.lt
  have hq1 := h1.qlt
  have hB0 : B ≤ w.heap.size := by omega
  have H1 : Hid (WrAt (w.alloc (.cells #[.int .i64 xs, .int .i64 xn, .slice A xb.length C] 30)) B g1 q1 l) := h1.alloc _
  have H2 : Hid (WrF (w.alloc (.cells #[.int .i64 xs, .int .i64 xn, .slice A xb.length C] 30)) B g2 q2 l) := h2.alloc _
  have H4 : Hid (Bs (w.alloc (.cells #[.int .i64 xs, .int .i64 xn, .slice A xb.length C] 30)) (.slice A xb.length C) xb) := hbs.alloc _
  have HBB : Hid (Below B w (w.alloc (.cells #[.int .i64 xs, .int .i64 xn, .slice A xb.length C] 30))) := (Below.refl _ _).alloc hB0 _
  have HLO : Hid (∀ k, bk (.slice A xb.length C) = some k → k < B) := hlo
  have HA : Hid (Ap g1 q1 g2 q2) := ha
  have HQ1 : Hid (∀ k, q1 = some k → k < w.heap.size) := fun k hk => (hq1 k hk).2
  have hcv := convert_bytes H4.out
  have HS : Hid (∀ (w3 : World) (q1' : Option Nat), Put g1 q1 (w.alloc (.cells #[.int .i64 xs, .int .i64 xn, .slice A xb.length C] 30)) w3 q1' → (w3.cell? ⟨w.heap.size, 1, none⟩ = some (.int .i64 xn) ∧ w3.cell? ⟨w.heap.size, 2, none⟩ = some (.slice A xb.length C) ∧ Bs w3 (.slice A xb.length C) xb)) := by
    intro w3 q1' hp
    have hn : ¬ (w.heap.size = g1 ∨ q1 = some w.heap.size) := by
      rintro (e | e)
      · omega
      · have := (hq1 _ e).2; omega
    refine ⟨?_, ?_, H4.out.keep hp.chg ?_⟩
    · rw [hp.chg.cell (a := ⟨w.heap.size, 1, none⟩) (by simp) hn, box_cell]; rfl
    · rw [hp.chg.cell (a := ⟨w.heap.size, 2, none⟩) (by simp) hn, box_cell]; rfl
    · rintro k hk (e | e)
      · have := hlo k hk; omega
      · have := hlo k hk; have := (hq1 k e).1; omega
  clear h1 h2 hbs hlo ha hq1
  have hp : p = 0 ∨ p = 1 ∨ p = 2 ∨ p = 3 := by omega
  rcases hp with rfl | rfl | rfl | rfl
  · simp only [if_true, List.length_append, List.length_singleton] at hl ⊢
    go_enter Try.func9, Try.ntmps9
    go_wp2_with fail
    refine (hpk _).mono ?_
    rintro e w2 ⟨rfl, rfl⟩
    go_wp2_with fail
    refine (wByte_any H1.out _ (Go.Proofs.Ytchmkginkmldoaa.u8 xn) (u8_val xn) (by omega)).mono ?_
    rintro e w3 ⟨rfl, q3, hw3, hp3⟩
    obtain ⟨c1, c2, -⟩ := HS.out w3 q3 hp3
    have ht := Ap.turn H2.out HA.out hp3
    have hb3 := HBB.out.trans (Put.far H1.out hB1 hp3)
    go_wp2_with fail
    refine (rfWByte_any ht.1 _ (Go.Proofs.Ytchmkginkmldoaa.u8 xn) (u8_val xn) (by omega)).mono ?_
    rintro e w4 ⟨rfl, q4, hw4, hp4⟩
    have ht4 := Ap.turn hw3 ht.2.symm hp4
    have hb4 := hb3.trans (Put.far ht.1 hB2 hp4)
    go_wp2
    go_end0
    exact ⟨rfl, q3, q4, ht4.1, hw4, ht4.2.symm, hb4⟩
  · have hnl := num_len xn f3 f4
    simp only [Nat.one_ne_zero, if_false, if_true, List.length_append] at hl ⊢
    go_enter Try.func9, Try.ntmps9
    go_wp2_with fail
    refine (hpk _).mono ?_
    rintro e w2 ⟨rfl, rfl⟩
    go_wp2_with fail
    refine (wInt_any H1.out xn f3 f4 (by omega)).mono ?_
    rintro e w3 ⟨rfl, q3, hw3, hp3⟩
    obtain ⟨c1, c2, -⟩ := HS.out w3 q3 hp3
    have ht := Ap.turn H2.out HA.out hp3
    have hb3 := HBB.out.trans (Put.far H1.out hB1 hp3)
    go_wp2_with fail
    refine (rfWInt_any ht.1 xn f3 f4 (by omega)).mono ?_
    rintro e w4 ⟨rfl, q4, hw4, hp4⟩
    have ht4 := Ap.turn hw3 ht.2.symm hp4
    have hb4 := hb3.trans (Put.far ht.1 hB2 hp4)
    go_wp2
    go_end0
    exact ⟨rfl, q3, q4, ht4.1, hw4, ht4.2.symm, hb4⟩
  · simp only [show ¬ (2 : Nat) = 0 by decide, show ¬ (2 : Nat) = 1 by decide, if_false, List.length_append] at hl ⊢
    go_enter Try.func9, Try.ntmps9
    go_wp2_with fail
    refine (hpk _).mono ?_
    rintro e w2 ⟨rfl, rfl⟩
    go_wp2_with fail
    refine (wText_any H1.out xb f5 (by omega)).mono ?_
    rintro e w3 ⟨rfl, q3, hw3, hp3⟩
    obtain ⟨c1, c2, c3⟩ := HS.out w3 q3 hp3
    have hcv3 := convert_bytes c3
    have ht := Ap.turn H2.out HA.out hp3
    have hb3 := HBB.out.trans (Put.far H1.out hB1 hp3)
    go_wp2_with fail
    refine (rfWText_any ht.1 xb f5 (by omega)).mono ?_
    rintro e w4 ⟨rfl, q4, hw4, hp4⟩
    have ht4 := Ap.turn hw3 ht.2.symm hp4
    have hb4 := hb3.trans (Put.far ht.1 hB2 hp4)
    go_wp2
    go_end0
    exact ⟨rfl, q3, q4, ht4.1, hw4, ht4.2.symm, hb4⟩
  · simp only [show ¬ (3 : Nat) = 0 by decide, show ¬ (3 : Nat) = 1 by decide, if_false, List.length_append] at hl ⊢
    have HB1 : Hid (bk (.slice A xb.length C) ≠ some g1 ∧ ∀ k, q1 = some k → bk (.slice A xb.length C) ≠ some k) := ⟨fun e => by have := HLO.out _ e; omega, fun k hk e => by have := HLO.out _ e; have := (H1.out.qlt k hk).1; omega⟩
    go_enter Try.func9, Try.ntmps9
    go_wp2_with fail
    refine (hpk _).mono ?_
    rintro e w2 ⟨rfl, rfl⟩
    go_wp2_with fail
    refine (wBytes_any H1.out H4.out f5 (by omega) HB1.out.1 HB1.out.2).mono ?_
    rintro e w3 ⟨rfl, q3, hw3, hp3⟩
    obtain ⟨c1, c2, c3⟩ := HS.out w3 q3 hp3
    have ht := Ap.turn H2.out HA.out hp3
    have hb3 := HBB.out.trans (Put.far H1.out hB1 hp3)
    go_wp2_with fail
    refine (rfWBytes_any ht.1 c3 f5 (by omega)).mono ?_
    rintro e w4 ⟨rfl, q4, hw4, hp4⟩
    have ht4 := Ap.turn hw3 ht.2.symm hp4
    have hb4 := hb3.trans (Put.far ht.1 hB2 hp4)
    go_wp2
    go_end0
    exact ⟨rfl, q3, q4, ht4.1, hw4, ht4.2.symm, hb4⟩
theorem same_yes2 {x y : Value} {l : List UInt8} {w : World} (hA : Bs w x l) (hB : Bs w y l) (hm : l.length ≤ 140737488355328) :
    Calls Try.prog 10 #[x, y] w fun e w' => e = .returned (.bool true) ∧ ∃ q, w' = w.drewN q := by
  have := same_any hA hB hm
  rwa [decide_eq_true rfl] at this
/- Both writers, and what they leave alone. -/
structure Wr2 (w wr : World) (g1 g2 : Nat) (q1 q2 : Option Nat) (l : List UInt8) : Prop where
  one : WrAt wr w.heap.size g1 q1 l
  two : WrF wr w.heap.size g2 q2 l
  ap : Ap g1 q1 g2 q2
  below : Below w.heap.size w wr
theorem Wr2.keep {w wr wr' : World} {g1 g2 : Nat} {q1 q2 : Option Nat} {l : List UInt8} (h : Wr2 w wr g1 g2 q1 q2 l) (hb : Below wr.heap.size wr wr') : Wr2 w wr' g1 g2 q1 q2 l :=
  ⟨h.one.keep (Chg.of_below hb) id (fun _ _ => id), h.two.keep (Chg.of_below hb) id (fun _ _ => id), h.ap, h.below.trans (hb.mono h.below.size)⟩
theorem Wr2.drewN {w wr : World} {g1 g2 : Nat} {q1 q2 : Option Nat} {l : List UInt8} (h : Wr2 w wr g1 g2 q1 q2 l) (n : Nat) : Wr2 w (wr.drewN n) g1 g2 q1 q2 l :=
  ⟨h.one.keep (Chg.drewN Non _ n) id (fun _ _ => id), h.two.keep (Chg.drewN Non _ n) id (fun _ _ => id), h.ap, below_drewN h.below n⟩
set_option maxRecDepth 100000 in
set_option maxHeartbeats 8000000 in
theorem writes_any {w : World} {v : Value} {l : List Th} (hd : Deeds w w.heap.size v l) (hl60 : l.length ≤ 9223372036854775807) (hf : Fit l) (hb : (allB (l.take 60)).length ≤ 70368744177664) :
    Calls Try.prog 3 #[v] w fun e w' => e = .returned (.bool true) ∧ Below w.heap.size w w' := by
  have HD0 : Hid (Deeds w w.heap.size v l) := hd
  obtain ⟨A, C, rfl⟩ := hd.form
  clear hd
  by_cases h60 : 60 < l.length
  · obtain ⟨b0, o0, rfl, hC0, hD⟩ := HD0.out.take 60 (by omega) (by omega)
    have HF : Hid (Fit (l.take 60)) := fun y hy => hf y (List.mem_of_mem_take hy)
    have hL : (l.take 60).length = 60 := by rw [List.length_take]; omega
    have h60' : (60 : Int) < l.length := by omega
    have hC1 : 60 ≤ C := by omega
    generalize hLL : l.take 60 = L at *
    have HD : Hid (Deeds w w.heap.size (.slice (some ⟨b0, o0, none⟩) 60 C) L) := hD
    have HL : Hid (L.length = 60) := hL
    have HM : Hid ((allB L).length ≤ 70368744177664) := hb
    clear hLL HD0 hf hD hb
    go_enter Try.func3, Try.ntmps3
    go_wp2_with fail
    refine (newWriter_any w w.heap.size (Nat.le_refl _)).mono ?_
    rintro e w1 ⟨rfl, hw1, hB1, hs1⟩
    go_wp2_with fail
    refine (rfNewW_any w1 w.heap.size hB1.size).mono ?_
    rintro e w2 ⟨rfl, hw2, hB2, hs2⟩
    have HT2 : Hid (Wr2 w w2 w.heap.size w1.heap.size none none []) := ⟨hw1.keep (Chg.of_below hB2) id (fun _ _ => id), hw2, ⟨by omega, by simp, by simp, by simp⟩, hB1.trans (hB2.mono hB1.size)⟩
    have hm : w.heap.size ≤ w1.heap.size := by omega
    generalize w1.heap.size = m at *
    clear hw1 hw2 hB1 hB2 hs1 hs2
    go_wp2_with fail
    go_loopw [5] (fun i wr => ∃ (k : Nat) (q1 q2 : Option Nat), i = .int .i64 k ∧ k ≤ L.length ∧ Wr2 w wr w.heap.size m q1 q2 (allB (L.take k))) (fun i _ => L.length - (intOf i).toNat)
    case atStart => exact ⟨0, none, none, rfl, by omega, HT2.out⟩
    case round =>
      obtain ⟨k, q1, q2, rfl, hk, htw⟩ := hrel
      have HTW : Hid (Wr2 w wr w.heap.size m q1 q2 (allB (L.take k))) := htw
      clear htw HT2
      by_cases hlt : k < L.length
      · obtain ⟨b, o, he, hbB, c1, c2, A2, C2, c3, c4, c5⟩ := (HD.out.below HTW.out.below).at' k hlt
        cases he
        have hfk := HF.out _ (List.getElem_mem hlt)
        have ht := allB_take hlt
        have hle := allB_le L (k + 1)
        rw [ht] at hle
        have hle' := Nat.le_trans hle HM.out
        have h6 := lawput_any HTW.out.one HTW.out.two HTW.out.ap (Nat.le_refl _) hm hfk.1 hfk.2 c4 c5 hle'
        rw [← ht] at h6 hle'
        clear ht hle c4 c5
        generalize (L[k]'hlt) = z at *
        obtain ⟨xs, xn, xb⟩ := z
        dsimp only at *
        generalize hX : allB (L.take (k + 1)) = X at *
        have HXX : Hid (allB (L.take (k + 1)) = X) := hX
        clear hX
        have H6 : Hid (Calls Try.prog 9 #[.pointer (some ⟨w.heap.size, 0, none⟩), .pointer (some ⟨m, 0, none⟩), .agg #[.int .i64 xs, .int .i64 xn, .slice A2 xb.length C2]] wr fun e w' => e = .returned (.tuple #[]) ∧ ∃ q1' q2', WrAt w' w.heap.size w.heap.size q1' X ∧ WrF w' w.heap.size m q2' X ∧ Ap w.heap.size q1' m q2' ∧ Below w.heap.size wr w') := h6
        clear h6 hfk
        go_wp2_with fail
        refine H6.out.mono ?_
        rintro e w3 ⟨rfl, q3, q4, a1, a2, a3, a4⟩
        have HT3 : Hid (Wr2 w w3 w.heap.size m q3 q4 X) := ⟨a1, a2, a3, HTW.out.below.trans a4⟩
        clear a1 a2 a3 a4
        go_wp2_with fail
        refine (wDone_any HT3.out.one (by omega)).mono ?_
        rintro e w4 ⟨v4, rfl, hn4⟩
        have HT4 : Hid (Wr2 w w4 w.heap.size m q3 q4 X) := HT3.out.keep hn4.below
        obtain ⟨A4, C4, rfl⟩ := bs_form hn4.bs
        go_wp2_with fail
        refine (rfWDone_any HT4.out.two (by omega)).mono ?_
        rintro e w5 ⟨v5, rfl, hn5⟩
        have HT5 : Hid (Wr2 w w5 w.heap.size m q3 q4 X) := HT4.out.keep hn5.below
        obtain ⟨A5, C5, rfl⟩ := bs_form hn5.bs
        have hs5 := same_yes2 (hn4.bs.below hn5.below (fun k hk => (hn4.at k hk).2)) hn5.bs (by omega)
        go_wp2_with fail
        refine hs5.mono ?_
        rintro e w6 ⟨rfl, n6, rfl⟩
        have HT6 : Hid (Wr2 w (w5.drewN n6) w.heap.size m q3 q4 X) := HT5.out.drewN n6
        clear hs5 hn4 hn5 HT3 HT4 HT5
        go_wp2
        go_roundw
        case rel => exact ⟨k + 1, q3, q4, by go_num, by omega, by rw [HXX.out]; exact HT6.out⟩
        case measure => simp [intOf]; omega
      · go_wp2_with fail
        refine (awake_any _).mono ?_
        rintro e w3 ⟨rfl, hB3⟩
        go_wp2
        go_ret
        exact ⟨rfl, HTW.out.below.trans (hB3.mono HTW.out.below.size)⟩
  · have HF : Hid (Fit l) := hf
    have h60' : ¬ (60 : Int) < l.length := by omega
    have HM : Hid ((allB l).length ≤ 70368744177664) := by rw [List.take_of_length_le (by omega)] at hb; exact hb
    have HD := HD0
    clear HD0 hf hb
    go_enter Try.func3, Try.ntmps3
    go_wp2_with fail
    refine (newWriter_any w w.heap.size (Nat.le_refl _)).mono ?_
    rintro e w1 ⟨rfl, hw1, hB1, hs1⟩
    go_wp2_with fail
    refine (rfNewW_any w1 w.heap.size hB1.size).mono ?_
    rintro e w2 ⟨rfl, hw2, hB2, hs2⟩
    have HT2 : Hid (Wr2 w w2 w.heap.size w1.heap.size none none []) := ⟨hw1.keep (Chg.of_below hB2) id (fun _ _ => id), hw2, ⟨by omega, by simp, by simp, by simp⟩, hB1.trans (hB2.mono hB1.size)⟩
    have hm : w.heap.size ≤ w1.heap.size := by omega
    generalize w1.heap.size = m at *
    clear hw1 hw2 hB1 hB2 hs1 hs2
    go_wp2_with fail
    go_loopw [5] (fun i wr => ∃ (k : Nat) (q1 q2 : Option Nat), i = .int .i64 k ∧ k ≤ l.length ∧ Wr2 w wr w.heap.size m q1 q2 (allB (l.take k))) (fun i _ => l.length - (intOf i).toNat)
    case atStart => exact ⟨0, none, none, rfl, by omega, HT2.out⟩
    case round =>
      obtain ⟨k, q1, q2, rfl, hk, htw⟩ := hrel
      have HTW : Hid (Wr2 w wr w.heap.size m q1 q2 (allB (l.take k))) := htw
      clear htw HT2
      by_cases hlt : k < l.length
      · obtain ⟨b, o, he, hbB, c1, c2, A2, C2, c3, c4, c5⟩ := (HD.out.below HTW.out.below).at' k hlt
        cases he
        have hfk := HF.out _ (List.getElem_mem hlt)
        have ht := allB_take hlt
        have hle := allB_le l (k + 1)
        rw [ht] at hle
        have hle' := Nat.le_trans hle HM.out
        have h6 := lawput_any HTW.out.one HTW.out.two HTW.out.ap (Nat.le_refl _) hm hfk.1 hfk.2 c4 c5 hle'
        rw [← ht] at h6 hle'
        clear ht hle c4 c5
        generalize (l[k]'hlt) = z at *
        obtain ⟨xs, xn, xb⟩ := z
        dsimp only at *
        generalize hX : allB (l.take (k + 1)) = X at *
        have HXX : Hid (allB (l.take (k + 1)) = X) := hX
        clear hX
        have H6 : Hid (Calls Try.prog 9 #[.pointer (some ⟨w.heap.size, 0, none⟩), .pointer (some ⟨m, 0, none⟩), .agg #[.int .i64 xs, .int .i64 xn, .slice A2 xb.length C2]] wr fun e w' => e = .returned (.tuple #[]) ∧ ∃ q1' q2', WrAt w' w.heap.size w.heap.size q1' X ∧ WrF w' w.heap.size m q2' X ∧ Ap w.heap.size q1' m q2' ∧ Below w.heap.size wr w') := h6
        clear h6 hfk
        go_wp2_with fail
        refine H6.out.mono ?_
        rintro e w3 ⟨rfl, q3, q4, a1, a2, a3, a4⟩
        have HT3 : Hid (Wr2 w w3 w.heap.size m q3 q4 X) := ⟨a1, a2, a3, HTW.out.below.trans a4⟩
        clear a1 a2 a3 a4
        go_wp2_with fail
        refine (wDone_any HT3.out.one (by omega)).mono ?_
        rintro e w4 ⟨v4, rfl, hn4⟩
        have HT4 : Hid (Wr2 w w4 w.heap.size m q3 q4 X) := HT3.out.keep hn4.below
        obtain ⟨A4, C4, rfl⟩ := bs_form hn4.bs
        go_wp2_with fail
        refine (rfWDone_any HT4.out.two (by omega)).mono ?_
        rintro e w5 ⟨v5, rfl, hn5⟩
        have HT5 : Hid (Wr2 w w5 w.heap.size m q3 q4 X) := HT4.out.keep hn5.below
        obtain ⟨A5, C5, rfl⟩ := bs_form hn5.bs
        have hs5 := same_yes2 (hn4.bs.below hn5.below (fun k hk => (hn4.at k hk).2)) hn5.bs (by omega)
        go_wp2_with fail
        refine hs5.mono ?_
        rintro e w6 ⟨rfl, n6, rfl⟩
        have HT6 : Hid (Wr2 w (w5.drewN n6) w.heap.size m q3 q4 X) := HT5.out.drewN n6
        clear hs5 hn4 hn5 HT3 HT4 HT5
        go_wp2
        go_roundw
        case rel => exact ⟨k + 1, q3, q4, by go_num, by omega, by rw [HXX.out]; exact HT6.out⟩
        case measure => simp [intOf]; omega
      · go_wp2_with fail
        refine (awake_any _).mono ?_
        rintro e w3 ⟨rfl, hB3⟩
        go_wp2
        go_ret
        exact ⟨rfl, HTW.out.below.trans (hB3.mono HTW.out.below.size)⟩
end Go.Proofs.Ytchmkginkmldoaa
