/- The walk of the statement on what is asked of any bytes. -/
import Derived.Test.YtchmkginkmldoaaDeeds
import Derived.Test.YtchmkginkmldoaaRefS
namespace Go.Proofs.Ytchmkginkmldoaa
open Go.RowKit

theorem pick_five (s : Int) : ∃ p : Nat, s % 5 = (p : Int) ∧ p < 5 := by
  have h1 := Int.emod_nonneg s (show (5 : Int) ≠ 0 by decide)
  have h2 := Int.emod_lt_of_pos s (show (0 : Int) < 5 by decide)
  exact ⟨(s % 5).toNat, by omega, by omega⟩
theorem same_yes' {x y : Value} {l : List UInt8} {w : World} (hA : Bs w x l) (hB : Bs w y l) (hm : l.length ≤ 140737488355328) :
    Calls Try.prog 10 #[x, y] w fun e w' => e = .returned (.bool true) ∧ ∃ q, w' = w.drewN q := by
  have := same_any hA hB hm
  rwa [decide_eq_true rfl] at this
theorem rdCount_len' (r : Rd) (most : Int) {b : Nat} (h : (r.getD []).length ≤ b) : (((rdCount r most).2).getD []).length ≤ b := by
  unfold rdCount
  split
  · simp
  · cases r with
    | none => simp [rdInt]
    | some l =>
      cases hd : dec 0 l with
      | none => simp [rdInt, hd]
      | some p =>
        simp [rdInt, hd] at h ⊢
        omega
theorem Deeds.grow' {w : World} {B B' : Nat} {v : Value} {l : List Th} (h : Deeds w B v l) (hb : B ≤ B') (hB : B' ≤ w.heap.size) : Deeds w B' v l := by
  rcases h with h | ⟨b, o, c, rfl, h1, h2, h3, h4⟩
  · exact .inl h
  · refine .inr ⟨b, o, c, rfl, h1, by omega, hB, fun j hj => ?_⟩
    obtain ⟨c1, c2, A, C, c3, c4, c5⟩ := h4 j hj
    exact ⟨c1, c2, A, C, c3, c4, fun k hk => Nat.lt_of_lt_of_le (c5 k hk) hb⟩
/- Both readers, and what they leave alone. -/
structure Two (w wr : World) (g1 g2 : Nat) (q1 q2 : Option Nat) (m : Nat) (r : Rd) : Prop where
  one : Rdr wr g1 q1 r
  two : Rdf wr g2 q2 r
  below : Below w.heap.size w wr
  far1 : w.heap.size ≤ g1 ∧ g1 < m ∧ ∀ k, q1 = some k → w.heap.size ≤ k ∧ k < m
  far2 : m ≤ g2 ∧ ∀ k, q2 = some k → m ≤ k
theorem Two.turn1 {w wr w' : World} {g1 g2 m : Nat} {q1 q2 : Option Nat} {r r' : Rd} (h : Two w wr g1 g2 q1 q2 m r) (_h1 : Rdr w' g1 q1 r') (hc : Chg (One g1) wr w') : Rdf w' g2 q2 r ∧ Below w.heap.size w w' :=
  ⟨h.two.keep hc (fun e => by have : g2 = g1 := e; have := h.far1.2.1; have := h.far2.1; omega) (fun k hk e => by have : k = g1 := e; have := h.far1.2.1; have := h.far2.2 k hk; omega),
    h.below.trans (hc.below (fun k e => by have : k = g1 := e; have := h.far1.1; omega) h.below.size)⟩
theorem Two.turn2 {w wr w' w'' : World} {g1 g2 m : Nat} {q1 q2 : Option Nat} {r r' : Rd} (h : Two w wr g1 g2 q1 q2 m r) (h1 : Rdr w' g1 q1 r') (hb : Below w.heap.size w w') (h2 : Rdf w'' g2 q2 r') (hc : Chg (One g2) w' w'') : Two w w'' g1 g2 q1 q2 m r' :=
  ⟨h1.keep hc (fun e => by have : g1 = g2 := e; have := h.far1.2.1; have := h.far2.1; omega) (fun k hk e => by have : k = g2 := e; have := (h.far1.2.2 k hk).2; have := h.far2.1; omega), h2,
    hb.trans (hc.below (fun k e => by have : k = g2 := e; have := h.far1.1; have := h.far1.2.1; have := h.far2.1; omega) hb.size), h.far1, h.far2⟩
theorem Two.drewN {w wr : World} {g1 g2 m : Nat} {q1 q2 : Option Nat} {r : Rd} (h : Two w wr g1 g2 q1 q2 m r) (n : Nat) : Two w (wr.drewN n) g1 g2 q1 q2 m r :=
  ⟨h.one.keep (Chg.drewN Non _ n) id (fun _ _ => id), h.two.keep (Chg.drewN Non _ n) id (fun _ _ => id), below_drewN h.below n, h.far1, h.far2⟩
set_option maxRecDepth 100000 in
set_option maxHeartbeats 8000000 in
theorem reads_any {w : World} {v x : Value} {l : List Th} {bs : List UInt8} (hx : Bs w x bs) (hd : Deeds w w.heap.size v l) (hl60 : l.length ≤ 9223372036854775807) (hf : ∀ y ∈ l, (-9223372036854775808 ≤ y.sort ∧ y.sort < 9223372036854775808) ∧ (-9223372036854775808 ≤ y.n ∧ y.n < 9223372036854775808)) (hb : bs.length ≤ 140737488355328) :
    Calls Try.prog 4 #[x, v] w fun e w' => e = .returned (.bool true) ∧ Below w.heap.size w w' := by
  have HX : Hid (Bs w x bs) := hx
  have HD0 : Hid (Deeds w w.heap.size v l) := hd
  obtain ⟨A, C, rfl⟩ := hd.form
  obtain ⟨AX, CX, rfl⟩ := bs_form hx
  clear hd hx
  by_cases h60 : 60 < l.length
  · obtain ⟨b0, o0, rfl, hC0, hD⟩ := HD0.out.take 60 (by omega) (by omega)
    have HF : Hid (∀ y ∈ l.take 60, (-9223372036854775808 ≤ y.sort ∧ y.sort < 9223372036854775808) ∧ (-9223372036854775808 ≤ y.n ∧ y.n < 9223372036854775808)) := fun y hy => hf y (List.mem_of_mem_take hy)
    have hL : (l.take 60).length = 60 := by rw [List.length_take]; omega
    have h60' : (60 : Int) < l.length := by omega
    have hC1 : 60 ≤ C := by omega
    generalize hLL : l.take 60 = L at *
    have HD : Hid (Deeds w w.heap.size (.slice (some ⟨b0, o0, none⟩) 60 C) L) := hD
    have HL : Hid (L.length = 60) := hL
    clear hLL HD0 hf hD
    go_enter Try.func4, Try.ntmps4
    go_wp2_with fail
    have h1 := newReader_any HX.out hb
    refine h1.mono ?_
    clear h1
    rintro e w1 ⟨g1, q1, rfl, hr1, hB1, hg1, hq1⟩
    have hX1 := HX.out.below hB1 (fun k hk => HX.out.lt hk)
    have hg1' := hr1.lt
    go_wp2_with fail
    have h2 := rfNew_any hX1 hb
    refine h2.mono ?_
    clear h2
    rintro e w2 ⟨g2, q2, rfl, hr2, hB2, hg2, hq2⟩
    have HT2 : Hid (Two w w2 g1 g2 q1 q2 w1.heap.size (some bs)) := ⟨hr1.keep (Chg.of_below hB2) id (fun _ _ => id), hr2, hB1.trans (hB2.mono hB1.size), ⟨hg1, hg1', hq1⟩, ⟨hg2, fun k hk => (hq2 k hk).1⟩⟩
    clear hr1 hr2 hX1 hq1 hq2 hB1 hB2
    go_wp2_with fail
    go_loopw [7, 8, 9] (fun i _ _ wr => ∃ (k : Nat) (r : Rd), i = .int .i64 k ∧ k ≤ L.length ∧ Two w wr g1 g2 q1 q2 w1.heap.size r) (fun i _ _ _ => L.length - (intOf i).toNat)
    case atStart => exact ⟨0, some bs, rfl, by omega, HT2.out⟩
    case round =>
      obtain ⟨k, r, rfl, hk, htw⟩ := hrel
      have HTW : Hid (Two w wr g1 g2 q1 q2 w1.heap.size r) := htw
      clear htw HT2
      by_cases hlt : k < L.length
      · obtain ⟨b, o, he, hbB, c1, c2, -⟩ := (HD.out.below HTW.out.below).at' k hlt
        cases he
        obtain ⟨⟨f1, f2⟩, f3, f4⟩ := HF.out _ (List.getElem_mem hlt)
        have hpk := pick_any (L[k]'hlt).sort 5 f1 f2 (by omega) (by omega)
        obtain ⟨p, hp1, hp2⟩ := pick_five (L[k]'hlt).sort
        rw [hp1] at hpk
        clear hp1
        generalize (L[k]'hlt) = z at *
        obtain ⟨xs, xn, xb⟩ := z
        dsimp only at *
        have hp : p = 0 ∨ p = 1 ∨ p = 2 ∨ p = 3 ∨ p = 4 := by omega
        rcases hp with rfl | rfl | rfl | rfl | rfl
        · have h6 := rByte_any HTW.out.one
          have h7 := fun {w1 : World} (hh : Rdf w1 g2 q2 r) => rfByte_any hh
          generalize rdByte r = pp at h6 h7
          obtain ⟨y, r'⟩ := pp
          dsimp only at h6 h7
          have H6 : Hid (Calls Try.prog 17 #[.pointer (some ⟨g1, 0, none⟩)] wr fun e w' => e = .returned (.int .u8 (y.toNat : Nat)) ∧ Rdr w' g1 q1 r' ∧ Chg (One g1) wr w') := h6
          have H7 : Hid (∀ {w1 : World}, Rdf w1 g2 q2 r → Calls Try.prog 18 #[.pointer (some ⟨g2, 0, none⟩)] w1 fun e w' => e = .returned (.int .u8 (y.toNat : Nat)) ∧ Rdf w' g2 q2 r' ∧ Chg (One g2) w1 w') := h7
          clear h6 h7
          have hyy : ((y.toNat : Int) == (y.toNat : Int)) = true := by simp
          go_wp2_with fail
          refine (hpk _).mono ?_
          rintro e w5 ⟨rfl, rfl⟩
          go_wp2_with fail
          refine H6.out.mono ?_
          rintro e w6 ⟨rfl, hr6, hc6⟩
          have t6 := HTW.out.turn1 hr6 hc6
          go_wp2_with fail
          refine (H7.out t6.1).mono ?_
          rintro e w7 ⟨rfl, hr7, hc7⟩
          have HT7 : Hid (Two w w7 g1 g2 q1 q2 w1.heap.size r') := HTW.out.turn2 hr6 t6.2 hr7 hc7
          clear t6 hr6 hr7 hc6 hc7
          go_wp2_with fail
          have hg1 := good_any HT7.out.one
          refine hg1.mono ?_
          clear hg1
          rintro e w8 ⟨rfl, rfl⟩
          go_wp2_with fail
          have hg2 := rfGood_any HT7.out.two
          refine hg2.mono ?_
          clear hg2
          rintro e w9 ⟨rfl, rfl⟩
          have hss : (r'.isSome != r'.isSome) = false := by simp
          go_wp2_with fail
          have hg3 := whole_any HT7.out.one
          refine hg3.mono ?_
          clear hg3
          rintro e w10 ⟨rfl, rfl⟩
          go_wp2_with fail
          have hg4 := rfWhole_any HT7.out.two
          refine hg4.mono ?_
          clear hg4
          rintro e w11 ⟨rfl, rfl⟩
          have hsw : (decide (r' = some []) != decide (r' = some [])) = false := by simp
          go_wp2
          exact ⟨⟨k + 1, r', by go_num, by omega, HT7.out⟩, by simp [intOf]; omega⟩
        · have h6 := rInt_any HTW.out.one
          have h7 := fun {w1 : World} (hh : Rdf w1 g2 q2 r) => rfInt_any hh
          generalize rdInt r = pp at h6 h7
          obtain ⟨y, r'⟩ := pp
          dsimp only at h6 h7
          have H6 : Hid (Calls Try.prog 19 #[.pointer (some ⟨g1, 0, none⟩)] wr fun e w' => e = .returned (.int .i64 y) ∧ Rdr w' g1 q1 r' ∧ Chg (One g1) wr w') := h6
          have H7 : Hid (∀ {w1 : World}, Rdf w1 g2 q2 r → Calls Try.prog 20 #[.pointer (some ⟨g2, 0, none⟩)] w1 fun e w' => e = .returned (.int .i64 y) ∧ Rdf w' g2 q2 r' ∧ Chg (One g2) w1 w') := h7
          clear h6 h7
          have hyy : (y == y) = true := by simp
          go_wp2_with fail
          refine (hpk _).mono ?_
          rintro e w5 ⟨rfl, rfl⟩
          go_wp2_with fail
          refine H6.out.mono ?_
          rintro e w6 ⟨rfl, hr6, hc6⟩
          have t6 := HTW.out.turn1 hr6 hc6
          go_wp2_with fail
          refine (H7.out t6.1).mono ?_
          rintro e w7 ⟨rfl, hr7, hc7⟩
          have HT7 : Hid (Two w w7 g1 g2 q1 q2 w1.heap.size r') := HTW.out.turn2 hr6 t6.2 hr7 hc7
          clear t6 hr6 hr7 hc6 hc7
          go_wp2_with fail
          have hg1 := good_any HT7.out.one
          refine hg1.mono ?_
          clear hg1
          rintro e w8 ⟨rfl, rfl⟩
          go_wp2_with fail
          have hg2 := rfGood_any HT7.out.two
          refine hg2.mono ?_
          clear hg2
          rintro e w9 ⟨rfl, rfl⟩
          have hss : (r'.isSome != r'.isSome) = false := by simp
          go_wp2_with fail
          have hg3 := whole_any HT7.out.one
          refine hg3.mono ?_
          clear hg3
          rintro e w10 ⟨rfl, rfl⟩
          go_wp2_with fail
          have hg4 := rfWhole_any HT7.out.two
          refine hg4.mono ?_
          clear hg4
          rintro e w11 ⟨rfl, rfl⟩
          have hsw : (decide (r' = some []) != decide (r' = some [])) = false := by simp
          go_wp2
          exact ⟨⟨k + 1, r', by go_num, by omega, HT7.out⟩, by simp [intOf]; omega⟩
        · have h6 := rText_any HTW.out.one xn
          have h7 := fun {w1 : World} (hh : Rdf w1 g2 q2 r) => rfText_any hh xn
          generalize rdText r xn = pp at h6 h7
          obtain ⟨y, r'⟩ := pp
          dsimp only at h6 h7
          have H6 : Hid (Calls Try.prog 21 #[.pointer (some ⟨g1, 0, none⟩), .int .i64 xn] wr fun e w' => e = .returned (.string (mkS y)) ∧ Rdr w' g1 q1 r' ∧ Chg (One g1) wr w') := h6
          have H7 : Hid (∀ {w1 : World}, Rdf w1 g2 q2 r → Calls Try.prog 22 #[.pointer (some ⟨g2, 0, none⟩), .int .i64 xn] w1 fun e w' => e = .returned (.string (mkS y)) ∧ Rdf w' g2 q2 r' ∧ Chg (One g2) w1 w') := h7
          clear h6 h7
          have hyy : ((mkS y).toList == (mkS y).toList) = true := by simp
          go_wp2_with fail
          refine (hpk _).mono ?_
          rintro e w5 ⟨rfl, rfl⟩
          go_wp2_with fail
          refine H6.out.mono ?_
          rintro e w6 ⟨rfl, hr6, hc6⟩
          have t6 := HTW.out.turn1 hr6 hc6
          go_wp2_with fail
          refine (H7.out t6.1).mono ?_
          rintro e w7 ⟨rfl, hr7, hc7⟩
          have HT7 : Hid (Two w w7 g1 g2 q1 q2 w1.heap.size r') := HTW.out.turn2 hr6 t6.2 hr7 hc7
          clear t6 hr6 hr7 hc6 hc7
          go_wp2_with fail
          have hg1 := good_any HT7.out.one
          refine hg1.mono ?_
          clear hg1
          rintro e w8 ⟨rfl, rfl⟩
          go_wp2_with fail
          have hg2 := rfGood_any HT7.out.two
          refine hg2.mono ?_
          clear hg2
          rintro e w9 ⟨rfl, rfl⟩
          have hss : (r'.isSome != r'.isSome) = false := by simp
          go_wp2_with fail
          have hg3 := whole_any HT7.out.one
          refine hg3.mono ?_
          clear hg3
          rintro e w10 ⟨rfl, rfl⟩
          go_wp2_with fail
          have hg4 := rfWhole_any HT7.out.two
          refine hg4.mono ?_
          clear hg4
          rintro e w11 ⟨rfl, rfl⟩
          have hsw : (decide (r' = some []) != decide (r' = some [])) = false := by simp
          go_wp2
          exact ⟨⟨k + 1, r', by go_num, by omega, HT7.out⟩, by simp [intOf]; omega⟩
        · have h6 := rBytes_any HTW.out.one xn
          have hyl : (rdText r xn).1.length ≤ 140737488355328 := by
            have hlen := rdCount_len' r xn (b := 140737488355328) (by obtain ⟨_, _, _, _, _, h⟩ := HTW.out.one; exact h)
            exact rdTake_len _ _ hlen
          have h7 := fun {w1 : World} (hh : Rdf w1 g2 q2 r) => rfBytes_any hh xn hyl
          generalize rdText r xn = pp at h6 h7 hyl
          obtain ⟨y, r'⟩ := pp
          dsimp only at h6 h7 hyl
          have H6 : Hid (Calls Try.prog 23 #[.pointer (some ⟨g1, 0, none⟩), .int .i64 xn] wr fun e w' => ∃ v wa, e = .returned v ∧ New wa w' v y ∧ Rdr w' g1 q1 r' ∧ Chg (One g1) wr w' ∧ wr.heap.size ≤ wa.heap.size) := h6
          have H7 : Hid (∀ {w1 : World}, Rdf w1 g2 q2 r → Calls Try.prog 24 #[.pointer (some ⟨g2, 0, none⟩), .int .i64 xn] w1 fun e w' => ∃ v, e = .returned v ∧ Bs w' v y ∧ Rdf w' g2 q2 r' ∧ Chg (One g2) w1 w' ∧ (∀ k, bk v = some k → w1.heap.size ≤ k)) := h7
          clear h6 h7
          go_wp2_with fail
          refine (hpk _).mono ?_
          rintro e w5 ⟨rfl, rfl⟩
          go_wp2_with fail
          refine H6.out.mono ?_
          rintro e w6 ⟨v6, w6a, rfl, hn6, hr6, hc6, hs6⟩
          have t6 := HTW.out.turn1 hr6 hc6
          have hg2lt : g2 < w5.heap.size := HTW.out.two.lt
          obtain ⟨A6, C6, rfl⟩ := bs_form hn6.bs
          go_wp2_with fail
          refine (H7.out t6.1).mono ?_
          rintro e w7a ⟨v7, rfl, hb7, hr7, hc7, _⟩
          have HT7a : Hid (Two w w7a g1 g2 q1 q2 w1.heap.size r') := HTW.out.turn2 hr6 t6.2 hr7 hc7
          have HB6 : Hid (Bs w7a (.slice A6 y.length C6) y) := hn6.bs.keep hc7 (fun k hk e => by have := (hn6.at k hk).1; have : k = g2 := e; omega)
          have HB7 : Hid (Bs w7a v7 y) := hb7
          obtain ⟨A7, C7, rfl⟩ := bs_form hb7
          clear t6 hr6 hr7 hc6 hc7 hn6 hb7
          go_wp2_with fail
          have h8 := same_yes' HB6.out HB7.out hyl
          refine h8.mono ?_
          clear h8
          rintro e w7 ⟨rfl, n7, hw7⟩
          have HT7 : Hid (Two w w7 g1 g2 q1 q2 w1.heap.size r') := by rw [hw7]; exact HT7a.out.drewN n7
          clear hw7 HB6 HB7 HT7a
          go_wp2_with fail
          have hg1 := good_any HT7.out.one
          refine hg1.mono ?_
          clear hg1
          rintro e w8 ⟨rfl, rfl⟩
          go_wp2_with fail
          have hg2 := rfGood_any HT7.out.two
          refine hg2.mono ?_
          clear hg2
          rintro e w9 ⟨rfl, rfl⟩
          have hss : (r'.isSome != r'.isSome) = false := by simp
          go_wp2_with fail
          have hg3 := whole_any HT7.out.one
          refine hg3.mono ?_
          clear hg3
          rintro e w10 ⟨rfl, rfl⟩
          go_wp2_with fail
          have hg4 := rfWhole_any HT7.out.two
          refine hg4.mono ?_
          clear hg4
          rintro e w11 ⟨rfl, rfl⟩
          have hsw : (decide (r' = some []) != decide (r' = some [])) = false := by simp
          go_wp2
          exact ⟨⟨k + 1, r', by go_num, by omega, HT7.out⟩, by simp [intOf]; omega⟩
        · have h6 := rCount_any HTW.out.one xn
          have h7 := fun {w1 : World} (hh : Rdf w1 g2 q2 r) => rfCount_any hh xn
          generalize rdCount r xn = pp at h6 h7
          obtain ⟨y, r'⟩ := pp
          dsimp only at h6 h7
          have H6 : Hid (Calls Try.prog 25 #[.pointer (some ⟨g1, 0, none⟩), .int .i64 xn] wr fun e w' => e = .returned (.int .i64 y) ∧ Rdr w' g1 q1 r' ∧ Chg (One g1) wr w') := h6
          have H7 : Hid (∀ {w1 : World}, Rdf w1 g2 q2 r → Calls Try.prog 26 #[.pointer (some ⟨g2, 0, none⟩), .int .i64 xn] w1 fun e w' => e = .returned (.int .i64 y) ∧ Rdf w' g2 q2 r' ∧ Chg (One g2) w1 w') := h7
          clear h6 h7
          have hyy : (y == y) = true := by simp
          go_wp2_with fail
          refine (hpk _).mono ?_
          rintro e w5 ⟨rfl, rfl⟩
          go_wp2_with fail
          refine H6.out.mono ?_
          rintro e w6 ⟨rfl, hr6, hc6⟩
          have t6 := HTW.out.turn1 hr6 hc6
          go_wp2_with fail
          refine (H7.out t6.1).mono ?_
          rintro e w7 ⟨rfl, hr7, hc7⟩
          have HT7 : Hid (Two w w7 g1 g2 q1 q2 w1.heap.size r') := HTW.out.turn2 hr6 t6.2 hr7 hc7
          clear t6 hr6 hr7 hc6 hc7
          go_wp2_with fail
          have hg1 := good_any HT7.out.one
          refine hg1.mono ?_
          clear hg1
          rintro e w8 ⟨rfl, rfl⟩
          go_wp2_with fail
          have hg2 := rfGood_any HT7.out.two
          refine hg2.mono ?_
          clear hg2
          rintro e w9 ⟨rfl, rfl⟩
          have hss : (r'.isSome != r'.isSome) = false := by simp
          go_wp2_with fail
          have hg3 := whole_any HT7.out.one
          refine hg3.mono ?_
          clear hg3
          rintro e w10 ⟨rfl, rfl⟩
          go_wp2_with fail
          have hg4 := rfWhole_any HT7.out.two
          refine hg4.mono ?_
          clear hg4
          rintro e w11 ⟨rfl, rfl⟩
          have hsw : (decide (r' = some []) != decide (r' = some [])) = false := by simp
          go_wp2
          exact ⟨⟨k + 1, r', by go_num, by omega, HT7.out⟩, by simp [intOf]; omega⟩
      · go_wp2_with fail
        refine (awake_any _).mono ?_
        rintro e w5 ⟨rfl, hB5⟩
        go_wp2
        go_ret
        exact ⟨rfl, HTW.out.below.trans (hB5.mono HTW.out.below.size)⟩
  · have h60' : ¬ (60 : Int) < l.length := by omega
    have HF : Hid (∀ y ∈ l, (-9223372036854775808 ≤ y.sort ∧ y.sort < 9223372036854775808) ∧ (-9223372036854775808 ≤ y.n ∧ y.n < 9223372036854775808)) := hf
    have HD : Hid (Deeds w w.heap.size (.slice A l.length C) l) := HD0.out
    clear HD0 hf
    go_enter Try.func4, Try.ntmps4
    go_wp2_with fail
    have h1 := newReader_any HX.out hb
    refine h1.mono ?_
    clear h1
    rintro e w1 ⟨g1, q1, rfl, hr1, hB1, hg1, hq1⟩
    have hX1 := HX.out.below hB1 (fun k hk => HX.out.lt hk)
    have hg1' := hr1.lt
    go_wp2_with fail
    have h2 := rfNew_any hX1 hb
    refine h2.mono ?_
    clear h2
    rintro e w2 ⟨g2, q2, rfl, hr2, hB2, hg2, hq2⟩
    have HT2 : Hid (Two w w2 g1 g2 q1 q2 w1.heap.size (some bs)) := ⟨hr1.keep (Chg.of_below hB2) id (fun _ _ => id), hr2, hB1.trans (hB2.mono hB1.size), ⟨hg1, hg1', hq1⟩, ⟨hg2, fun k hk => (hq2 k hk).1⟩⟩
    clear hr1 hr2 hX1 hq1 hq2 hB1 hB2
    go_wp2_with fail
    go_loopw [7, 8, 9] (fun i _ _ wr => ∃ (k : Nat) (r : Rd), i = .int .i64 k ∧ k ≤ l.length ∧ Two w wr g1 g2 q1 q2 w1.heap.size r) (fun i _ _ _ => l.length - (intOf i).toNat)
    case atStart => exact ⟨0, some bs, rfl, by omega, HT2.out⟩
    case round =>
      obtain ⟨k, r, rfl, hk, htw⟩ := hrel
      have HTW : Hid (Two w wr g1 g2 q1 q2 w1.heap.size r) := htw
      clear htw HT2
      by_cases hlt : k < l.length
      · obtain ⟨b, o, he, hbB, c1, c2, -⟩ := (HD.out.below HTW.out.below).at' k hlt
        subst he
        obtain ⟨⟨f1, f2⟩, f3, f4⟩ := HF.out _ (List.getElem_mem hlt)
        have hpk := pick_any (l[k]'hlt).sort 5 f1 f2 (by omega) (by omega)
        obtain ⟨p, hp1, hp2⟩ := pick_five (l[k]'hlt).sort
        rw [hp1] at hpk
        clear hp1
        generalize (l[k]'hlt) = z at *
        obtain ⟨xs, xn, xb⟩ := z
        dsimp only at *
        have hp : p = 0 ∨ p = 1 ∨ p = 2 ∨ p = 3 ∨ p = 4 := by omega
        rcases hp with rfl | rfl | rfl | rfl | rfl
        · have h6 := rByte_any HTW.out.one
          have h7 := fun {w1 : World} (hh : Rdf w1 g2 q2 r) => rfByte_any hh
          generalize rdByte r = pp at h6 h7
          obtain ⟨y, r'⟩ := pp
          dsimp only at h6 h7
          have H6 : Hid (Calls Try.prog 17 #[.pointer (some ⟨g1, 0, none⟩)] wr fun e w' => e = .returned (.int .u8 (y.toNat : Nat)) ∧ Rdr w' g1 q1 r' ∧ Chg (One g1) wr w') := h6
          have H7 : Hid (∀ {w1 : World}, Rdf w1 g2 q2 r → Calls Try.prog 18 #[.pointer (some ⟨g2, 0, none⟩)] w1 fun e w' => e = .returned (.int .u8 (y.toNat : Nat)) ∧ Rdf w' g2 q2 r' ∧ Chg (One g2) w1 w') := h7
          clear h6 h7
          have hyy : ((y.toNat : Int) == (y.toNat : Int)) = true := by simp
          go_wp2_with fail
          refine (hpk _).mono ?_
          rintro e w5 ⟨rfl, rfl⟩
          go_wp2_with fail
          refine H6.out.mono ?_
          rintro e w6 ⟨rfl, hr6, hc6⟩
          have t6 := HTW.out.turn1 hr6 hc6
          go_wp2_with fail
          refine (H7.out t6.1).mono ?_
          rintro e w7 ⟨rfl, hr7, hc7⟩
          have HT7 : Hid (Two w w7 g1 g2 q1 q2 w1.heap.size r') := HTW.out.turn2 hr6 t6.2 hr7 hc7
          clear t6 hr6 hr7 hc6 hc7
          go_wp2_with fail
          have hg1 := good_any HT7.out.one
          refine hg1.mono ?_
          clear hg1
          rintro e w8 ⟨rfl, rfl⟩
          go_wp2_with fail
          have hg2 := rfGood_any HT7.out.two
          refine hg2.mono ?_
          clear hg2
          rintro e w9 ⟨rfl, rfl⟩
          have hss : (r'.isSome != r'.isSome) = false := by simp
          go_wp2_with fail
          have hg3 := whole_any HT7.out.one
          refine hg3.mono ?_
          clear hg3
          rintro e w10 ⟨rfl, rfl⟩
          go_wp2_with fail
          have hg4 := rfWhole_any HT7.out.two
          refine hg4.mono ?_
          clear hg4
          rintro e w11 ⟨rfl, rfl⟩
          have hsw : (decide (r' = some []) != decide (r' = some [])) = false := by simp
          go_wp2
          exact ⟨⟨k + 1, r', by go_num, by omega, HT7.out⟩, by simp [intOf]; omega⟩
        · have h6 := rInt_any HTW.out.one
          have h7 := fun {w1 : World} (hh : Rdf w1 g2 q2 r) => rfInt_any hh
          generalize rdInt r = pp at h6 h7
          obtain ⟨y, r'⟩ := pp
          dsimp only at h6 h7
          have H6 : Hid (Calls Try.prog 19 #[.pointer (some ⟨g1, 0, none⟩)] wr fun e w' => e = .returned (.int .i64 y) ∧ Rdr w' g1 q1 r' ∧ Chg (One g1) wr w') := h6
          have H7 : Hid (∀ {w1 : World}, Rdf w1 g2 q2 r → Calls Try.prog 20 #[.pointer (some ⟨g2, 0, none⟩)] w1 fun e w' => e = .returned (.int .i64 y) ∧ Rdf w' g2 q2 r' ∧ Chg (One g2) w1 w') := h7
          clear h6 h7
          have hyy : (y == y) = true := by simp
          go_wp2_with fail
          refine (hpk _).mono ?_
          rintro e w5 ⟨rfl, rfl⟩
          go_wp2_with fail
          refine H6.out.mono ?_
          rintro e w6 ⟨rfl, hr6, hc6⟩
          have t6 := HTW.out.turn1 hr6 hc6
          go_wp2_with fail
          refine (H7.out t6.1).mono ?_
          rintro e w7 ⟨rfl, hr7, hc7⟩
          have HT7 : Hid (Two w w7 g1 g2 q1 q2 w1.heap.size r') := HTW.out.turn2 hr6 t6.2 hr7 hc7
          clear t6 hr6 hr7 hc6 hc7
          go_wp2_with fail
          have hg1 := good_any HT7.out.one
          refine hg1.mono ?_
          clear hg1
          rintro e w8 ⟨rfl, rfl⟩
          go_wp2_with fail
          have hg2 := rfGood_any HT7.out.two
          refine hg2.mono ?_
          clear hg2
          rintro e w9 ⟨rfl, rfl⟩
          have hss : (r'.isSome != r'.isSome) = false := by simp
          go_wp2_with fail
          have hg3 := whole_any HT7.out.one
          refine hg3.mono ?_
          clear hg3
          rintro e w10 ⟨rfl, rfl⟩
          go_wp2_with fail
          have hg4 := rfWhole_any HT7.out.two
          refine hg4.mono ?_
          clear hg4
          rintro e w11 ⟨rfl, rfl⟩
          have hsw : (decide (r' = some []) != decide (r' = some [])) = false := by simp
          go_wp2
          exact ⟨⟨k + 1, r', by go_num, by omega, HT7.out⟩, by simp [intOf]; omega⟩
        · have h6 := rText_any HTW.out.one xn
          have h7 := fun {w1 : World} (hh : Rdf w1 g2 q2 r) => rfText_any hh xn
          generalize rdText r xn = pp at h6 h7
          obtain ⟨y, r'⟩ := pp
          dsimp only at h6 h7
          have H6 : Hid (Calls Try.prog 21 #[.pointer (some ⟨g1, 0, none⟩), .int .i64 xn] wr fun e w' => e = .returned (.string (mkS y)) ∧ Rdr w' g1 q1 r' ∧ Chg (One g1) wr w') := h6
          have H7 : Hid (∀ {w1 : World}, Rdf w1 g2 q2 r → Calls Try.prog 22 #[.pointer (some ⟨g2, 0, none⟩), .int .i64 xn] w1 fun e w' => e = .returned (.string (mkS y)) ∧ Rdf w' g2 q2 r' ∧ Chg (One g2) w1 w') := h7
          clear h6 h7
          have hyy : ((mkS y).toList == (mkS y).toList) = true := by simp
          go_wp2_with fail
          refine (hpk _).mono ?_
          rintro e w5 ⟨rfl, rfl⟩
          go_wp2_with fail
          refine H6.out.mono ?_
          rintro e w6 ⟨rfl, hr6, hc6⟩
          have t6 := HTW.out.turn1 hr6 hc6
          go_wp2_with fail
          refine (H7.out t6.1).mono ?_
          rintro e w7 ⟨rfl, hr7, hc7⟩
          have HT7 : Hid (Two w w7 g1 g2 q1 q2 w1.heap.size r') := HTW.out.turn2 hr6 t6.2 hr7 hc7
          clear t6 hr6 hr7 hc6 hc7
          go_wp2_with fail
          have hg1 := good_any HT7.out.one
          refine hg1.mono ?_
          clear hg1
          rintro e w8 ⟨rfl, rfl⟩
          go_wp2_with fail
          have hg2 := rfGood_any HT7.out.two
          refine hg2.mono ?_
          clear hg2
          rintro e w9 ⟨rfl, rfl⟩
          have hss : (r'.isSome != r'.isSome) = false := by simp
          go_wp2_with fail
          have hg3 := whole_any HT7.out.one
          refine hg3.mono ?_
          clear hg3
          rintro e w10 ⟨rfl, rfl⟩
          go_wp2_with fail
          have hg4 := rfWhole_any HT7.out.two
          refine hg4.mono ?_
          clear hg4
          rintro e w11 ⟨rfl, rfl⟩
          have hsw : (decide (r' = some []) != decide (r' = some [])) = false := by simp
          go_wp2
          exact ⟨⟨k + 1, r', by go_num, by omega, HT7.out⟩, by simp [intOf]; omega⟩
        · have h6 := rBytes_any HTW.out.one xn
          have hyl : (rdText r xn).1.length ≤ 140737488355328 := by
            have hlen := rdCount_len' r xn (b := 140737488355328) (by obtain ⟨_, _, _, _, _, h⟩ := HTW.out.one; exact h)
            exact rdTake_len _ _ hlen
          have h7 := fun {w1 : World} (hh : Rdf w1 g2 q2 r) => rfBytes_any hh xn hyl
          generalize rdText r xn = pp at h6 h7 hyl
          obtain ⟨y, r'⟩ := pp
          dsimp only at h6 h7 hyl
          have H6 : Hid (Calls Try.prog 23 #[.pointer (some ⟨g1, 0, none⟩), .int .i64 xn] wr fun e w' => ∃ v wa, e = .returned v ∧ New wa w' v y ∧ Rdr w' g1 q1 r' ∧ Chg (One g1) wr w' ∧ wr.heap.size ≤ wa.heap.size) := h6
          have H7 : Hid (∀ {w1 : World}, Rdf w1 g2 q2 r → Calls Try.prog 24 #[.pointer (some ⟨g2, 0, none⟩), .int .i64 xn] w1 fun e w' => ∃ v, e = .returned v ∧ Bs w' v y ∧ Rdf w' g2 q2 r' ∧ Chg (One g2) w1 w' ∧ (∀ k, bk v = some k → w1.heap.size ≤ k)) := h7
          clear h6 h7
          go_wp2_with fail
          refine (hpk _).mono ?_
          rintro e w5 ⟨rfl, rfl⟩
          go_wp2_with fail
          refine H6.out.mono ?_
          rintro e w6 ⟨v6, w6a, rfl, hn6, hr6, hc6, hs6⟩
          have t6 := HTW.out.turn1 hr6 hc6
          have hg2lt : g2 < w5.heap.size := HTW.out.two.lt
          obtain ⟨A6, C6, rfl⟩ := bs_form hn6.bs
          go_wp2_with fail
          refine (H7.out t6.1).mono ?_
          rintro e w7a ⟨v7, rfl, hb7, hr7, hc7, _⟩
          have HT7a : Hid (Two w w7a g1 g2 q1 q2 w1.heap.size r') := HTW.out.turn2 hr6 t6.2 hr7 hc7
          have HB6 : Hid (Bs w7a (.slice A6 y.length C6) y) := hn6.bs.keep hc7 (fun k hk e => by have := (hn6.at k hk).1; have : k = g2 := e; omega)
          have HB7 : Hid (Bs w7a v7 y) := hb7
          obtain ⟨A7, C7, rfl⟩ := bs_form hb7
          clear t6 hr6 hr7 hc6 hc7 hn6 hb7
          go_wp2_with fail
          have h8 := same_yes' HB6.out HB7.out hyl
          refine h8.mono ?_
          clear h8
          rintro e w7 ⟨rfl, n7, hw7⟩
          have HT7 : Hid (Two w w7 g1 g2 q1 q2 w1.heap.size r') := by rw [hw7]; exact HT7a.out.drewN n7
          clear hw7 HB6 HB7 HT7a
          go_wp2_with fail
          have hg1 := good_any HT7.out.one
          refine hg1.mono ?_
          clear hg1
          rintro e w8 ⟨rfl, rfl⟩
          go_wp2_with fail
          have hg2 := rfGood_any HT7.out.two
          refine hg2.mono ?_
          clear hg2
          rintro e w9 ⟨rfl, rfl⟩
          have hss : (r'.isSome != r'.isSome) = false := by simp
          go_wp2_with fail
          have hg3 := whole_any HT7.out.one
          refine hg3.mono ?_
          clear hg3
          rintro e w10 ⟨rfl, rfl⟩
          go_wp2_with fail
          have hg4 := rfWhole_any HT7.out.two
          refine hg4.mono ?_
          clear hg4
          rintro e w11 ⟨rfl, rfl⟩
          have hsw : (decide (r' = some []) != decide (r' = some [])) = false := by simp
          go_wp2
          exact ⟨⟨k + 1, r', by go_num, by omega, HT7.out⟩, by simp [intOf]; omega⟩
        · have h6 := rCount_any HTW.out.one xn
          have h7 := fun {w1 : World} (hh : Rdf w1 g2 q2 r) => rfCount_any hh xn
          generalize rdCount r xn = pp at h6 h7
          obtain ⟨y, r'⟩ := pp
          dsimp only at h6 h7
          have H6 : Hid (Calls Try.prog 25 #[.pointer (some ⟨g1, 0, none⟩), .int .i64 xn] wr fun e w' => e = .returned (.int .i64 y) ∧ Rdr w' g1 q1 r' ∧ Chg (One g1) wr w') := h6
          have H7 : Hid (∀ {w1 : World}, Rdf w1 g2 q2 r → Calls Try.prog 26 #[.pointer (some ⟨g2, 0, none⟩), .int .i64 xn] w1 fun e w' => e = .returned (.int .i64 y) ∧ Rdf w' g2 q2 r' ∧ Chg (One g2) w1 w') := h7
          clear h6 h7
          have hyy : (y == y) = true := by simp
          go_wp2_with fail
          refine (hpk _).mono ?_
          rintro e w5 ⟨rfl, rfl⟩
          go_wp2_with fail
          refine H6.out.mono ?_
          rintro e w6 ⟨rfl, hr6, hc6⟩
          have t6 := HTW.out.turn1 hr6 hc6
          go_wp2_with fail
          refine (H7.out t6.1).mono ?_
          rintro e w7 ⟨rfl, hr7, hc7⟩
          have HT7 : Hid (Two w w7 g1 g2 q1 q2 w1.heap.size r') := HTW.out.turn2 hr6 t6.2 hr7 hc7
          clear t6 hr6 hr7 hc6 hc7
          go_wp2_with fail
          have hg1 := good_any HT7.out.one
          refine hg1.mono ?_
          clear hg1
          rintro e w8 ⟨rfl, rfl⟩
          go_wp2_with fail
          have hg2 := rfGood_any HT7.out.two
          refine hg2.mono ?_
          clear hg2
          rintro e w9 ⟨rfl, rfl⟩
          have hss : (r'.isSome != r'.isSome) = false := by simp
          go_wp2_with fail
          have hg3 := whole_any HT7.out.one
          refine hg3.mono ?_
          clear hg3
          rintro e w10 ⟨rfl, rfl⟩
          go_wp2_with fail
          have hg4 := rfWhole_any HT7.out.two
          refine hg4.mono ?_
          clear hg4
          rintro e w11 ⟨rfl, rfl⟩
          have hsw : (decide (r' = some []) != decide (r' = some [])) = false := by simp
          go_wp2
          exact ⟨⟨k + 1, r', by go_num, by omega, HT7.out⟩, by simp [intOf]; omega⟩
      · go_wp2_with fail
        refine (awake_any _).mono ?_
        rintro e w5 ⟨rfl, hB5⟩
        go_wp2
        go_ret
        exact ⟨rfl, HTW.out.below.trans (hB5.mono HTW.out.below.size)⟩
end Go.Proofs.Ytchmkginkmldoaa
