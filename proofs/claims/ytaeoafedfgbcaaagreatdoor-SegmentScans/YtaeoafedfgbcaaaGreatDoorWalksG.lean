/- The walks of what is taken off a reader. -/
import Derived.Test.YtaeoafedfgbcaaaGreatDoorWalksE
import Derived.Laws.DeepNot64
namespace Go.Proofs.YtaeoafedfgbcaaaGreatDoor
open Go.RowKit

theorem take_none {w : World} {g : Nat} {q : Option Nat} (h : Rdr w g q none) (n : Value) :
    Calls Tryz.prog 51 #[.pointer (some ⟨g, 0, none⟩), n] w fun e w' => e = .returned (.slice none 0 0) ∧ w' = w := by
  go_enter Tryz.func51, Tryz.ntmps51
  go_wp2_with fail
  refine (good_any h).mono ?_
  rintro e w1 ⟨rfl, rfl⟩
  go_wp2
  go_ret
  exact ⟨rfl, rfl⟩
theorem take_nil (w : World) (n : Value) : Calls Tryz.prog 51 #[.pointer none, n] w fun e w' => e = .returned (.slice none 0 0) ∧ w' = w := by
  go_enter Tryz.func51, Tryz.ntmps51
  go_wp2_with fail
  refine (good_nil _).mono ?_
  rintro e w1 ⟨rfl, rfl⟩
  go_wp2
  go_ret
  exact ⟨rfl, rfl⟩
theorem take_over {w : World} {g : Nat} {q : Option Nat} {l : List UInt8} (h : Rdr w g q (some l)) (n : Nat) (hn : l.length < n) :
    Calls Tryz.prog 51 #[.pointer (some ⟨g, 0, none⟩), .int .i64 n] w fun e w' => e = .returned (.slice none 0 0) ∧ Rdr w' g q none ∧ Chg (One g) w w' := by
  have HH : Hid (Rdr w g q (some l)) := h
  obtain ⟨v, h1, h2, _, _, hlim⟩ := h
  have hc0 := cell_at h1 0
  rw [show #[v, Value.bool (some l).isSome][0]? = some v from rfl] at hc0
  obtain ⟨A, C, rfl⟩ := bs_form h2
  clear h1 h2
  have hn' : (l.length : Int) < n := by omega
  go_enter Tryz.func51, Tryz.ntmps51
  go_wp2_with fail
  refine (good_any HH.out).mono ?_
  rintro e w1 ⟨rfl, rfl⟩
  go_wp2_with fail
  refine (fail_any HH.out).mono ?_
  rintro e w2 ⟨rfl, hr, hch⟩
  go_wp2
  go_ret
  exact ⟨rfl, hr, hch⟩
theorem Bs.head {w : World} {b o c : Nat} {l : List UInt8} (h : ∀ j (h : j < l.length), w.cell? ⟨b, o + j, none⟩ = some (.int .u8 ((l[j]'h).toNat : Int))) (hb : b < w.heap.size) (n : Nat) (hn : n ≤ l.length) (hc : n ≤ c) : Bs w (.slice (some ⟨b, o, none⟩) n c) (l.take n) := by
  refine Bs.mk b o c (by rw [List.length_take, Nat.min_eq_left hn]) (by rw [List.length_take]; omega) hb fun j hj => ?_
  have hj' : j < l.length := by rw [List.length_take] at hj; omega
  rw [h j hj', List.getElem_take]
theorem Bs.tail {w : World} {b o c m : Nat} {l : List UInt8} (h : ∀ j (h : j < l.length), w.cell? ⟨b, o + j, none⟩ = some (.int .u8 ((l[j]'h).toNat : Int))) (hb : b < w.heap.size) (n : Nat) (hm : m = l.length - n) (hc : m ≤ c) : Bs w (.slice (some ⟨b, o + n, none⟩) m c) (l.drop n) := by
  subst hm
  refine Bs.mk b (o + n) c (by rw [List.length_drop]) (by rw [List.length_drop]; exact hc) hb fun j hj => ?_
  rw [List.length_drop] at hj
  rw [show o + n + j = o + (n + j) by omega, h (n + j) (by omega), List.getElem_drop]
theorem Bs.none' {w : World} {ad : Addr} {c : Nat} : Bs w (.slice (some ad) 0 c) [] := .inr (.inl ⟨_, c, rfl, rfl⟩)
set_option maxRecDepth 100000 in
theorem take_in {w : World} {g : Nat} {q : Option Nat} {l : List UInt8} (h : Rdr w g q (some l)) (n : Nat) (hn : n ≤ l.length) :
    Calls Tryz.prog 51 #[.pointer (some ⟨g, 0, none⟩), .int .i64 n] w fun e w' => ∃ v, e = .returned v ∧ Bs w' v (l.take n) ∧ (∀ k, bk v = some k → q = some k) ∧ Rdr w' g q (some (l.drop n)) ∧ Chg (One g) w w' := by
  have HH : Hid (Rdr w g q (some l)) := h
  obtain ⟨v, h1, h2, h3, h4, hlim⟩ := h
  have hc0 := cell_at h1 0
  have hf0 := frozen_at h1 0
  rw [show #[v, Value.bool (some l).isSome][0]? = some v from rfl] at hc0
  have H3 : Hid (∀ k, bk v = some k → q = some k) := h3
  have H4 : Hid (q ≠ some g) := h4
  clear h1 h3 h4
  change Bs w v l at h2
  change l.length ≤ _ at hlim
  rcases h2 with ⟨rfl, rfl⟩ | ⟨ad, c, rfl, rfl⟩ | ⟨hpos, b, o, c, rfl, hc, hb, hcl⟩
  · have : n = 0 := by simpa using hn
    subst this
    go_enter Tryz.func51, Tryz.ntmps51
    go_wp2_with fail
    refine (good_any HH.out).mono ?_
    rintro e w1 ⟨rfl, rfl⟩
    go_wp2
    go_ret
    have := HH.out.turn1 (.slice none 0 0) [] (Bs.nil _) (fun k hk => absurd hk (bk_zero _ _ _)) (by simp)
    exact ⟨.slice none 0 0, rfl, Bs.nil _, (fun k hk => absurd hk (bk_zero _ _ _)), this.1, this.2⟩
  · have : n = 0 := by simpa using hn
    subst this
    go_enter Tryz.func51, Tryz.ntmps51
    go_wp2_with fail
    refine (good_any HH.out).mono ?_
    rintro e w1 ⟨rfl, rfl⟩
    go_wp2
    go_ret
    have := HH.out.turn1 (.slice (some ad) 0 0) [] Bs.none' (fun k hk => absurd hk (bk_zero _ _ _)) (by simp)
    exact ⟨.slice (some ad) 0 0, rfl, Bs.none', (fun k hk => absurd hk (bk_zero _ _ _)), this.1, this.2⟩
  · have hn' : ¬ ((l.length : Int) < n) := by omega
    have HC : Hid (∀ j (h : j < l.length), w.cell? ⟨b, o + j, none⟩ = some (.int .u8 ((l[j]'h).toNat : Int))) := hcl
    clear hcl
    by_cases hz : n < l.length
    · go_enter Tryz.func51, Tryz.ntmps51
      go_wp2_with fail
      refine (good_any HH.out).mono ?_
      rintro e w1 ⟨rfl, rfl⟩
      go_wp2
      go_ret
      have hB := Bs.tail HC.out hb n (m := l.length - n) (c := l.length - n) rfl (Nat.le_refl _)
      have hq3 : q = some b := H3.out b (bk_pos hpos)
      have ht := HH.out.turn1 _ _ hB (fun k hk => by rw [hq3]; exact bk_blk hk) (by rw [List.length_drop]; omega)
      exact ⟨.slice (some ⟨b, o, none⟩) n n, rfl, (Bs.head HC.out hb n hn (Nat.le_refl _)).keep ht.2 (fun k hk e => H4.out (by rw [hq3, ← e]; exact bk_blk hk)), (fun k hk => by rw [hq3]; exact bk_blk hk), ht.1, ht.2⟩
    · have : n = l.length := by omega
      subst this
      go_enter Tryz.func51, Tryz.ntmps51
      go_wp2_with fail
      refine (good_any HH.out).mono ?_
      rintro e w1 ⟨rfl, rfl⟩
      go_wp2
      go_ret
      have hB : ∀ o', Bs w1 (.slice (some ⟨b, o', none⟩) 0 0) (l.drop l.length) := fun o' => by rw [List.drop_length]; exact Bs.none'
      have hq3 : q = some b := H3.out b (bk_pos hpos)
      have ht := HH.out.turn1 (.slice (some ⟨b, o, none⟩) 0 0) (l.drop l.length) (hB o) (fun k hk => absurd hk (bk_zero _ _ _)) (by rw [List.length_drop]; omega)
      exact ⟨.slice (some ⟨b, o, none⟩) l.length l.length, rfl, (Bs.head HC.out hb l.length hn (Nat.le_refl _)).keep ht.2 (fun k hk e => H4.out (by rw [hq3, ← e]; exact bk_blk hk)), (fun k hk => by rw [hq3]; exact bk_blk hk), ht.1, ht.2⟩
theorem take_any {w : World} {g : Nat} {q : Option Nat} {r : Rd} (h : Rdr w g q r) (n : Nat) :
    Calls Tryz.prog 51 #[.pointer (some ⟨g, 0, none⟩), .int .i64 n] w fun e w' => ∃ v, e = .returned v ∧ Bs w' v (rdTake r n).1 ∧ (∀ k, bk v = some k → q = some k) ∧ Rdr w' g q (rdTake r n).2 ∧ Chg (One g) w w' := by
  cases r with
  | none =>
    refine (take_none h _).mono ?_
    rintro e w' ⟨rfl, rfl⟩
    exact ⟨_, rfl, Bs.nil _, (fun k hk => absurd hk (bk_zero _ _ _)), h, Chg.refl _ _⟩
  | some l =>
    unfold rdTake
    dsimp only
    by_cases hn : l.length < n
    · rw [if_pos hn]
      refine (take_over h n hn).mono ?_
      rintro e w' ⟨rfl, hr, hc⟩
      exact ⟨_, rfl, Bs.nil _, (fun k hk => absurd hk (bk_zero _ _ _)), hr, hc⟩
    · rw [if_neg hn]
      exact take_in h n (by omega)

theorem rByte_any {w : World} {g : Nat} {q : Option Nat} {r : Rd} (h : Rdr w g q r) :
    Calls Tryz.prog 23 #[.pointer (some ⟨g, 0, none⟩)] w fun e w' => e = .returned (.int .u8 ((rdByte r).1.toNat : Nat)) ∧ Rdr w' g q (rdByte r).2 ∧ Chg (One g) w w' := by
  have ht := take_any h 1
  have hcase : (∃ x t, r = some (x :: t)) ∨ (rdByte r = (0, none) ∧ rdTake r 1 = ([], none)) := by
    rcases r with _ | _ | ⟨x, t⟩
    · exact .inr ⟨rfl, rfl⟩
    · exact .inr ⟨rfl, rfl⟩
    · exact .inl ⟨x, t, rfl⟩
  have HT : Hid (Calls Tryz.prog 51 #[.pointer (some ⟨g, 0, none⟩), .int .i64 (1 : Nat)] w fun e w' => ∃ v, e = .returned v ∧ Bs w' v (rdTake r 1).1 ∧ (∀ k, bk v = some k → q = some k) ∧ Rdr w' g q (rdTake r 1).2 ∧ Chg (One g) w w') := ht
  clear ht h
  rcases hcase with ⟨x, t, rfl⟩ | ⟨e1, e2⟩
  · have e2 : rdTake (some (x :: t)) 1 = ([x], some t) := by simp [rdTake]
    rw [e2] at HT
    clear e2
    go_enter Tryz.func23, Tryz.ntmps23
    go_wp2_with fail
    refine HT.out.mono ?_
    rintro e w1 ⟨v, rfl, hb, _, hr, hc⟩
    rcases hb with ⟨_, h0⟩ | ⟨_, _, _, h0⟩ | ⟨_, b, o, c, rfl, hcap, hlt, hcl⟩
    · cases h0
    · cases h0
    · have hc0 := hcl 0 (by simp)
      simp only [Nat.add_zero, List.getElem_cons_zero] at hc0
      have hcap' : 1 ≤ c := hcap
      clear hcl HT hcap
      go_wp2
      go_ret
      exact ⟨rfl, hr, hc⟩
  · rw [e1]
    rw [e2] at HT
    go_enter Tryz.func23, Tryz.ntmps23
    go_wp2_with fail
    refine HT.out.mono ?_
    rintro e w1 ⟨v, rfl, hb, _, hr, hc⟩
    obtain ⟨A, C, rfl⟩ := bs_form hb
    go_wp2
    go_ret
    exact ⟨rfl, hr, hc⟩
theorem rByte_nil (w : World) : Calls Tryz.prog 23 #[.pointer none] w fun e w' => e = .returned (.int .u8 0) ∧ w' = w := by
  go_enter Tryz.func23, Tryz.ntmps23
  go_wp2_with fail
  refine (take_nil _ _).mono ?_
  rintro e w1 ⟨rfl, rfl⟩
  go_wp2
  go_ret
  exact ⟨rfl, rfl⟩
theorem rInt_none {w : World} {g : Nat} {q : Option Nat} (h : Rdr w g q none) : Calls Tryz.prog 24 #[.pointer (some ⟨g, 0, none⟩)] w fun e w' => e = .returned (.int .i64 0) ∧ w' = w := by
  go_enter Tryz.func24, Tryz.ntmps24
  go_wp2_with fail
  refine (good_any h).mono ?_
  rintro e w1 ⟨rfl, rfl⟩
  go_wp2
  go_ret
  exact ⟨rfl, rfl⟩
theorem rInt_nil (w : World) : Calls Tryz.prog 24 #[.pointer none] w fun e w' => e = .returned (.int .i64 0) ∧ w' = w := by
  go_enter Tryz.func24, Tryz.ntmps24
  go_wp2_with fail
  refine (good_nil _).mono ?_
  rintro e w1 ⟨rfl, rfl⟩
  go_wp2
  go_ret
  exact ⟨rfl, rfl⟩
theorem rInt_bad {w : World} {g : Nat} {q : Option Nat} {l : List UInt8} (h : Rdr w g q (some l)) (hd : dec 0 l = none) : Calls Tryz.prog 24 #[.pointer (some ⟨g, 0, none⟩)] w fun e w' => e = .returned (.int .i64 0) ∧ Rdr w' g q none ∧ Chg (One g) w w' := by
  have HH : Hid (Rdr w g q (some l)) := h
  obtain ⟨v, h1, h2, _, _, hlim⟩ := h
  have hc0 := cell_at h1 0
  rw [show #[v, Value.bool (some l).isSome][0]? = some v from rfl] at hc0
  have hdg := digits_any h2 hlim
  change Calls Tryz.prog 54 #[v] w fun e w' => e = .returned (.tuple #[.int .u64 (((dec 0 l).getD (0, 0)).1 : Nat), .int .i64 (((dec 0 l).getD (0, 0)).2 : Nat)]) ∧ w' = w at hdg
  rw [hd] at hdg
  obtain ⟨A, C, rfl⟩ := bs_form h2
  clear h1 h2 hd
  go_enter Tryz.func24, Tryz.ntmps24
  go_wp2_with fail
  refine (good_any HH.out).mono ?_
  rintro e w1 ⟨rfl, rfl⟩
  go_wp2_with fail
  refine hdg.mono ?_
  rintro e w1 ⟨rfl, rfl⟩
  go_wp2_with fail
  refine (fail_any HH.out).mono ?_
  rintro e w2 ⟨rfl, hr, hch⟩
  go_wp2
  go_ret
  exact ⟨rfl, hr, hch⟩
end Go.Proofs.YtaeoafedfgbcaaaGreatDoor
/- The walks of a reader's numbers, texts and rows of bytes. -/
namespace Go.Proofs.YtaeoafedfgbcaaaGreatDoor
open Go.RowKit

theorem i64_xor_zero (a : Nat) (ha : a < 9223372036854775808) : bits .xor .i64 (a : Int) 0 = (a : Int) := by
  show IntKind.i64.wrap ((BitVec.ofInt 64 (a : Int) ^^^ BitVec.ofInt 64 0).toNat : Int) = _
  have h1 : BitVec.ofInt 64 0 = 0#64 := by decide
  rw [h1, BitVec.xor_zero, ofInt_u64 a (by omega)]
  simp [IntKind.wrap, IntKind.bits, IntKind.signed]
  omega
theorem i64_xor_ones (a : Nat) (ha : a < 9223372036854775808) : bits .xor .i64 (a : Int) (-1) = -1 - (a : Int) := by
  rw [← i64_not a ha]
  show IntKind.i64.wrap ((BitVec.ofInt 64 (a : Int) ^^^ BitVec.ofInt 64 (-1)).toNat : Int) = IntKind.i64.wrap ((BitVec.ofInt 64 (-1) ^^^ BitVec.ofInt 64 (a : Int)).toNat : Int)
  rw [BitVec.xor_comm]
theorem unzz_bits (u : Nat) (h : u < 18446744073709551616) : bits BinOp.xor IntKind.i64 ((u : Int) / 2) (wrap64 (-wrap64 (bits BinOp.and IntKind.u64 (u : Int) 1))) = unzz u := by
  have e1 : bits BinOp.and IntKind.u64 (u : Int) 1 = ((u % 2 : Nat) : Int) := by
    have := bits_and_u64_nat u 1 h (by omega)
    rw [Nat.and_one_is_mod] at this
    exact this
  rw [e1, show ((u : Int) / 2) = ((u / 2 : Nat) : Int) by omega]
  unfold unzz
  rcases Nat.mod_two_eq_zero_or_one u with e | e <;> rw [e]
  · rw [show wrap64 (-wrap64 ((0 : Nat) : Int)) = 0 by decide +kernel, i64_xor_zero _ (by omega), if_neg (by omega)]
  · rw [show wrap64 (-wrap64 ((1 : Nat) : Int)) = -1 by decide +kernel, i64_xor_ones _ (by omega), if_pos rfl]
    omega
set_option maxRecDepth 100000 in
theorem rInt_good {w : World} {g : Nat} {q : Option Nat} {l : List UInt8} (h : Rdr w g q (some l)) (u s : Nat) (hd : dec 0 l = some (u, s)) : Calls Tryz.prog 24 #[.pointer (some ⟨g, 0, none⟩)] w fun e w' => e = .returned (.int .i64 (unzz u)) ∧ Rdr w' g q (some (l.drop s)) ∧ Chg (One g) w w' := by
  have HH : Hid (Rdr w g q (some l)) := h
  obtain ⟨v, h1, h2, -, -, hlim⟩ := h
  have hc0 := cell_at h1 0
  rw [show #[v, Value.bool (some l).isSome][0]? = some v from rfl] at hc0
  have hdg := digits_any h2 hlim
  change Calls Tryz.prog 54 #[v] w fun e w' => e = .returned (.tuple #[.int .u64 (((dec 0 l).getD (0, 0)).1 : Nat), .int .i64 (((dec 0 l).getD (0, 0)).2 : Nat)]) ∧ w' = w at hdg
  rw [hd] at hdg
  change Calls Tryz.prog 54 #[v] w fun e w' => e = .returned (.tuple #[.int .u64 (u : Nat), .int .i64 (s : Nat)]) ∧ w' = w at hdg
  obtain ⟨d1, -, -, -, d5, d6, -⟩ := dec_some l 0 u s (by omega) hd
  rw [cap_vals.1] at d1
  obtain ⟨A, C, rfl⟩ := bs_form h2
  have hs0 : ¬ ((s : Int) = 0) := by omega
  clear h1 h2 hd
  go_enter Tryz.func24, Tryz.ntmps24
  go_wp2_with fail
  refine (good_any HH.out).mono ?_
  rintro e w1 ⟨rfl, rfl⟩
  go_wp2_with fail
  refine hdg.mono ?_
  rintro e w1 ⟨rfl, rfl⟩
  go_wp2_with fail
  refine (take_in HH.out s d5).mono ?_
  rintro e w2 ⟨v2, rfl, _, _, hr, hch⟩
  clear hc0
  go_wp2
  go_ret
  refine ⟨?_, hr, hch⟩
  exact congrArg (fun z => Ending.returned (.int .i64 z)) (unzz_bits u d1)
theorem rInt_any {w : World} {g : Nat} {q : Option Nat} {r : Rd} (h : Rdr w g q r) : Calls Tryz.prog 24 #[.pointer (some ⟨g, 0, none⟩)] w fun e w' => e = .returned (.int .i64 (rdInt r).1) ∧ Rdr w' g q (rdInt r).2 ∧ Chg (One g) w w' := by
  cases r with
  | none =>
    refine (rInt_none h).mono ?_
    rintro e w' ⟨rfl, rfl⟩
    exact ⟨rfl, h, Chg.refl _ _⟩
  | some l =>
    cases hd : dec 0 l with
    | none =>
      rw [show rdInt (some l) = (0, none) by simp [rdInt, hd]]
      exact rInt_bad h hd
    | some p =>
      obtain ⟨u, s⟩ := p
      rw [show rdInt (some l) = (unzz u, some (l.drop s)) by simp [rdInt, hd]]
      exact rInt_good h u s hd
theorem rdInt_range (r : Rd) : -9223372036854775808 ≤ (rdInt r).1 ∧ (rdInt r).1 < 9223372036854775808 := by
  cases r with
  | none => simp [rdInt]
  | some l =>
    cases hd : dec 0 l with
    | none => simp [rdInt, hd]
    | some p =>
      obtain ⟨u, s⟩ := p
      obtain ⟨d1, -⟩ := dec_some l 0 u s (by omega) hd
      rw [cap_vals.1] at d1
      simp only [rdInt, hd]
      exact unzz_range u d1
set_option maxRecDepth 100000 in
theorem rCount_any {w : World} {g : Nat} {q : Option Nat} {r : Rd} (h : Rdr w g q r) (most : Int) :
    Calls Tryz.prog 59 #[.pointer (some ⟨g, 0, none⟩), .int .i64 most] w fun e w' => e = .returned (.int .i64 (rdCount r most).1) ∧ Rdr w' g q (rdCount r most).2 ∧ Chg (One g) w w' := by
  have hi := rInt_any h
  have hrg := rdInt_range r
  have hz : (rdInt r).2 = none → (rdInt r).1 = 0 := by
    cases r with
    | none => intro _; rfl
    | some l =>
      cases hd : dec 0 l with
      | none => simp [rdInt, hd]
      | some p => simp [rdInt, hd]
  unfold rdCount
  generalize rdInt r = p at hi hrg hz
  obtain ⟨n, r'⟩ := p
  dsimp only at hi hrg hz ⊢
  have HI : Hid (Calls Tryz.prog 24 #[.pointer (some ⟨g, 0, none⟩)] w fun e w' => e = .returned (.int .i64 n) ∧ Rdr w' g q r' ∧ Chg (One g) w w') := hi
  clear hi h
  cases r' with
  | none =>
    have hn := hz rfl
    subst hn
    clear hz hrg
    have : (if (0 : Int) < 0 ∨ most < 0 then ((0 : Int), (none : Rd)) else (0, none)) = (0, none) := by split <;> rfl
    rw [this]
    clear this
    go_enter Tryz.func59, Tryz.ntmps59
    go_wp2_with fail
    refine HI.out.mono ?_
    rintro e w1 ⟨rfl, hr, hc⟩
    go_wp2_with fail
    refine (good_any hr).mono ?_
    rintro e w2 ⟨rfl, rfl⟩
    go_wp2
    go_ret
    exact ⟨rfl, hr, hc⟩
  | some l =>
    clear hz
    obtain ⟨hr1, hr2⟩ := hrg
    by_cases hb : n < 0 ∨ most < n
    · rw [if_pos hb]
      have hbb : (n < 0) ∨ (¬ n < 0 ∧ most < n) := by omega
      clear hb
      rcases hbb with hb | ⟨hb, hb2⟩
      · go_enter Tryz.func59, Tryz.ntmps59
        go_wp2_with fail
        refine HI.out.mono ?_
        rintro e w1 ⟨rfl, hr, hc⟩
        go_wp2_with fail
        refine (good_any hr).mono ?_
        rintro e w2 ⟨rfl, rfl⟩
        go_wp2_with fail
        refine (fail_any hr).mono ?_
        rintro e w3 ⟨rfl, hr3, hc3⟩
        go_wp2
        go_ret
        exact ⟨rfl, hr3, hc.trans hc3⟩
      · go_enter Tryz.func59, Tryz.ntmps59
        go_wp2_with fail
        refine HI.out.mono ?_
        rintro e w1 ⟨rfl, hr, hc⟩
        go_wp2_with fail
        refine (good_any hr).mono ?_
        rintro e w2 ⟨rfl, rfl⟩
        go_wp2_with fail
        refine (fail_any hr).mono ?_
        rintro e w3 ⟨rfl, hr3, hc3⟩
        go_wp2
        go_ret
        exact ⟨rfl, hr3, hc.trans hc3⟩
    · rw [if_neg hb]
      have hb1 : ¬ n < 0 := by omega
      have hb2 : ¬ most < n := by omega
      clear hb
      go_enter Tryz.func59, Tryz.ntmps59
      go_wp2_with fail
      refine HI.out.mono ?_
      rintro e w1 ⟨rfl, hr, hc⟩
      go_wp2_with fail
      refine (good_any hr).mono ?_
      rintro e w2 ⟨rfl, rfl⟩
      go_wp2
      go_ret
      exact ⟨rfl, hr, hc⟩
theorem rCount_nil (w : World) (m : Value) : Calls Tryz.prog 59 #[.pointer none, m] w fun e w' => e = .returned (.int .i64 0) ∧ w' = w := by
  go_enter Tryz.func59, Tryz.ntmps59
  go_wp2_with fail
  refine (rInt_nil _).mono ?_
  rintro e w1 ⟨rfl, rfl⟩
  go_wp2_with fail
  refine (good_nil _).mono ?_
  rintro e w1 ⟨rfl, rfl⟩
  go_wp2
  go_ret
  exact ⟨rfl, rfl⟩
theorem rdCount_pos (r : Rd) (most : Int) : 0 ≤ (rdCount r most).1 := by
  unfold rdCount
  split
  · simp
  · omega
theorem convert_bytes {w : World} {x : Value} {l : List UInt8} (h : Bs w x l) : (convert 22 9 x).run Tryz.prog w = .ok (.string (mkS l)) w := by
  rcases h with ⟨rfl, rfl⟩ | ⟨ad, c, rfl, rfl⟩ | ⟨_, b, o, c, rfl, _, _, h3⟩
  · rw [run_convert_bytes_string w 22 9 5 none 0 0 Tryz.underlying22 Tryz.underlying5 Tryz.underlying9]
    rfl
  · exact run_convert_bytes_back w 22 9 5 ad c [] Tryz.underlying22 Tryz.underlying5 Tryz.underlying9 (fun j hj => by simp at hj)
  · refine run_convert_bytes_back w 22 9 5 ⟨b, o, none⟩ c l Tryz.underlying22 Tryz.underlying5 Tryz.underlying9 (fun j hj => ?_)
    rw [show (⟨b, o, none⟩ : Addr).add j = ⟨b, o + j, none⟩ by simp only [Addr.add]; split <;> simp_all]
    exact h3 j hj
theorem rText_any {w : World} {g : Nat} {q : Option Nat} {r : Rd} (h : Rdr w g q r) (most : Int) :
    Calls Tryz.prog 56 #[.pointer (some ⟨g, 0, none⟩), .int .i64 most] w fun e w' => e = .returned (.string (mkS (rdText r most).1)) ∧ Rdr w' g q (rdText r most).2 ∧ Chg (One g) w w' := by
  have hi := rCount_any h most
  have hp := rdCount_pos r most
  unfold rdText
  generalize rdCount r most = p at hi hp
  obtain ⟨n, r'⟩ := p
  dsimp only at hi hp ⊢
  obtain ⟨m, rfl⟩ := Int.eq_ofNat_of_zero_le hp
  rw [Int.toNat_natCast]
  have HI : Hid (Calls Tryz.prog 59 #[.pointer (some ⟨g, 0, none⟩), .int .i64 most] w fun e w' => e = .returned (.int .i64 (m : Nat)) ∧ Rdr w' g q r' ∧ Chg (One g) w w') := hi
  clear hi h
  go_enter Tryz.func56, Tryz.ntmps56
  go_wp2_with fail
  refine HI.out.mono ?_
  rintro e w1 ⟨rfl, hr, hc⟩
  go_wp2_with fail
  refine (take_any hr m).mono ?_
  rintro e w2 ⟨v, rfl, hb, _, hr2, hc2⟩
  have hcv := convert_bytes hb
  go_wp2
  go_ret
  exact ⟨rfl, hr2, hc.trans hc2⟩
theorem rText_nil (w : World) (m : Value) : Calls Tryz.prog 56 #[.pointer none, m] w fun e w' => e = .returned (.string (mkS [])) ∧ w' = w := by
  have hcv := fun w => convert_bytes (Bs.nil w)
  go_enter Tryz.func56, Tryz.ntmps56
  go_wp2_with fail
  refine (rCount_nil _ _).mono ?_
  rintro e w1 ⟨rfl, rfl⟩
  go_wp2_with fail
  refine (take_nil _ _).mono ?_
  rintro e w1 ⟨rfl, rfl⟩
  go_wp2
  go_ret
  exact ⟨rfl, rfl⟩
theorem rdTake_len (r : Rd) (n : Nat) {b : Nat} (h : (r.getD []).length ≤ b) : (rdTake r n).1.length ≤ b := by
  cases r with
  | none => simp [rdTake]
  | some l =>
    unfold rdTake
    dsimp only at h ⊢
    split
    · simp
    · simp [List.length_take] at h ⊢; omega
theorem rBytes_any {w : World} {g : Nat} {q : Option Nat} {r : Rd} (h : Rdr w g q r) (most : Int) :
    Calls Tryz.prog 57 #[.pointer (some ⟨g, 0, none⟩), .int .i64 most] w fun e w' => ∃ v w1, e = .returned v ∧ New w1 w' v (rdText r most).1 ∧ Rdr w' g q (rdText r most).2 ∧ Chg (One g) w w' ∧ w.heap.size ≤ w1.heap.size := by
  have hi := rCount_any h most
  have hp := rdCount_pos r most
  unfold rdText
  generalize rdCount r most = p at hi hp
  obtain ⟨n, r'⟩ := p
  dsimp only at hi hp ⊢
  obtain ⟨m, rfl⟩ := Int.eq_ofNat_of_zero_le hp
  rw [Int.toNat_natCast]
  have HI : Hid (Calls Tryz.prog 59 #[.pointer (some ⟨g, 0, none⟩), .int .i64 most] w fun e w' => e = .returned (.int .i64 (m : Nat)) ∧ Rdr w' g q r' ∧ Chg (One g) w w') := hi
  clear hi h
  go_enter Tryz.func57, Tryz.ntmps57
  go_wp2_with fail
  refine HI.out.mono ?_
  rintro e w1 ⟨rfl, hr, hc⟩
  have hlen : (rdTake r' m).1.length ≤ 140737488355328 := rdTake_len r' m (by obtain ⟨_, _, _, _, _, h⟩ := hr; exact h)
  go_wp2_with fail
  refine (take_any hr m).mono ?_
  rintro e w2 ⟨v, rfl, hb, _, hr2, hc2⟩
  go_wp2_with fail
  refine (clone_any hb hlen).mono ?_
  rintro e w3 ⟨v3, rfl, hv3⟩
  obtain ⟨A, C, rfl⟩ := bs_form hv3.bs
  go_wp2
  go_ret
  exact ⟨_, w2, rfl, hv3, hr2.keep (Chg.of_below hv3.below) id (fun _ _ => id), (hc.trans hc2).trans ((Chg.of_below hv3.below).weak (fun _ _ h => h.elim)), Nat.le_trans hc.size hc2.size⟩
theorem rBytes_nil (w : World) (m : Value) : Calls Tryz.prog 57 #[.pointer none, m] w fun e w' => ∃ v, e = .returned v ∧ New w w' v [] := by
  go_enter Tryz.func57, Tryz.ntmps57
  go_wp2_with fail
  refine (rCount_nil _ _).mono ?_
  rintro e w1 ⟨rfl, rfl⟩
  go_wp2_with fail
  refine (take_nil _ _).mono ?_
  rintro e w1 ⟨rfl, rfl⟩
  go_wp2_with fail
  refine (clone_any (Bs.nil _) (by simp)).mono ?_
  rintro e w3 ⟨v3, rfl, hv3⟩
  go_wp2
  go_ret
  exact ⟨_, rfl, hv3⟩
end Go.Proofs.YtaeoafedfgbcaaaGreatDoor
