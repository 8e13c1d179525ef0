/- The walks of a reader's numbers, texts and rows of bytes. -/
import Derived.Laws.DeepNot64
import Derived.Test.YtbcfeeahlhoggaaDoorWalksF
namespace Go.Proofs.YtbcfeeahlhoggaaDoor
open Go.RowKit

theorem i64_xor_zero (a : Nat) (ha : a < 9223372036854775808) : bits .xor .i64 (a : Int) 0 = (a : Int) := by
  show IntKind.i64.wrap ((BitVec.ofInt 64 (a : Int) ^^^ BitVec.ofInt 64 0).toNat : Int) = _
  have h1 : BitVec.ofInt 64 0 = 0#64 := by decide
  rw [h1, BitVec.xor_zero, ofInt_u64 a (by omega)]
  simp [IntKind.wrap, IntKind.bits, IntKind.signed]
  omega
theorem i64_xor_ones (a : Nat) (ha : a < 9223372036854775808) : bits .xor .i64 (a : Int) (-1) = -1 - (a : Int) := by
  rw [← i64_not a ha]
  show IntKind.i64.wrap ((BitVec.ofInt 64 (a : Int) ^^^ BitVec.ofInt 64 (-1)).toNat : Int) = IntKind.i64.wrap ((BitVec.ofInt 64 (-1) ^^^ BitVec.ofInt 64 (a : Int)).toNat : Int)
  rw [BitVec.xor_comm]
theorem unzz_bits (u : Nat) (h : u < 18446744073709551616) : bits BinOp.xor IntKind.i64 ((u : Int) / 2) (wrap64 (-wrap64 (bits BinOp.and IntKind.u64 (u : Int) 1))) = unzz u := by
  have e1 : bits BinOp.and IntKind.u64 (u : Int) 1 = ((u % 2 : Nat) : Int) := by
    have := bits_and_u64_nat u 1 h (by omega)
    rw [Nat.and_one_is_mod] at this
    exact this
  rw [e1, show ((u : Int) / 2) = ((u / 2 : Nat) : Int) by omega]
  unfold unzz
  rcases Nat.mod_two_eq_zero_or_one u with e | e <;> rw [e]
  · rw [show wrap64 (-wrap64 ((0 : Nat) : Int)) = 0 by decide +kernel, i64_xor_zero _ (by omega), if_neg (by omega)]
  · rw [show wrap64 (-wrap64 ((1 : Nat) : Int)) = -1 by decide +kernel, i64_xor_ones _ (by omega), if_pos rfl]
    omega
set_option maxRecDepth 100000 in
theorem rInt_good {w : World} {g : Nat} {q : Option Nat} {l : List UInt8} (h : Rdr w g q (some l)) (u s : Nat) (hd : dec 0 l = some (u, s)) : Calls Tryd.prog 35 #[.pointer (some ⟨g, 0, none⟩)] w fun e w' => e = .returned (.int .i64 (unzz u)) ∧ Rdr w' g q (some (l.drop s)) ∧ Chg (One g) w w' := by
  have HH : Hid (Rdr w g q (some l)) := h
  obtain ⟨v, h1, h2, -, -, hlim⟩ := h
  have hc0 := cell_at h1 0
  rw [show #[v, Value.bool (some l).isSome][0]? = some v from rfl] at hc0
  have hdg := digits_any h2 hlim
  change Calls Tryd.prog 53 #[v] w fun e w' => e = .returned (.tuple #[.int .u64 (((dec 0 l).getD (0, 0)).1 : Nat), .int .i64 (((dec 0 l).getD (0, 0)).2 : Nat)]) ∧ w' = w at hdg
  rw [hd] at hdg
  change Calls Tryd.prog 53 #[v] w fun e w' => e = .returned (.tuple #[.int .u64 (u : Nat), .int .i64 (s : Nat)]) ∧ w' = w at hdg
  obtain ⟨d1, -, -, -, d5, d6, -⟩ := dec_some l 0 u s (by omega) hd
  rw [cap_vals.1] at d1
  obtain ⟨A, C, rfl⟩ := bs_form h2
  have hs0 : ¬ ((s : Int) = 0) := by omega
  clear h1 h2 hd
  go_enter Tryd.func35, Tryd.ntmps35
  go_wp2_with fail
  refine (good_any HH.out).mono ?_
  rintro e w1 ⟨rfl, rfl⟩
  go_wp2_with fail
  refine hdg.mono ?_
  rintro e w1 ⟨rfl, rfl⟩
  go_wp2_with fail
  refine (take_in HH.out s d5).mono ?_
  rintro e w2 ⟨v2, rfl, _, _, hr, hch⟩
  clear hc0
  go_wp2
  go_ret
  refine ⟨?_, hr, hch⟩
  exact congrArg (fun z => Ending.returned (.int .i64 z)) (unzz_bits u d1)
theorem rInt_any {w : World} {g : Nat} {q : Option Nat} {r : Rd} (h : Rdr w g q r) : Calls Tryd.prog 35 #[.pointer (some ⟨g, 0, none⟩)] w fun e w' => e = .returned (.int .i64 (rdInt r).1) ∧ Rdr w' g q (rdInt r).2 ∧ Chg (One g) w w' := by
  cases r with
  | none =>
    refine (rInt_none h).mono ?_
    rintro e w' ⟨rfl, rfl⟩
    exact ⟨rfl, h, Chg.refl _ _⟩
  | some l =>
    cases hd : dec 0 l with
    | none =>
      rw [show rdInt (some l) = (0, none) by simp [rdInt, hd]]
      exact rInt_bad h hd
    | some p =>
      obtain ⟨u, s⟩ := p
      rw [show rdInt (some l) = (unzz u, some (l.drop s)) by simp [rdInt, hd]]
      exact rInt_good h u s hd
theorem rdInt_range (r : Rd) : -9223372036854775808 ≤ (rdInt r).1 ∧ (rdInt r).1 < 9223372036854775808 := by
  cases r with
  | none => simp [rdInt]
  | some l =>
    cases hd : dec 0 l with
    | none => simp [rdInt, hd]
    | some p =>
      obtain ⟨u, s⟩ := p
      obtain ⟨d1, -⟩ := dec_some l 0 u s (by omega) hd
      rw [cap_vals.1] at d1
      simp only [rdInt, hd]
      exact unzz_range u d1
set_option maxRecDepth 100000 in
theorem rCount_any {w : World} {g : Nat} {q : Option Nat} {r : Rd} (h : Rdr w g q r) (most : Int) :
    Calls Tryd.prog 58 #[.pointer (some ⟨g, 0, none⟩), .int .i64 most] w fun e w' => e = .returned (.int .i64 (rdCount r most).1) ∧ Rdr w' g q (rdCount r most).2 ∧ Chg (One g) w w' := by
  have hi := rInt_any h
  have hrg := rdInt_range r
  have hz : (rdInt r).2 = none → (rdInt r).1 = 0 := by
    cases r with
    | none => intro _; rfl
    | some l =>
      cases hd : dec 0 l with
      | none => simp [rdInt, hd]
      | some p => simp [rdInt, hd]
  unfold rdCount
  generalize rdInt r = p at hi hrg hz
  obtain ⟨n, r'⟩ := p
  dsimp only at hi hrg hz ⊢
  have HI : Hid (Calls Tryd.prog 35 #[.pointer (some ⟨g, 0, none⟩)] w fun e w' => e = .returned (.int .i64 n) ∧ Rdr w' g q r' ∧ Chg (One g) w w') := hi
  clear hi h
  cases r' with
  | none =>
    have hn := hz rfl
    subst hn
    clear hz hrg
    have : (if (0 : Int) < 0 ∨ most < 0 then ((0 : Int), (none : Rd)) else (0, none)) = (0, none) := by split <;> rfl
    rw [this]
    clear this
    go_enter Tryd.func58, Tryd.ntmps58
    go_wp2_with fail
    refine HI.out.mono ?_
    rintro e w1 ⟨rfl, hr, hc⟩
    go_wp2_with fail
    refine (good_any hr).mono ?_
    rintro e w2 ⟨rfl, rfl⟩
    go_wp2
    go_ret
    exact ⟨rfl, hr, hc⟩
  | some l =>
    clear hz
    obtain ⟨hr1, hr2⟩ := hrg
    by_cases hb : n < 0 ∨ most < n
    · rw [if_pos hb]
      have hbb : (n < 0) ∨ (¬ n < 0 ∧ most < n) := by omega
      clear hb
      rcases hbb with hb | ⟨hb, hb2⟩
      · go_enter Tryd.func58, Tryd.ntmps58
        go_wp2_with fail
        refine HI.out.mono ?_
        rintro e w1 ⟨rfl, hr, hc⟩
        go_wp2_with fail
        refine (good_any hr).mono ?_
        rintro e w2 ⟨rfl, rfl⟩
        go_wp2_with fail
        refine (fail_any hr).mono ?_
        rintro e w3 ⟨rfl, hr3, hc3⟩
        go_wp2
        go_ret
        exact ⟨rfl, hr3, hc.trans hc3⟩
      · go_enter Tryd.func58, Tryd.ntmps58
        go_wp2_with fail
        refine HI.out.mono ?_
        rintro e w1 ⟨rfl, hr, hc⟩
        go_wp2_with fail
        refine (good_any hr).mono ?_
        rintro e w2 ⟨rfl, rfl⟩
        go_wp2_with fail
        refine (fail_any hr).mono ?_
        rintro e w3 ⟨rfl, hr3, hc3⟩
        go_wp2
        go_ret
        exact ⟨rfl, hr3, hc.trans hc3⟩
    · rw [if_neg hb]
      have hb1 : ¬ n < 0 := by omega
      have hb2 : ¬ most < n := by omega
      clear hb
      go_enter Tryd.func58, Tryd.ntmps58
      go_wp2_with fail
      refine HI.out.mono ?_
      rintro e w1 ⟨rfl, hr, hc⟩
      go_wp2_with fail
      refine (good_any hr).mono ?_
      rintro e w2 ⟨rfl, rfl⟩
      go_wp2
      go_ret
      exact ⟨rfl, hr, hc⟩
theorem rCount_nil (w : World) (m : Value) : Calls Tryd.prog 58 #[.pointer none, m] w fun e w' => e = .returned (.int .i64 0) ∧ w' = w := by
  go_enter Tryd.func58, Tryd.ntmps58
  go_wp2_with fail
  refine (rInt_nil _).mono ?_
  rintro e w1 ⟨rfl, rfl⟩
  go_wp2_with fail
  refine (good_nil _).mono ?_
  rintro e w1 ⟨rfl, rfl⟩
  go_wp2
  go_ret
  exact ⟨rfl, rfl⟩
theorem rdCount_pos (r : Rd) (most : Int) : 0 ≤ (rdCount r most).1 := by
  unfold rdCount
  split
  · simp
  · omega
theorem convert_bytes {w : World} {x : Value} {l : List UInt8} (h : Bs w x l) : (convert 28 9 x).run Tryd.prog w = .ok (.string (mkS l)) w := by
  rcases h with ⟨rfl, rfl⟩ | ⟨ad, c, rfl, rfl⟩ | ⟨_, b, o, c, rfl, _, _, h3⟩
  · rw [run_convert_bytes_string w 28 9 5 none 0 0 Tryd.underlying28 Tryd.underlying5 Tryd.underlying9]
    rfl
  · exact run_convert_bytes_back w 28 9 5 ad c [] Tryd.underlying28 Tryd.underlying5 Tryd.underlying9 (fun j hj => by simp at hj)
  · refine run_convert_bytes_back w 28 9 5 ⟨b, o, none⟩ c l Tryd.underlying28 Tryd.underlying5 Tryd.underlying9 (fun j hj => ?_)
    rw [show (⟨b, o, none⟩ : Addr).add j = ⟨b, o + j, none⟩ by simp only [Addr.add]; split <;> simp_all]
    exact h3 j hj
theorem rText_any {w : World} {g : Nat} {q : Option Nat} {r : Rd} (h : Rdr w g q r) (most : Int) :
    Calls Tryd.prog 55 #[.pointer (some ⟨g, 0, none⟩), .int .i64 most] w fun e w' => e = .returned (.string (mkS (rdText r most).1)) ∧ Rdr w' g q (rdText r most).2 ∧ Chg (One g) w w' := by
  have hi := rCount_any h most
  have hp := rdCount_pos r most
  unfold rdText
  generalize rdCount r most = p at hi hp
  obtain ⟨n, r'⟩ := p
  dsimp only at hi hp ⊢
  obtain ⟨m, rfl⟩ := Int.eq_ofNat_of_zero_le hp
  rw [Int.toNat_natCast]
  have HI : Hid (Calls Tryd.prog 58 #[.pointer (some ⟨g, 0, none⟩), .int .i64 most] w fun e w' => e = .returned (.int .i64 (m : Nat)) ∧ Rdr w' g q r' ∧ Chg (One g) w w') := hi
  clear hi h
  go_enter Tryd.func55, Tryd.ntmps55
  go_wp2_with fail
  refine HI.out.mono ?_
  rintro e w1 ⟨rfl, hr, hc⟩
  go_wp2_with fail
  refine (take_any hr m).mono ?_
  rintro e w2 ⟨v, rfl, hb, _, hr2, hc2⟩
  have hcv := convert_bytes hb
  go_wp2
  go_ret
  exact ⟨rfl, hr2, hc.trans hc2⟩
theorem rText_nil (w : World) (m : Value) : Calls Tryd.prog 55 #[.pointer none, m] w fun e w' => e = .returned (.string (mkS [])) ∧ w' = w := by
  have hcv := fun w => convert_bytes (Bs.nil w)
  go_enter Tryd.func55, Tryd.ntmps55
  go_wp2_with fail
  refine (rCount_nil _ _).mono ?_
  rintro e w1 ⟨rfl, rfl⟩
  go_wp2_with fail
  refine (take_nil _ _).mono ?_
  rintro e w1 ⟨rfl, rfl⟩
  go_wp2
  go_ret
  exact ⟨rfl, rfl⟩
theorem rdTake_len (r : Rd) (n : Nat) {b : Nat} (h : (r.getD []).length ≤ b) : (rdTake r n).1.length ≤ b := by
  cases r with
  | none => simp [rdTake]
  | some l =>
    unfold rdTake
    dsimp only at h ⊢
    split
    · simp
    · simp [List.length_take] at h ⊢; omega
theorem rBytes_any {w : World} {g : Nat} {q : Option Nat} {r : Rd} (h : Rdr w g q r) (most : Int) :
    Calls Tryd.prog 56 #[.pointer (some ⟨g, 0, none⟩), .int .i64 most] w fun e w' => ∃ v w1, e = .returned v ∧ New w1 w' v (rdText r most).1 ∧ Rdr w' g q (rdText r most).2 ∧ Chg (One g) w w' ∧ w.heap.size ≤ w1.heap.size := by
  have hi := rCount_any h most
  have hp := rdCount_pos r most
  unfold rdText
  generalize rdCount r most = p at hi hp
  obtain ⟨n, r'⟩ := p
  dsimp only at hi hp ⊢
  obtain ⟨m, rfl⟩ := Int.eq_ofNat_of_zero_le hp
  rw [Int.toNat_natCast]
  have HI : Hid (Calls Tryd.prog 58 #[.pointer (some ⟨g, 0, none⟩), .int .i64 most] w fun e w' => e = .returned (.int .i64 (m : Nat)) ∧ Rdr w' g q r' ∧ Chg (One g) w w') := hi
  clear hi h
  go_enter Tryd.func56, Tryd.ntmps56
  go_wp2_with fail
  refine HI.out.mono ?_
  rintro e w1 ⟨rfl, hr, hc⟩
  have hlen : (rdTake r' m).1.length ≤ 140737488355328 := rdTake_len r' m (by obtain ⟨_, _, _, _, _, h⟩ := hr; exact h)
  go_wp2_with fail
  refine (take_any hr m).mono ?_
  rintro e w2 ⟨v, rfl, hb, _, hr2, hc2⟩
  go_wp2_with fail
  refine (clone_any hb hlen).mono ?_
  rintro e w3 ⟨v3, rfl, hv3⟩
  obtain ⟨A, C, rfl⟩ := bs_form hv3.bs
  go_wp2
  go_ret
  exact ⟨_, w2, rfl, hv3, hr2.keep (Chg.of_below hv3.below) id (fun _ _ => id), (hc.trans hc2).trans ((Chg.of_below hv3.below).weak (fun _ _ h => h.elim)), Nat.le_trans hc.size hc2.size⟩
theorem rBytes_nil (w : World) (m : Value) : Calls Tryd.prog 56 #[.pointer none, m] w fun e w' => ∃ v, e = .returned v ∧ New w w' v [] := by
  go_enter Tryd.func56, Tryd.ntmps56
  go_wp2_with fail
  refine (rCount_nil _ _).mono ?_
  rintro e w1 ⟨rfl, rfl⟩
  go_wp2_with fail
  refine (take_nil _ _).mono ?_
  rintro e w1 ⟨rfl, rfl⟩
  go_wp2_with fail
  refine (clone_any (Bs.nil _) (by simp)).mono ?_
  rintro e w3 ⟨v3, rfl, hv3⟩
  go_wp2
  go_ret
  exact ⟨_, rfl, hv3⟩
end Go.Proofs.YtbcfeeahlhoggaaDoor
