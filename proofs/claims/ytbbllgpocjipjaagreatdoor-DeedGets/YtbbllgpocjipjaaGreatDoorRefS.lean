/- The walks of the document's own reader. -/
import Derived.Laws.Bits64b
import Derived.Test.YtbbllgpocjipjaaGreatDoorWalksG
namespace Go.Proofs.YtbbllgpocjipjaaGreatDoor
open Go.RowKit

/- The document's reader: r is what is left of a good one. -/
abbrev Rdf (w : World) (g : Nat) (q : Option Nat) (r : Rd) : Prop := RdAt w g 107 r.isNone q (r.getD [])
theorem RdAt.turn2r {w : World} {g T : Nat} {fl : Bool} {q : Option Nat} {l : List UInt8} (h : RdAt w g T fl q l) (v' : Value) (fl' : Bool) (l' : List UInt8) (hb : Bs w v' l') (hq : ∀ k, bk v' = some k → q = some k) (hl : l'.length ≤ 140737488355328) :
    RdAt ((w.setCell ⟨g, 1, none⟩ (.bool fl')).setCell ⟨g, 0, none⟩ v') g T fl' q l' ∧ Chg (One g) w ((w.setCell ⟨g, 1, none⟩ (.bool fl')).setCell ⟨g, 0, none⟩ v') := by
  obtain ⟨v, h1, h2, h3, h4, h5⟩ := h
  have hc : Chg (One g) w ((w.setCell ⟨g, 1, none⟩ (.bool fl')).setCell ⟨g, 0, none⟩ v') := (Chg.setCell (S := One g) w ⟨g, 1, none⟩ _ rfl).trans (Chg.setCell (S := One g) _ ⟨g, 0, none⟩ _ rfl)
  refine ⟨⟨v', ?_, hb.keep hc (fun k hk e => h4 (by rw [hq k hk, e])), hq, h4, hl⟩, hc⟩
  rw [heap_set (heap_set h1 1 _) 0]
  rfl
theorem rfFail_any {w : World} {g : Nat} {q : Option Nat} {r : Rd} (h : Rdf w g q r) :
    Calls Tryz.prog 74 #[.pointer (some ⟨g, 0, none⟩)] w fun e w' => e = .returned (.tuple #[]) ∧ Rdf w' g q none ∧ Chg (One g) w w' := by
  have HH : Hid (Rdf w g q r) := h
  obtain ⟨v, h1, _⟩ := h
  have hc0 := cell_at h1 0
  have hc1 := cell_at h1 1
  have hf0 := frozen_at h1 0
  have hf1 := frozen_at h1 1
  rw [show #[v, Value.bool r.isNone][0]? = some v from rfl] at hc0
  rw [show #[v, Value.bool r.isNone][1]? = some (.bool r.isNone) from rfl] at hc1
  clear h1
  go_enter Tryz.func74, Tryz.ntmps74
  go_wp2
  go_end0
  have := HH.out.turn2r (.slice none 0 0) true [] (Bs.nil w) (fun k hk => absurd hk (bk_zero _ _ _)) (by simp)
  exact ⟨rfl, this.1, this.2⟩
theorem rfGood_any {w : World} {g : Nat} {q : Option Nat} {r : Rd} (h : Rdf w g q r) :
    Calls Tryz.prog 88 #[.pointer (some ⟨g, 0, none⟩)] w fun e w' => e = .returned (.bool r.isSome) ∧ w' = w := by
  obtain ⟨v, h1, _⟩ := h
  have hc1 := cell_at h1 1
  rw [show #[v, Value.bool r.isNone][1]? = some (.bool r.isNone) from rfl] at hc1
  clear h1
  cases r with
  | none =>
    go_enter Tryz.func88, Tryz.ntmps88
    go_wp2
    go_ret
    exact ⟨rfl, rfl⟩
  | some l =>
    go_enter Tryz.func88, Tryz.ntmps88
    go_wp2
    go_ret
    exact ⟨rfl, rfl⟩
theorem rfWhole_any {w : World} {g : Nat} {q : Option Nat} {r : Rd} (h : Rdf w g q r) :
    Calls Tryz.prog 47 #[.pointer (some ⟨g, 0, none⟩)] w fun e w' => e = .returned (.bool (decide (r = some []))) ∧ w' = w := by
  obtain ⟨v, h1, h2, _⟩ := h
  have hc0 := cell_at h1 0
  have hc1 := cell_at h1 1
  rw [show #[v, Value.bool r.isNone][0]? = some v from rfl] at hc0
  rw [show #[v, Value.bool r.isNone][1]? = some (.bool r.isNone) from rfl] at hc1
  obtain ⟨A, C, rfl⟩ := bs_form h2
  clear h1 h2
  cases r with
  | none =>
    go_enter Tryz.func47, Tryz.ntmps47
    go_wp2
    go_ret
    exact ⟨rfl, rfl⟩
  | some l =>
    go_enter Tryz.func47, Tryz.ntmps47
    go_wp2
    go_ret
    refine ⟨?_, rfl⟩
    cases l with
    | nil => rfl
    | cons x t =>
      simp
      omega
theorem rfByte_any {w : World} {g : Nat} {q : Option Nat} {r : Rd} (h : Rdf w g q r) :
    Calls Tryz.prog 44 #[.pointer (some ⟨g, 0, none⟩)] w fun e w' => e = .returned (.int .u8 ((rdByte r).1.toNat : Nat)) ∧ Rdf w' g q (rdByte r).2 ∧ Chg (One g) w w' := by
  have HH : Hid (Rdf w g q r) := h
  have hcase : (∃ x t, r = some (x :: t)) ∨ (rdByte r = (0, none) ∧ r.getD [] = []) := by
    rcases r with _ | _ | ⟨x, t⟩
    · exact .inr ⟨rfl, rfl⟩
    · exact .inr ⟨rfl, rfl⟩
    · exact .inl ⟨x, t, rfl⟩
  obtain ⟨v, h1, h2, h3, h4, hlim⟩ := h
  have hc0 := cell_at h1 0
  have hf0 := frozen_at h1 0
  rw [show #[v, Value.bool r.isNone][0]? = some v from rfl] at hc0
  have H3 : Hid (∀ k, bk v = some k → q = some k) := h3
  clear h1 h3
  rcases hcase with ⟨x, t, rfl⟩ | ⟨e1, e2⟩
  · change Bs w v (x :: t) at h2
    change (x :: t).length ≤ _ at hlim
    rcases h2 with ⟨_, h0⟩ | ⟨_, _, _, h0⟩ | ⟨hpos, b, o, c, rfl, hc, hb, hcl⟩
    · cases h0
    · cases h0
    · have hx0 := hcl 0 (by simp)
      simp only [Nat.add_zero, List.getElem_cons_zero] at hx0
      have hq3 : q = some b := H3.out b (bk_pos hpos)
      have HC : Hid (∀ j (h : j < (x :: t).length), w.cell? ⟨b, o + j, none⟩ = some (.int .u8 (((x :: t)[j]'h).toNat : Int))) := hcl
      have HQ : Hid (q = some b) := hq3
      have hlc : t.length + 1 ≤ c := hc
      rw [show (x :: t).length = t.length + 1 from rfl] at *
      clear hcl hq3 hc
      by_cases hc1 : c = 1
      · subst hc1
        have ht : t = [] := List.length_eq_zero_iff.1 (by omega)
        subst ht
        go_enter Tryz.func44, Tryz.ntmps44
        go_wp2
        go_ret
        have hh := HH.out.turn1 (.slice (some ⟨b, o, none⟩) 0 0) [] Bs.none' (fun k hk => absurd hk (bk_zero _ _ _)) (by simp)
        exact ⟨rfl, hh.1, hh.2⟩
      · go_enter Tryz.func44, Tryz.ntmps44
        go_wp2
        go_ret
        have hB := Bs.tail HC.out hb 1 (m := t.length) (c := c - 1) (by simp) (by omega)
        have hh := HH.out.turn1 _ _ hB (fun k hk => by rw [HQ.out]; exact bk_blk hk) (by simp; omega)
        exact ⟨rfl, hh.1, hh.2⟩
  · rw [e1]
    rw [e2] at h2
    obtain ⟨A, C, rfl⟩ := bs_form h2
    clear h2
    go_enter Tryz.func44, Tryz.ntmps44
    go_wp2_with fail
    refine (rfFail_any HH.out).mono ?_
    rintro e w2 ⟨rfl, hr, hch⟩
    go_wp2
    go_ret
    exact ⟨rfl, hr, hch⟩
theorem ret_i {k : IntKind} {a b : Int} (h : a = b) : Ending.returned (.int k a) = .returned (.int k b) := by rw [h]
theorem neg_half (u : Nat) (h : u < 18446744073709551616) : wrap64 (wrap64 (-wrap64 (IntKind.u64.wrap ((u : Int) / 2))) - 1) = -((u : Int) / 2) - 1 := by
  simp only [IntKind.wrap_u64, wrap64]
  omega
theorem pos_half (u : Nat) (h : u < 18446744073709551616) : wrap64 (IntKind.u64.wrap ((u : Int) / 2)) = (u : Int) / 2 := by
  simp only [IntKind.wrap_u64, wrap64]
  omega
theorem add_dig (x d k : Nat) (hk : k < 9) (hx : x < 128 ^ k) (hd : d < 128) : IntKind.u64.wrap ((x : Int) + IntKind.u64.wrap ((d : Int) * 2 ^ (7 * k))) = ((x + 128 ^ k * d : Nat) : Int) ∧ x + 128 ^ k * d < 128 ^ (k + 1) := by
  have hp := pow_le9 hk
  have h1 : 128 ^ k * d + 128 ^ k ≤ 128 ^ k * 128 := by rw [← Nat.mul_succ]; exact Nat.mul_le_mul_left _ (by omega)
  have e1 : ((d : Int) * 2 ^ (7 * k)) = ((128 ^ k * d : Nat) : Int) := by rw [← pow128, Int.natCast_mul, Int.mul_comm]; simp
  rw [e1]
  simp only [IntKind.wrap_u64]
  refine ⟨by omega, ?_⟩
  rw [Nat.pow_succ]; omega
theorem add_last (x d k : Nat) (hk : k < 10) (hx : x < 128 ^ k) (hd : d < 128) (h9 : k = 9 → d < 2) : IntKind.u64.wrap ((x : Int) + IntKind.u64.wrap ((d : Int) * 2 ^ (7 * k))) = ((x + 128 ^ k * d : Nat) : Int) ∧ x + 128 ^ k * d < 18446744073709551616 := by
  have e9 : 128 ^ 9 = 9223372036854775808 := by decide +kernel
  have e1 : ((d : Int) * 2 ^ (7 * k)) = ((128 ^ k * d : Nat) : Int) := by rw [← pow128, Int.natCast_mul, Int.mul_comm]; simp
  have hlt : x + 128 ^ k * d < 18446744073709551616 := by
    rcases Nat.lt_or_ge k 9 with h | h
    · have := (add_dig x d k h hx hd).2
      have h2 := pow_le9 h
      rw [Nat.pow_succ] at this
      omega
    · have : k = 9 := by omega
      subst this
      have := h9 rfl
      rw [e9] at hx ⊢
      omega
  rw [e1]
  simp only [IntKind.wrap_u64]
  exact ⟨by omega, hlt⟩
theorem unzz_odd (u : Nat) (ho : u % 2 = 1) : -(((u / 2 : Nat) : Int)) - 1 = unzz u := by unfold unzz; rw [if_pos ho]
theorem unzz_even (u : Nat) (ho : ¬ u % 2 = 1) : ((u / 2 : Nat) : Int) = unzz u := by unfold unzz; rw [if_neg ho]
theorem rfInt_empty {w : World} {g : Nat} {q : Option Nat} {r : Rd} (h : Rdf w g q r) (he : r.getD [] = []) :
    Calls Tryz.prog 45 #[.pointer (some ⟨g, 0, none⟩)] w fun e w' => e = .returned (.int .i64 0) ∧ Rdf w' g q none ∧ Chg (One g) w w' := by
  have HH : Hid (Rdf w g q r) := h
  obtain ⟨v, h1, h2, h3, h4, hlim⟩ := h
  have hc0 := cell_at h1 0
  rw [show #[v, Value.bool r.isNone][0]? = some v from rfl] at hc0
  rw [he] at h2
  obtain ⟨A, C, rfl⟩ := bs_form h2
  clear h1 h2 h3 he hlim
  go_enter Tryz.func45, Tryz.ntmps45
  go_wp2_with fail
  refine wp_loop_rounds 1 ?_
  rw [rounds_succ]
  go_wp2_with fail
  refine (rfFail_any HH.out).mono ?_
  rintro e w2 ⟨rfl, hr, hch⟩
  go_wp2
  go_ret
  exact ⟨rfl, hr, hch⟩
set_option maxRecDepth 100000 in
set_option maxHeartbeats 2000000 in
theorem rfInt_row {w : World} {g : Nat} {q : Option Nat} {l : List UInt8} (h : Rdf w g q (some l)) (hne : 0 < l.length) :
    Calls Tryz.prog 45 #[.pointer (some ⟨g, 0, none⟩)] w fun e w' => e = .returned (.int .i64 (rdInt (some l)).1) ∧ Rdf w' g q (rdInt (some l)).2 ∧ Chg (One g) w w' := by
  have HH : Hid (Rdf w g q (some l)) := h
  obtain ⟨v, h1, h2, h3, h4, hlim⟩ := h
  have hc0 := cell_at h1 0
  have hf0 := frozen_at h1 0
  rw [show #[v, Value.bool (some l).isNone][0]? = some v from rfl] at hc0
  have H3 : Hid (∀ k, bk v = some k → q = some k) := h3
  clear h1 h3
  change Bs w v l at h2
  change l.length ≤ _ at hlim
  rcases h2 with ⟨_, rfl⟩ | ⟨_, _, _, rfl⟩ | ⟨hpos, b, o, c, rfl, hc, hb, hcl⟩
  · simp at hne
  · simp at hne
  have HC : Hid (∀ j (h : j < l.length), w.cell? ⟨b, o + j, none⟩ = some (.int .u8 ((l[j]'h).toNat : Int))) := hcl
  have HQ : Hid (q = some b) := H3.out b (bk_pos hpos)
  generalize hR : rdInt (some l) = R
  have HR : Hid (rdInt (some l) = R) := hR
  clear hcl H3 hR
  go_enter Tryz.func45, Tryz.ntmps45
  go_wp2_with fail
  go_loop [3, 4] (fun s i => ∃ (k x X : Nat), i = .int .i64 k ∧ s = .int .u64 x ∧ k ≤ l.length ∧ k ≤ 10 ∧ x < 18446744073709551616 ∧ dec 0 l = (dec k (l.drop k)).map (fun p => (X + 128 ^ k * p.1, p.2 + k)) ∧ X < 128 ^ k ∧ (k < 10 → x = X)) (fun _ i => 10 - (intOf i).toNat)
  case atStart => exact ⟨0, 0, 0, rfl, rfl, by omega, by omega, by omega, by simp, by simp, fun _ => rfl⟩
  case round =>
    obtain ⟨k, x, X, rfl, rfl, hk, hk10, hx, hd, hX, hxX⟩ := hrel
    have HD : Hid (dec 0 l = (dec k (l.drop k)).map (fun p => (X + 128 ^ k * p.1, p.2 + k))) := hd
    have HXX : Hid (k < 10 → x = X) := hxX
    have HX : Hid (X < 128 ^ k) := hX
    clear hd hxX hX
    by_cases hend : k = l.length ∨ k = 10
    · have hnone : dec 0 l = none := by rw [HD.out, dec_end (by omega)]; rfl
      have hr : R = (0, none) := by rw [← HR.out]; unfold rdInt; dsimp only; rw [hnone]
      subst hr
      rcases (show (k = l.length) ∨ (k < l.length ∧ k = 10) by omega) with hkl | ⟨hkl, h10⟩
      · have hkl' : ¬ (k : Int) < l.length := by omega
        have hkl2 : (l.length : Int) ≤ k := by omega
        clear hnone hkl hend
        go_wp2_with fail
        refine (rfFail_any HH.out).mono ?_
        rintro e w2 ⟨rfl, hrr, hch⟩
        go_wp2
        go_ret
        exact ⟨rfl, hrr, hch⟩
      · subst h10
        have hkl' : (10 : Int) < l.length := by omega
        clear hnone hend
        go_wp2_with fail
        refine (rfFail_any HH.out).mono ?_
        rintro e w2 ⟨rfl, hrr, hch⟩
        go_wp2
        go_ret
        exact ⟨rfl, hrr, hch⟩
    · have hkl : k < l.length := by omega
      have hk9 : k < 10 := by omega
      have hxe : x = X := HXX.out hk9
      subst hxe
      have hcx := HC.out k hkl
      have hx256 := (l[k]'hkl).toNat_lt
      have HMORE : Hid (128 ≤ (l[k]'hkl).toNat → dec k (l.drop k) = (dec (k + 1) (l.drop (k + 1))).map (fun p => ((l[k]'hkl).toNat - 128 + 128 * p.1, p.2 + 1))) := dec_more hkl hk9
      have HLAST : Hid ((l[k]'hkl).toNat < 128 → dec k (l.drop k) = if (k = 9 ∧ (l[k]'hkl).toNat ≠ 1) ∨ ((l[k]'hkl).toNat = 0 ∧ 0 < k) then none else some ((l[k]'hkl).toNat, 1)) := dec_last hkl hk9
      generalize (l[k]'hkl).toNat = y at hcx hx256 HMORE HLAST
      by_cases hy : 128 ≤ y
      · have hy' : (128 : Int) ≤ y := by omega
        have hm := HMORE.out hy
        go_wp2_with fail
        have hw0 : 0 ≤ IntKind.u64.wrap ((x : Int) + IntKind.u64.wrap (((y : Int) - 128) * 2 ^ (7 * k))) ∧ IntKind.u64.wrap ((x : Int) + IntKind.u64.wrap (((y : Int) - 128) * 2 ^ (7 * k))) < 18446744073709551616 := by
          simp only [IntKind.wrap_u64]; omega
        have hX1 : x + 128 ^ k * (y - 128) < 128 ^ (k + 1) := by
          have h1 : 128 ^ k * (y - 128) + 128 ^ k ≤ 128 ^ k * 128 := by rw [← Nat.mul_succ]; exact Nat.mul_le_mul_left _ (by omega)
          have := HX.out
          rw [Nat.pow_succ]; omega
        have hdd : dec 0 l = (dec (k + 1) (l.drop (k + 1))).map (fun p => ((x + 128 ^ k * (y - 128)) + 128 ^ (k + 1) * p.1, p.2 + (k + 1))) := by
          rw [HD.out, hm, Option.map_map]
          congr 1
          funext p
          simp only [Function.comp, Prod.mk.injEq]
          refine ⟨?_, by omega⟩
          rw [Nat.mul_add, Nat.pow_succ, Nat.mul_assoc]
          omega
        refine ⟨⟨k + 1, (IntKind.u64.wrap ((x : Int) + IntKind.u64.wrap (((y : Int) - 128) * 2 ^ (7 * k)))).toNat, x + 128 ^ k * (y - 128), by go_num, by rw [Int.toNat_of_nonneg hw0.1], by omega, by omega, by omega, hdd, hX1, fun h10 => ?_⟩, by simp [intOf]; omega⟩
        have := (add_dig x (y - 128) k (by omega) HX.out (by omega)).1
        rw [show ((y - 128 : Nat) : Int) = (y : Int) - 128 by omega] at this
        rw [this]
        exact Int.toNat_natCast _
      · have hy' : ¬ (128 : Int) ≤ y := by omega
        have hl := HLAST.out (by omega)
        by_cases hbad : (k = 9 ∧ y ≠ 1) ∨ (y = 0 ∧ 0 < k)
        · rw [if_pos hbad] at hl
          have hnone : dec 0 l = none := by rw [HD.out, hl]; rfl
          have hr : R = (0, none) := by rw [← HR.out]; unfold rdInt; dsimp only; rw [hnone]
          subst hr
          have hk10' : ((k : Int) == 10) = false := by simp; omega
          have hkl' : ¬ (l.length : Int) ≤ k := by omega
          rcases (show (k = 9 ∧ 1 < y) ∨ (k = 9 ∧ y = 0) ∨ (¬ k = 9 ∧ 0 < k ∧ y = 0) by omega) with ⟨h9, hy1⟩ | ⟨h9, hy1⟩ | ⟨h9, hk0, hy1⟩
          · subst h9
            have hy1' : (1 : Int) < y := by omega
            clear hnone hl hbad hend
            go_wp2_with fail
            refine (rfFail_any HH.out).mono ?_
            rintro e w2 ⟨rfl, hrr, hch⟩
            go_wp2
            go_ret
            exact ⟨rfl, hrr, hch⟩
          · subst h9
            subst hy1
            clear hnone hl hbad hend
            go_wp2_with fail
            refine (rfFail_any HH.out).mono ?_
            rintro e w2 ⟨rfl, hrr, hch⟩
            go_wp2
            go_ret
            exact ⟨rfl, hrr, hch⟩
          · subst hy1
            have h9' : ((k : Int) == 9) = false := by simp; omega
            have hk0' : (0 : Int) < k := by omega
            clear hnone hl hbad hend h9
            go_wp2_with fail
            refine (rfFail_any HH.out).mono ?_
            rintro e w2 ⟨rfl, hrr, hch⟩
            go_wp2
            go_ret
            exact ⟨rfl, hrr, hch⟩
        · rw [if_neg hbad] at hl
          have hadd := add_last x y k hk9 HX.out (by omega) (by omega)
          have hsome : dec 0 l = some (x + 128 ^ k * y, k + 1) := by
            rw [HD.out, hl]
            simp only [Option.map_some, Option.some.injEq, Prod.mk.injEq, true_and]
            omega
          obtain ⟨u, hud⟩ : ∃ u, u = x + 128 ^ k * y := ⟨_, rfl⟩
          rw [← hud] at hsome hadd
          clear hud
          have hr : R = (unzz u, some (l.drop (k + 1))) := by rw [← HR.out]; unfold rdInt; dsimp only; rw [hsome]
          subst hr
          have hu := hadd.2
          have hadd1 := hadd.1
          have HUL : Hid (u < 18446744073709551616) := hu
          clear hu
          have hk10' : ((k : Int) == 10) = false := by simp; omega
          have hkl' : ¬ (l.length : Int) ≤ k := by omega
          have H0 : Hid (((k : Int) == 9) = true ∧ y = 1 ∨ ((k : Int) == 9) = false ∧ (0 < y ∨ k = 0)) := by
            show _ ∨ _
            by_cases h9 : k = 9
            · left; subst h9; exact ⟨rfl, by omega⟩
            · right; exact ⟨by simp; omega, by omega⟩
          clear hl hsome hadd hbad hend HMORE HLAST HD
          have hcs : (c = k + 1 ∧ l.length = k + 1) ∨ ¬ c = k + 1 := by omega
          have hkk : k + 1 ≤ l.length := hkl
          have hpar : ((u : Int) % 2 = 1 ∧ u % 2 = 1) ∨ ((u : Int) % 2 = 0 ∧ ¬ u % 2 = 1) := by omega
          have HU : Hid (u % 2 = 1 → -(((u : Int) / 2)) - 1 = unzz u) := fun ho => by have := unzz_odd u ho; rw [← this]; omega
          have HV : Hid (¬ u % 2 = 1 → ((u : Int) / 2) = unzz u) := fun ho => by have := unzz_even u ho; rw [← this]; omega
          have HTAIL : Hid (Bs w (.slice (some ⟨b, o + (k + 1), none⟩) (l.length - (k + 1)) (c - (k + 1))) (l.drop (k + 1))) := Bs.tail HC.out hb (k + 1) rfl (by omega)
          have HNIL : Hid (l.length = k + 1 → l.drop (k + 1) = []) := fun h => List.drop_eq_nil_of_le (by omega)
          have HLD : Hid ((l.drop (k + 1)).length ≤ 140737488355328) := by show (l.drop (k + 1)).length ≤ _; rw [List.length_drop]; omega
          clear HC
          have hy3 : ¬ (128 : Int) ≤ y := hy'
          have H1 : Hid ((((k : Int) == 9) = true ∧ (¬ (1 : Int) < y) ∧ (0 : Int) < k ∧ ((y : Int) == 0) = false) ∨ (((k : Int) == 9) = false ∧ (0 : Int) < k ∧ ((y : Int) == 0) = false) ∨ (((k : Int) == 9) = false ∧ ¬ (0 : Int) < k)) := by
            show _ ∨ _ ∨ _
            rcases H0.out with ⟨h9, hy1⟩ | ⟨h9, h⟩
            · left; exact ⟨h9, by omega, by simp at h9; omega, by simp; omega⟩
            · by_cases hk0 : k = 0
              · right; right; exact ⟨h9, by omega⟩
              · right; left; exact ⟨h9, by omega, by simp; omega⟩
          clear H0
          rcases H1.out with ⟨h9, hy1, hk0, hy0⟩ | ⟨h9, hk0, hy0⟩ | ⟨h9, hk0⟩
          · rcases hcs with ⟨hc1, hll⟩ | hc1
            · have HDN : Hid (l.drop (k + 1) = []) := HNIL.out hll
              subst hc1
              have hh := HH.out.turn1 (.slice (some ⟨b, o, none⟩) 0 0) [] Bs.none' (fun k hk => absurd hk (bk_zero _ _ _)) (by simp)
              have H5 : Hid (Rdf (w.setCell ⟨g, 0, none⟩ (.slice (some ⟨b, o, none⟩) 0 0)) g q (some []) ∧ Chg (One g) w (w.setCell ⟨g, 0, none⟩ (.slice (some ⟨b, o, none⟩) 0 0))) := hh
              clear hh
              rcases hpar with ⟨hp, hpn⟩ | ⟨hp, hpn⟩
              · have HZ : Hid (wrap64 (wrap64 (-wrap64 (IntKind.u64.wrap ((u : Int) / 2))) - 1) = unzz u) := (neg_half u HUL.out).trans (HU.out hpn)
                clear hpn
                go_wp2
                go_ret
                exact ⟨ret_i HZ.out, by rw [HDN.out]; exact H5.out.1, H5.out.2⟩
              · have HZ : Hid (wrap64 (IntKind.u64.wrap ((u : Int) / 2)) = unzz u) := (pos_half u HUL.out).trans (HV.out hpn)
                clear hpn
                go_wp2
                go_ret
                exact ⟨ret_i HZ.out, by rw [HDN.out]; exact H5.out.1, H5.out.2⟩
            · have hh := HH.out.turn1 _ _ HTAIL.out (fun k hk => by rw [HQ.out]; exact bk_blk hk) HLD.out
              have H5 : Hid (Rdf (w.setCell ⟨g, 0, none⟩ (.slice (some ⟨b, o + (k + 1), none⟩) (l.length - (k + 1)) (c - (k + 1)))) g q (some (l.drop (k + 1))) ∧ Chg (One g) w (w.setCell ⟨g, 0, none⟩ (.slice (some ⟨b, o + (k + 1), none⟩) (l.length - (k + 1)) (c - (k + 1))))) := hh
              clear hh
              rcases hpar with ⟨hp, hpn⟩ | ⟨hp, hpn⟩
              · have HZ : Hid (wrap64 (wrap64 (-wrap64 (IntKind.u64.wrap ((u : Int) / 2))) - 1) = unzz u) := (neg_half u HUL.out).trans (HU.out hpn)
                clear hpn
                go_wp2
                go_ret
                exact ⟨ret_i HZ.out, H5.out.1, H5.out.2⟩
              · have HZ : Hid (wrap64 (IntKind.u64.wrap ((u : Int) / 2)) = unzz u) := (pos_half u HUL.out).trans (HV.out hpn)
                clear hpn
                go_wp2
                go_ret
                exact ⟨ret_i HZ.out, H5.out.1, H5.out.2⟩
          · rcases hcs with ⟨hc1, hll⟩ | hc1
            · have HDN : Hid (l.drop (k + 1) = []) := HNIL.out hll
              subst hc1
              have hh := HH.out.turn1 (.slice (some ⟨b, o, none⟩) 0 0) [] Bs.none' (fun k hk => absurd hk (bk_zero _ _ _)) (by simp)
              have H5 : Hid (Rdf (w.setCell ⟨g, 0, none⟩ (.slice (some ⟨b, o, none⟩) 0 0)) g q (some []) ∧ Chg (One g) w (w.setCell ⟨g, 0, none⟩ (.slice (some ⟨b, o, none⟩) 0 0))) := hh
              clear hh
              rcases hpar with ⟨hp, hpn⟩ | ⟨hp, hpn⟩
              · have HZ : Hid (wrap64 (wrap64 (-wrap64 (IntKind.u64.wrap ((u : Int) / 2))) - 1) = unzz u) := (neg_half u HUL.out).trans (HU.out hpn)
                clear hpn
                go_wp2
                go_ret
                exact ⟨ret_i HZ.out, by rw [HDN.out]; exact H5.out.1, H5.out.2⟩
              · have HZ : Hid (wrap64 (IntKind.u64.wrap ((u : Int) / 2)) = unzz u) := (pos_half u HUL.out).trans (HV.out hpn)
                clear hpn
                go_wp2
                go_ret
                exact ⟨ret_i HZ.out, by rw [HDN.out]; exact H5.out.1, H5.out.2⟩
            · have hh := HH.out.turn1 _ _ HTAIL.out (fun k hk => by rw [HQ.out]; exact bk_blk hk) HLD.out
              have H5 : Hid (Rdf (w.setCell ⟨g, 0, none⟩ (.slice (some ⟨b, o + (k + 1), none⟩) (l.length - (k + 1)) (c - (k + 1)))) g q (some (l.drop (k + 1))) ∧ Chg (One g) w (w.setCell ⟨g, 0, none⟩ (.slice (some ⟨b, o + (k + 1), none⟩) (l.length - (k + 1)) (c - (k + 1))))) := hh
              clear hh
              rcases hpar with ⟨hp, hpn⟩ | ⟨hp, hpn⟩
              · have HZ : Hid (wrap64 (wrap64 (-wrap64 (IntKind.u64.wrap ((u : Int) / 2))) - 1) = unzz u) := (neg_half u HUL.out).trans (HU.out hpn)
                clear hpn
                go_wp2
                go_ret
                exact ⟨ret_i HZ.out, H5.out.1, H5.out.2⟩
              · have HZ : Hid (wrap64 (IntKind.u64.wrap ((u : Int) / 2)) = unzz u) := (pos_half u HUL.out).trans (HV.out hpn)
                clear hpn
                go_wp2
                go_ret
                exact ⟨ret_i HZ.out, H5.out.1, H5.out.2⟩
          · rcases hcs with ⟨hc1, hll⟩ | hc1
            · have HDN : Hid (l.drop (k + 1) = []) := HNIL.out hll
              subst hc1
              have hh := HH.out.turn1 (.slice (some ⟨b, o, none⟩) 0 0) [] Bs.none' (fun k hk => absurd hk (bk_zero _ _ _)) (by simp)
              have H5 : Hid (Rdf (w.setCell ⟨g, 0, none⟩ (.slice (some ⟨b, o, none⟩) 0 0)) g q (some []) ∧ Chg (One g) w (w.setCell ⟨g, 0, none⟩ (.slice (some ⟨b, o, none⟩) 0 0))) := hh
              clear hh
              rcases hpar with ⟨hp, hpn⟩ | ⟨hp, hpn⟩
              · have HZ : Hid (wrap64 (wrap64 (-wrap64 (IntKind.u64.wrap ((u : Int) / 2))) - 1) = unzz u) := (neg_half u HUL.out).trans (HU.out hpn)
                clear hpn
                go_wp2
                go_ret
                exact ⟨ret_i HZ.out, by rw [HDN.out]; exact H5.out.1, H5.out.2⟩
              · have HZ : Hid (wrap64 (IntKind.u64.wrap ((u : Int) / 2)) = unzz u) := (pos_half u HUL.out).trans (HV.out hpn)
                clear hpn
                go_wp2
                go_ret
                exact ⟨ret_i HZ.out, by rw [HDN.out]; exact H5.out.1, H5.out.2⟩
            · have hh := HH.out.turn1 _ _ HTAIL.out (fun k hk => by rw [HQ.out]; exact bk_blk hk) HLD.out
              have H5 : Hid (Rdf (w.setCell ⟨g, 0, none⟩ (.slice (some ⟨b, o + (k + 1), none⟩) (l.length - (k + 1)) (c - (k + 1)))) g q (some (l.drop (k + 1))) ∧ Chg (One g) w (w.setCell ⟨g, 0, none⟩ (.slice (some ⟨b, o + (k + 1), none⟩) (l.length - (k + 1)) (c - (k + 1))))) := hh
              clear hh
              rcases hpar with ⟨hp, hpn⟩ | ⟨hp, hpn⟩
              · have HZ : Hid (wrap64 (wrap64 (-wrap64 (IntKind.u64.wrap ((u : Int) / 2))) - 1) = unzz u) := (neg_half u HUL.out).trans (HU.out hpn)
                clear hpn
                go_wp2
                go_ret
                exact ⟨ret_i HZ.out, H5.out.1, H5.out.2⟩
              · have HZ : Hid (wrap64 (IntKind.u64.wrap ((u : Int) / 2)) = unzz u) := (pos_half u HUL.out).trans (HV.out hpn)
                clear hpn
                go_wp2
                go_ret
                exact ⟨ret_i HZ.out, H5.out.1, H5.out.2⟩
theorem rfInt_any {w : World} {g : Nat} {q : Option Nat} {r : Rd} (h : Rdf w g q r) :
    Calls Tryz.prog 45 #[.pointer (some ⟨g, 0, none⟩)] w fun e w' => e = .returned (.int .i64 (rdInt r).1) ∧ Rdf w' g q (rdInt r).2 ∧ Chg (One g) w w' := by
  rcases r with _ | _ | ⟨x, t⟩
  · exact rfInt_empty h rfl
  · exact rfInt_empty h rfl
  · exact rfInt_row h (by simp)
set_option maxRecDepth 100000 in
theorem rfCount_any {w : World} {g : Nat} {q : Option Nat} {r : Rd} (h : Rdf w g q r) (most : Int) :
    Calls Tryz.prog 87 #[.pointer (some ⟨g, 0, none⟩), .int .i64 most] w fun e w' => e = .returned (.int .i64 (rdCount r most).1) ∧ Rdf w' g q (rdCount r most).2 ∧ Chg (One g) w w' := by
  have hi := rfInt_any h
  unfold rdCount
  generalize rdInt r = p at hi
  obtain ⟨n, r'⟩ := p
  dsimp only at hi ⊢
  have HI : Hid (Calls Tryz.prog 45 #[.pointer (some ⟨g, 0, none⟩)] w fun e w' => e = .returned (.int .i64 n) ∧ Rdf w' g q r' ∧ Chg (One g) w w') := hi
  clear hi h
  by_cases hb : n < 0 ∨ most < n
  · rw [if_pos hb]
    have hbb : (n < 0) ∨ (¬ n < 0 ∧ most < n) := by omega
    clear hb
    rcases hbb with hb | ⟨hb, hb2⟩
    all_goals
      go_enter Tryz.func87, Tryz.ntmps87
      go_wp2_with fail
      refine HI.out.mono ?_
      rintro e w1 ⟨rfl, hr, hc⟩
      go_wp2_with fail
      refine (rfFail_any hr).mono ?_
      rintro e w3 ⟨rfl, hr3, hc3⟩
      go_wp2
      go_ret
      exact ⟨rfl, hr3, hc.trans hc3⟩
  · rw [if_neg hb]
    have hb1 : ¬ n < 0 := by omega
    have hb2 : ¬ most < n := by omega
    clear hb
    go_enter Tryz.func87, Tryz.ntmps87
    go_wp2_with fail
    refine HI.out.mono ?_
    rintro e w1 ⟨rfl, hr, hc⟩
    go_wp2
    go_ret
    exact ⟨rfl, hr, hc⟩
theorem rdText_cases (r : Rd) (most : Int) : ((rdInt r).1 < 0 ∨ most < (rdInt r).1 ∨ ((((rdInt r).2.getD []).length : Int) < (rdInt r).1)) ∧ rdText r most = ([], none) ∨
    ¬ ((rdInt r).1 < 0 ∨ most < (rdInt r).1 ∨ ((((rdInt r).2.getD []).length : Int) < (rdInt r).1)) ∧ (rdText r most).1 = ((rdInt r).2.getD []).take (rdInt r).1.toNat ∧ (rdText r most).2 = (rdInt r).2.map (fun l => l.drop (rdInt r).1.toNat) := by
  have hz : (rdInt r).2 = none → (rdInt r).1 = 0 := by
    cases r with
    | none => intro _; rfl
    | some l =>
      cases hd : dec 0 l with
      | none => simp [rdInt, hd]
      | some p => simp [rdInt, hd]
  unfold rdText rdCount
  generalize rdInt r = p at *
  obtain ⟨n, r'⟩ := p
  dsimp only at *
  by_cases h1 : n < 0 ∨ most < n
  · left
    rw [if_pos h1]
    exact ⟨by omega, rfl⟩
  · rw [if_neg h1]
    dsimp only
    cases r' with
    | none =>
      have := hz rfl
      subst this
      right
      refine ⟨?_, rfl, rfl⟩
      simp
      omega
    | some l =>
      simp only [Option.getD_some, rdTake]
      by_cases h2 : l.length < n.toNat
      · left
        rw [if_pos h2]
        exact ⟨by omega, rfl⟩
      · right
        rw [if_neg h2]
        exact ⟨by omega, rfl, rfl⟩
end Go.Proofs.YtbbllgpocjipjaaGreatDoor
/- The walks of the document's own reader: texts and bytes. -/
namespace Go.Proofs.YtbbllgpocjipjaaGreatDoor
open Go.RowKit

theorem rfText_no {w : World} {g : Nat} {q : Option Nat} {r : Rd} (h : Rdf w g q r) (most : Int) (hn : (rdInt r).1 < 0 ∨ most < (rdInt r).1 ∨ ((((rdInt r).2.getD []).length : Int) < (rdInt r).1)) :
    Calls Tryz.prog 75 #[.pointer (some ⟨g, 0, none⟩), .int .i64 most] w fun e w' => e = .returned (.string (mkS [])) ∧ Rdf w' g q none ∧ Chg (One g) w w' := by
  have hi := rfInt_any h
  generalize rdInt r = p at hi hn
  obtain ⟨n, r'⟩ := p
  dsimp only at hi hn
  have HI : Hid (Calls Tryz.prog 45 #[.pointer (some ⟨g, 0, none⟩)] w fun e w' => e = .returned (.int .i64 n) ∧ Rdf w' g q r' ∧ Chg (One g) w w') := hi
  clear hi h
  have hnn : (n < 0) ∨ (¬ n < 0 ∧ most < n) ∨ (¬ n < 0 ∧ ¬ most < n ∧ ((r'.getD []).length : Int) < n) := by omega
  clear hn
  rcases hnn with hb | ⟨hb, hb2⟩ | ⟨hb, hb2, hb3⟩
  · go_enter Tryz.func75, Tryz.ntmps75
    go_wp2_with fail
    refine HI.out.mono ?_
    rintro e w1 ⟨rfl, hr, hc⟩
    go_wp2_with fail
    refine (rfFail_any hr).mono ?_
    rintro e w3 ⟨rfl, hr3, hc3⟩
    go_wp2
    go_ret
    exact ⟨rfl, hr3, hc.trans hc3⟩
  · go_enter Tryz.func75, Tryz.ntmps75
    go_wp2_with fail
    refine HI.out.mono ?_
    rintro e w1 ⟨rfl, hr, hc⟩
    go_wp2_with fail
    refine (rfFail_any hr).mono ?_
    rintro e w3 ⟨rfl, hr3, hc3⟩
    go_wp2
    go_ret
    exact ⟨rfl, hr3, hc.trans hc3⟩
  · go_enter Tryz.func75, Tryz.ntmps75
    go_wp2_with fail
    refine HI.out.mono ?_
    rintro e w1 ⟨rfl, hr, hc⟩
    have HR : Hid (Rdf w1 g q r') := hr
    obtain ⟨v, h1, h2, _⟩ := hr
    have hc0 := cell_at h1 0
    rw [show #[v, Value.bool r'.isNone][0]? = some v from rfl] at hc0
    obtain ⟨A, C, rfl⟩ := bs_form h2
    clear h1 h2
    go_wp2_with fail
    refine (rfFail_any HR.out).mono ?_
    rintro e w3 ⟨rfl, hr3, hc3⟩
    go_wp2
    go_ret
    exact ⟨rfl, hr3, hc.trans hc3⟩
set_option maxRecDepth 100000 in
theorem rfText_yes {w : World} {g : Nat} {q : Option Nat} {r : Rd} (h : Rdf w g q r) (most : Int) (hn : ¬ ((rdInt r).1 < 0 ∨ most < (rdInt r).1 ∨ ((((rdInt r).2.getD []).length : Int) < (rdInt r).1))) :
    Calls Tryz.prog 75 #[.pointer (some ⟨g, 0, none⟩), .int .i64 most] w fun e w' => e = .returned (.string (mkS (((rdInt r).2.getD []).take (rdInt r).1.toNat))) ∧ Rdf w' g q ((rdInt r).2.map (fun l => l.drop (rdInt r).1.toNat)) ∧ Chg (One g) w w' := by
  have hi := rfInt_any h
  generalize rdInt r = p at hi hn
  obtain ⟨n, r'⟩ := p
  dsimp only at hi hn ⊢
  obtain ⟨m, rfl⟩ := Int.eq_ofNat_of_zero_le (show 0 ≤ n by omega)
  rw [Int.toNat_natCast]
  have HI : Hid (Calls Tryz.prog 45 #[.pointer (some ⟨g, 0, none⟩)] w fun e w' => e = .returned (.int .i64 (m : Nat)) ∧ Rdf w' g q r' ∧ Chg (One g) w w') := hi
  clear hi h
  have hb2 : ¬ most < (m : Int) := by omega
  have hb3 : m ≤ (r'.getD []).length := by omega
  clear hn
  generalize hL : (r'.getD []) = l at hb3
  have HL : Hid (r'.getD [] = l) := hL
  have HL2 : Hid ((r'.map (fun l => l.drop m)).isNone = r'.isNone ∧ (r'.map (fun l => l.drop m)).getD [] = l.drop m) := by
    show _ ∧ _
    rw [← hL]
    cases r' <;> simp
  clear hL
  have hlm : ¬ ((l.length : Int) < m) := by omega
  go_enter Tryz.func75, Tryz.ntmps75
  go_wp2_with fail
  refine HI.out.mono ?_
  rintro e w1 ⟨rfl, hr, hc⟩
  have HR : Hid (Rdf w1 g q r') := hr
  have hr0 : RdAt w1 g 107 r'.isNone q l := by have := hr; unfold Rdf at this; rw [HL.out] at this; exact this
  have HR0 : Hid (RdAt w1 g 107 r'.isNone q l) := hr0
  obtain ⟨v, h1, h2, h3, h4, hlim⟩ := hr0
  have hc0 := cell_at h1 0
  have hf0 := frozen_at h1 0
  rw [show #[v, Value.bool r'.isNone][0]? = some v from rfl] at hc0
  have H3 : Hid (∀ k, bk v = some k → q = some k) := h3
  clear h1 h3 hr
  have HEND : Hid (∀ v', Bs w1 v' (l.drop m) → (∀ k, bk v' = some k → q = some k) → Rdf (w1.setCell ⟨g, 0, none⟩ v') g q (r'.map (fun l => l.drop m)) ∧ Chg (One g) w (w1.setCell ⟨g, 0, none⟩ v')) := fun v' hb hq => by
    have := HR0.out.turn1 v' (l.drop m) hb hq (by rw [List.length_drop]; omega)
    refine ⟨?_, hc.trans this.2⟩
    unfold Rdf
    rw [HL2.out.1, HL2.out.2]
    exact this.1
  rcases h2 with ⟨rfl, rfl⟩ | ⟨ad, c, rfl, rfl⟩ | ⟨hpos, b, o, c, rfl, hcc, hbb, hcl⟩
  · have hm0 : m = 0 := by simpa using hb3
    subst hm0
    have hcv := convert_bytes (Bs.nil w1)
    go_wp2
    go_ret
    have := HEND.out (.slice none 0 0) (Bs.nil _) (fun k hk => absurd hk (bk_zero _ _ _))
    exact ⟨rfl, this⟩
  · have hm0 : m = 0 := by simpa using hb3
    subst hm0
    have hcv := convert_bytes (w := w1) (x := .slice (some ad) 0 c) (l := []) Bs.none'
    by_cases hc0c : c = 0
    · subst hc0c
      go_wp2
      go_ret
      have := HEND.out (.slice (some ad) 0 0) Bs.none' (fun k hk => absurd hk (bk_zero _ _ _))
      exact ⟨rfl, this⟩
    · go_wp2
      go_ret
      have := HEND.out (.slice (some ad) 0 c) Bs.none' (fun k hk => absurd hk (bk_zero _ _ _))
      exact ⟨rfl, this⟩
  · have hq3 : q = some b := H3.out b (bk_pos hpos)
    have HC : Hid (∀ j (h : j < l.length), w1.cell? ⟨b, o + j, none⟩ = some (.int .u8 ((l[j]'h).toNat : Int))) := hcl
    have HQ : Hid (q = some b) := hq3
    have hcv := convert_bytes (Bs.head hcl hbb m hb3 (c := c) (by omega))
    have hmc : m ≤ c := by omega
    clear hcl hq3
    by_cases hcm : c = m
    · have hll : l.length = m := by omega
      subst hcm
      have HDN : Hid (l.drop c = []) := List.drop_eq_nil_of_le (by omega)
      go_wp2
      go_ret
      have := HEND.out (.slice (some ⟨b, o, none⟩) 0 0) (by rw [HDN.out]; exact Bs.none') (fun k hk => absurd hk (bk_zero _ _ _))
      exact ⟨rfl, this⟩
    · go_wp2
      go_ret
      have := HEND.out (.slice (some ⟨b, o + m, none⟩) (l.length - m) (c - m)) (Bs.tail HC.out hbb m rfl (by omega)) (fun k hk => by rw [HQ.out]; exact bk_blk hk)
      exact ⟨rfl, this⟩
theorem rfText_any {w : World} {g : Nat} {q : Option Nat} {r : Rd} (h : Rdf w g q r) (most : Int) :
    Calls Tryz.prog 75 #[.pointer (some ⟨g, 0, none⟩), .int .i64 most] w fun e w' => e = .returned (.string (mkS (rdText r most).1)) ∧ Rdf w' g q (rdText r most).2 ∧ Chg (One g) w w' := by
  rcases rdText_cases r most with ⟨h1, h2⟩ | ⟨h1, h2, h3⟩
  · rw [h2]
    exact rfText_no h most h1
  · rw [h2, h3]
    exact rfText_yes h most h1
theorem rfBytes_any {w : World} {g : Nat} {q : Option Nat} {r : Rd} (h : Rdf w g q r) (most : Int) (hl : (rdText r most).1.length ≤ 140737488355328) :
    Calls Tryz.prog 76 #[.pointer (some ⟨g, 0, none⟩), .int .i64 most] w fun e w' => ∃ v, e = .returned v ∧ Bs w' v (rdText r most).1 ∧ Rdf w' g q (rdText r most).2 ∧ Chg (One g) w w' ∧ (∀ k, bk v = some k → w.heap.size ≤ k) := by
  have ht := rfText_any h most
  generalize rdText r most = p at ht hl
  obtain ⟨s, r'⟩ := p
  dsimp only at ht hl ⊢
  have HT : Hid (Calls Tryz.prog 75 #[.pointer (some ⟨g, 0, none⟩), .int .i64 most] w fun e w' => e = .returned (.string (mkS s)) ∧ Rdf w' g q r' ∧ Chg (One g) w w') := ht
  clear ht
  have hsz := mkS_size s
  have hcv : ∀ w, (convert 9 24 (.string (mkS s))).run Tryz.prog w = _ := fun w => run_bytes_of_string w 9 24 5 (mkS s) Tryz.underlying9 Tryz.underlying24 Tryz.underlying5
  go_enter Tryz.func76, Tryz.ntmps76
  go_wp2_with fail
  refine HT.out.mono ?_
  rintro e w1 ⟨rfl, hr, hc⟩
  go_wp2
  go_ret
  have hch : Chg Non w1 (w1.alloc (.cells (bytesRow (mkS s) (grownCap w1 s.length 0 5)) 5 ((bytesRow (mkS s) (grownCap w1 s.length 0 5)).size, (bytesRow (mkS s) (grownCap w1 s.length 0 5)).size + 1))).drew := (Chg.alloc Non w1 _).trans (Chg.drew Non _)
  refine ⟨_, rfl, ?_, hr.keep hch id (fun _ _ => id), hc.trans (hch.weak (fun _ _ h => h.elim)), fun k hk => ?_⟩
  · have := Bs_row w1 s (grownCap w1 s.length 0 5) ((bytesRow (mkS s) (grownCap w1 s.length 0 5)).size, (bytesRow (mkS s) (grownCap w1 s.length 0 5)).size + 1) (grownCap_ge _ _ _ _)
    exact this
  · have h1 := bk_blk hk
    have h2 : w1.heap.size = k := by simpa [blk, Value.ownBlock] using h1
    have := hc.size
    omega
theorem rfNew_any {w : World} {x : Value} {l : List UInt8} (hx : Bs w x l) (hl : l.length ≤ 140737488355328) :
    Calls Tryz.prog 43 #[x] w fun e w' => ∃ g q, e = .returned (.pointer (some ⟨g, 0, none⟩)) ∧ Rdf w' g q (some l) ∧ Below w.heap.size w w' ∧ w.heap.size ≤ g ∧ (∀ k, q = some k → w.heap.size ≤ k ∧ k < w'.heap.size) := by
  have HX : Hid (Bs w x l) := hx
  obtain ⟨A, C, rfl⟩ := bs_form hx
  clear hx
  go_enter Tryz.func43, Tryz.ntmps43
  go_wp2_with (at_builtin; refine wpList_app rfl (.tmp 3) (.tmp 4) rfl (.slice (some ⟨w.heap.size, 0, none⟩) 0 0) (.slice A l.length C) rfl rfl (owns_empty w) (HX.out.alloc _) (by simp) (by simp; omega) ?_; intro A1 C1 w1 ho hg hat _; (have HO : Hid (w1.ownsRow w.heap.size 5 1 (.slice A1 l.length C1) l.length (bv l)) := by simpa [Hid] using ho); (have HB : Hid (Below w.heap.size w w1) := ((Below.refl _ _).alloc (Nat.le_refl _) _).grown hg (by simp) (fun k hk => by simp [blk, Value.ownBlock] at hk; omega)); clear ho hg hat)
  go_ret
  refine ⟨w1.heap.size, bk (.slice A1 l.length C1), rfl, ⟨_, heap_alloc_new w1 _, (Bs.of_owns HO.out).alloc _, fun k hk => hk, fun e => ?_, hl⟩, HB.out.alloc HB.out.size _, HB.out.size, fun k hk => ?_⟩
  · have := (HO.out.lt _ (bk_blk e)).2
    omega
  · have := HO.out.lt k (bk_blk hk)
    exact ⟨this.1, by simp; omega⟩
end Go.Proofs.YtbbllgpocjipjaaGreatDoor
