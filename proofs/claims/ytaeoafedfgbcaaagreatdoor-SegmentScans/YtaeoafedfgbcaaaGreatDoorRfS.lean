/- The walks of the document's own reader. The walks of the document's configs as bytes: small, Read, Get. -/
import Derived.Laws.Bits64b
import Derived.Test.YtaeoafedfgbcaaaGreatDoorWalksG
import Derived.Test.YtaeoafedfgbcaaaGreatDoorRfC
namespace Go.Proofs.YtaeoafedfgbcaaaGreatDoor
open Go.RowKit

/- The document's reader: r is what is left of a good one. -/
abbrev Rdf (w : World) (g : Nat) (q : Option Nat) (r : Rd) : Prop := RdAt w g 103 r.isNone q (r.getD [])
theorem RdAt.turn2r {w : World} {g T : Nat} {fl : Bool} {q : Option Nat} {l : List UInt8} (h : RdAt w g T fl q l) (v' : Value) (fl' : Bool) (l' : List UInt8) (hb : Bs w v' l') (hq : ∀ k, bk v' = some k → q = some k) (hl : l'.length ≤ 140737488355328) :
    RdAt ((w.setCell ⟨g, 1, none⟩ (.bool fl')).setCell ⟨g, 0, none⟩ v') g T fl' q l' ∧ Chg (One g) w ((w.setCell ⟨g, 1, none⟩ (.bool fl')).setCell ⟨g, 0, none⟩ v') := by
  obtain ⟨v, h1, h2, h3, h4, h5⟩ := h
  have hc : Chg (One g) w ((w.setCell ⟨g, 1, none⟩ (.bool fl')).setCell ⟨g, 0, none⟩ v') := (Chg.setCell (S := One g) w ⟨g, 1, none⟩ _ rfl).trans (Chg.setCell (S := One g) _ ⟨g, 0, none⟩ _ rfl)
  refine ⟨⟨v', ?_, hb.keep hc (fun k hk e => h4 (by rw [hq k hk, e])), hq, h4, hl⟩, hc⟩
  rw [heap_set (heap_set h1 1 _) 0]
  rfl
theorem rfFail_any {w : World} {g : Nat} {q : Option Nat} {r : Rd} (h : Rdf w g q r) :
    Calls Tryz.prog 62 #[.pointer (some ⟨g, 0, none⟩)] w fun e w' => e = .returned (.tuple #[]) ∧ Rdf w' g q none ∧ Chg (One g) w w' := by
  have HH : Hid (Rdf w g q r) := h
  obtain ⟨v, h1, _⟩ := h
  have hc0 := cell_at h1 0
  have hc1 := cell_at h1 1
  have hf0 := frozen_at h1 0
  have hf1 := frozen_at h1 1
  rw [show #[v, Value.bool r.isNone][0]? = some v from rfl] at hc0
  rw [show #[v, Value.bool r.isNone][1]? = some (.bool r.isNone) from rfl] at hc1
  clear h1
  go_enter Tryz.func62, Tryz.ntmps62
  go_wp2
  go_end0
  have := HH.out.turn2r (.slice none 0 0) true [] (Bs.nil w) (fun k hk => absurd hk (bk_zero _ _ _)) (by simp)
  exact ⟨rfl, this.1, this.2⟩
theorem rfGood_any {w : World} {g : Nat} {q : Option Nat} {r : Rd} (h : Rdf w g q r) :
    Calls Tryz.prog 85 #[.pointer (some ⟨g, 0, none⟩)] w fun e w' => e = .returned (.bool r.isSome) ∧ w' = w := by
  obtain ⟨v, h1, _⟩ := h
  have hc1 := cell_at h1 1
  rw [show #[v, Value.bool r.isNone][1]? = some (.bool r.isNone) from rfl] at hc1
  clear h1
  cases r with
  | none =>
    go_enter Tryz.func85, Tryz.ntmps85
    go_wp2
    go_ret
    exact ⟨rfl, rfl⟩
  | some l =>
    go_enter Tryz.func85, Tryz.ntmps85
    go_wp2
    go_ret
    exact ⟨rfl, rfl⟩
theorem rfWhole_any {w : World} {g : Nat} {q : Option Nat} {r : Rd} (h : Rdf w g q r) :
    Calls Tryz.prog 36 #[.pointer (some ⟨g, 0, none⟩)] w fun e w' => e = .returned (.bool (decide (r = some []))) ∧ w' = w := by
  obtain ⟨v, h1, h2, _⟩ := h
  have hc0 := cell_at h1 0
  have hc1 := cell_at h1 1
  rw [show #[v, Value.bool r.isNone][0]? = some v from rfl] at hc0
  rw [show #[v, Value.bool r.isNone][1]? = some (.bool r.isNone) from rfl] at hc1
  obtain ⟨A, C, rfl⟩ := bs_form h2
  clear h1 h2
  cases r with
  | none =>
    go_enter Tryz.func36, Tryz.ntmps36
    go_wp2
    go_ret
    exact ⟨rfl, rfl⟩
  | some l =>
    go_enter Tryz.func36, Tryz.ntmps36
    go_wp2
    go_ret
    refine ⟨?_, rfl⟩
    cases l with
    | nil => rfl
    | cons x t =>
      simp
      omega
theorem rfByte_any {w : World} {g : Nat} {q : Option Nat} {r : Rd} (h : Rdf w g q r) :
    Calls Tryz.prog 33 #[.pointer (some ⟨g, 0, none⟩)] w fun e w' => e = .returned (.int .u8 ((rdByte r).1.toNat : Nat)) ∧ Rdf w' g q (rdByte r).2 ∧ Chg (One g) w w' := by
  have HH : Hid (Rdf w g q r) := h
  have hcase : (∃ x t, r = some (x :: t)) ∨ (rdByte r = (0, none) ∧ r.getD [] = []) := by
    rcases r with _ | _ | ⟨x, t⟩
    · exact .inr ⟨rfl, rfl⟩
    · exact .inr ⟨rfl, rfl⟩
    · exact .inl ⟨x, t, rfl⟩
  obtain ⟨v, h1, h2, h3, h4, hlim⟩ := h
  have hc0 := cell_at h1 0
  have hf0 := frozen_at h1 0
  rw [show #[v, Value.bool r.isNone][0]? = some v from rfl] at hc0
  have H3 : Hid (∀ k, bk v = some k → q = some k) := h3
  clear h1 h3
  rcases hcase with ⟨x, t, rfl⟩ | ⟨e1, e2⟩
  · change Bs w v (x :: t) at h2
    change (x :: t).length ≤ _ at hlim
    rcases h2 with ⟨_, h0⟩ | ⟨_, _, _, h0⟩ | ⟨hpos, b, o, c, rfl, hc, hb, hcl⟩
    · cases h0
    · cases h0
    · have hx0 := hcl 0 (by simp)
      simp only [Nat.add_zero, List.getElem_cons_zero] at hx0
      have hq3 : q = some b := H3.out b (bk_pos hpos)
      have HC : Hid (∀ j (h : j < (x :: t).length), w.cell? ⟨b, o + j, none⟩ = some (.int .u8 (((x :: t)[j]'h).toNat : Int))) := hcl
      have HQ : Hid (q = some b) := hq3
      have hlc : t.length + 1 ≤ c := hc
      rw [show (x :: t).length = t.length + 1 from rfl] at *
      clear hcl hq3 hc
      by_cases hc1 : c = 1
      · subst hc1
        have ht : t = [] := List.length_eq_zero_iff.1 (by omega)
        subst ht
        go_enter Tryz.func33, Tryz.ntmps33
        go_wp2
        go_ret
        have hh := HH.out.turn1 (.slice (some ⟨b, o, none⟩) 0 0) [] Bs.none' (fun k hk => absurd hk (bk_zero _ _ _)) (by simp)
        exact ⟨rfl, hh.1, hh.2⟩
      · go_enter Tryz.func33, Tryz.ntmps33
        go_wp2
        go_ret
        have hB := Bs.tail HC.out hb 1 (m := t.length) (c := c - 1) (by simp) (by omega)
        have hh := HH.out.turn1 _ _ hB (fun k hk => by rw [HQ.out]; exact bk_blk hk) (by simp; omega)
        exact ⟨rfl, hh.1, hh.2⟩
  · rw [e1]
    rw [e2] at h2
    obtain ⟨A, C, rfl⟩ := bs_form h2
    clear h2
    go_enter Tryz.func33, Tryz.ntmps33
    go_wp2_with fail
    refine (rfFail_any HH.out).mono ?_
    rintro e w2 ⟨rfl, hr, hch⟩
    go_wp2
    go_ret
    exact ⟨rfl, hr, hch⟩
theorem ret_i {k : IntKind} {a b : Int} (h : a = b) : Ending.returned (.int k a) = .returned (.int k b) := by rw [h]
theorem neg_half (u : Nat) (h : u < 18446744073709551616) : wrap64 (wrap64 (-wrap64 (IntKind.u64.wrap ((u : Int) / 2))) - 1) = -((u : Int) / 2) - 1 := by
  simp only [IntKind.wrap_u64, wrap64]
  omega
theorem pos_half (u : Nat) (h : u < 18446744073709551616) : wrap64 (IntKind.u64.wrap ((u : Int) / 2)) = (u : Int) / 2 := by
  simp only [IntKind.wrap_u64, wrap64]
  omega
theorem add_dig (x d k : Nat) (hk : k < 9) (hx : x < 128 ^ k) (hd : d < 128) : IntKind.u64.wrap ((x : Int) + IntKind.u64.wrap ((d : Int) * 2 ^ (7 * k))) = ((x + 128 ^ k * d : Nat) : Int) ∧ x + 128 ^ k * d < 128 ^ (k + 1) := by
  have hp := pow_le9 hk
  have h1 : 128 ^ k * d + 128 ^ k ≤ 128 ^ k * 128 := by rw [← Nat.mul_succ]; exact Nat.mul_le_mul_left _ (by omega)
  have e1 : ((d : Int) * 2 ^ (7 * k)) = ((128 ^ k * d : Nat) : Int) := by rw [← pow128, Int.natCast_mul, Int.mul_comm]; simp
  rw [e1]
  simp only [IntKind.wrap_u64]
  refine ⟨by omega, ?_⟩
  rw [Nat.pow_succ]; omega
theorem add_last (x d k : Nat) (hk : k < 10) (hx : x < 128 ^ k) (hd : d < 128) (h9 : k = 9 → d < 2) : IntKind.u64.wrap ((x : Int) + IntKind.u64.wrap ((d : Int) * 2 ^ (7 * k))) = ((x + 128 ^ k * d : Nat) : Int) ∧ x + 128 ^ k * d < 18446744073709551616 := by
  have e9 : 128 ^ 9 = 9223372036854775808 := by decide +kernel
  have e1 : ((d : Int) * 2 ^ (7 * k)) = ((128 ^ k * d : Nat) : Int) := by rw [← pow128, Int.natCast_mul, Int.mul_comm]; simp
  have hlt : x + 128 ^ k * d < 18446744073709551616 := by
    rcases Nat.lt_or_ge k 9 with h | h
    · have := (add_dig x d k h hx hd).2
      have h2 := pow_le9 h
      rw [Nat.pow_succ] at this
      omega
    · have : k = 9 := by omega
      subst this
      have := h9 rfl
      rw [e9] at hx ⊢
      omega
  rw [e1]
  simp only [IntKind.wrap_u64]
  exact ⟨by omega, hlt⟩
theorem unzz_odd (u : Nat) (ho : u % 2 = 1) : -(((u / 2 : Nat) : Int)) - 1 = unzz u := by unfold unzz; rw [if_pos ho]
theorem unzz_even (u : Nat) (ho : ¬ u % 2 = 1) : ((u / 2 : Nat) : Int) = unzz u := by unfold unzz; rw [if_neg ho]
theorem rfInt_empty {w : World} {g : Nat} {q : Option Nat} {r : Rd} (h : Rdf w g q r) (he : r.getD [] = []) :
    Calls Tryz.prog 34 #[.pointer (some ⟨g, 0, none⟩)] w fun e w' => e = .returned (.int .i64 0) ∧ Rdf w' g q none ∧ Chg (One g) w w' := by
  have HH : Hid (Rdf w g q r) := h
  obtain ⟨v, h1, h2, h3, h4, hlim⟩ := h
  have hc0 := cell_at h1 0
  rw [show #[v, Value.bool r.isNone][0]? = some v from rfl] at hc0
  rw [he] at h2
  obtain ⟨A, C, rfl⟩ := bs_form h2
  clear h1 h2 h3 he hlim
  go_enter Tryz.func34, Tryz.ntmps34
  go_wp2_with fail
  refine wp_loop_rounds 1 ?_
  rw [rounds_succ]
  go_wp2_with fail
  refine (rfFail_any HH.out).mono ?_
  rintro e w2 ⟨rfl, hr, hch⟩
  go_wp2
  go_ret
  exact ⟨rfl, hr, hch⟩
set_option maxRecDepth 100000 in
set_option maxHeartbeats 2000000 in
theorem rfInt_row {w : World} {g : Nat} {q : Option Nat} {l : List UInt8} (h : Rdf w g q (some l)) (hne : 0 < l.length) :
    Calls Tryz.prog 34 #[.pointer (some ⟨g, 0, none⟩)] w fun e w' => e = .returned (.int .i64 (rdInt (some l)).1) ∧ Rdf w' g q (rdInt (some l)).2 ∧ Chg (One g) w w' := by
  have HH : Hid (Rdf w g q (some l)) := h
  obtain ⟨v, h1, h2, h3, h4, hlim⟩ := h
  have hc0 := cell_at h1 0
  have hf0 := frozen_at h1 0
  rw [show #[v, Value.bool (some l).isNone][0]? = some v from rfl] at hc0
  have H3 : Hid (∀ k, bk v = some k → q = some k) := h3
  clear h1 h3
  change Bs w v l at h2
  change l.length ≤ _ at hlim
  rcases h2 with ⟨_, rfl⟩ | ⟨_, _, _, rfl⟩ | ⟨hpos, b, o, c, rfl, hc, hb, hcl⟩
  · simp at hne
  · simp at hne
  have HC : Hid (∀ j (h : j < l.length), w.cell? ⟨b, o + j, none⟩ = some (.int .u8 ((l[j]'h).toNat : Int))) := hcl
  have HQ : Hid (q = some b) := H3.out b (bk_pos hpos)
  generalize hR : rdInt (some l) = R
  have HR : Hid (rdInt (some l) = R) := hR
  clear hcl H3 hR
  go_enter Tryz.func34, Tryz.ntmps34
  go_wp2_with fail
  go_loop [3, 4] (fun s i => ∃ (k x X : Nat), i = .int .i64 k ∧ s = .int .u64 x ∧ k ≤ l.length ∧ k ≤ 10 ∧ x < 18446744073709551616 ∧ dec 0 l = (dec k (l.drop k)).map (fun p => (X + 128 ^ k * p.1, p.2 + k)) ∧ X < 128 ^ k ∧ (k < 10 → x = X)) (fun _ i => 10 - (intOf i).toNat)
  case atStart => exact ⟨0, 0, 0, rfl, rfl, by omega, by omega, by omega, by simp, by simp, fun _ => rfl⟩
  case round =>
    obtain ⟨k, x, X, rfl, rfl, hk, hk10, hx, hd, hX, hxX⟩ := hrel
    have HD : Hid (dec 0 l = (dec k (l.drop k)).map (fun p => (X + 128 ^ k * p.1, p.2 + k))) := hd
    have HXX : Hid (k < 10 → x = X) := hxX
    have HX : Hid (X < 128 ^ k) := hX
    clear hd hxX hX
    by_cases hend : k = l.length ∨ k = 10
    · have hnone : dec 0 l = none := by rw [HD.out, dec_end (by omega)]; rfl
      have hr : R = (0, none) := by rw [← HR.out]; unfold rdInt; dsimp only; rw [hnone]
      subst hr
      rcases (show (k = l.length) ∨ (k < l.length ∧ k = 10) by omega) with hkl | ⟨hkl, h10⟩
      · have hkl' : ¬ (k : Int) < l.length := by omega
        have hkl2 : (l.length : Int) ≤ k := by omega
        clear hnone hkl hend
        go_wp2_with fail
        refine (rfFail_any HH.out).mono ?_
        rintro e w2 ⟨rfl, hrr, hch⟩
        go_wp2
        go_ret
        exact ⟨rfl, hrr, hch⟩
      · subst h10
        have hkl' : (10 : Int) < l.length := by omega
        clear hnone hend
        go_wp2_with fail
        refine (rfFail_any HH.out).mono ?_
        rintro e w2 ⟨rfl, hrr, hch⟩
        go_wp2
        go_ret
        exact ⟨rfl, hrr, hch⟩
    · have hkl : k < l.length := by omega
      have hk9 : k < 10 := by omega
      have hxe : x = X := HXX.out hk9
      subst hxe
      have hcx := HC.out k hkl
      have hx256 := (l[k]'hkl).toNat_lt
      have HMORE : Hid (128 ≤ (l[k]'hkl).toNat → dec k (l.drop k) = (dec (k + 1) (l.drop (k + 1))).map (fun p => ((l[k]'hkl).toNat - 128 + 128 * p.1, p.2 + 1))) := dec_more hkl hk9
      have HLAST : Hid ((l[k]'hkl).toNat < 128 → dec k (l.drop k) = if (k = 9 ∧ (l[k]'hkl).toNat ≠ 1) ∨ ((l[k]'hkl).toNat = 0 ∧ 0 < k) then none else some ((l[k]'hkl).toNat, 1)) := dec_last hkl hk9
      generalize (l[k]'hkl).toNat = y at hcx hx256 HMORE HLAST
      by_cases hy : 128 ≤ y
      · have hy' : (128 : Int) ≤ y := by omega
        have hm := HMORE.out hy
        go_wp2_with fail
        have hw0 : 0 ≤ IntKind.u64.wrap ((x : Int) + IntKind.u64.wrap (((y : Int) - 128) * 2 ^ (7 * k))) ∧ IntKind.u64.wrap ((x : Int) + IntKind.u64.wrap (((y : Int) - 128) * 2 ^ (7 * k))) < 18446744073709551616 := by
          simp only [IntKind.wrap_u64]; omega
        have hX1 : x + 128 ^ k * (y - 128) < 128 ^ (k + 1) := by
          have h1 : 128 ^ k * (y - 128) + 128 ^ k ≤ 128 ^ k * 128 := by rw [← Nat.mul_succ]; exact Nat.mul_le_mul_left _ (by omega)
          have := HX.out
          rw [Nat.pow_succ]; omega
        have hdd : dec 0 l = (dec (k + 1) (l.drop (k + 1))).map (fun p => ((x + 128 ^ k * (y - 128)) + 128 ^ (k + 1) * p.1, p.2 + (k + 1))) := by
          rw [HD.out, hm, Option.map_map]
          congr 1
          funext p
          simp only [Function.comp, Prod.mk.injEq]
          refine ⟨?_, by omega⟩
          rw [Nat.mul_add, Nat.pow_succ, Nat.mul_assoc]
          omega
        refine ⟨⟨k + 1, (IntKind.u64.wrap ((x : Int) + IntKind.u64.wrap (((y : Int) - 128) * 2 ^ (7 * k)))).toNat, x + 128 ^ k * (y - 128), by go_num, by rw [Int.toNat_of_nonneg hw0.1], by omega, by omega, by omega, hdd, hX1, fun h10 => ?_⟩, by simp [intOf]; omega⟩
        have := (add_dig x (y - 128) k (by omega) HX.out (by omega)).1
        rw [show ((y - 128 : Nat) : Int) = (y : Int) - 128 by omega] at this
        rw [this]
        exact Int.toNat_natCast _
      · have hy' : ¬ (128 : Int) ≤ y := by omega
        have hl := HLAST.out (by omega)
        by_cases hbad : (k = 9 ∧ y ≠ 1) ∨ (y = 0 ∧ 0 < k)
        · rw [if_pos hbad] at hl
          have hnone : dec 0 l = none := by rw [HD.out, hl]; rfl
          have hr : R = (0, none) := by rw [← HR.out]; unfold rdInt; dsimp only; rw [hnone]
          subst hr
          have hk10' : ((k : Int) == 10) = false := by simp; omega
          have hkl' : ¬ (l.length : Int) ≤ k := by omega
          rcases (show (k = 9 ∧ 1 < y) ∨ (k = 9 ∧ y = 0) ∨ (¬ k = 9 ∧ 0 < k ∧ y = 0) by omega) with ⟨h9, hy1⟩ | ⟨h9, hy1⟩ | ⟨h9, hk0, hy1⟩
          · subst h9
            have hy1' : (1 : Int) < y := by omega
            clear hnone hl hbad hend
            go_wp2_with fail
            refine (rfFail_any HH.out).mono ?_
            rintro e w2 ⟨rfl, hrr, hch⟩
            go_wp2
            go_ret
            exact ⟨rfl, hrr, hch⟩
          · subst h9
            subst hy1
            clear hnone hl hbad hend
            go_wp2_with fail
            refine (rfFail_any HH.out).mono ?_
            rintro e w2 ⟨rfl, hrr, hch⟩
            go_wp2
            go_ret
            exact ⟨rfl, hrr, hch⟩
          · subst hy1
            have h9' : ((k : Int) == 9) = false := by simp; omega
            have hk0' : (0 : Int) < k := by omega
            clear hnone hl hbad hend h9
            go_wp2_with fail
            refine (rfFail_any HH.out).mono ?_
            rintro e w2 ⟨rfl, hrr, hch⟩
            go_wp2
            go_ret
            exact ⟨rfl, hrr, hch⟩
        · rw [if_neg hbad] at hl
          have hadd := add_last x y k hk9 HX.out (by omega) (by omega)
          have hsome : dec 0 l = some (x + 128 ^ k * y, k + 1) := by
            rw [HD.out, hl]
            simp only [Option.map_some, Option.some.injEq, Prod.mk.injEq, true_and]
            omega
          obtain ⟨u, hud⟩ : ∃ u, u = x + 128 ^ k * y := ⟨_, rfl⟩
          rw [← hud] at hsome hadd
          clear hud
          have hr : R = (unzz u, some (l.drop (k + 1))) := by rw [← HR.out]; unfold rdInt; dsimp only; rw [hsome]
          subst hr
          have hu := hadd.2
          have hadd1 := hadd.1
          have HUL : Hid (u < 18446744073709551616) := hu
          clear hu
          have hk10' : ((k : Int) == 10) = false := by simp; omega
          have hkl' : ¬ (l.length : Int) ≤ k := by omega
          have H0 : Hid (((k : Int) == 9) = true ∧ y = 1 ∨ ((k : Int) == 9) = false ∧ (0 < y ∨ k = 0)) := by
            show _ ∨ _
            by_cases h9 : k = 9
            · left; subst h9; exact ⟨rfl, by omega⟩
            · right; exact ⟨by simp; omega, by omega⟩
          clear hl hsome hadd hbad hend HMORE HLAST HD
          have hcs : (c = k + 1 ∧ l.length = k + 1) ∨ ¬ c = k + 1 := by omega
          have hkk : k + 1 ≤ l.length := hkl
          have hpar : ((u : Int) % 2 = 1 ∧ u % 2 = 1) ∨ ((u : Int) % 2 = 0 ∧ ¬ u % 2 = 1) := by omega
          have HU : Hid (u % 2 = 1 → -(((u : Int) / 2)) - 1 = unzz u) := fun ho => by have := unzz_odd u ho; rw [← this]; omega
          have HV : Hid (¬ u % 2 = 1 → ((u : Int) / 2) = unzz u) := fun ho => by have := unzz_even u ho; rw [← this]; omega
          have HTAIL : Hid (Bs w (.slice (some ⟨b, o + (k + 1), none⟩) (l.length - (k + 1)) (c - (k + 1))) (l.drop (k + 1))) := Bs.tail HC.out hb (k + 1) rfl (by omega)
          have HNIL : Hid (l.length = k + 1 → l.drop (k + 1) = []) := fun h => List.drop_eq_nil_of_le (by omega)
          have HLD : Hid ((l.drop (k + 1)).length ≤ 140737488355328) := by show (l.drop (k + 1)).length ≤ _; rw [List.length_drop]; omega
          clear HC
          have hy3 : ¬ (128 : Int) ≤ y := hy'
          have H1 : Hid ((((k : Int) == 9) = true ∧ (¬ (1 : Int) < y) ∧ (0 : Int) < k ∧ ((y : Int) == 0) = false) ∨ (((k : Int) == 9) = false ∧ (0 : Int) < k ∧ ((y : Int) == 0) = false) ∨ (((k : Int) == 9) = false ∧ ¬ (0 : Int) < k)) := by
            show _ ∨ _ ∨ _
            rcases H0.out with ⟨h9, hy1⟩ | ⟨h9, h⟩
            · left; exact ⟨h9, by omega, by simp at h9; omega, by simp; omega⟩
            · by_cases hk0 : k = 0
              · right; right; exact ⟨h9, by omega⟩
              · right; left; exact ⟨h9, by omega, by simp; omega⟩
          clear H0
          rcases H1.out with ⟨h9, hy1, hk0, hy0⟩ | ⟨h9, hk0, hy0⟩ | ⟨h9, hk0⟩
          · rcases hcs with ⟨hc1, hll⟩ | hc1
            · have HDN : Hid (l.drop (k + 1) = []) := HNIL.out hll
              subst hc1
              have hh := HH.out.turn1 (.slice (some ⟨b, o, none⟩) 0 0) [] Bs.none' (fun k hk => absurd hk (bk_zero _ _ _)) (by simp)
              have H5 : Hid (Rdf (w.setCell ⟨g, 0, none⟩ (.slice (some ⟨b, o, none⟩) 0 0)) g q (some []) ∧ Chg (One g) w (w.setCell ⟨g, 0, none⟩ (.slice (some ⟨b, o, none⟩) 0 0))) := hh
              clear hh
              rcases hpar with ⟨hp, hpn⟩ | ⟨hp, hpn⟩
              · have HZ : Hid (wrap64 (wrap64 (-wrap64 (IntKind.u64.wrap ((u : Int) / 2))) - 1) = unzz u) := (neg_half u HUL.out).trans (HU.out hpn)
                clear hpn
                go_wp2
                go_ret
                exact ⟨ret_i HZ.out, by rw [HDN.out]; exact H5.out.1, H5.out.2⟩
              · have HZ : Hid (wrap64 (IntKind.u64.wrap ((u : Int) / 2)) = unzz u) := (pos_half u HUL.out).trans (HV.out hpn)
                clear hpn
                go_wp2
                go_ret
                exact ⟨ret_i HZ.out, by rw [HDN.out]; exact H5.out.1, H5.out.2⟩
            · have hh := HH.out.turn1 _ _ HTAIL.out (fun k hk => by rw [HQ.out]; exact bk_blk hk) HLD.out
              have H5 : Hid (Rdf (w.setCell ⟨g, 0, none⟩ (.slice (some ⟨b, o + (k + 1), none⟩) (l.length - (k + 1)) (c - (k + 1)))) g q (some (l.drop (k + 1))) ∧ Chg (One g) w (w.setCell ⟨g, 0, none⟩ (.slice (some ⟨b, o + (k + 1), none⟩) (l.length - (k + 1)) (c - (k + 1))))) := hh
              clear hh
              rcases hpar with ⟨hp, hpn⟩ | ⟨hp, hpn⟩
              · have HZ : Hid (wrap64 (wrap64 (-wrap64 (IntKind.u64.wrap ((u : Int) / 2))) - 1) = unzz u) := (neg_half u HUL.out).trans (HU.out hpn)
                clear hpn
                go_wp2
                go_ret
                exact ⟨ret_i HZ.out, H5.out.1, H5.out.2⟩
              · have HZ : Hid (wrap64 (IntKind.u64.wrap ((u : Int) / 2)) = unzz u) := (pos_half u HUL.out).trans (HV.out hpn)
                clear hpn
                go_wp2
                go_ret
                exact ⟨ret_i HZ.out, H5.out.1, H5.out.2⟩
          · rcases hcs with ⟨hc1, hll⟩ | hc1
            · have HDN : Hid (l.drop (k + 1) = []) := HNIL.out hll
              subst hc1
              have hh := HH.out.turn1 (.slice (some ⟨b, o, none⟩) 0 0) [] Bs.none' (fun k hk => absurd hk (bk_zero _ _ _)) (by simp)
              have H5 : Hid (Rdf (w.setCell ⟨g, 0, none⟩ (.slice (some ⟨b, o, none⟩) 0 0)) g q (some []) ∧ Chg (One g) w (w.setCell ⟨g, 0, none⟩ (.slice (some ⟨b, o, none⟩) 0 0))) := hh
              clear hh
              rcases hpar with ⟨hp, hpn⟩ | ⟨hp, hpn⟩
              · have HZ : Hid (wrap64 (wrap64 (-wrap64 (IntKind.u64.wrap ((u : Int) / 2))) - 1) = unzz u) := (neg_half u HUL.out).trans (HU.out hpn)
                clear hpn
                go_wp2
                go_ret
                exact ⟨ret_i HZ.out, by rw [HDN.out]; exact H5.out.1, H5.out.2⟩
              · have HZ : Hid (wrap64 (IntKind.u64.wrap ((u : Int) / 2)) = unzz u) := (pos_half u HUL.out).trans (HV.out hpn)
                clear hpn
                go_wp2
                go_ret
                exact ⟨ret_i HZ.out, by rw [HDN.out]; exact H5.out.1, H5.out.2⟩
            · have hh := HH.out.turn1 _ _ HTAIL.out (fun k hk => by rw [HQ.out]; exact bk_blk hk) HLD.out
              have H5 : Hid (Rdf (w.setCell ⟨g, 0, none⟩ (.slice (some ⟨b, o + (k + 1), none⟩) (l.length - (k + 1)) (c - (k + 1)))) g q (some (l.drop (k + 1))) ∧ Chg (One g) w (w.setCell ⟨g, 0, none⟩ (.slice (some ⟨b, o + (k + 1), none⟩) (l.length - (k + 1)) (c - (k + 1))))) := hh
              clear hh
              rcases hpar with ⟨hp, hpn⟩ | ⟨hp, hpn⟩
              · have HZ : Hid (wrap64 (wrap64 (-wrap64 (IntKind.u64.wrap ((u : Int) / 2))) - 1) = unzz u) := (neg_half u HUL.out).trans (HU.out hpn)
                clear hpn
                go_wp2
                go_ret
                exact ⟨ret_i HZ.out, H5.out.1, H5.out.2⟩
              · have HZ : Hid (wrap64 (IntKind.u64.wrap ((u : Int) / 2)) = unzz u) := (pos_half u HUL.out).trans (HV.out hpn)
                clear hpn
                go_wp2
                go_ret
                exact ⟨ret_i HZ.out, H5.out.1, H5.out.2⟩
          · rcases hcs with ⟨hc1, hll⟩ | hc1
            · have HDN : Hid (l.drop (k + 1) = []) := HNIL.out hll
              subst hc1
              have hh := HH.out.turn1 (.slice (some ⟨b, o, none⟩) 0 0) [] Bs.none' (fun k hk => absurd hk (bk_zero _ _ _)) (by simp)
              have H5 : Hid (Rdf (w.setCell ⟨g, 0, none⟩ (.slice (some ⟨b, o, none⟩) 0 0)) g q (some []) ∧ Chg (One g) w (w.setCell ⟨g, 0, none⟩ (.slice (some ⟨b, o, none⟩) 0 0))) := hh
              clear hh
              rcases hpar with ⟨hp, hpn⟩ | ⟨hp, hpn⟩
              · have HZ : Hid (wrap64 (wrap64 (-wrap64 (IntKind.u64.wrap ((u : Int) / 2))) - 1) = unzz u) := (neg_half u HUL.out).trans (HU.out hpn)
                clear hpn
                go_wp2
                go_ret
                exact ⟨ret_i HZ.out, by rw [HDN.out]; exact H5.out.1, H5.out.2⟩
              · have HZ : Hid (wrap64 (IntKind.u64.wrap ((u : Int) / 2)) = unzz u) := (pos_half u HUL.out).trans (HV.out hpn)
                clear hpn
                go_wp2
                go_ret
                exact ⟨ret_i HZ.out, by rw [HDN.out]; exact H5.out.1, H5.out.2⟩
            · have hh := HH.out.turn1 _ _ HTAIL.out (fun k hk => by rw [HQ.out]; exact bk_blk hk) HLD.out
              have H5 : Hid (Rdf (w.setCell ⟨g, 0, none⟩ (.slice (some ⟨b, o + (k + 1), none⟩) (l.length - (k + 1)) (c - (k + 1)))) g q (some (l.drop (k + 1))) ∧ Chg (One g) w (w.setCell ⟨g, 0, none⟩ (.slice (some ⟨b, o + (k + 1), none⟩) (l.length - (k + 1)) (c - (k + 1))))) := hh
              clear hh
              rcases hpar with ⟨hp, hpn⟩ | ⟨hp, hpn⟩
              · have HZ : Hid (wrap64 (wrap64 (-wrap64 (IntKind.u64.wrap ((u : Int) / 2))) - 1) = unzz u) := (neg_half u HUL.out).trans (HU.out hpn)
                clear hpn
                go_wp2
                go_ret
                exact ⟨ret_i HZ.out, H5.out.1, H5.out.2⟩
              · have HZ : Hid (wrap64 (IntKind.u64.wrap ((u : Int) / 2)) = unzz u) := (pos_half u HUL.out).trans (HV.out hpn)
                clear hpn
                go_wp2
                go_ret
                exact ⟨ret_i HZ.out, H5.out.1, H5.out.2⟩
theorem rfInt_any {w : World} {g : Nat} {q : Option Nat} {r : Rd} (h : Rdf w g q r) :
    Calls Tryz.prog 34 #[.pointer (some ⟨g, 0, none⟩)] w fun e w' => e = .returned (.int .i64 (rdInt r).1) ∧ Rdf w' g q (rdInt r).2 ∧ Chg (One g) w w' := by
  rcases r with _ | _ | ⟨x, t⟩
  · exact rfInt_empty h rfl
  · exact rfInt_empty h rfl
  · exact rfInt_row h (by simp)
set_option maxRecDepth 100000 in
theorem rfCount_any {w : World} {g : Nat} {q : Option Nat} {r : Rd} (h : Rdf w g q r) (most : Int) :
    Calls Tryz.prog 84 #[.pointer (some ⟨g, 0, none⟩), .int .i64 most] w fun e w' => e = .returned (.int .i64 (rdCount r most).1) ∧ Rdf w' g q (rdCount r most).2 ∧ Chg (One g) w w' := by
  have hi := rfInt_any h
  unfold rdCount
  generalize rdInt r = p at hi
  obtain ⟨n, r'⟩ := p
  dsimp only at hi ⊢
  have HI : Hid (Calls Tryz.prog 34 #[.pointer (some ⟨g, 0, none⟩)] w fun e w' => e = .returned (.int .i64 n) ∧ Rdf w' g q r' ∧ Chg (One g) w w') := hi
  clear hi h
  by_cases hb : n < 0 ∨ most < n
  · rw [if_pos hb]
    have hbb : (n < 0) ∨ (¬ n < 0 ∧ most < n) := by omega
    clear hb
    rcases hbb with hb | ⟨hb, hb2⟩
    all_goals
      go_enter Tryz.func84, Tryz.ntmps84
      go_wp2_with fail
      refine HI.out.mono ?_
      rintro e w1 ⟨rfl, hr, hc⟩
      go_wp2_with fail
      refine (rfFail_any hr).mono ?_
      rintro e w3 ⟨rfl, hr3, hc3⟩
      go_wp2
      go_ret
      exact ⟨rfl, hr3, hc.trans hc3⟩
  · rw [if_neg hb]
    have hb1 : ¬ n < 0 := by omega
    have hb2 : ¬ most < n := by omega
    clear hb
    go_enter Tryz.func84, Tryz.ntmps84
    go_wp2_with fail
    refine HI.out.mono ?_
    rintro e w1 ⟨rfl, hr, hc⟩
    go_wp2
    go_ret
    exact ⟨rfl, hr, hc⟩
theorem rdText_cases (r : Rd) (most : Int) : ((rdInt r).1 < 0 ∨ most < (rdInt r).1 ∨ ((((rdInt r).2.getD []).length : Int) < (rdInt r).1)) ∧ rdText r most = ([], none) ∨
    ¬ ((rdInt r).1 < 0 ∨ most < (rdInt r).1 ∨ ((((rdInt r).2.getD []).length : Int) < (rdInt r).1)) ∧ (rdText r most).1 = ((rdInt r).2.getD []).take (rdInt r).1.toNat ∧ (rdText r most).2 = (rdInt r).2.map (fun l => l.drop (rdInt r).1.toNat) := by
  have hz : (rdInt r).2 = none → (rdInt r).1 = 0 := by
    cases r with
    | none => intro _; rfl
    | some l =>
      cases hd : dec 0 l with
      | none => simp [rdInt, hd]
      | some p => simp [rdInt, hd]
  unfold rdText rdCount
  generalize rdInt r = p at *
  obtain ⟨n, r'⟩ := p
  dsimp only at *
  by_cases h1 : n < 0 ∨ most < n
  · left
    rw [if_pos h1]
    exact ⟨by omega, rfl⟩
  · rw [if_neg h1]
    dsimp only
    cases r' with
    | none =>
      have := hz rfl
      subst this
      right
      refine ⟨?_, rfl, rfl⟩
      simp
      omega
    | some l =>
      simp only [Option.getD_some, rdTake]
      by_cases h2 : l.length < n.toNat
      · left
        rw [if_pos h2]
        exact ⟨by omega, rfl⟩
      · right
        rw [if_neg h2]
        exact ⟨by omega, rfl, rfl⟩
end Go.Proofs.YtaeoafedfgbcaaaGreatDoor
/- The walks of the document's own reader: texts and bytes. -/
namespace Go.Proofs.YtaeoafedfgbcaaaGreatDoor
open Go.RowKit

theorem rfText_no {w : World} {g : Nat} {q : Option Nat} {r : Rd} (h : Rdf w g q r) (most : Int) (hn : (rdInt r).1 < 0 ∨ most < (rdInt r).1 ∨ ((((rdInt r).2.getD []).length : Int) < (rdInt r).1)) :
    Calls Tryz.prog 63 #[.pointer (some ⟨g, 0, none⟩), .int .i64 most] w fun e w' => e = .returned (.string (mkS [])) ∧ Rdf w' g q none ∧ Chg (One g) w w' := by
  have hi := rfInt_any h
  generalize rdInt r = p at hi hn
  obtain ⟨n, r'⟩ := p
  dsimp only at hi hn
  have HI : Hid (Calls Tryz.prog 34 #[.pointer (some ⟨g, 0, none⟩)] w fun e w' => e = .returned (.int .i64 n) ∧ Rdf w' g q r' ∧ Chg (One g) w w') := hi
  clear hi h
  have hnn : (n < 0) ∨ (¬ n < 0 ∧ most < n) ∨ (¬ n < 0 ∧ ¬ most < n ∧ ((r'.getD []).length : Int) < n) := by omega
  clear hn
  rcases hnn with hb | ⟨hb, hb2⟩ | ⟨hb, hb2, hb3⟩
  · go_enter Tryz.func63, Tryz.ntmps63
    go_wp2_with fail
    refine HI.out.mono ?_
    rintro e w1 ⟨rfl, hr, hc⟩
    go_wp2_with fail
    refine (rfFail_any hr).mono ?_
    rintro e w3 ⟨rfl, hr3, hc3⟩
    go_wp2
    go_ret
    exact ⟨rfl, hr3, hc.trans hc3⟩
  · go_enter Tryz.func63, Tryz.ntmps63
    go_wp2_with fail
    refine HI.out.mono ?_
    rintro e w1 ⟨rfl, hr, hc⟩
    go_wp2_with fail
    refine (rfFail_any hr).mono ?_
    rintro e w3 ⟨rfl, hr3, hc3⟩
    go_wp2
    go_ret
    exact ⟨rfl, hr3, hc.trans hc3⟩
  · go_enter Tryz.func63, Tryz.ntmps63
    go_wp2_with fail
    refine HI.out.mono ?_
    rintro e w1 ⟨rfl, hr, hc⟩
    have HR : Hid (Rdf w1 g q r') := hr
    obtain ⟨v, h1, h2, _⟩ := hr
    have hc0 := cell_at h1 0
    rw [show #[v, Value.bool r'.isNone][0]? = some v from rfl] at hc0
    obtain ⟨A, C, rfl⟩ := bs_form h2
    clear h1 h2
    go_wp2_with fail
    refine (rfFail_any HR.out).mono ?_
    rintro e w3 ⟨rfl, hr3, hc3⟩
    go_wp2
    go_ret
    exact ⟨rfl, hr3, hc.trans hc3⟩
set_option maxRecDepth 100000 in
theorem rfText_yes {w : World} {g : Nat} {q : Option Nat} {r : Rd} (h : Rdf w g q r) (most : Int) (hn : ¬ ((rdInt r).1 < 0 ∨ most < (rdInt r).1 ∨ ((((rdInt r).2.getD []).length : Int) < (rdInt r).1))) :
    Calls Tryz.prog 63 #[.pointer (some ⟨g, 0, none⟩), .int .i64 most] w fun e w' => e = .returned (.string (mkS (((rdInt r).2.getD []).take (rdInt r).1.toNat))) ∧ Rdf w' g q ((rdInt r).2.map (fun l => l.drop (rdInt r).1.toNat)) ∧ Chg (One g) w w' := by
  have hi := rfInt_any h
  generalize rdInt r = p at hi hn
  obtain ⟨n, r'⟩ := p
  dsimp only at hi hn ⊢
  obtain ⟨m, rfl⟩ := Int.eq_ofNat_of_zero_le (show 0 ≤ n by omega)
  rw [Int.toNat_natCast]
  have HI : Hid (Calls Tryz.prog 34 #[.pointer (some ⟨g, 0, none⟩)] w fun e w' => e = .returned (.int .i64 (m : Nat)) ∧ Rdf w' g q r' ∧ Chg (One g) w w') := hi
  clear hi h
  have hb2 : ¬ most < (m : Int) := by omega
  have hb3 : m ≤ (r'.getD []).length := by omega
  clear hn
  generalize hL : (r'.getD []) = l at hb3
  have HL : Hid (r'.getD [] = l) := hL
  have HL2 : Hid ((r'.map (fun l => l.drop m)).isNone = r'.isNone ∧ (r'.map (fun l => l.drop m)).getD [] = l.drop m) := by
    show _ ∧ _
    rw [← hL]
    cases r' <;> simp
  clear hL
  have hlm : ¬ ((l.length : Int) < m) := by omega
  go_enter Tryz.func63, Tryz.ntmps63
  go_wp2_with fail
  refine HI.out.mono ?_
  rintro e w1 ⟨rfl, hr, hc⟩
  have HR : Hid (Rdf w1 g q r') := hr
  have hr0 : RdAt w1 g 103 r'.isNone q l := by have := hr; unfold Rdf at this; rw [HL.out] at this; exact this
  have HR0 : Hid (RdAt w1 g 103 r'.isNone q l) := hr0
  obtain ⟨v, h1, h2, h3, h4, hlim⟩ := hr0
  have hc0 := cell_at h1 0
  have hf0 := frozen_at h1 0
  rw [show #[v, Value.bool r'.isNone][0]? = some v from rfl] at hc0
  have H3 : Hid (∀ k, bk v = some k → q = some k) := h3
  clear h1 h3 hr
  have HEND : Hid (∀ v', Bs w1 v' (l.drop m) → (∀ k, bk v' = some k → q = some k) → Rdf (w1.setCell ⟨g, 0, none⟩ v') g q (r'.map (fun l => l.drop m)) ∧ Chg (One g) w (w1.setCell ⟨g, 0, none⟩ v')) := fun v' hb hq => by
    have := HR0.out.turn1 v' (l.drop m) hb hq (by rw [List.length_drop]; omega)
    refine ⟨?_, hc.trans this.2⟩
    unfold Rdf
    rw [HL2.out.1, HL2.out.2]
    exact this.1
  rcases h2 with ⟨rfl, rfl⟩ | ⟨ad, c, rfl, rfl⟩ | ⟨hpos, b, o, c, rfl, hcc, hbb, hcl⟩
  · have hm0 : m = 0 := by simpa using hb3
    subst hm0
    have hcv := convert_bytes (Bs.nil w1)
    go_wp2
    go_ret
    have := HEND.out (.slice none 0 0) (Bs.nil _) (fun k hk => absurd hk (bk_zero _ _ _))
    exact ⟨rfl, this⟩
  · have hm0 : m = 0 := by simpa using hb3
    subst hm0
    have hcv := convert_bytes (w := w1) (x := .slice (some ad) 0 c) (l := []) Bs.none'
    by_cases hc0c : c = 0
    · subst hc0c
      go_wp2
      go_ret
      have := HEND.out (.slice (some ad) 0 0) Bs.none' (fun k hk => absurd hk (bk_zero _ _ _))
      exact ⟨rfl, this⟩
    · go_wp2
      go_ret
      have := HEND.out (.slice (some ad) 0 c) Bs.none' (fun k hk => absurd hk (bk_zero _ _ _))
      exact ⟨rfl, this⟩
  · have hq3 : q = some b := H3.out b (bk_pos hpos)
    have HC : Hid (∀ j (h : j < l.length), w1.cell? ⟨b, o + j, none⟩ = some (.int .u8 ((l[j]'h).toNat : Int))) := hcl
    have HQ : Hid (q = some b) := hq3
    have hcv := convert_bytes (Bs.head hcl hbb m hb3 (c := c) (by omega))
    have hmc : m ≤ c := by omega
    clear hcl hq3
    by_cases hcm : c = m
    · have hll : l.length = m := by omega
      subst hcm
      have HDN : Hid (l.drop c = []) := List.drop_eq_nil_of_le (by omega)
      go_wp2
      go_ret
      have := HEND.out (.slice (some ⟨b, o, none⟩) 0 0) (by rw [HDN.out]; exact Bs.none') (fun k hk => absurd hk (bk_zero _ _ _))
      exact ⟨rfl, this⟩
    · go_wp2
      go_ret
      have := HEND.out (.slice (some ⟨b, o + m, none⟩) (l.length - m) (c - m)) (Bs.tail HC.out hbb m rfl (by omega)) (fun k hk => by rw [HQ.out]; exact bk_blk hk)
      exact ⟨rfl, this⟩
theorem rfText_any {w : World} {g : Nat} {q : Option Nat} {r : Rd} (h : Rdf w g q r) (most : Int) :
    Calls Tryz.prog 63 #[.pointer (some ⟨g, 0, none⟩), .int .i64 most] w fun e w' => e = .returned (.string (mkS (rdText r most).1)) ∧ Rdf w' g q (rdText r most).2 ∧ Chg (One g) w w' := by
  rcases rdText_cases r most with ⟨h1, h2⟩ | ⟨h1, h2, h3⟩
  · rw [h2]
    exact rfText_no h most h1
  · rw [h2, h3]
    exact rfText_yes h most h1
theorem rfBytes_any {w : World} {g : Nat} {q : Option Nat} {r : Rd} (h : Rdf w g q r) (most : Int) (hl : (rdText r most).1.length ≤ 140737488355328) :
    Calls Tryz.prog 64 #[.pointer (some ⟨g, 0, none⟩), .int .i64 most] w fun e w' => ∃ v, e = .returned v ∧ Bs w' v (rdText r most).1 ∧ Rdf w' g q (rdText r most).2 ∧ Chg (One g) w w' ∧ (∀ k, bk v = some k → w.heap.size ≤ k) := by
  have ht := rfText_any h most
  generalize rdText r most = p at ht hl
  obtain ⟨s, r'⟩ := p
  dsimp only at ht hl ⊢
  have HT : Hid (Calls Tryz.prog 63 #[.pointer (some ⟨g, 0, none⟩), .int .i64 most] w fun e w' => e = .returned (.string (mkS s)) ∧ Rdf w' g q r' ∧ Chg (One g) w w') := ht
  clear ht
  have hsz := mkS_size s
  have hcv : ∀ w, (convert 9 22 (.string (mkS s))).run Tryz.prog w = _ := fun w => run_bytes_of_string w 9 22 5 (mkS s) Tryz.underlying9 Tryz.underlying22 Tryz.underlying5
  go_enter Tryz.func64, Tryz.ntmps64
  go_wp2_with fail
  refine HT.out.mono ?_
  rintro e w1 ⟨rfl, hr, hc⟩
  go_wp2
  go_ret
  have hch : Chg Non w1 (w1.alloc (.cells (bytesRow (mkS s) (grownCap w1 s.length 0 5)) 5 ((bytesRow (mkS s) (grownCap w1 s.length 0 5)).size, (bytesRow (mkS s) (grownCap w1 s.length 0 5)).size + 1))).drew := (Chg.alloc Non w1 _).trans (Chg.drew Non _)
  refine ⟨_, rfl, ?_, hr.keep hch id (fun _ _ => id), hc.trans (hch.weak (fun _ _ h => h.elim)), fun k hk => ?_⟩
  · have := Bs_row w1 s (grownCap w1 s.length 0 5) ((bytesRow (mkS s) (grownCap w1 s.length 0 5)).size, (bytesRow (mkS s) (grownCap w1 s.length 0 5)).size + 1) (grownCap_ge _ _ _ _)
    exact this
  · have h1 := bk_blk hk
    have h2 : w1.heap.size = k := by simpa [blk, Value.ownBlock] using h1
    have := hc.size
    omega
theorem rfNew_any {w : World} {x : Value} {l : List UInt8} (hx : Bs w x l) (hl : l.length ≤ 140737488355328) :
    Calls Tryz.prog 32 #[x] w fun e w' => ∃ g q, e = .returned (.pointer (some ⟨g, 0, none⟩)) ∧ Rdf w' g q (some l) ∧ Below w.heap.size w w' ∧ w.heap.size ≤ g ∧ (∀ k, q = some k → w.heap.size ≤ k ∧ k < w'.heap.size) := by
  have HX : Hid (Bs w x l) := hx
  obtain ⟨A, C, rfl⟩ := bs_form hx
  clear hx
  go_enter Tryz.func32, Tryz.ntmps32
  go_wp2_with (at_builtin; refine wpList_app rfl (.tmp 3) (.tmp 4) rfl (.slice (some ⟨w.heap.size, 0, none⟩) 0 0) (.slice A l.length C) rfl rfl (owns_empty w) (HX.out.alloc _) (by simp) (by simp; omega) ?_; intro A1 C1 w1 ho hg hat _; (have HO : Hid (w1.ownsRow w.heap.size 5 1 (.slice A1 l.length C1) l.length (bv l)) := by simpa [Hid] using ho); (have HB : Hid (Below w.heap.size w w1) := ((Below.refl _ _).alloc (Nat.le_refl _) _).grown hg (by simp) (fun k hk => by simp [blk, Value.ownBlock] at hk; omega)); clear ho hg hat)
  go_ret
  refine ⟨w1.heap.size, bk (.slice A1 l.length C1), rfl, ⟨_, heap_alloc_new w1 _, (Bs.of_owns HO.out).alloc _, fun k hk => hk, fun e => ?_, hl⟩, HB.out.alloc HB.out.size _, HB.out.size, fun k hk => ?_⟩
  · have := (HO.out.lt _ (bk_blk e)).2
    omega
  · have := HO.out.lt k (bk_blk hk)
    exact ⟨this.1, by simp; omega⟩
end Go.Proofs.YtaeoafedfgbcaaaGreatDoor

namespace Go.Proofs.YtaeoafedfgbcaaaGreatDoor
open Go.RowKit

set_option maxRecDepth 100000 in
theorem rf4small_any {w : World} {g : Nat} {q : Option Nat} {r : Rd} (h : Rdf w g q r) (most : Int) (h0 : 0 ≤ most) (h1 : most ≤ 1000000) :
    Calls Tryz.prog 92 #[.pointer (some ⟨g, 0, none⟩), .int .i64 most] w fun e w' => e = .returned (.int .i64 (rdSmall r most).1) ∧ Rdf w' g q (rdSmall r most).2 ∧ Chg (One g) w w' := by
  have hi := rfInt_any h
  have hr := rdInt_range r
  unfold rdSmall
  generalize rdInt r = p at hi hr ⊢
  obtain ⟨n, r'⟩ := p
  dsimp only at hi hr ⊢
  generalize hZ : (if n < 0 ∨ most < n then most + 1 else n) = Z
  have HZ : Hid ((if n < 0 ∨ most < n then most + 1 else n) = Z) := hZ
  clear hZ
  go_enter Tryz.func92, Tryz.ntmps92
  go_wp2_with fail
  refine hi.mono ?_
  rintro e w1 ⟨rfl, hq, hc⟩
  have HQ : Hid (Rdf w1 g q r') := hq
  have HC : Hid (Chg (One g) w w1) := hc
  clear hi hq hc h
  by_cases hn : n < 0
  · obtain rfl : most + 1 = Z := by have := HZ.out; rw [if_pos (Or.inl hn)] at this; exact this
    go_wp2
    go_ret
    exact ⟨rfl, HQ.out, HC.out⟩
  · by_cases hn2 : most < n
    · obtain rfl : most + 1 = Z := by have := HZ.out; rw [if_pos (Or.inr hn2)] at this; exact this
      go_wp2
      go_ret
      exact ⟨rfl, HQ.out, HC.out⟩
    · obtain rfl : n = Z := by have := HZ.out; rw [if_neg (by omega)] at this; exact this
      go_wp2
      go_ret
      exact ⟨rfl, HQ.out, HC.out⟩
theorem rdSmall_le (r : Rd) (m : Int) (hm : 0 ≤ m) : 0 ≤ (rdSmall r m).1 ∧ (rdSmall r m).1 ≤ m + 1 := by
  unfold rdSmall
  dsimp only
  split <;> omega
/- What Read tells: a config, or that it may not be; the reader has gone on. -/
def RGot (w w' : World) (g : Nat) (q : Option Nat) (e : Ending) (ver : Int) (ms : List Mem) (r : Rd) : Prop :=
  Rdf w' g q r ∧ Chg (One g) w w' ∧ ((r.isSome = true ∧ chk ver ms = 0 ∧ ∃ v, e = .returned (.tuple #[.agg #[.int .i64 ver, v], .bool true]) ∧ w'.ownsRow w.heap.size 118 4 v ms.length (mvs ms)) ∨
    (¬ (r.isSome = true ∧ chk ver ms = 0) ∧ e = .returned (.tuple #[.agg #[.int .i64 0, .slice none 0 0], .bool false])))
/- What holds between the rounds of Read. -/
structure RS (w w2 : World) (g p1 : Nat) (q : Option Nat) (ver : Int) (W : World) (r : Rd) (v : Value) (k : Nat) (ms : List Mem) : Prop where
  rd : Rdf W g q r
  ev : W.heap[p1]? = some (.cells #[.int .i64 ver, v] 39 (0, 0))
  re : W.heap[w.heap.size]? = some (.cells #[.int .i64 0, .slice none 0 0] 39 (0, 0))
  row : W.ownsRow w2.heap.size 118 4 v k (mvs ms)
  chg : Chg (One g) w W
  sz : w2.heap.size ≤ W.heap.size
  g1 : g < w.heap.size
  q1 : ∀ i, q = some i → i < w.heap.size
  p0 : w.heap.size < p1
  p2 : p1 < w2.heap.size
theorem RS.call {w w2 : World} {g p1 : Nat} {q : Option Nat} {ver : Int} {W W' : World} {r r' : Rd} {v : Value} {k : Nat} {ms : List Mem} (h : RS w w2 g p1 q ver W r v k ms) (hc : Chg (One g) W W') (hq : Rdf W' g q r') : RS w w2 g p1 q ver W' r' v k ms := by
  have hp0 := h.p0
  have hp2 := h.p2
  have hg1 := h.g1
  refine ⟨hq, ?_, ?_, ?_, h.chg.trans hc, Nat.le_trans h.sz hc.size, h.g1, h.q1, h.p0, h.p2⟩
  · rw [hc.block _ (blk_lt h.ev) (fun e => by have : p1 = g := e; omega)]; exact h.ev
  · rw [hc.block _ (blk_lt h.re) (fun e => by have : w.heap.size = g := e; omega)]; exact h.re
  · exact owns_keep h.row hc (fun i hi e => by have := (h.row.lt i hi).1; have : i = g := e; omega)
theorem RS.keep {S : Nat → Prop} {w w2 : World} {g p1 : Nat} {q : Option Nat} {ver : Int} {W W' : World} {r : Rd} {v : Value} {k : Nat} {ms : List Mem} (h : RS w w2 g p1 q ver W r v k ms) (hc : Chg S W W') (hS : ∀ i, S i → w2.heap.size ≤ i ∧ v.ownBlock ≠ some i) : RS w w2 g p1 q ver W' r v k ms := by
  have hp0 := h.p0
  have hp2 := h.p2
  have hg1 := h.g1
  refine ⟨h.rd.keep hc (fun e => by have := (hS _ e).1; omega) (fun i hi e => by have := (hS _ e).1; have := h.q1 i hi; omega), ?_, ?_, ?_, h.chg.trans' hc (fun i hi e => by have := (hS _ e).1; omega), Nat.le_trans h.sz hc.size, h.g1, h.q1, h.p0, h.p2⟩
  · rw [hc.block _ (blk_lt h.ev) (fun e => by have := (hS _ e).1; omega)]; exact h.ev
  · rw [hc.block _ (blk_lt h.re) (fun e => by have := (hS _ e).1; omega)]; exact h.re
  · exact owns_keep h.row hc (fun i hi e => (hS _ e).2 hi)
theorem RS.at8 {w w2 : World} {g p1 : Nat} {q : Option Nat} {ver : Int} {X w8 : World} {r : Rd} {v : Value} {k : Nat} {ms : List Mem} {o : Obj} (h : RS w w2 g p1 q ver X r v k ms) (hg : (X.alloc o).grownBy w8 v.ownBlock) : w8.heap[p1]? = some (.cells #[.int .i64 ver, v] 39 (0, 0)) := by
  have hp2 := h.p2
  have hc : Chg (fun i => v.ownBlock = some i) X w8 := (Chg.alloc _ X o).trans (Chg.of_grown hg)
  rw [hc.block _ (blk_lt h.ev) (fun e => by have := (h.row.lt _ e).1; omega)]; exact h.ev
theorem RS.app {w w2 : World} {g p1 : Nat} {q : Option Nat} {ver : Int} {X w8 : World} {r : Rd} {v v' : Value} {k : Nat} {ms : List Mem} {o : Obj} (m : Mem) (h : RS w w2 g p1 q ver X r v k ms) (hg : (X.alloc o).grownBy w8 v.ownBlock)
    (hown : w8.ownsRow w2.heap.size 118 4 v' (k + 1) (mvs ms ++ mvs [m])) : RS w w2 g p1 q ver (w8.setCell ⟨p1, 1, none⟩ v') r v' (k + 1) (ms ++ [m]) := by
  have hp0 := h.p0
  have hp2 := h.p2
  have hg1 := h.g1
  have hc : Chg (fun i => v.ownBlock = some i) X w8 := (Chg.alloc _ X o).trans (Chg.of_grown hg)
  have hvb : ∀ i, v.ownBlock = some i → w2.heap.size ≤ i := fun i hi => (h.row.lt i hi).1
  have hc2 : Chg (One p1) w8 (w8.setCell ⟨p1, 1, none⟩ v') := Chg.setCell w8 ⟨p1, 1, none⟩ _ rfl
  have h8 : w8.heap[p1]? = _ := h.at8 hg
  have hr8 : w8.heap[w.heap.size]? = some (.cells #[.int .i64 0, .slice none 0 0] 39 (0, 0)) := by
    rw [hc.block _ (blk_lt h.re) (fun e => by have := hvb _ e; omega)]; exact h.re
  refine ⟨?_, heap_set h8 1 v', ?_, ?_, ?_, Nat.le_trans h.sz (Nat.le_trans hc.size hc2.size), h.g1, h.q1, h.p0, h.p2⟩
  · exact (h.rd.keep hc (fun e => by have := hvb _ e; omega) (fun i hi e => by have := hvb _ e; have := h.q1 i hi; omega)).keep hc2 (fun e => by have : g = p1 := e; omega) (fun i hi e => by have : i = p1 := e; have := h.q1 i hi; omega)
  · rw [hc2.block _ (blk_lt hr8) (fun e => by have : w.heap.size = p1 := e; omega)]; exact hr8
  · rw [mvs_app]
    exact owns_keep hown hc2 (fun i hi e => by have := (hown.lt i hi).1; have : i = p1 := e; omega)
  · exact (h.chg.trans' hc (fun i hi e => by have := hvb _ e; omega)).trans' hc2 (fun i hi e => by have : i = p1 := e; omega)
theorem rfm_step (n : Nat) (r : Rd) : rfMems (n + 1) r = ((rfMem r).1 :: (rfMems n (rfMem r).2).1, (rfMems n (rfMem r).2).2) := rfl
set_option maxRecDepth 100000 in
set_option maxHeartbeats 4000000 in
theorem rf4Read_any {w : World} {g : Nat} {q : Option Nat} {r : Rd} (h : Rdf w g q r) (hqw : ∀ k, q = some k → k < w.heap.size) :
    Calls Tryz.prog 86 #[.pointer (some ⟨g, 0, none⟩)] w fun e w' => RGot w w' g q e (rdInt r).1 (rfMems (rdCount (rdInt r).2 7).1.toNat (rdCount (rdInt r).2 7).2).1 (rfMems (rdCount (rdInt r).2 7).1.toNat (rdCount (rdInt r).2 7).2).2 := by
  have hgw : g < w.heap.size := h.lt
  have HQ0 : Hid (Rdf w g q r) := h
  have hr0 := rdInt_range r
  have hr1 := rdCount_le (rdInt r).2 7 (by omega)
  have k1 := fun {w1 : World} (hh : Rdf w1 g q r) => rfInt_any hh
  have k2 := fun {w1 : World} (hh : Rdf w1 g q (rdInt r).2) => rfCount_any hh 7
  generalize rdInt r = p1 at *
  obtain ⟨ver, r1⟩ := p1
  dsimp only at *
  generalize rdCount r1 7 = p2 at *
  obtain ⟨nn, r2⟩ := p2
  dsimp only at *
  obtain ⟨n, rfl⟩ := Int.eq_ofNat_of_zero_le hr1.1
  rw [Int.toNat_natCast]
  have K1 : Hid (∀ {w1 : World}, Rdf w1 g q r → Calls Tryz.prog 34 #[.pointer (some ⟨g, 0, none⟩)] w1 fun e w' => e = .returned (.int .i64 ver) ∧ Rdf w' g q r1 ∧ Chg (One g) w1 w') := k1
  have K2 : Hid (∀ {w1 : World}, Rdf w1 g q r1 → Calls Tryz.prog 84 #[.pointer (some ⟨g, 0, none⟩), .int .i64 7] w1 fun e w' => e = .returned (.int .i64 (n : Nat)) ∧ Rdf w' g q r2 ∧ Chg (One g) w1 w') := k2
  have HQW : Hid (∀ k, q = some k → k < w.heap.size) := hqw
  obtain ⟨hr11, hr12⟩ := hr1
  clear k1 k2 h hqw
  generalize hRR : rfMems n r2 = RR
  have HRR : Hid (rfMems n r2 = RR) := hRR
  clear hRR
  go_enter Tryz.func86, Tryz.ntmps86
  go_wp2_with fail
  have hx0 := heap_alloc_new w (.cells #[.int .i64 0, .slice none 0 0] 39 (0, 0))
  have h1 := K1.out (HQ0.out.keep (Chg.alloc Non w (.cells #[.int .i64 0, .slice none 0 0] 39)) id (fun _ _ => id))
  refine h1.mono ?_
  rintro e w1 ⟨rfl, hq1, hc1⟩
  have hx1 : w1.heap[w.heap.size]? = some (.cells #[.int .i64 0, .slice none 0 0] 39 (0, 0)) := by rw [hc1.block _ (by simp) (fun e => by have : w.heap.size = g := e; omega)]; exact hx0
  have C1 : Chg (One g) w w1 := (Chg.alloc _ w _).trans hc1
  have hs1 := blk_lt hx1
  clear h1 hx0 hc1 HQ0
  go_wp2_with fail
  have hy1 := heap_alloc_new w1 (.cells #[.int .i64 ver, .slice none 0 0] 39 (0, 0))
  have hx1a := box_al hx1 (.cells #[.int .i64 ver, .slice none 0 0] 39)
  have h2 := K2.out (hq1.keep (Chg.alloc Non w1 (.cells #[.int .i64 ver, .slice none 0 0] 39)) id (fun _ _ => id))
  refine h2.mono ?_
  rintro e w2 ⟨rfl, hq2, hc2⟩
  have hx2 : w2.heap[w.heap.size]? = some (.cells #[.int .i64 0, .slice none 0 0] 39 (0, 0)) := by rw [hc2.block _ (blk_lt hx1a) (fun e => by have : w.heap.size = g := e; omega)]; exact hx1a
  have hy2 : w2.heap[w1.heap.size]? = some (.cells #[.int .i64 ver, .slice none 0 0] 39 (0, 0)) := by rw [hc2.block _ (by simp) (fun e => by have : w1.heap.size = g := e; omega)]; exact hy1
  have C2 : Chg (One g) w w2 := (C1.trans (Chg.alloc _ w1 _)).trans hc2
  have hs2 := blk_lt hy2
  have HX2 : Hid (w2.heap[w.heap.size]? = some (.cells #[.int .i64 0, .slice none 0 0] 39 (0, 0))) := hx2
  have HY2 : Hid (w2.heap[w1.heap.size]? = some (.cells #[.int .i64 ver, .slice none 0 0] 39 (0, 0))) := hy2
  have HQ2 : Hid (Rdf w2 g q r2) := hq2
  have HC2 : Hid (Chg (One g) w w2) := C2
  clear h2 hx1 hx1a hy1 hc2 hq1 hq2 hx2 hy2 C1 C2
  obtain ⟨p1, hp1⟩ : ∃ p, p = w1.heap.size := ⟨_, rfl⟩
  rw [← hp1] at hs1 hs2 HY2 ⊢
  clear hp1 K1 K2
  have HRS : Hid (RS w w2 g p1 q ver w2 r2 (.slice none 0 0) 0 []) := ⟨HQ2.out, HY2.out, HX2.out, World.ownsRow_nil _ _ _ _, HC2.out, Nat.le_refl _, hgw, HQW.out, hs1, hs2⟩
  clear HX2 HY2 HQ2 HC2
  go_wp2_with fail
  go_loopw [6] (fun i wr => ∃ (k : Nat) (ms : List Mem) (r : Rd) (v : Value), i = .int .i64 k ∧ k ≤ n ∧ ms.length = k ∧ RR = (ms ++ (rfMems (n - k) r).1, (rfMems (n - k) r).2) ∧ RS w w2 g p1 q ver wr r v k ms) (fun i _ => n - (intOf i).toNat)
  case atStart => exact ⟨0, [], r2, .slice none 0 0, rfl, by omega, rfl, HRR.out.symm, HRS.out⟩
  case round =>
    clear HRS
    obtain ⟨k, ms, r3, v, rfl, hk, hms, hrd, hs⟩ := hrel
    have HRD : Hid (RR = (ms ++ (rfMems (n - k) r3).1, (rfMems (n - k) r3).2)) := hrd
    have HS : Hid (RS w w2 g p1 q ver wr r3 v k ms) := hs
    have HMS : Hid (ms.length = k) := hms
    clear hrd hs hms
    by_cases hlt : k < n
    · obtain ⟨j, hj⟩ : ∃ j, n - k = j + 1 := ⟨n - k - 1, by omega⟩
      have HJ : Hid (n - k = j + 1) := hj
      clear hj
      have hst := rfm_step j r3
      have s1 := rdSmall_le r3 7 (by omega)
      have a1 := rf4small_any HS.out.rd 7 (by omega) (by omega)
      unfold rfMem at hst
      generalize rdSmall r3 7 = t1 at hst s1 a1
      obtain ⟨mi, r4⟩ := t1
      dsimp only at hst s1 a1
      have s2 := rdSmall_le r4 2 (by omega)
      have a2 := fun {W : World} (hh : Rdf W g q r4) => rf4small_any hh 2 (by omega) (by omega)
      generalize rdSmall r4 2 = t2 at hst s2 a2
      obtain ⟨mr, r5⟩ := t2
      dsimp only at hst s2 a2
      have s3 := rdSmall_le r5 1000 (by omega)
      have a3 := fun {W : World} (hh : Rdf W g q r5) => rf4small_any hh 1000 (by omega) (by omega)
      generalize rdSmall r5 1000 = t3 at hst s3 a3
      obtain ⟨mw, r6⟩ := t3
      dsimp only at hst s3 a3
      have s4 := rdSmall_le r6 7 (by omega)
      have a4 := fun {W : World} (hh : Rdf W g q r6) => rf4small_any hh 7 (by omega) (by omega)
      generalize rdSmall r6 7 = t4 at hst s4 a4
      obtain ⟨mg, r7⟩ := t4
      dsimp only at hst s4 a4
      have HST : Hid (rfMems (j + 1) r3 = (⟨mi, mr, mw, mg⟩ :: (rfMems j r7).1, (rfMems j r7).2)) := hst
      have A2 : Hid (∀ {W : World}, Rdf W g q r4 → Calls Tryz.prog 92 #[.pointer (some ⟨g, 0, none⟩), .int .i64 2] W fun e w' => e = .returned (.int .i64 mr) ∧ Rdf w' g q r5 ∧ Chg (One g) W w') := a2
      have A3 : Hid (∀ {W : World}, Rdf W g q r5 → Calls Tryz.prog 92 #[.pointer (some ⟨g, 0, none⟩), .int .i64 1000] W fun e w' => e = .returned (.int .i64 mw) ∧ Rdf w' g q r6 ∧ Chg (One g) W w') := a3
      have A4 : Hid (∀ {W : World}, Rdf W g q r6 → Calls Tryz.prog 92 #[.pointer (some ⟨g, 0, none⟩), .int .i64 7] W fun e w' => e = .returned (.int .i64 mg) ∧ Rdf w' g q r7 ∧ Chg (One g) W w') := a4
      obtain ⟨s21, s22⟩ := s2
      clear hst a2 a3 a4
      go_wp2_with fail
      refine a1.mono ?_
      rintro e w3 ⟨rfl, hq3, hc3⟩
      have HS3 : Hid (RS w w2 g p1 q ver w3 r4 v k ms) := HS.out.call hc3 hq3
      clear a1 hq3 hc3
      have hvb : v.ownBlock ≠ some w3.heap.size := fun e => by have := (HS3.out.row.lt _ e).2; omega
      have hsz3 := HS3.out.sz
      have HS3a : Hid (RS w w2 g p1 q ver (w3.alloc (.cells #[.int .i64 mi, .int .u8 0, .int .i64 0, .int .i64 0] 118)) r4 v k ms) := HS3.out.keep (Chg.alloc Non w3 _) (fun _ e => e.elim)
      have HM3 : Hid ((w3.alloc (.cells #[.int .i64 mi, .int .u8 0, .int .i64 0, .int .i64 0] 118)).heap[w3.heap.size]? = some (.cells #[.int .i64 mi, .int .u8 0, .int .i64 0, .int .i64 0] 118 (0, 0))) := heap_alloc_new w3 _
      go_wp2_with fail
      have h4 := A2.out HS3a.out.rd
      refine h4.mono ?_
      rintro e w4 ⟨rfl, hq4, hc4⟩
      have HS4 : Hid (RS w w2 g p1 q ver w4 r5 v k ms) := HS3a.out.call hc4 hq4
      obtain ⟨mb, hmb⟩ : ∃ mb, mb = w3.heap.size := ⟨_, rfl⟩
      have hgmb : mb ≠ g := by have := HS3.out.g1; have := HS3.out.p0; have := HS3.out.p2; omega
      have hm4 : w4.heap[mb]? = some (.cells #[.int .i64 mi, .int .u8 0, .int .i64 0, .int .i64 0] 118 (0, 0)) := by rw [hc4.block mb (by rw [hmb]; simp) (fun e => hgmb e), hmb]; exact HM3.out
      rw [← hmb] at hvb hsz3 ⊢
      clear h4 hq4 hc4 HM3 HS3a HS3 hmb HS
      clear w3
      have y1 : w4.cell? ⟨mb, 1, none⟩ = some (.int .u8 0) := by rw [cell_at hm4]; rfl
      have f1 : w4.frozen? ⟨mb, 1, none⟩ = false := frozen_at hm4 1
      have HM4 : Hid (w4.heap[mb]? = some (.cells #[.int .i64 mi, .int .u8 0, .int .i64 0, .int .i64 0] 118 (0, 0))) := hm4
      clear hm4
      have HS4a : Hid (RS w w2 g p1 q ver (w4.setCell ⟨mb, 1, none⟩ (.int .u8 mr)) r5 v k ms) := HS4.out.keep (Chg.setCell (S := One mb) w4 ⟨mb, 1, none⟩ _ rfl) (fun i e => by have : i = mb := e; subst this; exact ⟨hsz3, hvb⟩)
      have HM4a : Hid ((w4.setCell ⟨mb, 1, none⟩ (.int .u8 mr)).heap[mb]? = some (.cells #[.int .i64 mi, .int .u8 mr, .int .i64 0, .int .i64 0] 118 (0, 0))) := heap_set HM4.out 1 _
      go_wp2_with fail
      have h5 := A3.out HS4a.out.rd
      refine h5.mono ?_
      rintro e w5 ⟨rfl, hq5, hc5⟩
      have HS5 : Hid (RS w w2 g p1 q ver w5 r6 v k ms) := HS4a.out.call hc5 hq5
      have hm5 : w5.heap[mb]? = some (.cells #[.int .i64 mi, .int .u8 mr, .int .i64 0, .int .i64 0] 118 (0, 0)) := by rw [hc5.block mb (blk_lt HM4a.out) (fun e => hgmb e)]; exact HM4a.out
      clear h5 hq5 hc5 HM4a HS4a HS4 HM4 y1 f1
      clear w4
      have y2 : w5.cell? ⟨mb, 2, none⟩ = some (.int .i64 0) := by rw [cell_at hm5]; rfl
      have f2 : w5.frozen? ⟨mb, 2, none⟩ = false := frozen_at hm5 2
      have HM5 : Hid (w5.heap[mb]? = some (.cells #[.int .i64 mi, .int .u8 mr, .int .i64 0, .int .i64 0] 118 (0, 0))) := hm5
      clear hm5
      have HS5a : Hid (RS w w2 g p1 q ver (w5.setCell ⟨mb, 2, none⟩ (.int .i64 mw)) r6 v k ms) := HS5.out.keep (Chg.setCell (S := One mb) w5 ⟨mb, 2, none⟩ _ rfl) (fun i e => by have : i = mb := e; subst this; exact ⟨hsz3, hvb⟩)
      have HM5a : Hid ((w5.setCell ⟨mb, 2, none⟩ (.int .i64 mw)).heap[mb]? = some (.cells #[.int .i64 mi, .int .u8 mr, .int .i64 mw, .int .i64 0] 118 (0, 0))) := heap_set HM5.out 2 _
      go_wp2_with fail
      have h6 := A4.out HS5a.out.rd
      refine h6.mono ?_
      rintro e w6 ⟨rfl, hq6, hc6⟩
      have HS6 : Hid (RS w w2 g p1 q ver w6 r7 v k ms) := HS5a.out.call hc6 hq6
      have hm6 : w6.heap[mb]? = some (.cells #[.int .i64 mi, .int .u8 mr, .int .i64 mw, .int .i64 0] 118 (0, 0)) := by rw [hc6.block mb (blk_lt HM5a.out) (fun e => hgmb e)]; exact HM5a.out
      clear h6 hq6 hc6 HM5a HS5a HS5 HM5 y2 f2
      clear w5
      have y0 : w6.cell? ⟨mb, 0, none⟩ = some (.int .i64 mi) := by rw [cell_at hm6]; rfl
      have y1 : w6.cell? ⟨mb, 1, none⟩ = some (.int .u8 mr) := by rw [cell_at hm6]; rfl
      have y2 : w6.cell? ⟨mb, 2, none⟩ = some (.int .i64 mw) := by rw [cell_at hm6]; rfl
      have y3 : w6.cell? ⟨mb, 3, none⟩ = some (.int .i64 0) := by rw [cell_at hm6]; rfl
      have f3 : w6.frozen? ⟨mb, 3, none⟩ = false := frozen_at hm6 3
      have x1 : w6.cell? ⟨p1, 1, none⟩ = some v := by rw [cell_at HS6.out.ev]; rfl
      have hpmb : p1 ≠ mb := by have := HS6.out.p2; omega
      have hlp : p1 < w6.heap.size := blk_lt HS6.out.ev
      have hlm : mb < w6.heap.size := blk_lt hm6
      have HS6a : Hid (RS w w2 g p1 q ver (w6.setCell ⟨mb, 3, none⟩ (.int .i64 mg)) r7 v k ms) := HS6.out.keep (Chg.setCell (S := One mb) w6 ⟨mb, 3, none⟩ _ rfl) (fun i e => by have : i = mb := e; subst this; exact ⟨hsz3, hvb⟩)
      obtain ⟨Av, Cv, rfl⟩ := owns_form' HS6.out.row
      clear hm6 HS6
      have HNW : Hid (∀ j u, [Value.int .i64 mi, .int .u8 mr, .int .i64 mw, .int .i64 mg][j]? = some u → ((w6.setCell ⟨mb, 3, none⟩ (.int .i64 mg)).alloc (.cells #[.int .i64 mi, .int .u8 mr, .int .i64 mw, .int .i64 mg] 118)).cell? ((⟨w6.heap.size, 0, none⟩ : Addr).add j) = some u) := by
        have e : w6.heap.size = (w6.setCell ⟨mb, 3, none⟩ (.int .i64 mg)).heap.size := by simp
        show ∀ j u, _
        rw [e]
        exact four_new _ _ _ _ _ _
      have HBS : Hid (w2.heap.size ≤ ((w6.setCell ⟨mb, 3, none⟩ (.int .i64 mg)).alloc (.cells #[.int .i64 mi, .int .u8 mr, .int .i64 mw, .int .i64 mg] 118)).heap.size) := by
        show _ ≤ _
        have := HS6a.out.sz; simp at this ⊢; omega
      obtain ⟨i0, hi, hz0, hz1, hz2⟩ := info_parts info30
      go_wp2_with (at_builtin; refine wpList_append_own_at _ rfl (.tmp 32) (.tmp 34) 37 rfl w2.heap.size 118 i0 _ 4 32 Tryz.underlying37 hi hz0 hz1 hz2 rfl (by decide) (.slice Av k Cv) k (mvs ms) rfl (HS6a.out.row.alloc _) ⟨_, 0, none⟩ 1 1 [.int .i64 mi, .int .u8 mr, .int .i64 mw, .int .i64 mg] rfl rfl HNW.out (mvs_one [⟨mi, mr, mw, mg⟩]) (by unfold maxLen; omega) (by omega) HBS.out ?_; intro v8 w8 hown hgrow hnil hat; (obtain ⟨A8, C8, rfl⟩ := owns_form' hown); (have HO8 : Hid (w8.ownsRow w2.heap.size 118 4 (.slice A8 (k + 1) C8) (k + 1) (mvs ms ++ mvs [⟨mi, mr, mw, mg⟩])) := hown); (have he8 := HS6a.out.at8 hgrow); (have HSN := HS6a.out.app ⟨mi, mr, mw, mg⟩ hgrow hown); (have HSN' : Hid _ := HSN); (have c81 : w8.cell? ⟨p1, 1, none⟩ = some (.slice Av k Cv) := by rw [cell_at he8]; rfl); (have f81 : w8.frozen? ⟨p1, 1, none⟩ = false := frozen_at he8 1); clear he8 HSN hnil hat hown hgrow)
      exact ⟨⟨k + 1, ms ++ [⟨mi, mr, mw, mg⟩], r7, _, by go_num, by omega, by rw [List.length_append, HMS.out]; rfl, by rw [HRD.out, HJ.out, HST.out, show n - (k + 1) = j by have := HJ.out; omega, List.append_assoc]; rfl, HSN'.out⟩, by simp [intOf]; omega⟩
    · have hkk : k = n := by omega
      subst hkk
      have hrr : RR = (ms, r3) := by
        have := HRD.out
        rw [Nat.sub_self] at this
        rw [this]
        simp [rfMems]
      subst hrr
      obtain ⟨Av, Cv, rfl⟩ := owns_form' HS.out.row
      have hz0 : wr.cell? ⟨w.heap.size, 0, none⟩ = some (.int .i64 0) := by rw [cell_at HS.out.re]; rfl
      have hz1 : wr.cell? ⟨w.heap.size, 1, none⟩ = some (.slice none 0 0) := by rw [cell_at HS.out.re]; rfl
      have hf0 : wr.frozen? ⟨w.heap.size, 0, none⟩ = false := frozen_at HS.out.re 0
      have hf1 : wr.frozen? ⟨w.heap.size, 1, none⟩ = false := frozen_at HS.out.re 1
      have hlw := blk_lt HS.out.re
      have hx0 : wr.cell? ⟨p1, 0, none⟩ = some (.int .i64 ver) := by rw [cell_at HS.out.ev]; rfl
      have hx1 : wr.cell? ⟨p1, 1, none⟩ = some (.slice Av k Cv) := by rw [cell_at HS.out.ev]; rfl
      have hlp := blk_lt HS.out.ev
      have hmm : Mems wr (.slice Av k Cv) ms := mems_of_owns (base := w2.heap.size) (by rw [HMS.out]; exact HS.out.row)
      have hck := rf4Check_any hmm ver
      have hgd := rfGood_any HS.out.rd
      generalize hsm : r3.isSome = so at hgd
      have HSM : Hid (r3.isSome = so) := hsm
      clear hmm hsm HRD HRR
      cases so with
      | false =>
        have hc9 : Chg (One w.heap.size) wr ((wr.setCell ⟨w.heap.size, 0, none⟩ (.int .i64 0)).setCell ⟨w.heap.size, 1, none⟩ (.slice none 0 0)) :=
          (Chg.setCell (S := One w.heap.size) wr ⟨w.heap.size, 0, none⟩ _ rfl).trans (Chg.setCell (S := One w.heap.size) _ ⟨w.heap.size, 1, none⟩ _ rfl)
        have HC9 : Hid (Chg (One w.heap.size) wr ((wr.setCell ⟨w.heap.size, 0, none⟩ (.int .i64 0)).setCell ⟨w.heap.size, 1, none⟩ (.slice none 0 0))) := hc9
        clear hck hc9
        go_wp2_with fail
        refine hgd.mono ?_
        rintro e w8 ⟨rfl, rfl⟩
        go_wp2
        refine bodyPost_ret (v := .tuple #[.agg #[.int .i64 0, .slice none 0 0], .bool false]) (by simp [results, Tryz.results86, go_sem, hz0, hz1]) rfl ⟨?_, ?_, .inr ⟨?_, rfl⟩⟩
        · exact HS.out.rd.keep HC9.out (fun e => by have : g = w.heap.size := e; omega) (fun i hi e => by have : i = w.heap.size := e; have := HQW.out i hi; omega)
        · exact HS.out.chg.trans' HC9.out (fun i hi e => by have : i = w.heap.size := e; omega)
        · rw [HSM.out]; simp
      | true =>
        by_cases hc : chk ver ms = 0
        · rw [hc] at hck
          have HCC : Hid (chk ver ms = 0) := hc
          clear hc
          go_wp2_with fail
          refine hgd.mono ?_
          rintro e w8 ⟨rfl, rfl⟩
          go_wp2_with fail
          refine hck.mono ?_
          rintro e w9 ⟨rfl, hB9⟩
          have y0 : w9.cell? ⟨w.heap.size, 0, none⟩ = some (.int .i64 0) := by rw [hB9.cell (p := ⟨w.heap.size, 0, none⟩) hlw]; exact hz0
          have y1 : w9.cell? ⟨w.heap.size, 1, none⟩ = some (.slice none 0 0) := by rw [hB9.cell (p := ⟨w.heap.size, 1, none⟩) hlw]; exact hz1
          have g0 : w9.frozen? ⟨w.heap.size, 0, none⟩ = false := by rw [hB9.frozen (p := ⟨w.heap.size, 0, none⟩) hlw]; exact hf0
          have g1 : w9.frozen? ⟨w.heap.size, 1, none⟩ = false := by rw [hB9.frozen (p := ⟨w.heap.size, 1, none⟩) hlw]; exact hf1
          have x0 : w9.cell? ⟨p1, 0, none⟩ = some (.int .i64 ver) := by rw [hB9.cell (p := ⟨p1, 0, none⟩) hlp]; exact hx0
          have x1 : w9.cell? ⟨p1, 1, none⟩ = some (.slice Av k Cv) := by rw [hB9.cell (p := ⟨p1, 1, none⟩) hlp]; exact hx1
          have hlw9 : w.heap.size < w9.heap.size := Nat.lt_of_lt_of_le hlw hB9.size
          have HC9 : Hid (Chg (One w.heap.size) w8 ((w9.setCell ⟨w.heap.size, 0, none⟩ (.int .i64 ver)).setCell ⟨w.heap.size, 1, none⟩ (.slice Av k Cv))) :=
            ((Chg.of_below hB9).weak (fun _ _ e => e.elim)).trans ((Chg.setCell (S := One w.heap.size) w9 ⟨w.heap.size, 0, none⟩ _ rfl).trans (Chg.setCell (S := One w.heap.size) _ ⟨w.heap.size, 1, none⟩ _ rfl))
          clear hz0 hz1 hf0 hf1
          go_wp2
          refine bodyPost_ret (v := .tuple #[.agg #[.int .i64 ver, .slice Av k Cv], .bool true]) (by simp [results, Tryz.results86, go_sem, y0, y1]) rfl ⟨?_, ?_, .inl ⟨HSM.out, HCC.out, _, rfl, ?_⟩⟩
          · exact HS.out.rd.keep HC9.out (fun e => by have : g = w.heap.size := e; omega) (fun i hi e => by have : i = w.heap.size := e; have := HQW.out i hi; omega)
          · exact HS.out.chg.trans' HC9.out (fun i hi e => by have : i = w.heap.size := e; omega)
          · have h1 := owns_keep HS.out.row HC9.out (fun i hi e => by have := (HS.out.row.lt i hi).1; have : i = w.heap.size := e; omega)
            rw [HMS.out]
            refine ⟨h1.1, ?_⟩
            rcases h1.2 with h2 | ⟨gg, cap, cur, hv, hg, h3⟩
            · exact .inl h2
            · exact .inr ⟨gg, cap, cur, hv, by omega, h3⟩
        · have hcb : (chk ver ms != 0) = true := by simpa using hc
          have HCC : Hid (¬ chk ver ms = 0) := hc
          generalize chk ver ms = c at hck hcb
          clear hc
          go_wp2_with fail
          refine hgd.mono ?_
          rintro e w8 ⟨rfl, rfl⟩
          go_wp2_with fail
          refine hck.mono ?_
          rintro e w9 ⟨rfl, hB9⟩
          have y0 : w9.cell? ⟨w.heap.size, 0, none⟩ = some (.int .i64 0) := by rw [hB9.cell (p := ⟨w.heap.size, 0, none⟩) hlw]; exact hz0
          have y1 : w9.cell? ⟨w.heap.size, 1, none⟩ = some (.slice none 0 0) := by rw [hB9.cell (p := ⟨w.heap.size, 1, none⟩) hlw]; exact hz1
          have g0 : w9.frozen? ⟨w.heap.size, 0, none⟩ = false := by rw [hB9.frozen (p := ⟨w.heap.size, 0, none⟩) hlw]; exact hf0
          have g1 : w9.frozen? ⟨w.heap.size, 1, none⟩ = false := by rw [hB9.frozen (p := ⟨w.heap.size, 1, none⟩) hlw]; exact hf1
          have hlw9 : w.heap.size < w9.heap.size := Nat.lt_of_lt_of_le hlw hB9.size
          have HC9 : Hid (Chg (One w.heap.size) w8 ((w9.setCell ⟨w.heap.size, 0, none⟩ (.int .i64 0)).setCell ⟨w.heap.size, 1, none⟩ (.slice none 0 0))) :=
            ((Chg.of_below hB9).weak (fun _ _ e => e.elim)).trans ((Chg.setCell (S := One w.heap.size) w9 ⟨w.heap.size, 0, none⟩ _ rfl).trans (Chg.setCell (S := One w.heap.size) _ ⟨w.heap.size, 1, none⟩ _ rfl))
          clear hz0 hz1 hf0 hf1
          go_wp2
          refine bodyPost_ret (v := .tuple #[.agg #[.int .i64 0, .slice none 0 0], .bool false]) (by simp [results, Tryz.results86, go_sem, y0, y1]) rfl ⟨?_, ?_, .inr ⟨fun h => HCC.out h.2, rfl⟩⟩
          · exact HS.out.rd.keep HC9.out (fun e => by have : g = w.heap.size := e; omega) (fun i hi e => by have : i = w.heap.size := e; have := HQW.out i hi; omega)
          · exact HS.out.chg.trans' HC9.out (fun i hi e => by have : i = w.heap.size := e; omega)
set_option maxRecDepth 100000 in
set_option maxHeartbeats 2000000 in
theorem rf4Get_any {w : World} {x : Value} {b : List UInt8} (hx : Bs w x b) (hb : b.length ≤ 140737488355328) :
    Calls Tryz.prog 66 #[x] w fun e w' => Got w w' e (cfgRf b) := by
  have HX : Hid (Bs w x b) := hx
  obtain ⟨AX, CX, rfl⟩ := bs_form hx
  have hB1 : Below w.heap.size w (w.alloc (.cells #[.int .i64 0, .slice none 0 0] 39)) := (Below.refl _ _).alloc (Nat.le_refl _) _
  clear hx
  have hcf : cfgRf b = if (rfMems (rdCount (rdInt (some b)).2 7).1.toNat (rdCount (rdInt (some b)).2 7).2).2 = some [] ∧ chk (rdInt (some b)).1 (rfMems (rdCount (rdInt (some b)).2 7).1.toNat (rdCount (rdInt (some b)).2 7).2).1 = 0 then some ((rdInt (some b)).1, (rfMems (rdCount (rdInt (some b)).2 7).1.toNat (rdCount (rdInt (some b)).2 7).2).1) else none := rfl
  rw [hcf]
  clear hcf
  have k1 := fun {w1 : World} {g : Nat} {q : Option Nat} (hh : Rdf w1 g q (some b)) hq => rf4Read_any hh hq
  generalize (rfMems (rdCount (rdInt (some b)).2 7).1.toNat (rdCount (rdInt (some b)).2 7).2) = p1 at *
  obtain ⟨ms, r⟩ := p1
  generalize (rdInt (some b)).1 = ver at *
  dsimp only at *
  have K1 : Hid (∀ {w1 : World} {g : Nat} {q : Option Nat}, Rdf w1 g q (some b) → (∀ k, q = some k → k < w1.heap.size) → Calls Tryz.prog 86 #[.pointer (some ⟨g, 0, none⟩)] w1 fun e w' => RGot w1 w' g q e ver ms r) := k1
  clear k1
  generalize hOO : (if r = some [] ∧ chk ver ms = 0 then some (ver, ms) else none) = OO
  have HOO : Hid ((if r = some [] ∧ chk ver ms = 0 then some (ver, ms) else none) = OO) := hOO
  clear hOO
  go_enter Tryz.func66, Tryz.ntmps66
  go_wp2_with fail
  have h2 := rfNew_any (HX.out.below hB1 (fun k hk => HX.out.lt hk)) hb
  refine h2.mono ?_
  clear h2
  rintro e w2 ⟨g, q, rfl, hq2, hB2, hg2, hqq2⟩
  have hs1 : w.heap.size < g := by simp at hg2; omega
  have hx2 : w2.heap[w.heap.size]? = some (.cells #[.int .i64 0, .slice none 0 0] 39 (0, 0)) := by rw [hB2.block _ (by simp)]; exact heap_alloc_new w _
  have HB2 : Hid (Below w.heap.size w w2) := hB1.trans (hB2.mono (by simp))
  have hsz2 : w.heap.size < w2.heap.size := blk_lt hx2
  have h3 := K1.out hq2 (fun k hk => (hqq2 k hk).2)
  clear hB1 hB2 hg2 K1
  go_wp2_with fail
  refine h3.mono ?_
  rintro e w3 ⟨hq3, hc3, hres⟩
  have hx3 : w3.heap[w.heap.size]? = some (.cells #[.int .i64 0, .slice none 0 0] 39 (0, 0)) := by rw [hc3.block _ hsz2 (fun e => by have : w.heap.size = g := e; omega)]; exact hx2
  have HB3 : Hid (Below w.heap.size w w3) := HB2.out.trans (hc3.below (fun k e => by have : k = g := e; omega) HB2.out.size)
  have hz0 : w3.cell? ⟨w.heap.size, 0, none⟩ = some (.int .i64 0) := by rw [cell_at hx3]; rfl
  have hz1 : w3.cell? ⟨w.heap.size, 1, none⟩ = some (.slice none 0 0) := by rw [cell_at hx3]; rfl
  have hf0 : w3.frozen? ⟨w.heap.size, 0, none⟩ = false := frozen_at hx3 0
  have hf1 : w3.frozen? ⟨w.heap.size, 1, none⟩ = false := frozen_at hx3 1
  have hlw := blk_lt hx3
  have HQ3 : Hid (Rdf w3 g q r) := hq3
  clear h3 hq2 hqq2 hx2 hc3 hq3 hx3
  have hB8 := fun o => (Below.refl w3.heap.size w3).alloc (Nat.le_refl _) o
  have HW8 : Hid (∀ (a b : Value) (w8 : World), w8 = w3.alloc (.cells #[a, b] 39) → w8.cell? ⟨w.heap.size, 0, none⟩ = some (.int .i64 0) ∧ w8.cell? ⟨w.heap.size, 1, none⟩ = some (.slice none 0 0) ∧ w8.frozen? ⟨w.heap.size, 0, none⟩ = false ∧ w8.frozen? ⟨w.heap.size, 1, none⟩ = false ∧ w.heap.size < w8.heap.size ∧ w8.cell? ⟨w3.heap.size, 0, none⟩ = some a ∧ w8.cell? ⟨w3.heap.size, 1, none⟩ = some b ∧ w3.heap.size < w8.heap.size ∧
      (∀ x y, Below w.heap.size w ((w8.setCell ⟨w.heap.size, 0, none⟩ x).setCell ⟨w.heap.size, 1, none⟩ y)) ∧ (∀ x y, Chg (One w.heap.size) w3 ((w8.setCell ⟨w.heap.size, 0, none⟩ x).setCell ⟨w.heap.size, 1, none⟩ y))) := by
    rintro a b w8 rfl
    have hn := heap_alloc_new w3 (.cells #[a, b] 39 (0, 0))
    have hc := fun x y => ((Chg.alloc (One w.heap.size) w3 (.cells #[a, b] 39)).trans (Chg.setCell (S := One w.heap.size) _ ⟨w.heap.size, 0, none⟩ x rfl)).trans (Chg.setCell (S := One w.heap.size) _ ⟨w.heap.size, 1, none⟩ y rfl)
    refine ⟨?_, ?_, ?_, ?_, by simp; omega, by rw [cell_at hn]; rfl, by rw [cell_at hn]; rfl, by simp, fun x y => HB3.out.trans ((hc x y).below (fun k e => by have : k = w.heap.size := e; omega) HB3.out.size), hc⟩
    · rw [(hB8 _).cell (p := ⟨w.heap.size, 0, none⟩) hlw]; exact hz0
    · rw [(hB8 _).cell (p := ⟨w.heap.size, 1, none⟩) hlw]; exact hz1
    · rw [(hB8 _).frozen (p := ⟨w.heap.size, 0, none⟩) hlw]; exact hf0
    · rw [(hB8 _).frozen (p := ⟨w.heap.size, 1, none⟩) hlw]; exact hf1
  have HZ : Hid (w3.cell? ⟨w.heap.size, 0, none⟩ = some (.int .i64 0) ∧ w3.cell? ⟨w.heap.size, 1, none⟩ = some (.slice none 0 0) ∧ w3.frozen? ⟨w.heap.size, 0, none⟩ = false ∧ w3.frozen? ⟨w.heap.size, 1, none⟩ = false) := ⟨hz0, hz1, hf0, hf1⟩
  clear hz0 hz1 hf0 hf1 hB8
  rcases hres with ⟨hso, hck, v, rfl, hown⟩ | ⟨hno, rfl⟩
  · obtain ⟨Av, Cv, rfl⟩ := owns_form' hown
    have HOW : Hid (w3.ownsRow w2.heap.size 118 4 (.slice Av ms.length Cv) ms.length (mvs ms)) := hown
    clear hown
    have hwh0 := fun o => rfWhole_any (HQ3.out.keep (Chg.alloc Non w3 o) id (fun _ _ => id))
    by_cases hw : r = some []
    · obtain rfl : some (ver, ms) = OO := by have := HOO.out; rw [if_pos ⟨hw, hck⟩] at this; exact this
      rw [decide_eq_true hw] at hwh0
      clear hw hck hso HOO
      obtain ⟨N, hN⟩ : ∃ N, N = ms.length := ⟨_, rfl⟩
      rw [← hN] at HOW ⊢
      have HN : Hid (N = ms.length) := hN
      clear hN
      go_wp2_with fail
      refine (hwh0 _).mono ?_
      rintro e w8 ⟨rfl, hw8⟩
      obtain ⟨z0, z1, f0, f1, l0, x0, x1, l1, b8, c8⟩ := HW8.out _ _ _ hw8
      have B8 : Hid (∀ x y, Below w.heap.size w ((w8.setCell ⟨w.heap.size, 0, none⟩ x).setCell ⟨w.heap.size, 1, none⟩ y)) := b8
      have C8 : Hid (∀ x y, Chg (One w.heap.size) w3 ((w8.setCell ⟨w.heap.size, 0, none⟩ x).setCell ⟨w.heap.size, 1, none⟩ y)) := c8
      clear hw8 b8 c8 hwh0
      go_wp2
      refine bodyPost_ret (v := .tuple #[.agg #[.int .i64 ver, .slice Av N Cv], .int .i64 0]) (by simp [results, Tryz.results66, go_sem, z0, z1]) rfl ?_
      refine Got.yes _ ?_ (B8.out _ _)
      have hle := HB2.out.size
      have h1 := owns_keep HOW.out (C8.out (.int .i64 ver) (.slice Av N Cv)) (fun i hi e => by have := (HOW.out.lt i hi).1; have : i = w.heap.size := e; omega)
      rw [← HN.out]
      refine ⟨h1.1, ?_⟩
      rcases h1.2 with h2 | ⟨gg, cap, cur, hv, hg, h3⟩
      · exact .inl h2
      · exact .inr ⟨gg, cap, cur, hv, by omega, h3⟩
    · obtain rfl : none = OO := by have := HOO.out; rw [if_neg (fun h => hw h.1)] at this; exact this
      rw [decide_eq_false hw] at hwh0
      clear hw hck hso HOO
      go_wp2_with fail
      refine (hwh0 _).mono ?_
      rintro e w8 ⟨rfl, hw8⟩
      obtain ⟨z0, z1, f0, f1, l0, x0, x1, l1, b8, c8⟩ := HW8.out _ _ _ hw8
      have B8 : Hid (∀ x y, Below w.heap.size w ((w8.setCell ⟨w.heap.size, 0, none⟩ x).setCell ⟨w.heap.size, 1, none⟩ y)) := b8
      clear hw8 b8 c8 hwh0
      go_wp2
      exact bodyPost_ret (v := .tuple #[.agg #[.int .i64 0, .slice none 0 0], .int .i64 4]) (by simp [results, Tryz.results66, go_sem, z0, z1]) rfl (Got.no (B8.out _ _))
  · obtain rfl : none = OO := by have := HOO.out; rw [if_neg (fun h => hno ⟨by rw [h.1]; rfl, h.2⟩)] at this; exact this
    clear hno HOO
    obtain ⟨hz0, hz1, hf0, hf1⟩ := HZ.out
    have hbb : ∀ x y o, Below w.heap.size w (((w3.setCell ⟨w.heap.size, 0, none⟩ x).setCell ⟨w.heap.size, 1, none⟩ y).alloc o) := fun x y o =>
      HB3.out.trans ((((Chg.setCell (S := One w.heap.size) w3 ⟨w.heap.size, 0, none⟩ x rfl).trans (Chg.setCell (S := One w.heap.size) _ ⟨w.heap.size, 1, none⟩ y rfl)).trans (Chg.alloc (One w.heap.size) _ o)).below (fun k e => by have : k = w.heap.size := e; omega) HB3.out.size)
    have HBB : Hid (∀ x y o, Below w.heap.size w (((w3.setCell ⟨w.heap.size, 0, none⟩ x).setCell ⟨w.heap.size, 1, none⟩ y).alloc o)) := hbb
    clear hbb
    go_wp2
    exact bodyPost_ret (v := .tuple #[.agg #[.int .i64 0, .slice none 0 0], .int .i64 4]) (by simp [results, Tryz.results66, go_sem, hz0, hz1, hlw]) rfl (Got.no (HBB.out _ _ _))
end Go.Proofs.YtaeoafedfgbcaaaGreatDoor
