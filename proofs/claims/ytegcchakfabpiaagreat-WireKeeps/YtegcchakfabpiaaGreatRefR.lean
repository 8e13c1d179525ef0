/- The walks of the document's own reader. -/
import Derived.Laws.Bits64b
import Derived.Test.YtegcchakfabpiaaGreatWalksG
namespace Go.Proofs.YtegcchakfabpiaaGreat
open Go.RowKit

/- The document's reader: r is what is left of a good one. -/
abbrev Rdf (w : World) (g : Nat) (q : Option Nat) (r : Rd) : Prop := RdAt w g 65 r.isNone q (r.getD [])
theorem RdAt.turn2r {w : World} {g T : Nat} {fl : Bool} {q : Option Nat} {l : List UInt8} (h : RdAt w g T fl q l) (v' : Value) (fl' : Bool) (l' : List UInt8) (hb : Bs w v' l') (hq : ∀ k, bk v' = some k → q = some k) (hl : l'.length ≤ 140737488355328) :
    RdAt ((w.setCell ⟨g, 1, none⟩ (.bool fl')).setCell ⟨g, 0, none⟩ v') g T fl' q l' ∧ Chg (One g) w ((w.setCell ⟨g, 1, none⟩ (.bool fl')).setCell ⟨g, 0, none⟩ v') := by
  obtain ⟨v, h1, h2, h3, h4, h5⟩ := h
  have hc : Chg (One g) w ((w.setCell ⟨g, 1, none⟩ (.bool fl')).setCell ⟨g, 0, none⟩ v') := (Chg.setCell (S := One g) w ⟨g, 1, none⟩ _ rfl).trans (Chg.setCell (S := One g) _ ⟨g, 0, none⟩ _ rfl)
  refine ⟨⟨v', ?_, hb.keep hc (fun k hk e => h4 (by rw [hq k hk, e])), hq, h4, hl⟩, hc⟩
  rw [heap_set (heap_set h1 1 _) 0]
  rfl
theorem rfFail_any {w : World} {g : Nat} {q : Option Nat} {r : Rd} (h : Rdf w g q r) :
    Calls Tryz.prog 52 #[.pointer (some ⟨g, 0, none⟩)] w fun e w' => e = .returned (.tuple #[]) ∧ Rdf w' g q none ∧ Chg (One g) w w' := by
  have HH : Hid (Rdf w g q r) := h
  obtain ⟨v, h1, _⟩ := h
  have hc0 := cell_at h1 0
  have hc1 := cell_at h1 1
  have hf0 := frozen_at h1 0
  have hf1 := frozen_at h1 1
  rw [show #[v, Value.bool r.isNone][0]? = some v from rfl] at hc0
  rw [show #[v, Value.bool r.isNone][1]? = some (.bool r.isNone) from rfl] at hc1
  clear h1
  go_enter Tryz.func52, Tryz.ntmps52
  go_wp2
  go_end0
  have := HH.out.turn2r (.slice none 0 0) true [] (Bs.nil w) (fun k hk => absurd hk (bk_zero _ _ _)) (by simp)
  exact ⟨rfl, this.1, this.2⟩
theorem ret_i {k : IntKind} {a b : Int} (h : a = b) : Ending.returned (.int k a) = .returned (.int k b) := by rw [h]
theorem neg_half (u : Nat) (h : u < 18446744073709551616) : wrap64 (wrap64 (-wrap64 (IntKind.u64.wrap ((u : Int) / 2))) - 1) = -((u : Int) / 2) - 1 := by
  simp only [IntKind.wrap_u64, wrap64]
  omega
theorem pos_half (u : Nat) (h : u < 18446744073709551616) : wrap64 (IntKind.u64.wrap ((u : Int) / 2)) = (u : Int) / 2 := by
  simp only [IntKind.wrap_u64, wrap64]
  omega
theorem add_dig (x d k : Nat) (hk : k < 9) (hx : x < 128 ^ k) (hd : d < 128) : IntKind.u64.wrap ((x : Int) + IntKind.u64.wrap ((d : Int) * 2 ^ (7 * k))) = ((x + 128 ^ k * d : Nat) : Int) ∧ x + 128 ^ k * d < 128 ^ (k + 1) := by
  have hp := pow_le9 hk
  have h1 : 128 ^ k * d + 128 ^ k ≤ 128 ^ k * 128 := by rw [← Nat.mul_succ]; exact Nat.mul_le_mul_left _ (by omega)
  have e1 : ((d : Int) * 2 ^ (7 * k)) = ((128 ^ k * d : Nat) : Int) := by rw [← pow128, Int.natCast_mul, Int.mul_comm]; simp
  rw [e1]
  simp only [IntKind.wrap_u64]
  refine ⟨by omega, ?_⟩
  rw [Nat.pow_succ]; omega
theorem add_last (x d k : Nat) (hk : k < 10) (hx : x < 128 ^ k) (hd : d < 128) (h9 : k = 9 → d < 2) : IntKind.u64.wrap ((x : Int) + IntKind.u64.wrap ((d : Int) * 2 ^ (7 * k))) = ((x + 128 ^ k * d : Nat) : Int) ∧ x + 128 ^ k * d < 18446744073709551616 := by
  have e9 : 128 ^ 9 = 9223372036854775808 := by decide +kernel
  have e1 : ((d : Int) * 2 ^ (7 * k)) = ((128 ^ k * d : Nat) : Int) := by rw [← pow128, Int.natCast_mul, Int.mul_comm]; simp
  have hlt : x + 128 ^ k * d < 18446744073709551616 := by
    rcases Nat.lt_or_ge k 9 with h | h
    · have := (add_dig x d k h hx hd).2
      have h2 := pow_le9 h
      rw [Nat.pow_succ] at this
      omega
    · have : k = 9 := by omega
      subst this
      have := h9 rfl
      rw [e9] at hx ⊢
      omega
  rw [e1]
  simp only [IntKind.wrap_u64]
  exact ⟨by omega, hlt⟩
theorem unzz_odd (u : Nat) (ho : u % 2 = 1) : -(((u / 2 : Nat) : Int)) - 1 = unzz u := by unfold unzz; rw [if_pos ho]
theorem unzz_even (u : Nat) (ho : ¬ u % 2 = 1) : ((u / 2 : Nat) : Int) = unzz u := by unfold unzz; rw [if_neg ho]
theorem rfInt_empty {w : World} {g : Nat} {q : Option Nat} {r : Rd} (h : Rdf w g q r) (he : r.getD [] = []) :
    Calls Tryz.prog 51 #[.pointer (some ⟨g, 0, none⟩)] w fun e w' => e = .returned (.int .i64 0) ∧ Rdf w' g q none ∧ Chg (One g) w w' := by
  have HH : Hid (Rdf w g q r) := h
  obtain ⟨v, h1, h2, h3, h4, hlim⟩ := h
  have hc0 := cell_at h1 0
  rw [show #[v, Value.bool r.isNone][0]? = some v from rfl] at hc0
  rw [he] at h2
  obtain ⟨A, C, rfl⟩ := bs_form h2
  clear h1 h2 h3 he hlim
  go_enter Tryz.func51, Tryz.ntmps51
  go_wp2_with fail
  refine wp_loop_rounds 1 ?_
  rw [rounds_succ]
  go_wp2_with fail
  refine (rfFail_any HH.out).mono ?_
  rintro e w2 ⟨rfl, hr, hch⟩
  go_wp2
  go_ret
  exact ⟨rfl, hr, hch⟩
set_option maxRecDepth 100000 in
set_option maxHeartbeats 2000000 in
theorem rfInt_row {w : World} {g : Nat} {q : Option Nat} {l : List UInt8} (h : Rdf w g q (some l)) (hne : 0 < l.length) :
    Calls Tryz.prog 51 #[.pointer (some ⟨g, 0, none⟩)] w fun e w' => e = .returned (.int .i64 (rdInt (some l)).1) ∧ Rdf w' g q (rdInt (some l)).2 ∧ Chg (One g) w w' := by
  have HH : Hid (Rdf w g q (some l)) := h
  obtain ⟨v, h1, h2, h3, h4, hlim⟩ := h
  have hc0 := cell_at h1 0
  have hf0 := frozen_at h1 0
  rw [show #[v, Value.bool (some l).isNone][0]? = some v from rfl] at hc0
  have H3 : Hid (∀ k, bk v = some k → q = some k) := h3
  clear h1 h3
  change Bs w v l at h2
  change l.length ≤ _ at hlim
  rcases h2 with ⟨_, rfl⟩ | ⟨_, _, _, rfl⟩ | ⟨hpos, b, o, c, rfl, hc, hb, hcl⟩
  · simp at hne
  · simp at hne
  have HC : Hid (∀ j (h : j < l.length), w.cell? ⟨b, o + j, none⟩ = some (.int .u8 ((l[j]'h).toNat : Int))) := hcl
  have HQ : Hid (q = some b) := H3.out b (bk_pos hpos)
  generalize hR : rdInt (some l) = R
  have HR : Hid (rdInt (some l) = R) := hR
  clear hcl H3 hR
  go_enter Tryz.func51, Tryz.ntmps51
  go_wp2_with fail
  go_loop [3, 4] (fun s i => ∃ (k x X : Nat), i = .int .i64 k ∧ s = .int .u64 x ∧ k ≤ l.length ∧ k ≤ 10 ∧ x < 18446744073709551616 ∧ dec 0 l = (dec k (l.drop k)).map (fun p => (X + 128 ^ k * p.1, p.2 + k)) ∧ X < 128 ^ k ∧ (k < 10 → x = X)) (fun _ i => 10 - (intOf i).toNat)
  case atStart => exact ⟨0, 0, 0, rfl, rfl, by omega, by omega, by omega, by simp, by simp, fun _ => rfl⟩
  case round =>
    obtain ⟨k, x, X, rfl, rfl, hk, hk10, hx, hd, hX, hxX⟩ := hrel
    have HD : Hid (dec 0 l = (dec k (l.drop k)).map (fun p => (X + 128 ^ k * p.1, p.2 + k))) := hd
    have HXX : Hid (k < 10 → x = X) := hxX
    have HX : Hid (X < 128 ^ k) := hX
    clear hd hxX hX
    by_cases hend : k = l.length ∨ k = 10
    · have hnone : dec 0 l = none := by rw [HD.out, dec_end (by omega)]; rfl
      have hr : R = (0, none) := by rw [← HR.out]; unfold rdInt; dsimp only; rw [hnone]
      subst hr
      rcases (show (k = l.length) ∨ (k < l.length ∧ k = 10) by omega) with hkl | ⟨hkl, h10⟩
      · have hkl' : ¬ (k : Int) < l.length := by omega
        have hkl2 : (l.length : Int) ≤ k := by omega
        clear hnone hkl hend
        go_wp2_with fail
        refine (rfFail_any HH.out).mono ?_
        rintro e w2 ⟨rfl, hrr, hch⟩
        go_wp2
        go_ret
        exact ⟨rfl, hrr, hch⟩
      · subst h10
        have hkl' : (10 : Int) < l.length := by omega
        clear hnone hend
        go_wp2_with fail
        refine (rfFail_any HH.out).mono ?_
        rintro e w2 ⟨rfl, hrr, hch⟩
        go_wp2
        go_ret
        exact ⟨rfl, hrr, hch⟩
    · have hkl : k < l.length := by omega
      have hk9 : k < 10 := by omega
      have hxe : x = X := HXX.out hk9
      subst hxe
      have hcx := HC.out k hkl
      have hx256 := (l[k]'hkl).toNat_lt
      have HMORE : Hid (128 ≤ (l[k]'hkl).toNat → dec k (l.drop k) = (dec (k + 1) (l.drop (k + 1))).map (fun p => ((l[k]'hkl).toNat - 128 + 128 * p.1, p.2 + 1))) := dec_more hkl hk9
      have HLAST : Hid ((l[k]'hkl).toNat < 128 → dec k (l.drop k) = if (k = 9 ∧ (l[k]'hkl).toNat ≠ 1) ∨ ((l[k]'hkl).toNat = 0 ∧ 0 < k) then none else some ((l[k]'hkl).toNat, 1)) := dec_last hkl hk9
      generalize (l[k]'hkl).toNat = y at hcx hx256 HMORE HLAST
      by_cases hy : 128 ≤ y
      · have hy' : (128 : Int) ≤ y := by omega
        have hm := HMORE.out hy
        go_wp2_with fail
        have hw0 : 0 ≤ IntKind.u64.wrap ((x : Int) + IntKind.u64.wrap (((y : Int) - 128) * 2 ^ (7 * k))) ∧ IntKind.u64.wrap ((x : Int) + IntKind.u64.wrap (((y : Int) - 128) * 2 ^ (7 * k))) < 18446744073709551616 := by
          simp only [IntKind.wrap_u64]; omega
        have hX1 : x + 128 ^ k * (y - 128) < 128 ^ (k + 1) := by
          have h1 : 128 ^ k * (y - 128) + 128 ^ k ≤ 128 ^ k * 128 := by rw [← Nat.mul_succ]; exact Nat.mul_le_mul_left _ (by omega)
          have := HX.out
          rw [Nat.pow_succ]; omega
        have hdd : dec 0 l = (dec (k + 1) (l.drop (k + 1))).map (fun p => ((x + 128 ^ k * (y - 128)) + 128 ^ (k + 1) * p.1, p.2 + (k + 1))) := by
          rw [HD.out, hm, Option.map_map]
          congr 1
          funext p
          simp only [Function.comp, Prod.mk.injEq]
          refine ⟨?_, by omega⟩
          rw [Nat.mul_add, Nat.pow_succ, Nat.mul_assoc]
          omega
        refine ⟨⟨k + 1, (IntKind.u64.wrap ((x : Int) + IntKind.u64.wrap (((y : Int) - 128) * 2 ^ (7 * k)))).toNat, x + 128 ^ k * (y - 128), by go_num, by rw [Int.toNat_of_nonneg hw0.1], by omega, by omega, by omega, hdd, hX1, fun h10 => ?_⟩, by simp [intOf]; omega⟩
        have := (add_dig x (y - 128) k (by omega) HX.out (by omega)).1
        rw [show ((y - 128 : Nat) : Int) = (y : Int) - 128 by omega] at this
        rw [this]
        exact Int.toNat_natCast _
      · have hy' : ¬ (128 : Int) ≤ y := by omega
        have hl := HLAST.out (by omega)
        by_cases hbad : (k = 9 ∧ y ≠ 1) ∨ (y = 0 ∧ 0 < k)
        · rw [if_pos hbad] at hl
          have hnone : dec 0 l = none := by rw [HD.out, hl]; rfl
          have hr : R = (0, none) := by rw [← HR.out]; unfold rdInt; dsimp only; rw [hnone]
          subst hr
          have hk10' : ((k : Int) == 10) = false := by simp; omega
          have hkl' : ¬ (l.length : Int) ≤ k := by omega
          rcases (show (k = 9 ∧ 1 < y) ∨ (k = 9 ∧ y = 0) ∨ (¬ k = 9 ∧ 0 < k ∧ y = 0) by omega) with ⟨h9, hy1⟩ | ⟨h9, hy1⟩ | ⟨h9, hk0, hy1⟩
          · subst h9
            have hy1' : (1 : Int) < y := by omega
            clear hnone hl hbad hend
            go_wp2_with fail
            refine (rfFail_any HH.out).mono ?_
            rintro e w2 ⟨rfl, hrr, hch⟩
            go_wp2
            go_ret
            exact ⟨rfl, hrr, hch⟩
          · subst h9
            subst hy1
            clear hnone hl hbad hend
            go_wp2_with fail
            refine (rfFail_any HH.out).mono ?_
            rintro e w2 ⟨rfl, hrr, hch⟩
            go_wp2
            go_ret
            exact ⟨rfl, hrr, hch⟩
          · subst hy1
            have h9' : ((k : Int) == 9) = false := by simp; omega
            have hk0' : (0 : Int) < k := by omega
            clear hnone hl hbad hend h9
            go_wp2_with fail
            refine (rfFail_any HH.out).mono ?_
            rintro e w2 ⟨rfl, hrr, hch⟩
            go_wp2
            go_ret
            exact ⟨rfl, hrr, hch⟩
        · rw [if_neg hbad] at hl
          have hadd := add_last x y k hk9 HX.out (by omega) (by omega)
          have hsome : dec 0 l = some (x + 128 ^ k * y, k + 1) := by
            rw [HD.out, hl]
            simp only [Option.map_some, Option.some.injEq, Prod.mk.injEq, true_and]
            omega
          obtain ⟨u, hud⟩ : ∃ u, u = x + 128 ^ k * y := ⟨_, rfl⟩
          rw [← hud] at hsome hadd
          clear hud
          have hr : R = (unzz u, some (l.drop (k + 1))) := by rw [← HR.out]; unfold rdInt; dsimp only; rw [hsome]
          subst hr
          have hu := hadd.2
          have hadd1 := hadd.1
          have HUL : Hid (u < 18446744073709551616) := hu
          clear hu
          have hk10' : ((k : Int) == 10) = false := by simp; omega
          have hkl' : ¬ (l.length : Int) ≤ k := by omega
          have H0 : Hid (((k : Int) == 9) = true ∧ y = 1 ∨ ((k : Int) == 9) = false ∧ (0 < y ∨ k = 0)) := by
            show _ ∨ _
            by_cases h9 : k = 9
            · left; subst h9; exact ⟨rfl, by omega⟩
            · right; exact ⟨by simp; omega, by omega⟩
          clear hl hsome hadd hbad hend HMORE HLAST HD
          have hcs : (c = k + 1 ∧ l.length = k + 1) ∨ ¬ c = k + 1 := by omega
          have hkk : k + 1 ≤ l.length := hkl
          have hpar : ((u : Int) % 2 = 1 ∧ u % 2 = 1) ∨ ((u : Int) % 2 = 0 ∧ ¬ u % 2 = 1) := by omega
          have HU : Hid (u % 2 = 1 → -(((u : Int) / 2)) - 1 = unzz u) := fun ho => by have := unzz_odd u ho; rw [← this]; omega
          have HV : Hid (¬ u % 2 = 1 → ((u : Int) / 2) = unzz u) := fun ho => by have := unzz_even u ho; rw [← this]; omega
          have HTAIL : Hid (Bs w (.slice (some ⟨b, o + (k + 1), none⟩) (l.length - (k + 1)) (c - (k + 1))) (l.drop (k + 1))) := Bs.tail HC.out hb (k + 1) rfl (by omega)
          have HNIL : Hid (l.length = k + 1 → l.drop (k + 1) = []) := fun h => List.drop_eq_nil_of_le (by omega)
          have HLD : Hid ((l.drop (k + 1)).length ≤ 140737488355328) := by show (l.drop (k + 1)).length ≤ _; rw [List.length_drop]; omega
          clear HC
          have hy3 : ¬ (128 : Int) ≤ y := hy'
          have H1 : Hid ((((k : Int) == 9) = true ∧ (¬ (1 : Int) < y) ∧ (0 : Int) < k ∧ ((y : Int) == 0) = false) ∨ (((k : Int) == 9) = false ∧ (0 : Int) < k ∧ ((y : Int) == 0) = false) ∨ (((k : Int) == 9) = false ∧ ¬ (0 : Int) < k)) := by
            show _ ∨ _ ∨ _
            rcases H0.out with ⟨h9, hy1⟩ | ⟨h9, h⟩
            · left; exact ⟨h9, by omega, by simp at h9; omega, by simp; omega⟩
            · by_cases hk0 : k = 0
              · right; right; exact ⟨h9, by omega⟩
              · right; left; exact ⟨h9, by omega, by simp; omega⟩
          clear H0
          rcases H1.out with ⟨h9, hy1, hk0, hy0⟩ | ⟨h9, hk0, hy0⟩ | ⟨h9, hk0⟩
          · rcases hcs with ⟨hc1, hll⟩ | hc1
            · have HDN : Hid (l.drop (k + 1) = []) := HNIL.out hll
              subst hc1
              have hh := HH.out.turn1 (.slice (some ⟨b, o, none⟩) 0 0) [] Bs.none' (fun k hk => absurd hk (bk_zero _ _ _)) (by simp)
              have H5 : Hid (Rdf (w.setCell ⟨g, 0, none⟩ (.slice (some ⟨b, o, none⟩) 0 0)) g q (some []) ∧ Chg (One g) w (w.setCell ⟨g, 0, none⟩ (.slice (some ⟨b, o, none⟩) 0 0))) := hh
              clear hh
              rcases hpar with ⟨hp, hpn⟩ | ⟨hp, hpn⟩
              · have HZ : Hid (wrap64 (wrap64 (-wrap64 (IntKind.u64.wrap ((u : Int) / 2))) - 1) = unzz u) := (neg_half u HUL.out).trans (HU.out hpn)
                clear hpn
                go_wp2
                go_ret
                exact ⟨ret_i HZ.out, by rw [HDN.out]; exact H5.out.1, H5.out.2⟩
              · have HZ : Hid (wrap64 (IntKind.u64.wrap ((u : Int) / 2)) = unzz u) := (pos_half u HUL.out).trans (HV.out hpn)
                clear hpn
                go_wp2
                go_ret
                exact ⟨ret_i HZ.out, by rw [HDN.out]; exact H5.out.1, H5.out.2⟩
            · have hh := HH.out.turn1 _ _ HTAIL.out (fun k hk => by rw [HQ.out]; exact bk_blk hk) HLD.out
              have H5 : Hid (Rdf (w.setCell ⟨g, 0, none⟩ (.slice (some ⟨b, o + (k + 1), none⟩) (l.length - (k + 1)) (c - (k + 1)))) g q (some (l.drop (k + 1))) ∧ Chg (One g) w (w.setCell ⟨g, 0, none⟩ (.slice (some ⟨b, o + (k + 1), none⟩) (l.length - (k + 1)) (c - (k + 1))))) := hh
              clear hh
              rcases hpar with ⟨hp, hpn⟩ | ⟨hp, hpn⟩
              · have HZ : Hid (wrap64 (wrap64 (-wrap64 (IntKind.u64.wrap ((u : Int) / 2))) - 1) = unzz u) := (neg_half u HUL.out).trans (HU.out hpn)
                clear hpn
                go_wp2
                go_ret
                exact ⟨ret_i HZ.out, H5.out.1, H5.out.2⟩
              · have HZ : Hid (wrap64 (IntKind.u64.wrap ((u : Int) / 2)) = unzz u) := (pos_half u HUL.out).trans (HV.out hpn)
                clear hpn
                go_wp2
                go_ret
                exact ⟨ret_i HZ.out, H5.out.1, H5.out.2⟩
          · rcases hcs with ⟨hc1, hll⟩ | hc1
            · have HDN : Hid (l.drop (k + 1) = []) := HNIL.out hll
              subst hc1
              have hh := HH.out.turn1 (.slice (some ⟨b, o, none⟩) 0 0) [] Bs.none' (fun k hk => absurd hk (bk_zero _ _ _)) (by simp)
              have H5 : Hid (Rdf (w.setCell ⟨g, 0, none⟩ (.slice (some ⟨b, o, none⟩) 0 0)) g q (some []) ∧ Chg (One g) w (w.setCell ⟨g, 0, none⟩ (.slice (some ⟨b, o, none⟩) 0 0))) := hh
              clear hh
              rcases hpar with ⟨hp, hpn⟩ | ⟨hp, hpn⟩
              · have HZ : Hid (wrap64 (wrap64 (-wrap64 (IntKind.u64.wrap ((u : Int) / 2))) - 1) = unzz u) := (neg_half u HUL.out).trans (HU.out hpn)
                clear hpn
                go_wp2
                go_ret
                exact ⟨ret_i HZ.out, by rw [HDN.out]; exact H5.out.1, H5.out.2⟩
              · have HZ : Hid (wrap64 (IntKind.u64.wrap ((u : Int) / 2)) = unzz u) := (pos_half u HUL.out).trans (HV.out hpn)
                clear hpn
                go_wp2
                go_ret
                exact ⟨ret_i HZ.out, by rw [HDN.out]; exact H5.out.1, H5.out.2⟩
            · have hh := HH.out.turn1 _ _ HTAIL.out (fun k hk => by rw [HQ.out]; exact bk_blk hk) HLD.out
              have H5 : Hid (Rdf (w.setCell ⟨g, 0, none⟩ (.slice (some ⟨b, o + (k + 1), none⟩) (l.length - (k + 1)) (c - (k + 1)))) g q (some (l.drop (k + 1))) ∧ Chg (One g) w (w.setCell ⟨g, 0, none⟩ (.slice (some ⟨b, o + (k + 1), none⟩) (l.length - (k + 1)) (c - (k + 1))))) := hh
              clear hh
              rcases hpar with ⟨hp, hpn⟩ | ⟨hp, hpn⟩
              · have HZ : Hid (wrap64 (wrap64 (-wrap64 (IntKind.u64.wrap ((u : Int) / 2))) - 1) = unzz u) := (neg_half u HUL.out).trans (HU.out hpn)
                clear hpn
                go_wp2
                go_ret
                exact ⟨ret_i HZ.out, H5.out.1, H5.out.2⟩
              · have HZ : Hid (wrap64 (IntKind.u64.wrap ((u : Int) / 2)) = unzz u) := (pos_half u HUL.out).trans (HV.out hpn)
                clear hpn
                go_wp2
                go_ret
                exact ⟨ret_i HZ.out, H5.out.1, H5.out.2⟩
          · rcases hcs with ⟨hc1, hll⟩ | hc1
            · have HDN : Hid (l.drop (k + 1) = []) := HNIL.out hll
              subst hc1
              have hh := HH.out.turn1 (.slice (some ⟨b, o, none⟩) 0 0) [] Bs.none' (fun k hk => absurd hk (bk_zero _ _ _)) (by simp)
              have H5 : Hid (Rdf (w.setCell ⟨g, 0, none⟩ (.slice (some ⟨b, o, none⟩) 0 0)) g q (some []) ∧ Chg (One g) w (w.setCell ⟨g, 0, none⟩ (.slice (some ⟨b, o, none⟩) 0 0))) := hh
              clear hh
              rcases hpar with ⟨hp, hpn⟩ | ⟨hp, hpn⟩
              · have HZ : Hid (wrap64 (wrap64 (-wrap64 (IntKind.u64.wrap ((u : Int) / 2))) - 1) = unzz u) := (neg_half u HUL.out).trans (HU.out hpn)
                clear hpn
                go_wp2
                go_ret
                exact ⟨ret_i HZ.out, by rw [HDN.out]; exact H5.out.1, H5.out.2⟩
              · have HZ : Hid (wrap64 (IntKind.u64.wrap ((u : Int) / 2)) = unzz u) := (pos_half u HUL.out).trans (HV.out hpn)
                clear hpn
                go_wp2
                go_ret
                exact ⟨ret_i HZ.out, by rw [HDN.out]; exact H5.out.1, H5.out.2⟩
            · have hh := HH.out.turn1 _ _ HTAIL.out (fun k hk => by rw [HQ.out]; exact bk_blk hk) HLD.out
              have H5 : Hid (Rdf (w.setCell ⟨g, 0, none⟩ (.slice (some ⟨b, o + (k + 1), none⟩) (l.length - (k + 1)) (c - (k + 1)))) g q (some (l.drop (k + 1))) ∧ Chg (One g) w (w.setCell ⟨g, 0, none⟩ (.slice (some ⟨b, o + (k + 1), none⟩) (l.length - (k + 1)) (c - (k + 1))))) := hh
              clear hh
              rcases hpar with ⟨hp, hpn⟩ | ⟨hp, hpn⟩
              · have HZ : Hid (wrap64 (wrap64 (-wrap64 (IntKind.u64.wrap ((u : Int) / 2))) - 1) = unzz u) := (neg_half u HUL.out).trans (HU.out hpn)
                clear hpn
                go_wp2
                go_ret
                exact ⟨ret_i HZ.out, H5.out.1, H5.out.2⟩
              · have HZ : Hid (wrap64 (IntKind.u64.wrap ((u : Int) / 2)) = unzz u) := (pos_half u HUL.out).trans (HV.out hpn)
                clear hpn
                go_wp2
                go_ret
                exact ⟨ret_i HZ.out, H5.out.1, H5.out.2⟩
theorem rfInt_any {w : World} {g : Nat} {q : Option Nat} {r : Rd} (h : Rdf w g q r) :
    Calls Tryz.prog 51 #[.pointer (some ⟨g, 0, none⟩)] w fun e w' => e = .returned (.int .i64 (rdInt r).1) ∧ Rdf w' g q (rdInt r).2 ∧ Chg (One g) w w' := by
  rcases r with _ | _ | ⟨x, t⟩
  · exact rfInt_empty h rfl
  · exact rfInt_empty h rfl
  · exact rfInt_row h (by simp)
theorem rdText_cases (r : Rd) (most : Int) : ((rdInt r).1 < 0 ∨ most < (rdInt r).1 ∨ ((((rdInt r).2.getD []).length : Int) < (rdInt r).1)) ∧ rdText r most = ([], none) ∨
    ¬ ((rdInt r).1 < 0 ∨ most < (rdInt r).1 ∨ ((((rdInt r).2.getD []).length : Int) < (rdInt r).1)) ∧ (rdText r most).1 = ((rdInt r).2.getD []).take (rdInt r).1.toNat ∧ (rdText r most).2 = (rdInt r).2.map (fun l => l.drop (rdInt r).1.toNat) := by
  have hz : (rdInt r).2 = none → (rdInt r).1 = 0 := by
    cases r with
    | none => intro _; rfl
    | some l =>
      cases hd : dec 0 l with
      | none => simp [rdInt, hd]
      | some p => simp [rdInt, hd]
  unfold rdText rdCount
  generalize rdInt r = p at *
  obtain ⟨n, r'⟩ := p
  dsimp only at *
  by_cases h1 : n < 0 ∨ most < n
  · left
    rw [if_pos h1]
    exact ⟨by omega, rfl⟩
  · rw [if_neg h1]
    dsimp only
    cases r' with
    | none =>
      have := hz rfl
      subst this
      right
      refine ⟨?_, rfl, rfl⟩
      simp
      omega
    | some l =>
      simp only [Option.getD_some, rdTake]
      by_cases h2 : l.length < n.toNat
      · left
        rw [if_pos h2]
        exact ⟨by omega, rfl⟩
      · right
        rw [if_neg h2]
        exact ⟨by omega, rfl, rfl⟩
end Go.Proofs.YtegcchakfabpiaaGreat
