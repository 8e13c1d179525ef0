/- The document's book: Tick, All. -/
import Derived.Test.YtbehainbggdpeaaGreatBoUa
namespace Go.Proofs.YtbehainbggdpeaaGreat
set_option linter.unusedSimpArgs false
set_option linter.unusedVariables false
open Go.RowKit Go.MapKept
set_option linter.unusedVariables false
set_option linter.unusedSimpArgs false

theorem owns_low {T : TypeId} {sz : Nat} {w : World} {base base' : Nat} {v : Value} {n : Nat} {xs : List Value} (h : w.ownsRow base T sz v n xs) (hb : base' ≤ base) : w.ownsRow base' T sz v n xs := by
  refine ⟨h.1, ?_⟩
  rcases h.2 with h | ⟨g, cap, cur, rfl, hbs, hg, hr⟩
  · exact .inl h
  · exact .inr ⟨g, cap, cur, rfl, by omega, hg, hr⟩
theorem iv_app (a b : List Int) : iv (a ++ b) = iv a ++ iv b := by simp [iv]
/- A number behind a row of numbers of one's own: the book is as it was. -/
theorem Chg.more {w w1 w2 : World} {x y : Value} (hc : Chg (fun g => w.heap.size ≤ g) w w1) (hx : ∀ g, blk x = some g → w.heap.size ≤ g) (hg : w1.grownBy w2 (blk x)) (hl : blk y = blk x ∨ blk y = some w1.heap.size) :
    Chg (fun g => w.heap.size ≤ g) w w2 ∧ (∀ g, blk y = some g → w.heap.size ≤ g) := by
  refine ⟨hc.trans ((Chg.of_grown hg).weak fun k _ e => hx k e), fun g hg' => ?_⟩
  rcases hl with e | e
  · exact hx g (e.symm.trans hg')
  · have e' : some w1.heap.size = some g := e.symm.trans hg'
    cases e'; exact hc.size
theorem Rk.later {w w' : World} {base r : Nat} {now : Int} {v : Value} {S : List Fi} (h : Rk w base r now v S) (hc : Chg (fun g => w.heap.size ≤ g) w w') : Rk w' base r now v S := h.keep hc (fun g hg e => by have := (h.lt g hg).2; omega)
set_option maxRecDepth 100000 in
set_option maxHeartbeats 2000000 in
theorem rall_any {w : World} {base r : Nat} {now : Int} {v : Value} {S : List Fi} (h : Rk w base r now v S) (hL : S.length ≤ 999999) :
    Calls Tryz.prog 9 #[.pointer (some ⟨r, 0, none⟩)] w fun e w' => ∃ A C, e = .returned (.slice A S.length C) ∧ w'.ownsRow w.heap.size 2 1 (.slice A S.length C) S.length (iv (S.map fun p => p.nm)) ∧ Below w.heap.size w w' := by
  obtain ⟨i0, hi, hz0, hz1, hz2⟩ := info_parts info2
  have HH : Hid (Rk w base r now v S) := h
  obtain ⟨A1, C1, rfl⟩ := h.form
  have hc1 := h.head.2
  have hrl := heap_lt h.cell
  obtain ⟨NL, hNL⟩ : ∃ NL, S.length = NL := ⟨_, rfl⟩
  have HNL : Hid (S.length = NL) := hNL
  rw [hNL] at hc1 hL ⊢
  clear h hNL
  go_enter Tryz.func9, Tryz.ntmps9
  go_wp2_with fail
  go_loopw [3, 4] (fun v3 v4 wr => ∃ j : Nat, v4 = .int .i64 j ∧ j ≤ NL ∧ wr.ownsRow w.heap.size 2 1 v3 j (iv ((S.take j).map fun p => p.nm)) ∧ Chg (fun g => w.heap.size ≤ g) w wr) (fun _ v4 _ => NL - (Go.Lib.intOf v4).toNat)
  case atStart => exact ⟨0, rfl, Nat.zero_le _, World.ownsRow_nil _ _ _ _, Chg.refl _ _⟩
  case round =>
    obtain ⟨j, rfl, hj, hown, hch⟩ := hrel
    obtain ⟨A4, C4, rfl⟩ := ifm hown
    have hkr := HH.out.later hch
    have hcr := hkr.head.2
    rw [HNL.out] at hcr
    have hrl' := heap_lt hkr.cell
    by_cases hlt : j < NL
    · have hjS : j < S.length := by rw [HNL.out]; exact hlt
      obtain ⟨g, hA, y0, _, _⟩ := hkr.at rfl j hjS
      subst hA
      obtain ⟨z, hz⟩ : ∃ z, (S[j]'hjS).nm = z := ⟨_, rfl⟩
      rw [hz] at y0
      have HO : Hid (wr.ownsRow w.heap.size 2 1 (.slice A4 j C4) j (iv ((S.take j).map fun p => p.nm))) := hown
      have HC : Hid (Chg (fun g => w.heap.size ≤ g) w wr) := hch
      have HF : Hid (∀ g, blk (.slice A4 j C4) = some g → w.heap.size ≤ g) := fun k hk => by obtain ⟨_, _, h⟩ := iblk hown hk; exact h
      have HT : Hid ((S.take (j + 1)).map (fun p => p.nm) = (S.take j).map (fun p => p.nm) ++ [z]) := by show _ = _; rw [List.take_succ_eq_append_getElem hjS, List.map_append, ← hz]; rfl
      have i1 : (j : Int) < (NL : Int) := by omega
      have i2 : (0 : Int) ≤ (j : Int) := by omega
      have hsz : w.heap.size ≤ wr.heap.size := hch.size
      have hj6 : j + 1 ≤ 1000000 := by omega
      clear hz hown hch hkr
      go_wp2_with (first
        | (at_builtin; refine wpList_append_own_at _ rfl (.tmp 14) (.tmp 23) 31 rfl w.heap.size 2 i0 (.int .i64 0) 1 8 Tryz.underlying31 hi hz0 hz1 hz2 rfl (by decide) _ j (iv ((S.take j).map fun p => p.nm)) rfl (HO.out.alloc _) ⟨wr.heap.size, 0, none⟩ 1 1 [.int .i64 z] rfl rfl (cell_one _ _ _) (iv_one [z]) (by unfold maxLen; omega) (by omega) (by simp; omega) ?_; intro v5 w5 ho5 hg5 hn5 hl5
           obtain ⟨hc5, hf5⟩ := (HC.out.trans (Chg.alloc _ _ _)).more HF.out hg5 hl5
           have HO5 : Hid (w5.ownsRow w.heap.size 2 1 v5 (j + 1) (iv ((S.take (j + 1)).map fun p => p.nm))) := by rw [HT.out, iv_app]; exact ho5
           have HC5 : Hid (Chg (fun g => w.heap.size ≤ g) w w5) := hc5
           clear ho5 hg5 hn5 hl5 hc5 hf5)
        | fail)
      go_roundw
      case rel => exact ⟨j + 1, by go_num, by omega, HO5.out, HC5.out⟩
      case measure => simp [Go.Lib.intOf]; omega
    · have e0 : j = S.length := by rw [HNL.out]; omega
      have HO : Hid (wr.ownsRow w.heap.size 2 1 (.slice A4 j C4) j (iv (S.map fun p => p.nm))) := by
        have := hown
        rw [List.take_of_length_le (by omega)] at this
        exact this
      have i1 : ¬ (j : Int) < (NL : Int) := by omega
      have HB : Hid (Below w.heap.size w wr) := hch.below (fun k e => e) (Nat.le_refl _)
      have HE : Hid (j = NL) := by show j = NL; rw [e0, HNL.out]
      clear e0 hown hch hkr
      go_wp2_with fail
      go_ret
      have h1 := HO.out
      rw [HE.out] at h1
      exact ⟨A4, C4, by rw [HE.out]; rfl, h1, HB.out⟩
theorem told_take (n : Int) (S : List Fi) (j : Nat) (hj : j < S.length) : (((S[j]'hj).en ≤ n) → told n (S.take (j + 1)) = told n (S.take j) ++ [(S[j]'hj).nm] ∧ rest n (S.take (j + 1)) = rest n (S.take j)) ∧ ((¬ (S[j]'hj).en ≤ n) → told n (S.take (j + 1)) = told n (S.take j) ∧ rest n (S.take (j + 1)) = rest n (S.take j) ++ [S[j]'hj]) := by
  constructor
  · intro he
    rw [List.take_succ_eq_append_getElem hj, told_app, rest_app, told_yes he, rest_yes he]
    simp [told, rest]
  · intro he
    rw [List.take_succ_eq_append_getElem hj, told_app, rest_app, told_not he, rest_not he]
    simp [told, rest]
set_option maxRecDepth 100000 in
set_option maxHeartbeats 4000000 in
theorem rtick_any {w : World} {base r : Nat} {now : Int} {v : Value} {S : List Fi} (hb : base ≤ w.heap.size) (h : Rk w base r now v S) (hL : S.length ≤ 99999) (n : Int) :
    Calls Tryz.prog 20 #[.pointer (some ⟨r, 0, none⟩), .int .i64 n] w fun e w' => ∃ A C, e = .returned (.slice A (told (tickN now n) S).length C) ∧ w'.ownsRow w.heap.size 2 1 (.slice A (told (tickN now n) S).length C) (told (tickN now n) S).length (iv (told (tickN now n) S)) ∧ Rn base r v w w' (tickN now n) (rest (tickN now n) S) := by
  obtain ⟨i0, hi, hz0, hz1, hz2⟩ := info_parts info2
  have HH : Hid (Rk w base r now v S) := h
  obtain ⟨A1, C1, rfl⟩ := h.form
  have hc0 := h.head.1
  have hf0 := h.frz 0
  obtain ⟨NL, hNL⟩ : ∃ NL, S.length = NL := ⟨_, rfl⟩
  have HNL : Hid (S.length = NL) := hNL
  rw [hNL] at hL
  obtain ⟨N1, hN1⟩ : ∃ N1, tickN now n = N1 := ⟨_, rfl⟩
  rw [hN1]
  have HN1 : Hid (tickN now n = N1) := hN1
  clear h hNL hN1
  have hn2 := HN1.out
  unfold tickN late at hn2
  by_cases h1 : now < n
  · by_cases h2 : n ≤ 1152921504606846976
    · rw [if_pos h2] at hn2
      have e : N1 = n := by omega
      subst e
      clear hn2
      obtain ⟨wc, hwc⟩ : ∃ wc, wc = w.setCell ⟨r, 0, none⟩ (.int .i64 N1) := ⟨_, rfl⟩
      have c1 : Chg (fun i => i = r) w wc := by rw [hwc]; exact Chg.setCell w ⟨r, 0, none⟩ _ rfl
      have HK1 : Hid (Rk wc base r N1 (.slice A1 S.length C1) S) := by
        refine ⟨?_, owns_keep HH.out.row c1 (fun k hk => HH.out.ne hk), HH.out.low⟩
        have := heap_set HH.out.cell 0 (.int .i64 N1)
        rw [hwc]; simpa using this
      have HC1 : Hid (Chg (fun i => i = r) w wc ∧ wc.heap.size = w.heap.size) := ⟨c1, by rw [hwc]; simp⟩
      have HWC : Hid (wc = w.setCell ⟨r, 0, none⟩ (.int .i64 N1)) := hwc
      clear c1 hwc
      go_enter Tryz.func20, Tryz.ntmps20
      go_wp2_with fail
      rw [← HWC.out]
      clear HWC
      go_loopw [5, 6, 7] (fun v5 v6 v7 wr => ∃ j : Nat, v7 = .int .i64 j ∧ j ≤ NL ∧ wr.ownsRow wc.heap.size 2 1 v5 (told N1 (S.take j)).length (iv (told N1 (S.take j))) ∧ wr.ownsRow wc.heap.size 55 3 v6 (rest N1 (S.take j)).length ((rest N1 (S.take j)).flatMap cel) ∧ Chg (fun g => wc.heap.size ≤ g) wc wr) (fun _ _ v7 _ => NL - (Go.Lib.intOf v7).toNat)
      case atStart => exact ⟨0, rfl, Nat.zero_le _, World.ownsRow_nil _ _ _ _, World.ownsRow_nil _ _ _ _, Chg.refl _ _⟩
      case round =>
        obtain ⟨j, rfl, hj, hog, hol, hch⟩ := hrel
        obtain ⟨A5, C5, rfl⟩ := ifm hog
        obtain ⟨A6, C6, rfl⟩ := ifm hol
        have hkr := HK1.out.later hch
        have HKR : Hid (Rk wr base r N1 (.slice A1 S.length C1) S) := hkr
        have hcr := hkr.head.2
        have hcn := hkr.head.1
        rw [HNL.out] at hcr
        have hrl' := heap_lt hkr.cell
        have HCH : Hid (Chg (fun g => wc.heap.size ≤ g) wc wr) := hch
        by_cases hlt : j < NL
        · have hjS : j < S.length := by rw [HNL.out]; exact hlt
          obtain ⟨g, hA, y0, y1, y2⟩ := hkr.at rfl j hjS
          subst hA
          have htk := told_take N1 S j hjS
          have HTL : Hid ((told N1 (S.take j)).length ≤ 100000 ∧ (rest N1 (S.take j)).length ≤ 100000) := by
            have h1 := len_told N1 (S.take j)
            have h2 := len_rest N1 (S.take j)
            have h3 : (S.take j).length ≤ j := by rw [List.length_take]; omega
            show _ ∧ _; omega
          have HOG : Hid (wr.ownsRow wc.heap.size 2 1 (.slice A5 (told N1 (S.take j)).length C5) (told N1 (S.take j)).length (iv (told N1 (S.take j)))) := hog
          have HOL : Hid (wr.ownsRow wc.heap.size 55 3 (.slice A6 (rest N1 (S.take j)).length C6) (rest N1 (S.take j)).length ((rest N1 (S.take j)).flatMap cel)) := hol
          obtain ⟨ng, hng⟩ : ∃ ng, (told N1 (S.take j)).length = ng := ⟨_, rfl⟩
          obtain ⟨nl, hnl⟩ : ∃ nl, (rest N1 (S.take j)).length = nl := ⟨_, rfl⟩
          have HNGL : Hid ((told N1 (S.take j)).length = ng ∧ (rest N1 (S.take j)).length = nl) := ⟨hng, hnl⟩
          rw [hng] at HTL HOG ⊢
          rw [hnl] at HTL HOL ⊢
          have HFG : Hid (∀ k, blk (.slice A5 ng C5) = some k → wc.heap.size ≤ k ∧ ∃ cur, wr.heap[k]? = some (.cells cur 2 (0, 0))) := fun k hk => by obtain ⟨cur, h1, h⟩ := iblk HOG.out hk; exact ⟨h, cur, h1⟩
          have HFL : Hid (∀ k, blk (.slice A6 nl C6) = some k → wc.heap.size ≤ k ∧ ∃ cur, wr.heap[k]? = some (.cells cur 55 (0, 0))) := fun k hk => by obtain ⟨cur, h1, h⟩ := iblk HOL.out hk; exact ⟨h, cur, h1⟩
          obtain ⟨x, hx⟩ : ∃ x, S[j]'hjS = x := ⟨_, rfl⟩
          have HJ : Hid (S[j]'hjS = x) := hx
          rw [hx] at y0 y1 y2 htk
          obtain ⟨nm, tm, en⟩ := x
          simp only at y0 y1 y2 htk
          have i1 : (j : Int) < (NL : Int) := by omega
          have i2 : (0 : Int) ≤ (j : Int) := by omega
          have hgl : g < wr.heap.size := cell_lt y0
          clear hx hng hnl hog hol hch hkr
          by_cases he : en ≤ N1
          · obtain ⟨t1, t2⟩ := htk.1 he
            have HT1 : Hid (told N1 (S.take (j + 1)) = told N1 (S.take j) ++ [nm]) := t1
            have HT2 : Hid (rest N1 (S.take (j + 1)) = rest N1 (S.take j)) := t2
            clear htk t1 t2
            go_wp2_with fail
            go_quiet (fail)
            obtain ⟨W, hW⟩ : ∃ W, W = wr.drewN nq := ⟨_, rfl⟩
            have cW : Chg Non wr W := by rw [hW]; exact Chg.drewN _ _ _
            have HCW : Hid (Chg (fun g => wc.heap.size ≤ g) wc W) := HCH.out.trans (cW.weak fun _ _ e => e.elim)
            have HOGw : Hid (W.ownsRow wc.heap.size 2 1 (.slice A5 ng C5) ng (iv (told N1 (S.take j)))) := owns_keep HOG.out cW (fun _ _ => id)
            have HOLw : Hid (W.ownsRow wc.heap.size 55 3 (.slice A6 nl C6) nl ((rest N1 (S.take j)).flatMap cel)) := owns_keep HOL.out cW (fun _ _ => id)
            have q1 : W.cell? ⟨r, 1, none⟩ = some (.slice (some ⟨g, 0, none⟩) NL C1) := (cW.cell (a := ⟨r, 1, none⟩) hrl' id).trans hcr
            have q0 : W.cell? ⟨g, j * 3, none⟩ = some (.int .i64 nm) := (cW.cell (a := ⟨g, j * 3, none⟩) hgl id).trans y0
            have hszW : wc.heap.size ≤ W.heap.size := HCW.out.size
            rw [← hW]
            clear hW y0 y1 y2 hcr hcn
            go_wp2_with (first
              | (at_builtin; refine wpList_append_own_at _ rfl (.tmp 44) (.tmp 53) 31 rfl wc.heap.size 2 i0 (.int .i64 0) 1 8 Tryz.underlying31 hi hz0 hz1 hz2 rfl (by decide) _ ng (iv (told N1 (S.take j))) rfl (HOGw.out.alloc _) ⟨W.heap.size, 0, none⟩ 1 1 [.int .i64 nm] rfl rfl (cell_one _ _ _) (iv_one [nm]) (by have := HTL.out; unfold maxLen; omega) (by have := HTL.out; omega) (by simp; omega) ?_; intro v5 w5 ho5 hg5 hn5 hl5
                 obtain ⟨hc5, hf5⟩ := (HCW.out.trans (Chg.alloc _ _ _)).more (fun k hk => (HFG.out k hk).1) hg5 hl5
                 have HO5 : Hid (w5.ownsRow wc.heap.size 2 1 v5 (ng + 1) (iv (told N1 (S.take (j + 1))))) := by rw [HT1.out, iv_app]; exact ho5
                 have HC5 : Hid (Chg (fun g => wc.heap.size ≤ g) wc w5) := hc5
                 have HOL5 : Hid (w5.ownsRow wc.heap.size 55 3 (.slice A6 nl C6) nl ((rest N1 (S.take (j + 1))).flatMap cel)) := by
                   rw [HT2.out]
                   refine owns_keep (HOLw.out.alloc (.cells #[.int .i64 nm] 2)) (Chg.of_grown hg5) (fun k hk e => ?_)
                   obtain ⟨_, c1, h1⟩ := HFL.out k hk
                   obtain ⟨_, c2, h2⟩ := HFG.out k e
                   rw [h1] at h2; injection h2 with h2; injection h2 with _ h2; exact absurd h2 (by decide)
                 clear ho5 hg5 hn5 hl5 hc5 hf5)
              | fail)
            go_roundw
            case rel => exact ⟨j + 1, by go_num, by omega, by have h1 := HO5.out; rw [show (told N1 (S.take (j + 1))).length = ng + 1 by rw [HT1.out, List.length_append, HNGL.out.1]; rfl]; exact h1, by have h1 := HOL5.out; rw [show (rest N1 (S.take (j + 1))).length = nl by rw [HT2.out, HNGL.out.2]]; exact h1, HC5.out⟩
            case measure => simp [Go.Lib.intOf]; omega
          · obtain ⟨t1, t2⟩ := htk.2 he
            have HT1 : Hid (told N1 (S.take (j + 1)) = told N1 (S.take j)) := t1
            have HT2 : Hid (rest N1 (S.take (j + 1)) = rest N1 (S.take j) ++ [⟨nm, tm, en⟩]) := t2
            have he' : N1 < en := by omega
            clear htk t1 t2
            go_wp2_with fail
            go_quiet (fail)
            obtain ⟨W, hW⟩ : ∃ W, W = wr.drewN nq := ⟨_, rfl⟩
            have cW : Chg Non wr W := by rw [hW]; exact Chg.drewN _ _ _
            have HCW : Hid (Chg (fun g => wc.heap.size ≤ g) wc W) := HCH.out.trans (cW.weak fun _ _ e => e.elim)
            have HOGw : Hid (W.ownsRow wc.heap.size 2 1 (.slice A5 ng C5) ng (iv (told N1 (S.take j)))) := owns_keep HOG.out cW (fun _ _ => id)
            have HOLw : Hid (W.ownsRow wc.heap.size 55 3 (.slice A6 nl C6) (rest N1 (S.take j)).length ((rest N1 (S.take j)).flatMap cel)) := by have := owns_keep HOL.out cW (fun _ _ => id); rw [HNGL.out.2]; exact this
            have q1 : W.cell? ⟨r, 1, none⟩ = some (.slice (some ⟨g, 0, none⟩) NL C1) := (cW.cell (a := ⟨r, 1, none⟩) hrl' id).trans hcr
            have q0 : W.cell? ⟨g, j * 3, none⟩ = some (.int .i64 nm) := (cW.cell (a := ⟨g, j * 3, none⟩) hgl id).trans y0
            have q2 : W.cell? ⟨g, j * 3 + 1, none⟩ = some (.int .i64 tm) := (cW.cell (a := ⟨g, j * 3 + 1, none⟩) hgl id).trans y1
            have q3 : W.cell? ⟨g, j * 3 + 2, none⟩ = some (.int .i64 en) := (cW.cell (a := ⟨g, j * 3 + 2, none⟩) hgl id).trans y2
            have hszW : wc.heap.size ≤ W.heap.size := HCW.out.size
            have hbW : wc.heap.size ≤ (W.alloc (.cells #[.int .i64 nm, .int .i64 tm, .int .i64 en] 55)).heap.size := by simp; omega
            have hnl6 : nl + 1 ≤ 1000000 := by have := HTL.out; omega
            rw [← hW]
            clear hW y0 y1 y2 hcr hcn
            go_wp2_with (first
              | (at_builtin; refine wpList_appS rfl (.tmp 55) (.tmp 63) rfl (.slice A6 nl C6) (.slice (some ⟨W.heap.size, 0, none⟩) 1 1) (M := [⟨nm, tm, en⟩]) (nl + 1) (by rw [HNGL.out.2]; rfl) rfl rfl (HOLw.out.alloc _) (Sx.one W ⟨nm, tm, en⟩ 55) hbW hnl6 ?_; intro A7 C7 w5 ho5 hg5 hl5
                 obtain ⟨hc5, hf5⟩ := (HCW.out.trans (Chg.alloc _ _ _)).more (fun k hk => (HFL.out k hk).1) hg5 hl5
                 have HO5 : Hid (w5.ownsRow wc.heap.size 55 3 (.slice A7 (nl + 1) C7) (rest N1 (S.take (j + 1))).length ((rest N1 (S.take (j + 1))).flatMap cel)) := by rw [HT2.out]; exact ho5
                 have HC5 : Hid (Chg (fun g => wc.heap.size ≤ g) wc w5) := hc5
                 have HOG5 : Hid (w5.ownsRow wc.heap.size 2 1 (.slice A5 ng C5) ng (iv (told N1 (S.take (j + 1))))) := by
                   rw [HT1.out]
                   refine owns_keep (HOGw.out.alloc (.cells #[.int .i64 nm, .int .i64 tm, .int .i64 en] 55)) (Chg.of_grown hg5) (fun k hk e => ?_)
                   obtain ⟨_, c1, h1⟩ := HFG.out k hk
                   obtain ⟨_, c2, h2⟩ := HFL.out k e
                   rw [h1] at h2; injection h2 with h2; injection h2 with _ h2; exact absurd h2 (by decide)
                 clear ho5 hg5 hl5 hc5 hf5)
              | fail)
            go_roundw
            case rel => exact ⟨j + 1, by go_num, by omega, by have h1 := HOG5.out; rw [show (told N1 (S.take (j + 1))).length = ng by rw [HT1.out, HNGL.out.1]]; exact h1, HO5.out, HC5.out⟩
            case measure => simp [Go.Lib.intOf]; omega
        · have e0 : S.take j = S := List.take_of_length_le (by have := HNL.out; omega)
          rw [e0] at hog hol ⊢
          have HOG : Hid (wr.ownsRow wc.heap.size 2 1 (.slice A5 (told N1 S).length C5) (told N1 S).length (iv (told N1 S))) := hog
          have HOL : Hid (wr.ownsRow wc.heap.size 55 3 (.slice A6 (rest N1 S).length C6) (rest N1 S).length ((rest N1 S).flatMap cel)) := hol
          have HFG : Hid (∀ k, blk (.slice A5 (told N1 S).length C5) = some k → wc.heap.size ≤ k) := fun k hk => by obtain ⟨cur, h1, h⟩ := iblk hog hk; exact h
          have HFL : Hid (∀ k, blk (.slice A6 (rest N1 S).length C6) = some k → wc.heap.size ≤ k) := fun k hk => by obtain ⟨cur, h1, h⟩ := iblk hol hk; exact h
          have hfz := hkr.frz 1
          have i1 : ¬ (j : Int) < (NL : Int) := by omega
          clear e0 hog hol hch hkr hcn
          go_wp2_with fail
          go_ret
          have hrs := HK1.out.row_set HCH.out (owns_low HOL.out (by have := HK1.out.low; rw [HC1.out.2]; exact hb)) HFL.out
          have hrw := heap_lt HKR.out.cell
          refine ⟨A5, C5, rfl, ?_, ?_⟩
          · refine owns_keep (by rw [← HC1.out.2]; exact HOG.out) (Chg.setCell (S := fun k => k = r) wr ⟨r, 1, none⟩ _ rfl) (fun k hk e => ?_)
            have h1 := HFG.out k hk
            have h2 := heap_lt HK1.out.cell
            omega
          · obtain ⟨v', k', c', f'⟩ := hrs
            refine ⟨v', k', (HC1.out.1.weak fun i _ e => .inl e).trans c', fun g hg => ?_⟩
            rcases f' g hg with e | e
            · exact .inl e
            · exact .inr (by rw [← HC1.out.2]; exact e)
    · rw [if_neg h2] at hn2
      subst hn2
      have HK1 : Hid (Rk w base r now (.slice A1 S.length C1) S) := HH.out
      have HC1 : Hid (Chg (fun i => i = r) w w ∧ w.heap.size = w.heap.size) := ⟨Chg.refl _ _, rfl⟩
      go_enter Tryz.func20, Tryz.ntmps20
      go_wp2_with fail
      go_loopw [5, 6, 7] (fun v5 v6 v7 wr => ∃ j : Nat, v7 = .int .i64 j ∧ j ≤ NL ∧ wr.ownsRow w.heap.size 2 1 v5 (told now (S.take j)).length (iv (told now (S.take j))) ∧ wr.ownsRow w.heap.size 55 3 v6 (rest now (S.take j)).length ((rest now (S.take j)).flatMap cel) ∧ Chg (fun g => w.heap.size ≤ g) w wr) (fun _ _ v7 _ => NL - (Go.Lib.intOf v7).toNat)
      case atStart => exact ⟨0, rfl, Nat.zero_le _, World.ownsRow_nil _ _ _ _, World.ownsRow_nil _ _ _ _, Chg.refl _ _⟩
      case round =>
        obtain ⟨j, rfl, hj, hog, hol, hch⟩ := hrel
        obtain ⟨A5, C5, rfl⟩ := ifm hog
        obtain ⟨A6, C6, rfl⟩ := ifm hol
        have hkr := HK1.out.later hch
        have HKR : Hid (Rk wr base r now (.slice A1 S.length C1) S) := hkr
        have hcr := hkr.head.2
        have hcn := hkr.head.1
        rw [HNL.out] at hcr
        have hrl' := heap_lt hkr.cell
        have HCH : Hid (Chg (fun g => w.heap.size ≤ g) w wr) := hch
        by_cases hlt : j < NL
        · have hjS : j < S.length := by rw [HNL.out]; exact hlt
          obtain ⟨g, hA, y0, y1, y2⟩ := hkr.at rfl j hjS
          subst hA
          have htk := told_take now S j hjS
          have HTL : Hid ((told now (S.take j)).length ≤ 100000 ∧ (rest now (S.take j)).length ≤ 100000) := by
            have h1 := len_told now (S.take j)
            have h2 := len_rest now (S.take j)
            have h3 : (S.take j).length ≤ j := by rw [List.length_take]; omega
            show _ ∧ _; omega
          have HOG : Hid (wr.ownsRow w.heap.size 2 1 (.slice A5 (told now (S.take j)).length C5) (told now (S.take j)).length (iv (told now (S.take j)))) := hog
          have HOL : Hid (wr.ownsRow w.heap.size 55 3 (.slice A6 (rest now (S.take j)).length C6) (rest now (S.take j)).length ((rest now (S.take j)).flatMap cel)) := hol
          obtain ⟨ng, hng⟩ : ∃ ng, (told now (S.take j)).length = ng := ⟨_, rfl⟩
          obtain ⟨nl, hnl⟩ : ∃ nl, (rest now (S.take j)).length = nl := ⟨_, rfl⟩
          have HNGL : Hid ((told now (S.take j)).length = ng ∧ (rest now (S.take j)).length = nl) := ⟨hng, hnl⟩
          rw [hng] at HTL HOG ⊢
          rw [hnl] at HTL HOL ⊢
          have HFG : Hid (∀ k, blk (.slice A5 ng C5) = some k → w.heap.size ≤ k ∧ ∃ cur, wr.heap[k]? = some (.cells cur 2 (0, 0))) := fun k hk => by obtain ⟨cur, h1, h⟩ := iblk HOG.out hk; exact ⟨h, cur, h1⟩
          have HFL : Hid (∀ k, blk (.slice A6 nl C6) = some k → w.heap.size ≤ k ∧ ∃ cur, wr.heap[k]? = some (.cells cur 55 (0, 0))) := fun k hk => by obtain ⟨cur, h1, h⟩ := iblk HOL.out hk; exact ⟨h, cur, h1⟩
          obtain ⟨x, hx⟩ : ∃ x, S[j]'hjS = x := ⟨_, rfl⟩
          have HJ : Hid (S[j]'hjS = x) := hx
          rw [hx] at y0 y1 y2 htk
          obtain ⟨nm, tm, en⟩ := x
          simp only at y0 y1 y2 htk
          have i1 : (j : Int) < (NL : Int) := by omega
          have i2 : (0 : Int) ≤ (j : Int) := by omega
          have hgl : g < wr.heap.size := cell_lt y0
          clear hx hng hnl hog hol hch hkr
          by_cases he : en ≤ now
          · obtain ⟨t1, t2⟩ := htk.1 he
            have HT1 : Hid (told now (S.take (j + 1)) = told now (S.take j) ++ [nm]) := t1
            have HT2 : Hid (rest now (S.take (j + 1)) = rest now (S.take j)) := t2
            clear htk t1 t2
            go_wp2_with fail
            go_quiet (fail)
            obtain ⟨W, hW⟩ : ∃ W, W = wr.drewN nq := ⟨_, rfl⟩
            have cW : Chg Non wr W := by rw [hW]; exact Chg.drewN _ _ _
            have HCW : Hid (Chg (fun g => w.heap.size ≤ g) w W) := HCH.out.trans (cW.weak fun _ _ e => e.elim)
            have HOGw : Hid (W.ownsRow w.heap.size 2 1 (.slice A5 ng C5) ng (iv (told now (S.take j)))) := owns_keep HOG.out cW (fun _ _ => id)
            have HOLw : Hid (W.ownsRow w.heap.size 55 3 (.slice A6 nl C6) nl ((rest now (S.take j)).flatMap cel)) := owns_keep HOL.out cW (fun _ _ => id)
            have q1 : W.cell? ⟨r, 1, none⟩ = some (.slice (some ⟨g, 0, none⟩) NL C1) := (cW.cell (a := ⟨r, 1, none⟩) hrl' id).trans hcr
            have q0 : W.cell? ⟨g, j * 3, none⟩ = some (.int .i64 nm) := (cW.cell (a := ⟨g, j * 3, none⟩) hgl id).trans y0
            have hszW : w.heap.size ≤ W.heap.size := HCW.out.size
            rw [← hW]
            clear hW y0 y1 y2 hcr hcn
            go_wp2_with (first
              | (at_builtin; refine wpList_append_own_at _ rfl (.tmp 44) (.tmp 53) 31 rfl w.heap.size 2 i0 (.int .i64 0) 1 8 Tryz.underlying31 hi hz0 hz1 hz2 rfl (by decide) _ ng (iv (told now (S.take j))) rfl (HOGw.out.alloc _) ⟨W.heap.size, 0, none⟩ 1 1 [.int .i64 nm] rfl rfl (cell_one _ _ _) (iv_one [nm]) (by have := HTL.out; unfold maxLen; omega) (by have := HTL.out; omega) (by simp; omega) ?_; intro v5 w5 ho5 hg5 hn5 hl5
                 obtain ⟨hc5, hf5⟩ := (HCW.out.trans (Chg.alloc _ _ _)).more (fun k hk => (HFG.out k hk).1) hg5 hl5
                 have HO5 : Hid (w5.ownsRow w.heap.size 2 1 v5 (ng + 1) (iv (told now (S.take (j + 1))))) := by rw [HT1.out, iv_app]; exact ho5
                 have HC5 : Hid (Chg (fun g => w.heap.size ≤ g) w w5) := hc5
                 have HOL5 : Hid (w5.ownsRow w.heap.size 55 3 (.slice A6 nl C6) nl ((rest now (S.take (j + 1))).flatMap cel)) := by
                   rw [HT2.out]
                   refine owns_keep (HOLw.out.alloc (.cells #[.int .i64 nm] 2)) (Chg.of_grown hg5) (fun k hk e => ?_)
                   obtain ⟨_, c1, h1⟩ := HFL.out k hk
                   obtain ⟨_, c2, h2⟩ := HFG.out k e
                   rw [h1] at h2; injection h2 with h2; injection h2 with _ h2; exact absurd h2 (by decide)
                 clear ho5 hg5 hn5 hl5 hc5 hf5)
              | fail)
            go_roundw
            case rel => exact ⟨j + 1, by go_num, by omega, by have h1 := HO5.out; rw [show (told now (S.take (j + 1))).length = ng + 1 by rw [HT1.out, List.length_append, HNGL.out.1]; rfl]; exact h1, by have h1 := HOL5.out; rw [show (rest now (S.take (j + 1))).length = nl by rw [HT2.out, HNGL.out.2]]; exact h1, HC5.out⟩
            case measure => simp [Go.Lib.intOf]; omega
          · obtain ⟨t1, t2⟩ := htk.2 he
            have HT1 : Hid (told now (S.take (j + 1)) = told now (S.take j)) := t1
            have HT2 : Hid (rest now (S.take (j + 1)) = rest now (S.take j) ++ [⟨nm, tm, en⟩]) := t2
            have he' : now < en := by omega
            clear htk t1 t2
            go_wp2_with fail
            go_quiet (fail)
            obtain ⟨W, hW⟩ : ∃ W, W = wr.drewN nq := ⟨_, rfl⟩
            have cW : Chg Non wr W := by rw [hW]; exact Chg.drewN _ _ _
            have HCW : Hid (Chg (fun g => w.heap.size ≤ g) w W) := HCH.out.trans (cW.weak fun _ _ e => e.elim)
            have HOGw : Hid (W.ownsRow w.heap.size 2 1 (.slice A5 ng C5) ng (iv (told now (S.take j)))) := owns_keep HOG.out cW (fun _ _ => id)
            have HOLw : Hid (W.ownsRow w.heap.size 55 3 (.slice A6 nl C6) (rest now (S.take j)).length ((rest now (S.take j)).flatMap cel)) := by have := owns_keep HOL.out cW (fun _ _ => id); rw [HNGL.out.2]; exact this
            have q1 : W.cell? ⟨r, 1, none⟩ = some (.slice (some ⟨g, 0, none⟩) NL C1) := (cW.cell (a := ⟨r, 1, none⟩) hrl' id).trans hcr
            have q0 : W.cell? ⟨g, j * 3, none⟩ = some (.int .i64 nm) := (cW.cell (a := ⟨g, j * 3, none⟩) hgl id).trans y0
            have q2 : W.cell? ⟨g, j * 3 + 1, none⟩ = some (.int .i64 tm) := (cW.cell (a := ⟨g, j * 3 + 1, none⟩) hgl id).trans y1
            have q3 : W.cell? ⟨g, j * 3 + 2, none⟩ = some (.int .i64 en) := (cW.cell (a := ⟨g, j * 3 + 2, none⟩) hgl id).trans y2
            have hszW : w.heap.size ≤ W.heap.size := HCW.out.size
            have hbW : w.heap.size ≤ (W.alloc (.cells #[.int .i64 nm, .int .i64 tm, .int .i64 en] 55)).heap.size := by simp; omega
            have hnl6 : nl + 1 ≤ 1000000 := by have := HTL.out; omega
            rw [← hW]
            clear hW y0 y1 y2 hcr hcn
            go_wp2_with (first
              | (at_builtin; refine wpList_appS rfl (.tmp 55) (.tmp 63) rfl (.slice A6 nl C6) (.slice (some ⟨W.heap.size, 0, none⟩) 1 1) (M := [⟨nm, tm, en⟩]) (nl + 1) (by rw [HNGL.out.2]; rfl) rfl rfl (HOLw.out.alloc _) (Sx.one W ⟨nm, tm, en⟩ 55) hbW hnl6 ?_; intro A7 C7 w5 ho5 hg5 hl5
                 obtain ⟨hc5, hf5⟩ := (HCW.out.trans (Chg.alloc _ _ _)).more (fun k hk => (HFL.out k hk).1) hg5 hl5
                 have HO5 : Hid (w5.ownsRow w.heap.size 55 3 (.slice A7 (nl + 1) C7) (rest now (S.take (j + 1))).length ((rest now (S.take (j + 1))).flatMap cel)) := by rw [HT2.out]; exact ho5
                 have HC5 : Hid (Chg (fun g => w.heap.size ≤ g) w w5) := hc5
                 have HOG5 : Hid (w5.ownsRow w.heap.size 2 1 (.slice A5 ng C5) ng (iv (told now (S.take (j + 1))))) := by
                   rw [HT1.out]
                   refine owns_keep (HOGw.out.alloc (.cells #[.int .i64 nm, .int .i64 tm, .int .i64 en] 55)) (Chg.of_grown hg5) (fun k hk e => ?_)
                   obtain ⟨_, c1, h1⟩ := HFG.out k hk
                   obtain ⟨_, c2, h2⟩ := HFL.out k e
                   rw [h1] at h2; injection h2 with h2; injection h2 with _ h2; exact absurd h2 (by decide)
                 clear ho5 hg5 hl5 hc5 hf5)
              | fail)
            go_roundw
            case rel => exact ⟨j + 1, by go_num, by omega, by have h1 := HOG5.out; rw [show (told now (S.take (j + 1))).length = ng by rw [HT1.out, HNGL.out.1]]; exact h1, HO5.out, HC5.out⟩
            case measure => simp [Go.Lib.intOf]; omega
        · have e0 : S.take j = S := List.take_of_length_le (by have := HNL.out; omega)
          rw [e0] at hog hol ⊢
          have HOG : Hid (wr.ownsRow w.heap.size 2 1 (.slice A5 (told now S).length C5) (told now S).length (iv (told now S))) := hog
          have HOL : Hid (wr.ownsRow w.heap.size 55 3 (.slice A6 (rest now S).length C6) (rest now S).length ((rest now S).flatMap cel)) := hol
          have HFG : Hid (∀ k, blk (.slice A5 (told now S).length C5) = some k → w.heap.size ≤ k) := fun k hk => by obtain ⟨cur, h1, h⟩ := iblk hog hk; exact h
          have HFL : Hid (∀ k, blk (.slice A6 (rest now S).length C6) = some k → w.heap.size ≤ k) := fun k hk => by obtain ⟨cur, h1, h⟩ := iblk hol hk; exact h
          have hfz := hkr.frz 1
          have i1 : ¬ (j : Int) < (NL : Int) := by omega
          clear e0 hog hol hch hkr hcn
          go_wp2_with fail
          go_ret
          have hrs := HK1.out.row_set HCH.out (owns_low HOL.out (by have := HK1.out.low; exact hb)) HFL.out
          have hrw := heap_lt HKR.out.cell
          refine ⟨A5, C5, rfl, ?_, ?_⟩
          · refine owns_keep (by exact HOG.out) (Chg.setCell (S := fun k => k = r) wr ⟨r, 1, none⟩ _ rfl) (fun k hk e => ?_)
            have h1 := HFG.out k hk
            have h2 := heap_lt HK1.out.cell
            omega
          · obtain ⟨v', k', c', f'⟩ := hrs
            refine ⟨v', k', (HC1.out.1.weak fun i _ e => .inl e).trans c', fun g hg => ?_⟩
            rcases f' g hg with e | e
            · exact .inl e
            · exact .inr (by exact e)
  · have e : N1 = now := by split at hn2 <;> omega
    subst e
    clear hn2
    have HK1 : Hid (Rk w base r N1 (.slice A1 S.length C1) S) := HH.out
    have HC1 : Hid (Chg (fun i => i = r) w w ∧ w.heap.size = w.heap.size) := ⟨Chg.refl _ _, rfl⟩
    go_enter Tryz.func20, Tryz.ntmps20
    go_wp2_with fail
    go_loopw [5, 6, 7] (fun v5 v6 v7 wr => ∃ j : Nat, v7 = .int .i64 j ∧ j ≤ NL ∧ wr.ownsRow w.heap.size 2 1 v5 (told N1 (S.take j)).length (iv (told N1 (S.take j))) ∧ wr.ownsRow w.heap.size 55 3 v6 (rest N1 (S.take j)).length ((rest N1 (S.take j)).flatMap cel) ∧ Chg (fun g => w.heap.size ≤ g) w wr) (fun _ _ v7 _ => NL - (Go.Lib.intOf v7).toNat)
    case atStart => exact ⟨0, rfl, Nat.zero_le _, World.ownsRow_nil _ _ _ _, World.ownsRow_nil _ _ _ _, Chg.refl _ _⟩
    case round =>
      obtain ⟨j, rfl, hj, hog, hol, hch⟩ := hrel
      obtain ⟨A5, C5, rfl⟩ := ifm hog
      obtain ⟨A6, C6, rfl⟩ := ifm hol
      have hkr := HK1.out.later hch
      have HKR : Hid (Rk wr base r N1 (.slice A1 S.length C1) S) := hkr
      have hcr := hkr.head.2
      have hcn := hkr.head.1
      rw [HNL.out] at hcr
      have hrl' := heap_lt hkr.cell
      have HCH : Hid (Chg (fun g => w.heap.size ≤ g) w wr) := hch
      by_cases hlt : j < NL
      · have hjS : j < S.length := by rw [HNL.out]; exact hlt
        obtain ⟨g, hA, y0, y1, y2⟩ := hkr.at rfl j hjS
        subst hA
        have htk := told_take N1 S j hjS
        have HTL : Hid ((told N1 (S.take j)).length ≤ 100000 ∧ (rest N1 (S.take j)).length ≤ 100000) := by
          have h1 := len_told N1 (S.take j)
          have h2 := len_rest N1 (S.take j)
          have h3 : (S.take j).length ≤ j := by rw [List.length_take]; omega
          show _ ∧ _; omega
        have HOG : Hid (wr.ownsRow w.heap.size 2 1 (.slice A5 (told N1 (S.take j)).length C5) (told N1 (S.take j)).length (iv (told N1 (S.take j)))) := hog
        have HOL : Hid (wr.ownsRow w.heap.size 55 3 (.slice A6 (rest N1 (S.take j)).length C6) (rest N1 (S.take j)).length ((rest N1 (S.take j)).flatMap cel)) := hol
        obtain ⟨ng, hng⟩ : ∃ ng, (told N1 (S.take j)).length = ng := ⟨_, rfl⟩
        obtain ⟨nl, hnl⟩ : ∃ nl, (rest N1 (S.take j)).length = nl := ⟨_, rfl⟩
        have HNGL : Hid ((told N1 (S.take j)).length = ng ∧ (rest N1 (S.take j)).length = nl) := ⟨hng, hnl⟩
        rw [hng] at HTL HOG ⊢
        rw [hnl] at HTL HOL ⊢
        have HFG : Hid (∀ k, blk (.slice A5 ng C5) = some k → w.heap.size ≤ k ∧ ∃ cur, wr.heap[k]? = some (.cells cur 2 (0, 0))) := fun k hk => by obtain ⟨cur, h1, h⟩ := iblk HOG.out hk; exact ⟨h, cur, h1⟩
        have HFL : Hid (∀ k, blk (.slice A6 nl C6) = some k → w.heap.size ≤ k ∧ ∃ cur, wr.heap[k]? = some (.cells cur 55 (0, 0))) := fun k hk => by obtain ⟨cur, h1, h⟩ := iblk HOL.out hk; exact ⟨h, cur, h1⟩
        obtain ⟨x, hx⟩ : ∃ x, S[j]'hjS = x := ⟨_, rfl⟩
        have HJ : Hid (S[j]'hjS = x) := hx
        rw [hx] at y0 y1 y2 htk
        obtain ⟨nm, tm, en⟩ := x
        simp only at y0 y1 y2 htk
        have i1 : (j : Int) < (NL : Int) := by omega
        have i2 : (0 : Int) ≤ (j : Int) := by omega
        have hgl : g < wr.heap.size := cell_lt y0
        clear hx hng hnl hog hol hch hkr
        by_cases he : en ≤ N1
        · obtain ⟨t1, t2⟩ := htk.1 he
          have HT1 : Hid (told N1 (S.take (j + 1)) = told N1 (S.take j) ++ [nm]) := t1
          have HT2 : Hid (rest N1 (S.take (j + 1)) = rest N1 (S.take j)) := t2
          clear htk t1 t2
          go_wp2_with fail
          go_quiet (fail)
          obtain ⟨W, hW⟩ : ∃ W, W = wr.drewN nq := ⟨_, rfl⟩
          have cW : Chg Non wr W := by rw [hW]; exact Chg.drewN _ _ _
          have HCW : Hid (Chg (fun g => w.heap.size ≤ g) w W) := HCH.out.trans (cW.weak fun _ _ e => e.elim)
          have HOGw : Hid (W.ownsRow w.heap.size 2 1 (.slice A5 ng C5) ng (iv (told N1 (S.take j)))) := owns_keep HOG.out cW (fun _ _ => id)
          have HOLw : Hid (W.ownsRow w.heap.size 55 3 (.slice A6 nl C6) nl ((rest N1 (S.take j)).flatMap cel)) := owns_keep HOL.out cW (fun _ _ => id)
          have q1 : W.cell? ⟨r, 1, none⟩ = some (.slice (some ⟨g, 0, none⟩) NL C1) := (cW.cell (a := ⟨r, 1, none⟩) hrl' id).trans hcr
          have q0 : W.cell? ⟨g, j * 3, none⟩ = some (.int .i64 nm) := (cW.cell (a := ⟨g, j * 3, none⟩) hgl id).trans y0
          have hszW : w.heap.size ≤ W.heap.size := HCW.out.size
          rw [← hW]
          clear hW y0 y1 y2 hcr hcn
          go_wp2_with (first
            | (at_builtin; refine wpList_append_own_at _ rfl (.tmp 44) (.tmp 53) 31 rfl w.heap.size 2 i0 (.int .i64 0) 1 8 Tryz.underlying31 hi hz0 hz1 hz2 rfl (by decide) _ ng (iv (told N1 (S.take j))) rfl (HOGw.out.alloc _) ⟨W.heap.size, 0, none⟩ 1 1 [.int .i64 nm] rfl rfl (cell_one _ _ _) (iv_one [nm]) (by have := HTL.out; unfold maxLen; omega) (by have := HTL.out; omega) (by simp; omega) ?_; intro v5 w5 ho5 hg5 hn5 hl5
               obtain ⟨hc5, hf5⟩ := (HCW.out.trans (Chg.alloc _ _ _)).more (fun k hk => (HFG.out k hk).1) hg5 hl5
               have HO5 : Hid (w5.ownsRow w.heap.size 2 1 v5 (ng + 1) (iv (told N1 (S.take (j + 1))))) := by rw [HT1.out, iv_app]; exact ho5
               have HC5 : Hid (Chg (fun g => w.heap.size ≤ g) w w5) := hc5
               have HOL5 : Hid (w5.ownsRow w.heap.size 55 3 (.slice A6 nl C6) nl ((rest N1 (S.take (j + 1))).flatMap cel)) := by
                 rw [HT2.out]
                 refine owns_keep (HOLw.out.alloc (.cells #[.int .i64 nm] 2)) (Chg.of_grown hg5) (fun k hk e => ?_)
                 obtain ⟨_, c1, h1⟩ := HFL.out k hk
                 obtain ⟨_, c2, h2⟩ := HFG.out k e
                 rw [h1] at h2; injection h2 with h2; injection h2 with _ h2; exact absurd h2 (by decide)
               clear ho5 hg5 hn5 hl5 hc5 hf5)
            | fail)
          go_roundw
          case rel => exact ⟨j + 1, by go_num, by omega, by have h1 := HO5.out; rw [show (told N1 (S.take (j + 1))).length = ng + 1 by rw [HT1.out, List.length_append, HNGL.out.1]; rfl]; exact h1, by have h1 := HOL5.out; rw [show (rest N1 (S.take (j + 1))).length = nl by rw [HT2.out, HNGL.out.2]]; exact h1, HC5.out⟩
          case measure => simp [Go.Lib.intOf]; omega
        · obtain ⟨t1, t2⟩ := htk.2 he
          have HT1 : Hid (told N1 (S.take (j + 1)) = told N1 (S.take j)) := t1
          have HT2 : Hid (rest N1 (S.take (j + 1)) = rest N1 (S.take j) ++ [⟨nm, tm, en⟩]) := t2
          have he' : N1 < en := by omega
          clear htk t1 t2
          go_wp2_with fail
          go_quiet (fail)
          obtain ⟨W, hW⟩ : ∃ W, W = wr.drewN nq := ⟨_, rfl⟩
          have cW : Chg Non wr W := by rw [hW]; exact Chg.drewN _ _ _
          have HCW : Hid (Chg (fun g => w.heap.size ≤ g) w W) := HCH.out.trans (cW.weak fun _ _ e => e.elim)
          have HOGw : Hid (W.ownsRow w.heap.size 2 1 (.slice A5 ng C5) ng (iv (told N1 (S.take j)))) := owns_keep HOG.out cW (fun _ _ => id)
          have HOLw : Hid (W.ownsRow w.heap.size 55 3 (.slice A6 nl C6) (rest N1 (S.take j)).length ((rest N1 (S.take j)).flatMap cel)) := by have := owns_keep HOL.out cW (fun _ _ => id); rw [HNGL.out.2]; exact this
          have q1 : W.cell? ⟨r, 1, none⟩ = some (.slice (some ⟨g, 0, none⟩) NL C1) := (cW.cell (a := ⟨r, 1, none⟩) hrl' id).trans hcr
          have q0 : W.cell? ⟨g, j * 3, none⟩ = some (.int .i64 nm) := (cW.cell (a := ⟨g, j * 3, none⟩) hgl id).trans y0
          have q2 : W.cell? ⟨g, j * 3 + 1, none⟩ = some (.int .i64 tm) := (cW.cell (a := ⟨g, j * 3 + 1, none⟩) hgl id).trans y1
          have q3 : W.cell? ⟨g, j * 3 + 2, none⟩ = some (.int .i64 en) := (cW.cell (a := ⟨g, j * 3 + 2, none⟩) hgl id).trans y2
          have hszW : w.heap.size ≤ W.heap.size := HCW.out.size
          have hbW : w.heap.size ≤ (W.alloc (.cells #[.int .i64 nm, .int .i64 tm, .int .i64 en] 55)).heap.size := by simp; omega
          have hnl6 : nl + 1 ≤ 1000000 := by have := HTL.out; omega
          rw [← hW]
          clear hW y0 y1 y2 hcr hcn
          go_wp2_with (first
            | (at_builtin; refine wpList_appS rfl (.tmp 55) (.tmp 63) rfl (.slice A6 nl C6) (.slice (some ⟨W.heap.size, 0, none⟩) 1 1) (M := [⟨nm, tm, en⟩]) (nl + 1) (by rw [HNGL.out.2]; rfl) rfl rfl (HOLw.out.alloc _) (Sx.one W ⟨nm, tm, en⟩ 55) hbW hnl6 ?_; intro A7 C7 w5 ho5 hg5 hl5
               obtain ⟨hc5, hf5⟩ := (HCW.out.trans (Chg.alloc _ _ _)).more (fun k hk => (HFL.out k hk).1) hg5 hl5
               have HO5 : Hid (w5.ownsRow w.heap.size 55 3 (.slice A7 (nl + 1) C7) (rest N1 (S.take (j + 1))).length ((rest N1 (S.take (j + 1))).flatMap cel)) := by rw [HT2.out]; exact ho5
               have HC5 : Hid (Chg (fun g => w.heap.size ≤ g) w w5) := hc5
               have HOG5 : Hid (w5.ownsRow w.heap.size 2 1 (.slice A5 ng C5) ng (iv (told N1 (S.take (j + 1))))) := by
                 rw [HT1.out]
                 refine owns_keep (HOGw.out.alloc (.cells #[.int .i64 nm, .int .i64 tm, .int .i64 en] 55)) (Chg.of_grown hg5) (fun k hk e => ?_)
                 obtain ⟨_, c1, h1⟩ := HFG.out k hk
                 obtain ⟨_, c2, h2⟩ := HFL.out k e
                 rw [h1] at h2; injection h2 with h2; injection h2 with _ h2; exact absurd h2 (by decide)
               clear ho5 hg5 hl5 hc5 hf5)
            | fail)
          go_roundw
          case rel => exact ⟨j + 1, by go_num, by omega, by have h1 := HOG5.out; rw [show (told N1 (S.take (j + 1))).length = ng by rw [HT1.out, HNGL.out.1]]; exact h1, HO5.out, HC5.out⟩
          case measure => simp [Go.Lib.intOf]; omega
      · have e0 : S.take j = S := List.take_of_length_le (by have := HNL.out; omega)
        rw [e0] at hog hol ⊢
        have HOG : Hid (wr.ownsRow w.heap.size 2 1 (.slice A5 (told N1 S).length C5) (told N1 S).length (iv (told N1 S))) := hog
        have HOL : Hid (wr.ownsRow w.heap.size 55 3 (.slice A6 (rest N1 S).length C6) (rest N1 S).length ((rest N1 S).flatMap cel)) := hol
        have HFG : Hid (∀ k, blk (.slice A5 (told N1 S).length C5) = some k → w.heap.size ≤ k) := fun k hk => by obtain ⟨cur, h1, h⟩ := iblk hog hk; exact h
        have HFL : Hid (∀ k, blk (.slice A6 (rest N1 S).length C6) = some k → w.heap.size ≤ k) := fun k hk => by obtain ⟨cur, h1, h⟩ := iblk hol hk; exact h
        have hfz := hkr.frz 1
        have i1 : ¬ (j : Int) < (NL : Int) := by omega
        clear e0 hog hol hch hkr hcn
        go_wp2_with fail
        go_ret
        have hrs := HK1.out.row_set HCH.out (owns_low HOL.out (by have := HK1.out.low; exact hb)) HFL.out
        have hrw := heap_lt HKR.out.cell
        refine ⟨A5, C5, rfl, ?_, ?_⟩
        · refine owns_keep (by exact HOG.out) (Chg.setCell (S := fun k => k = r) wr ⟨r, 1, none⟩ _ rfl) (fun k hk e => ?_)
          have h1 := HFG.out k hk
          have h2 := heap_lt HK1.out.cell
          omega
        · obtain ⟨v', k', c', f'⟩ := hrs
          refine ⟨v', k', (HC1.out.1.weak fun i _ e => .inl e).trans c', fun g hg => ?_⟩
          rcases f' g hg with e | e
          · exact .inl e
          · exact .inr (by exact e)
end Go.Proofs.YtbehainbggdpeaaGreat
