/- The document's net: its links. -/
import Derived.Test.YtjclegiohhbkpaaNtRd1
namespace Go.Proofs.Ytjclegiohhbkpaa
open Go.RowKit Go.MapKept

set_option maxRecDepth 100000 in
set_option maxHeartbeats 8000000 in
theorem rlinks_any {w : World} {base r : Nat} {v : Value} {L : List PkV} (h : Rk w base r v L) (hL : L.length ≤ 1000000) :
    Calls Try.prog 13 #[.pointer (some ⟨r, 0, none⟩)] w fun e w' => ∃ A C, e = .returned (.slice A (linksOf (L.map Prod.fst)).length C) ∧ w'.ownsRow w.heap.size 56 2 (.slice A (linksOf (L.map Prod.fst)).length C) (linksOf (L.map Prod.fst)).length ((linksOf (L.map Prod.fst)).flatMap encK) ∧ Below w.heap.size w w' := by
  obtain ⟨A1, C1, rfl⟩ := owns_formN h.row
  have hc0 := cell_at h.cell 0
  simp at hc0
  have HR : Hid (Rk w base r (.slice A1 L.length C1) L) := h
  obtain ⟨N, hN⟩ : ∃ N, N = L.length := ⟨_, rfl⟩
  have HN : Hid (N = L.length) := hN
  rw [← hN] at hc0 hL
  clear h hN
  obtain ⟨i0, hi0, hz0, hz1, hz2⟩ := info_parts info56
  go_enter Try.func13, Try.ntmps13
  go_wp2_with fail
  go_loopw [3, 4] (fun o i wr => ∃ (j : Nat) (O : List (Int × Int)), j ≤ N ∧ i = .int .i64 j ∧ O = linksOf ((L.take j).map Prod.fst) ∧ wr.ownsRow w.heap.size 56 2 o O.length (O.flatMap encK) ∧ Below w.heap.size w wr) (fun _ i _ => N - (intOf i).toNat)
  case atStart => exact ⟨0, [], Nat.zero_le _, rfl, rfl, World.ownsRow_nil _ _ _ _, Below.refl _ _⟩
  case round =>
    obtain ⟨j, O, hj, rfl, hO, ho, hB⟩ := hrel
    have HRr := HR.out.below hB
    have hc1 := cell_at HRr.cell 0
    simp at hc1
    rw [← HN.out] at hc1
    obtain ⟨A2, C2, hv2⟩ := owns_form2 ho
    subst hv2
    have hOl : O.length ≤ 1000000 := by rw [hO]; have := links_len ((L.take j).map Prod.fst); rw [List.length_map, List.length_take] at this; omega
    have HO : Hid (wr.ownsRow w.heap.size 56 2 (.slice A2 O.length C2) O.length (O.flatMap encK)) := ho
    have HB : Hid (Below w.heap.size w wr) := hB
    by_cases hlt : j < N
    · have hj' : j < L.length := by have := HN.out; omega
      obtain ⟨g, hA, y0, y1, y2⟩ := HRr.at j hj'
      obtain ⟨x, hx⟩ : ∃ x : Int × Int, x = (L[j]'hj').1.1 := ⟨_, rfl⟩
      have HT : Hid (linksOf ((L.take (j + 1)).map Prod.fst) = insK x O) := by
        unfold Hid
        rw [List.take_succ_eq_append_getElem hj', List.map_append, hO, hx]
        exact links_snoc _ _
      rw [← hx] at y0 y1
      have HL : Hid (Ls wr (.slice A2 O.length C2) O) := Ls.of_owns ho
      obtain ⟨w1, hw1⟩ : ∃ X, X = wr := ⟨_, rfl⟩
      subst hw1
      clear hx hO ho hB HRr y2
      subst hA
      obtain ⟨M, hM⟩ : ∃ M, M = O.length := ⟨_, rfl⟩
      have HM : Hid (M = O.length) := hM
      rw [← hM] at hOl ⊢
      have n1 := World.new_ne w1.drew ⟨r, 0, none⟩ hc1
      have n2 := World.new_ne w1.drew ⟨g, j * 3, none⟩ y0
      have n3 := World.new_ne w1.drew ⟨g, j * 3 + 1, none⟩ y1
      obtain ⟨x0, x1⟩ := x
      simp only at y0 y1
      rcases HO.out.2 with ⟨hnil, h0⟩ | ⟨g2, cap2, cur2, hv2, hgb, hg2, hM2, hmx, hs2, ht2⟩
      · injection hnil with e1 _ e3
        subst e1 e3
        have hM0 : M = 0 := by omega
        have hO0 : O = [] := List.length_eq_zero_iff.1 (by omega)
        clear hM h0
        subst hM0
        have HT0 : Hid (linksOf ((L.take (j + 1)).map Prod.fst) = [(x0, x1)]) := by unfold Hid; rw [HT.out, hO0]; rfl
        have HBq : Hid (∀ q, Below w.heap.size w ((w1.alloc (.cells #[.int .i64 x0, .int .i64 x1] 56)).drew.drewN q)) := fun q => below_drewN ((HB.out.alloc HB.out.size _).drew) q
        clear hO0
        go_wp2_with fail
        go_region_held3 (fun w' => w'.cell? ⟨r, 0, none⟩ = some (.slice (some ⟨g, 0, none⟩) N C1) ∧ w'.cell? ⟨g, j * 3, none⟩ = some (.int .i64 x0) ∧ w'.cell? ⟨g, j * 3 + 1, none⟩ = some (.int .i64 x1)) (go_keep) (fail)
        go_wp2_with fail
        obtain ⟨W, hW⟩ : ∃ W, W = (w1.alloc (.cells #[.int .i64 x0, .int .i64 x1] 56)).drew := ⟨_, rfl⟩
        rw [← hW] at HBq
        have z0 : W.cell? ⟨w1.heap.size, 0, none⟩ = some (.int .i64 x0) := by rw [hW]; simp
        have z1 : W.cell? ⟨w1.heap.size, 1, none⟩ = some (.int .i64 x1) := by rw [hW]; simp
        rw [← hW]
        clear hW n1 n2 n3 y0 y1 hc1 hc0
        refine wp_loop_rounds 1 ?_
        rw [rounds_succ]
        go_wp2_with fail
        go_quiet (fail)
        go_wp2_with fail
        go_quiet (fail)
        rw [World.drewN_drewN]
        go_wp2_with (first
          | (at_builtin; refine wpList_append_own_at _ rfl (.tmp 87) (.tmp 89) 33 rfl w.heap.size 56 i0 (.agg #[.int .i64 0, .int .i64 0]) 2 16 Try.underlying33 hi0 hz0 hz1 hz2 rfl (by decide) _ 0 [] rfl (World.ownsRow_nil _ _ _ _) ⟨W.heap.size, 0, none⟩ 1 1 [.int .i64 x0, .int .i64 x1] rfl rfl (cell_two_new (W.drewN _) _ _ _) (encK_one [(x0, x1)]) (by unfold maxLen; omega) (by omega) (by have := (HBq.out 0).size; simp at this ⊢; omega) ?_; intro v6 w6 ho6 hg6 hn6 hl6; obtain ⟨A6, C6, hv6⟩ := owns_form2 ho6; subst hv6; have HO6 : Hid (w6.ownsRow w.heap.size 56 2 (.slice A6 (0 + 1) C6) (0 + 1) ([] ++ [.int .i64 x0, .int .i64 x1])) := ho6; have hra := run_append_owned_none (P := Try.prog) w6 w.heap.size 33 33 56 i0 2 Try.underlying33 hi0 _ _ _ ho6; have HG6 : Hid _ := hg6; clear ho6 hg6 hn6 hl6; simp only [Nat.zero_add] at hra)
          | (at_builtin; refine wpList_apprun 33 rfl (.tmp 91) (.tmp 94) rfl _ _ _ rfl rfl hra ?_; clear hra)
          | fail)
        go_roundw
        case rel =>
          refine ⟨j + 1, [(x0, x1)], by omega, by go_num, HT0.out.symm, HO6.out, ?_⟩
          exact ((HBq.out _).alloc (HBq.out _).size _).trans ((Chg.of_grown HG6.out).below (fun k hk => by cases hk) (by have := (HBq.out 0).size; simp at this ⊢; omega))
        case measure => simp [intOf]; omega
      injection hv2 with e1 _ e3
      subst e1 e3
      rw [← hM] at hM2
      have HT2 : Hid (cur2.toList.take (O.length * 2) = O.flatMap encK) := ht2
      have HG2 : Hid (g2 < w1.heap.size) := heap_lt hg2
      have HWW : Hid (w.heap.size ≤ w1.heap.size) := HB.out.size
      have HMK0 : Hid (∀ q, Mk w w1 g2 cur2 (x0, x1) (.slice none 0 0) [] ((w1.alloc (.cells #[.int .i64 x0, .int .i64 x1] 56)).drew.drewN q)) := by
        intro q
        refine ⟨World.ownsRow_nil _ _ _ _, (fun k hk => nomatch hk), ?_, ?_, ?_, ?_⟩
        · show (w1.alloc (.cells #[.int .i64 x0, .int .i64 x1] 56)).heap[g2]? = _
          rw [Below.heap_alloc _ _ _ (heap_lt hg2)]; exact hg2
        · exact heap_alloc_new w1 _
        · exact below_drewN ((HB.out.alloc HB.out.size _).drew) q
        · show w1.heap.size < (w1.alloc _).heap.size; simp
      clear hM hg2 ht2 hgb
      go_wp2_with fail
      go_region_held3 (fun w' => w'.cell? ⟨r, 0, none⟩ = some (.slice (some ⟨g, 0, none⟩) N C1) ∧ w'.cell? ⟨g, j * 3, none⟩ = some (.int .i64 x0) ∧ w'.cell? ⟨g, j * 3 + 1, none⟩ = some (.int .i64 x1)) (go_keep) (fail)
      go_wp2_with fail
      obtain ⟨W, hW⟩ : ∃ W, W = (w1.alloc (.cells #[.int .i64 x0, .int .i64 x1] 56)).drew := ⟨_, rfl⟩
      have HMK : Hid (∀ q, Mk w w1 g2 cur2 (x0, x1) (.slice none 0 0) [] (W.drewN q)) := by rw [hW]; exact HMK0.out
      have HKO : Hid (∀ q, (W.drewN q).ownsRow w.heap.size 56 2 (.slice (some ⟨g2, 0, none⟩) M C2) O.length (O.flatMap encK)) := by
        intro q
        rw [hW]
        have := HO.out
        have h2 := owns_keepN (owns_keepN this (Chg.alloc Non w1 (.cells #[.int .i64 x0, .int .i64 x1] 56)) (fun _ _ => id)) (w' := (w1.alloc (.cells #[.int .i64 x0, .int .i64 x1] 56)).drew.drewN q) ((Chg.drew Non _).trans (Chg.drewN Non _ q)) (fun _ _ => id)
        rw [HM.out]
        exact h2
      have HSZ : Hid (∀ q, w.heap.size ≤ (W.drewN q).heap.size) := fun q => (HMK.out q).bel.size
      have HLW : Hid (Ls W (.slice (some ⟨g2, 0, none⟩) O.length C2) O) := by rw [hW]; exact (HL.out.below (below1 _ _)).keep (Chg.drew Non _) (fun _ _ => id)
      have z0 : W.cell? ⟨w1.heap.size, 0, none⟩ = some (.int .i64 x0) := by rw [hW]; simp
      have z1 : W.cell? ⟨w1.heap.size, 1, none⟩ = some (.int .i64 x1) := by rw [hW]; simp
      rw [← hW]
      clear hW n1 n2 n3 y0 y1 hc1 hc0 HMK0
      go_hide hQ
      go_loopw [6] (fun s wx => ∃ t q : Nat, s = .int .i64 t ∧ t ≤ M ∧ (∀ s (h : s < O.length), s < t → ltK (O[s]'h) (x0, x1)) ∧ wx = W.drewN q) (fun s _ => M - (intOf s).toNat)
      case atStart => exact ⟨0, 0, rfl, by omega, fun s _ h => by omega, rfl⟩
      case round =>
        obtain ⟨t, q, rfl, ht, hlo, rfl⟩ := hrel
        have HLO : Hid (∀ s (h : s < O.length), s < t → ltK (O[s]'h) (x0, x1)) := hlo
        clear hlo
        have htC : t ≤ C2 := by omega
        by_cases hlt2 : t < M
        · have ht' : t < O.length := by have := HM.out; omega
          obtain ⟨b2, o2, e2, v0, v1⟩ := HLW.out.at' t ht'
          injection e2 with e2
          injection e2 with e2 e2'
          subst e2 e2'
          obtain ⟨y, hy⟩ : ∃ y : Int × Int, y = (O[t]'ht') := ⟨_, rfl⟩
          rw [← hy] at v0 v1
          have HY : Hid (y = (O[t]'ht')) := hy
          clear hy
          obtain ⟨y0, y1⟩ := y
          simp only [Nat.zero_add] at v0 v1
          by_cases c0 : y0 < x0
          · have HLT : Hid (ltK (O[t]'ht') (x0, x1)) := by unfold Hid; rw [← HY.out]; exact .inl c0
            go_wp2_with fail
            go_quiet (fail)
            go_wp2_with fail
            go_roundw
            case rel =>
              refine ⟨t + 1, q + nq, by go_num, by omega, fun s h hs => ?_, by simp⟩
              rcases Nat.lt_succ_iff_lt_or_eq.1 hs with e | e
              · exact HLO.out s h e
              · subst e; exact HLT.out
            case measure => simp [intOf]; omega
          · by_cases c1 : y0 = x0
            · by_cases c2 : y1 < x1
              · have HLT : Hid (ltK (O[t]'ht') (x0, x1)) := by unfold Hid; rw [← HY.out]; exact .inr ⟨c1, c2⟩
                subst c1
                go_wp2_with fail
                go_quiet (fail)
                go_wp2_with fail
                go_roundw
                case rel =>
                  refine ⟨t + 1, q + nq, by go_num, by omega, fun s h hs => ?_, by simp⟩
                  rcases Nat.lt_succ_iff_lt_or_eq.1 hs with e | e
                  · exact HLO.out s h e
                  · subst e; exact HLT.out
                case measure => simp [intOf]; omega
              · have HNL : Hid (∀ h : t < O.length, ¬ ltK (O[t]'h) (x0, x1)) := by intro h; rw [← HY.out]; rintro (e | e); exact c0 e; exact c2 e.2
                have HPO : Hid (posK (x0, x1) O = t) := posK_of _ O t HLO.out (by have := HM.out; omega) HNL.out
                have HT1 : Hid (((O.take t).flatMap encK).length = t * 2) := by unfold Hid; rw [encK_len, List.length_take]; have := HM.out; omega
                have HT3 : Hid (0 + t = ([] ++ O.take t).length) := by unfold Hid; simp; have := HM.out; omega
                have HT4 : Hid (t + 1 = (O.take t ++ [(x0, x1)]).length) := by unfold Hid; simp; have := HM.out; omega
                have HT5 : Hid ((O.take t).flatMap encK ++ [.int .i64 x0, .int .i64 x1] = (O.take t ++ [(x0, x1)]).flatMap encK) := by unfold Hid; rw [List.flatMap_append]; rfl
                have HT6 : Hid (((O.drop t).flatMap encK).length = (M - t) * 2) := by unfold Hid; rw [encK_len, List.length_drop]; have := HM.out; omega
                have HT7 : Hid (t + 1 + (M - t) = (O.take t ++ [(x0, x1)] ++ O.drop t).length) := by unfold Hid; simp; have := HM.out; omega
                have HT8 : Hid ((O.take t ++ [(x0, x1)]).flatMap encK ++ (O.drop t).flatMap encK = (O.take t ++ [(x0, x1)] ++ O.drop t).flatMap encK) := by unfold Hid; rw [List.flatMap_append (ys := O.drop t)]
                have HOW : Hid (∀ {w5 : World} {v : Value} {o : Obj}, Mk w w1 g2 cur2 (x0, x1) v (O.take t) w5 → (w5.alloc o).ownsRow w.heap.size 56 2 v t ((O.take t).flatMap encK)) := by
                  intro w5 v o h
                  have := h.own.alloc o
                  rw [List.length_take, Nat.min_eq_left (by have := HM.out; omega)] at this
                  exact this
                have HOW6 : Hid (∀ {w6 : World} {v : Value}, Mk w w1 g2 cur2 (x0, x1) v (O.take t ++ [(x0, x1)]) w6 → w6.ownsRow w.heap.size 56 2 v (t + 1) ((O.take t ++ [(x0, x1)]).flatMap encK)) := by
                  intro w6 v h
                  have := h.own
                  rw [← HT4.out] at this
                  exact this
                have HPD : Hid (∀ {w6 : World}, w6.heap[g2]? = some (.cells cur2 56 (0, 0)) → ∀ s u, ((O.drop t).flatMap encK)[s]? = some u → w6.cell? ((⟨g2, t * 2, none⟩ : Addr).add s) = some u) := fun h => part_drop h HT2.out t
                subst c1
                go_wp2_with fail
                go_quiet (fail)
                go_wp2_with fail
                subst hQ
                have heq : ∀ w : World, (Op.equalIn 10000 56 (.agg #[.int .i64 y0, .int .i64 y1]) (.agg #[.int .i64 y0, .int .i64 x1])).run Try.prog w = .ok (decide ((y0, y1) = (y0, x1))) w := fun w => run_eqAgg 9998 (y0, y1) (y0, x1) w
                by_cases c3 : y1 = x1
                · have HEX : Hid (∃ h : t < O.length, O[t]'h = (y0, x1)) := ⟨ht', by rw [← HY.out, c3]⟩
                  rw [decide_eq_true (by rw [c3])] at heq
                  clear c2
                  subst c3
                  have HWB := HMK.out
                  go_wp2_with fail
                  go_quiet (fail)
                  go_wp2_with fail
                  go_roundw
                  case rel => exact ⟨j + 1, O, by omega, by go_num, by rw [HT.out, insK_pos]; simp only [HPO.out]; rw [if_pos HEX.out], HKO.out _, (HWB _).bel⟩
                  case measure => simp [intOf]; omega
                · have HNE : Hid (¬ ∃ h : t < O.length, O[t]'h = (y0, x1)) := by rintro ⟨h, e⟩; rw [← HY.out] at e; cases e; exact c3 rfl
                  rw [decide_eq_false (fun e => by cases e; exact c3 rfl)] at heq
                  go_wp2_with fail
                  go_quiet (fail)
                  go_wp2_with (first
                    | (at_builtin; refine wpList_append_own_at _ rfl (.tmp 82) (.tmp 85) 33 rfl w.heap.size 56 i0 (.agg #[.int .i64 0, .int .i64 0]) 2 16 Try.underlying33 hi0 hz0 hz1 hz2 rfl (by decide) _ 0 [] rfl (World.ownsRow_nil _ _ _ _) ⟨g2, 0, none⟩ t C2 ((O.take t).flatMap encK) rfl HT1.out (part_take (HMK.out _).old HT2.out t) (encK_one _) (by unfold maxLen; omega) (by omega) (HSZ.out _) ?_; intro v5 w5 ho5 hg5 hn5 hl5; obtain ⟨A5, C5, hv5⟩ := owns_form2 ho5; subst hv5; have HI5 := Mk.app (l2 := O.take t) (HMK.out _) HWW.out HG2.out ho5 HT3.out rfl hg5 hl5; have r0 := HI5.get.1; have r1 := HI5.get.2; have hs5 := HI5.bel.size; simp only [Nat.zero_add, List.nil_append] at HI5 r0 r1; have HJ5 : Hid _ := HI5; clear HI5 ho5 hg5 hn5 hl5)
                    | (at_builtin; refine wpList_append_own_at _ rfl (.tmp 87) (.tmp 89) 33 rfl w.heap.size 56 i0 (.agg #[.int .i64 0, .int .i64 0]) 2 16 Try.underlying33 hi0 hz0 hz1 hz2 rfl (by decide) _ t ((O.take t).flatMap encK) rfl (HOW.out HJ5.out) ⟨w5.heap.size, 0, none⟩ 1 1 [.int .i64 y0, .int .i64 x1] rfl rfl (cell_two_new _ _ _ _) (encK_one [(y0, x1)]) (by unfold maxLen; omega) (by omega) (by simp; omega) ?_; intro v6 w6 ho6 hg6 hn6 hl6; obtain ⟨A6, C6, hv6⟩ := owns_form2 ho6; subst hv6; have HI6 := Mk.app (l2 := [(y0, x1)]) (HJ5.out.alloc _) HWW.out HG2.out ho6 HT4.out HT5.out hg6 hl6; have hs6 := HI6.bel.size; have HJ6 : Hid _ := HI6; clear HI6 ho6 hg6 hn6 hl6)
                    | (at_builtin; refine wpList_append_own_at _ rfl (.tmp 91) (.tmp 94) 33 rfl w.heap.size 56 i0 (.agg #[.int .i64 0, .int .i64 0]) 2 16 Try.underlying33 hi0 hz0 hz1 hz2 rfl (by decide) _ (t + 1) ((O.take t ++ [(y0, x1)]).flatMap encK) rfl (HOW6.out HJ6.out) ⟨g2, t * 2, none⟩ (M - t) (C2 - t) ((O.drop t).flatMap encK) rfl HT6.out (HPD.out HJ6.out.old) (encK_one _) (by unfold maxLen; omega) (by omega) (by omega) ?_; intro v7 w7 ho7 hg7 hn7 hl7; obtain ⟨A7, C7, hv7⟩ := owns_form2 ho7; subst hv7; have HI7 := Mk.app (l2 := O.drop t) HJ6.out HWW.out HG2.out ho7 HT7.out HT8.out hg7 hl7; have HJ7 : Hid _ := HI7; clear HI7 ho7 hg7 hn7 hl7)
                    | fail)
                  go_roundw
                  case rel => exact ⟨j + 1, O.take t ++ [(y0, x1)] ++ O.drop t, by omega, by go_num, by rw [HT.out, insK_pos]; simp only [HPO.out]; rw [if_neg HNE.out], HJ7.out.own, HJ7.out.bel⟩
                  case measure => simp [intOf]; omega
            · have HNL : Hid (∀ h : t < O.length, ¬ ltK (O[t]'h) (x0, x1)) := by intro h; rw [← HY.out]; rintro (e | e); exact c0 e; exact c1 e.1
              have HNE : Hid (¬ ∃ h : t < O.length, O[t]'h = (x0, x1)) := by rintro ⟨h, e⟩; rw [← HY.out] at e; cases e; exact c1 rfl
              have HPO : Hid (posK (x0, x1) O = t) := posK_of _ O t HLO.out (by have := HM.out; omega) HNL.out
              have HT1 : Hid (((O.take t).flatMap encK).length = t * 2) := by unfold Hid; rw [encK_len, List.length_take]; have := HM.out; omega
              have HT3 : Hid (0 + t = ([] ++ O.take t).length) := by unfold Hid; simp; have := HM.out; omega
              have HT4 : Hid (t + 1 = (O.take t ++ [(x0, x1)]).length) := by unfold Hid; simp; have := HM.out; omega
              have HT5 : Hid ((O.take t).flatMap encK ++ [.int .i64 x0, .int .i64 x1] = (O.take t ++ [(x0, x1)]).flatMap encK) := by unfold Hid; rw [List.flatMap_append]; rfl
              have HT6 : Hid (((O.drop t).flatMap encK).length = (M - t) * 2) := by unfold Hid; rw [encK_len, List.length_drop]; have := HM.out; omega
              have HT7 : Hid (t + 1 + (M - t) = (O.take t ++ [(x0, x1)] ++ O.drop t).length) := by unfold Hid; simp; have := HM.out; omega
              have HT8 : Hid ((O.take t ++ [(x0, x1)]).flatMap encK ++ (O.drop t).flatMap encK = (O.take t ++ [(x0, x1)] ++ O.drop t).flatMap encK) := by unfold Hid; rw [List.flatMap_append (ys := O.drop t)]
              have HOW : Hid (∀ {w5 : World} {v : Value} {o : Obj}, Mk w w1 g2 cur2 (x0, x1) v (O.take t) w5 → (w5.alloc o).ownsRow w.heap.size 56 2 v t ((O.take t).flatMap encK)) := by
                intro w5 v o h
                have := h.own.alloc o
                rw [List.length_take, Nat.min_eq_left (by have := HM.out; omega)] at this
                exact this
              have HOW6 : Hid (∀ {w6 : World} {v : Value}, Mk w w1 g2 cur2 (x0, x1) v (O.take t ++ [(x0, x1)]) w6 → w6.ownsRow w.heap.size 56 2 v (t + 1) ((O.take t ++ [(x0, x1)]).flatMap encK)) := by
                intro w6 v h
                have := h.own
                rw [← HT4.out] at this
                exact this
              have HPD : Hid (∀ {w6 : World}, w6.heap[g2]? = some (.cells cur2 56 (0, 0)) → ∀ s u, ((O.drop t).flatMap encK)[s]? = some u → w6.cell? ((⟨g2, t * 2, none⟩ : Addr).add s) = some u) := fun h => part_drop h HT2.out t
              have HCE : Hid (¬ y0 = x0) := c1
              have hb0 : (y0 == x0) = false := by simpa using c1
              have hd0 : decide (y0 < x0) = false := by simpa using c0
              clear c1 c0
              go_wp2_with fail
              go_quiet (fail)
              go_wp2_with fail
              subst hQ
              have heq : ∀ w : World, (Op.equalIn 10000 56 (.agg #[.int .i64 y0, .int .i64 y1]) (.agg #[.int .i64 x0, .int .i64 x1])).run Try.prog w = .ok (decide ((y0, y1) = (x0, x1))) w := fun w => run_eqAgg 9998 (y0, y1) (x0, x1) w
              rw [decide_eq_false (fun e => by cases e; exact HCE.out rfl)] at heq
              go_wp2_with fail
              go_quiet (fail)
              go_wp2_with (first
                | (at_builtin; refine wpList_append_own_at _ rfl (.tmp 82) (.tmp 85) 33 rfl w.heap.size 56 i0 (.agg #[.int .i64 0, .int .i64 0]) 2 16 Try.underlying33 hi0 hz0 hz1 hz2 rfl (by decide) _ 0 [] rfl (World.ownsRow_nil _ _ _ _) ⟨g2, 0, none⟩ t C2 ((O.take t).flatMap encK) rfl HT1.out (part_take (HMK.out _).old HT2.out t) (encK_one _) (by unfold maxLen; omega) (by omega) (HSZ.out _) ?_; intro v5 w5 ho5 hg5 hn5 hl5; obtain ⟨A5, C5, hv5⟩ := owns_form2 ho5; subst hv5; have HI5 := Mk.app (l2 := O.take t) (HMK.out _) HWW.out HG2.out ho5 HT3.out rfl hg5 hl5; have r0 := HI5.get.1; have r1 := HI5.get.2; have hs5 := HI5.bel.size; simp only [Nat.zero_add, List.nil_append] at HI5 r0 r1; have HJ5 : Hid _ := HI5; clear HI5 ho5 hg5 hn5 hl5)
                | (at_builtin; refine wpList_append_own_at _ rfl (.tmp 87) (.tmp 89) 33 rfl w.heap.size 56 i0 (.agg #[.int .i64 0, .int .i64 0]) 2 16 Try.underlying33 hi0 hz0 hz1 hz2 rfl (by decide) _ t ((O.take t).flatMap encK) rfl (HOW.out HJ5.out) ⟨w5.heap.size, 0, none⟩ 1 1 [.int .i64 x0, .int .i64 x1] rfl rfl (cell_two_new _ _ _ _) (encK_one [(x0, x1)]) (by unfold maxLen; omega) (by omega) (by simp; omega) ?_; intro v6 w6 ho6 hg6 hn6 hl6; obtain ⟨A6, C6, hv6⟩ := owns_form2 ho6; subst hv6; have HI6 := Mk.app (l2 := [(x0, x1)]) (HJ5.out.alloc _) HWW.out HG2.out ho6 HT4.out HT5.out hg6 hl6; have hs6 := HI6.bel.size; have HJ6 : Hid _ := HI6; clear HI6 ho6 hg6 hn6 hl6)
                | (at_builtin; refine wpList_append_own_at _ rfl (.tmp 91) (.tmp 94) 33 rfl w.heap.size 56 i0 (.agg #[.int .i64 0, .int .i64 0]) 2 16 Try.underlying33 hi0 hz0 hz1 hz2 rfl (by decide) _ (t + 1) ((O.take t ++ [(x0, x1)]).flatMap encK) rfl (HOW6.out HJ6.out) ⟨g2, t * 2, none⟩ (M - t) (C2 - t) ((O.drop t).flatMap encK) rfl HT6.out (HPD.out HJ6.out.old) (encK_one _) (by unfold maxLen; omega) (by omega) (by omega) ?_; intro v7 w7 ho7 hg7 hn7 hl7; obtain ⟨A7, C7, hv7⟩ := owns_form2 ho7; subst hv7; have HI7 := Mk.app (l2 := O.drop t) HJ6.out HWW.out HG2.out ho7 HT7.out HT8.out hg7 hl7; have HJ7 : Hid _ := HI7; clear HI7 ho7 hg7 hn7 hl7)
                | fail)
              go_roundw
              case rel => exact ⟨j + 1, O.take t ++ [(x0, x1)] ++ O.drop t, by omega, by go_num, by rw [HT.out, insK_pos]; simp only [HPO.out]; rw [if_neg HNE.out], HJ7.out.own, HJ7.out.bel⟩
              case measure => simp [intOf]; omega
        · have HNL : Hid (∀ h : t < O.length, ¬ ltK (O[t]'h) (x0, x1)) := fun h => by have := HM.out; omega
          have HNE : Hid (¬ ∃ h : t < O.length, O[t]'h = (x0, x1)) := by rintro ⟨h, _⟩; have := HM.out; omega
          have HPO : Hid (posK (x0, x1) O = t) := posK_of _ O t HLO.out (by have := HM.out; omega) HNL.out
          have HT1 : Hid (((O.take t).flatMap encK).length = t * 2) := by unfold Hid; rw [encK_len, List.length_take]; have := HM.out; omega
          have HT3 : Hid (0 + t = ([] ++ O.take t).length) := by unfold Hid; simp; have := HM.out; omega
          have HT4 : Hid (t + 1 = (O.take t ++ [(x0, x1)]).length) := by unfold Hid; simp; have := HM.out; omega
          have HT5 : Hid ((O.take t).flatMap encK ++ [.int .i64 x0, .int .i64 x1] = (O.take t ++ [(x0, x1)]).flatMap encK) := by unfold Hid; rw [List.flatMap_append]; rfl
          have HT6 : Hid (((O.drop t).flatMap encK).length = (M - t) * 2) := by unfold Hid; rw [encK_len, List.length_drop]; have := HM.out; omega
          have HT7 : Hid (t + 1 + (M - t) = (O.take t ++ [(x0, x1)] ++ O.drop t).length) := by unfold Hid; simp; have := HM.out; omega
          have HT8 : Hid ((O.take t ++ [(x0, x1)]).flatMap encK ++ (O.drop t).flatMap encK = (O.take t ++ [(x0, x1)] ++ O.drop t).flatMap encK) := by unfold Hid; rw [List.flatMap_append (ys := O.drop t)]
          have HOW : Hid (∀ {w5 : World} {v : Value} {o : Obj}, Mk w w1 g2 cur2 (x0, x1) v (O.take t) w5 → (w5.alloc o).ownsRow w.heap.size 56 2 v t ((O.take t).flatMap encK)) := by
            intro w5 v o h
            have := h.own.alloc o
            rw [List.length_take, Nat.min_eq_left (by have := HM.out; omega)] at this
            exact this
          have HOW6 : Hid (∀ {w6 : World} {v : Value}, Mk w w1 g2 cur2 (x0, x1) v (O.take t ++ [(x0, x1)]) w6 → w6.ownsRow w.heap.size 56 2 v (t + 1) ((O.take t ++ [(x0, x1)]).flatMap encK)) := by
            intro w6 v h
            have := h.own
            rw [← HT4.out] at this
            exact this
          obtain ⟨A8, hA8, HPD⟩ : ∃ A8 : Addr, (if C2 = t then some (⟨g2, 0, none⟩ : Addr) else some ⟨g2, t * 2, none⟩) = some A8 ∧ Hid (∀ {w6 : World}, w6.heap[g2]? = some (.cells cur2 56 (0, 0)) → ∀ s u, ((O.drop t).flatMap encK)[s]? = some u → w6.cell? (A8.add s) = some u) := by
            by_cases hC : C2 = t
            · refine ⟨⟨g2, 0, none⟩, by rw [if_pos hC], fun _ s u hu => ?_⟩
              rw [List.drop_eq_nil_of_le (by have := HM.out; omega)] at hu
              simp at hu
            · exact ⟨⟨g2, t * 2, none⟩, by rw [if_neg hC], fun h => part_drop h HT2.out t⟩
          go_wp2_with fail
          go_quiet (fail)
          go_wp2_with fail
          subst hQ
          go_wp2_with fail
          go_quiet (fail)
          go_wp2_with (first
            | (at_builtin; refine wpList_append_own_at _ rfl (.tmp 82) (.tmp 85) 33 rfl w.heap.size 56 i0 (.agg #[.int .i64 0, .int .i64 0]) 2 16 Try.underlying33 hi0 hz0 hz1 hz2 rfl (by decide) _ 0 [] rfl (World.ownsRow_nil _ _ _ _) ⟨g2, 0, none⟩ t C2 ((O.take t).flatMap encK) rfl HT1.out (part_take (HMK.out _).old HT2.out t) (encK_one _) (by unfold maxLen; omega) (by omega) (HSZ.out _) ?_; intro v5 w5 ho5 hg5 hn5 hl5; obtain ⟨A5, C5, hv5⟩ := owns_form2 ho5; subst hv5; have HI5 := Mk.app (l2 := O.take t) (HMK.out _) HWW.out HG2.out ho5 HT3.out rfl hg5 hl5; have r0 := HI5.get.1; have r1 := HI5.get.2; have hs5 := HI5.bel.size; simp only [Nat.zero_add, List.nil_append] at HI5 r0 r1; have HJ5 : Hid _ := HI5; clear HI5 ho5 hg5 hn5 hl5)
            | (at_builtin; refine wpList_append_own_at _ rfl (.tmp 87) (.tmp 89) 33 rfl w.heap.size 56 i0 (.agg #[.int .i64 0, .int .i64 0]) 2 16 Try.underlying33 hi0 hz0 hz1 hz2 rfl (by decide) _ t ((O.take t).flatMap encK) rfl (HOW.out HJ5.out) ⟨w5.heap.size, 0, none⟩ 1 1 [.int .i64 x0, .int .i64 x1] rfl rfl (cell_two_new _ _ _ _) (encK_one [(x0, x1)]) (by unfold maxLen; omega) (by omega) (by simp; omega) ?_; intro v6 w6 ho6 hg6 hn6 hl6; obtain ⟨A6, C6, hv6⟩ := owns_form2 ho6; subst hv6; have HI6 := Mk.app (l2 := [(x0, x1)]) (HJ5.out.alloc _) HWW.out HG2.out ho6 HT4.out HT5.out hg6 hl6; have hs6 := HI6.bel.size; have HJ6 : Hid _ := HI6; clear HI6 ho6 hg6 hn6 hl6)
            | (at_builtin; refine wpList_append_own_at _ rfl (.tmp 91) (.tmp 94) 33 rfl w.heap.size 56 i0 (.agg #[.int .i64 0, .int .i64 0]) 2 16 Try.underlying33 hi0 hz0 hz1 hz2 rfl (by decide) _ (t + 1) ((O.take t ++ [(x0, x1)]).flatMap encK) rfl (HOW6.out HJ6.out) A8 (M - t) (C2 - t) ((O.drop t).flatMap encK) rfl HT6.out (HPD.out HJ6.out.old) (encK_one _) (by unfold maxLen; omega) (by omega) (by omega) ?_; intro v7 w7 ho7 hg7 hn7 hl7; obtain ⟨A7, C7, hv7⟩ := owns_form2 ho7; subst hv7; have HI7 := Mk.app (l2 := O.drop t) HJ6.out HWW.out HG2.out ho7 HT7.out HT8.out hg7 hl7; have HJ7 : Hid _ := HI7; clear HI7 ho7 hg7 hn7 hl7)
            | fail)
          go_roundw
          case rel => exact ⟨j + 1, O.take t ++ [(x0, x1)] ++ O.drop t, by omega, by go_num, by rw [HT.out, insK_pos]; simp only [HPO.out]; rw [if_neg HNE.out], HJ7.out.own, HJ7.out.bel⟩
          case measure => simp [intOf]; omega
    · have hL0 : L.take j = L := List.take_of_length_le (by have := HN.out; omega)
      rw [hL0] at hO
      go_wp2_with fail
      go_ret
      rw [← hO]
      exact ⟨A2, C2, rfl, HO.out, HB.out⟩
theorem rlinks_rx {w : World} {r : Nat} {l : List Pk} {B : Nat → Prop} (h : Rx w r l B) (hL : l.length ≤ 1000000) :
    Calls Try.prog 13 #[.pointer (some ⟨r, 0, none⟩)] w fun e w' => ∃ A C, e = .returned (.slice A (linksOf l).length C) ∧ Ls w' (.slice A (linksOf l).length C) (linksOf l) ∧ Below w.heap.size w w' := by
  obtain ⟨base, v, L, h1, h2, rfl, h4, h5⟩ := h
  refine (rlinks_any h2 (by simpa using hL)).mono ?_
  rintro e w' ⟨A, C, rfl, ho, hB⟩
  exact ⟨A, C, rfl, Ls.of_owns ho, hB⟩
end Go.Proofs.Ytjclegiohhbkpaa
