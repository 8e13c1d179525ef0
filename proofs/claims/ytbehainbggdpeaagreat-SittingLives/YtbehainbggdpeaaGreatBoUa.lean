/- The document's book: adding. -/
import Derived.Test.YtbehainbggdpeaaGreatBoU
namespace Go.Proofs.YtbehainbggdpeaaGreat
set_option linter.unusedSimpArgs false
set_option linter.unusedVariables false
open Go.RowKit Go.MapKept
set_option linter.unusedVariables false
set_option linter.unusedSimpArgs false

theorem Sx.one (w : World) (p : Fi) (T : TypeId) : Sx (w.alloc (.cells #[.int .i64 p.nm, .int .i64 p.tmo, .int .i64 p.en] T)) (.slice (some ⟨w.heap.size, 0, none⟩) 1 1) [p] := by
  refine .inr (.inr ⟨by simp, w.heap.size, 0, 1, rfl, by simp, by simp, fun t u hu => ?_⟩)
  rw [Nat.zero_add, cell_at (heap_alloc_new w _)]
  simpa [cel] using hu
theorem Rn.then {w w1 w2 : World} {base r : Nat} {v v1 : Value} {now1 now2 : Int} {S1 S2 : List Fi} (h1 : Rk w1 base r now1 v1 S1) (c1 : Chg (Wr r v) w w1) (f1 : ∀ g, blk v1 = some g → blk v = some g ∨ w.heap.size ≤ g) (h2 : Rn base r v1 w1 w2 now2 S2) : Rn base r v w w2 now2 S2 := by
  obtain ⟨v2, k2, c2, f2⟩ := h2
  refine ⟨v2, k2, c1.trans' c2 (fun i hi e => ?_), fun g hg => ?_⟩
  · rcases e with e | e
    · exact .inl e
    · rcases f1 i e with e' | e'
      · exact .inr e'
      · omega
  · rcases f2 g hg with e | e
    · exact f1 g e
    · have := c1.size; exact .inr (by omega)
set_option maxRecDepth 100000 in
set_option maxHeartbeats 4000000 in
theorem radd_good {w : World} {base r : Nat} {now : Int} {v : Value} {S : List Fi} (hb : base ≤ w.heap.size) (h : Rk w base r now v S) (hL : S.length ≤ 99999) (hs : asc S) (hn : 0 ≤ now ∧ now ≤ late) (k t : Int) (hk : 1 ≤ k) (ht : 1 ≤ t ∧ t ≤ 1000) :
    Calls Tryz.prog 14 #[.pointer (some ⟨r, 0, none⟩), .int .i64 k, .int .i64 t] w fun e w' => e = .returned (.int .i64 0) ∧ Rn base r v w w' now (addS now k t S) := by
  have hrm := rremove_any hb h (by omega) k
  have HS1 : Hid (addS now k t S = insS (hear now k t) (delL k S) ∧ asc (delL k S) ∧ (delL k S).length ≤ S.length ∧ ∀ q ∈ delL k S, q.nm ≠ k) :=
    ⟨(del_ins hs (hear now k t)).symm, asc_delL hs, (del_sub k S).length_le, fun q hq => ((mem_delL hs.names).1 hq).2⟩
  obtain ⟨S1, hS1⟩ : ∃ S1, delL k S = S1 := ⟨_, rfl⟩
  rw [hS1] at hrm HS1
  have h1 : ¬ k < 1 := by omega
  have h2 : ¬ t < 1 := by omega
  have h3 : ¬ t > 1000 := by omega
  clear h hS1 hs
  go_enter Tryz.func14, Tryz.ntmps14
  go_wp2_with fail
  refine hrm.mono ?_
  rintro e w1 ⟨rfl, v1, k1, c1, f1⟩
  have HK1 : Hid (Rk w1 base r now v1 S1) := k1
  have HC1 : Hid (Chg (Wr r v) w w1 ∧ ∀ g, blk v1 = some g → blk v = some g ∨ w.heap.size ≤ g) := ⟨c1, f1⟩
  have hb1 : base ≤ w1.heap.size := by have := c1.size; omega
  have hL1 : S1.length ≤ 99999 := by have := HS1.out.2.2.1; omega
  obtain ⟨A1, C1, rfl⟩ := k1.form
  have hc1 := k1.head.2
  obtain ⟨NL, hNL⟩ : ∃ NL, S1.length = NL := ⟨_, rfl⟩
  rw [hNL] at hc1 hL1
  have HNL : Hid (S1.length = NL) := hNL
  clear hrm k1 c1 f1 hNL
  go_wp2_with fail
  go_loopw [7] (fun i wr => ∃ j : Nat, i = .int .i64 j ∧ j ≤ NL ∧ (∀ i (h : i < S1.length), i < j → (S1[i]'h).nm < k) ∧ wr = w1) (fun i _ => NL - (Go.Lib.intOf i).toNat)
  case atStart => exact ⟨0, rfl, Nat.zero_le _, fun i _ h => by omega, rfl⟩
  case round =>
    obtain ⟨j, rfl, hj, hless, rfl⟩ := hrel
    by_cases hmore : ∃ h : j < S1.length, (S1[j]'h).nm < k
    · obtain ⟨hj1, hlt⟩ := hmore
      obtain ⟨g, hA, y0, _, _⟩ := HK1.out.at rfl j hj1
      subst hA
      obtain ⟨z, hz⟩ : ∃ z, (S1[j]'hj1).nm = z := ⟨_, rfl⟩
      rw [hz] at y0 hlt
      have HLE : Hid (∀ i (h : i < S1.length), i < j + 1 → (S1[i]'h).nm < k) := by
        intro i h hi
        by_cases e : i = j
        · subst e; rw [hz]; exact hlt
        · exact hless i h (by omega)
      have i1 : (j : Int) < (NL : Int) := by have := HNL.out; omega
      have i2 : (0 : Int) ≤ (j : Int) := by omega
      clear hz hless
      go_wp2_with fail
      go_roundw
      case rel => exact ⟨j + 1, by go_num, by omega, HLE.out, trivial⟩
      case measure => simp [Go.Lib.intOf]; omega
    · have HST : Hid (∀ h : j < S1.length, k < (S1[j]'h).nm) := by
        intro h
        have h4 := HS1.out.2.2.2 _ (List.getElem_mem h)
        have h5 : ¬ (S1[j]'h).nm < k := fun e => hmore ⟨h, e⟩
        omega
      have HSP : Hid (insS (hear now k t) S1 = S1.take j ++ hear now k t :: S1.drop j) := ins_split (hear now k t) j (by rw [HNL.out]; exact hj) (fun i h hi => hless i h hi) HST.out
      obtain ⟨y1, hy1, hx1⟩ := part_to HK1.out.row j (by rw [HNL.out]; exact hj)
      obtain ⟨y2, hy2, hx2⟩ := part_from HK1.out.row j (by rw [HNL.out]; exact hj)
      have HX1 : Hid (Sx wr y1 (S1.take j)) := hx1
      have HX2 : Hid (Sx wr y2 (S1.drop j)) := hx2
      have HLN : Hid ((S1.take j).length = j ∧ (S1.take j ++ [hear now k t]).length = j + 1 ∧ (S1.drop j).length = NL - j) := by
        have := HNL.out
        refine ⟨by rw [List.length_take]; omega, by rw [List.length_append, List.length_take]; simp; omega, by rw [List.length_drop]; omega⟩
      have hend : ∀ W : World, W.cell? ⟨r, 0, none⟩ = some (.int .i64 now) → Calls Tryz.prog 27 #[.pointer (some ⟨r, 0, none⟩), .int .i64 t] W fun e w' => e = .returned (.int .i64 (rup (now + t))) ∧ w' = W := fun W hW => rend_any hW t hn ht
      obtain ⟨E, hE⟩ : ∃ E, rup (now + t) = E := ⟨_, rfl⟩
      have HE : Hid (hear now k t = ⟨k, t, E⟩) := by show hear now k t = _; unfold hear; rw [hE]
      rw [hE] at hend
      have HEND : Hid (∀ W : World, W.cell? ⟨r, 0, none⟩ = some (.int .i64 now) → Calls Tryz.prog 27 #[.pointer (some ⟨r, 0, none⟩), .int .i64 t] W fun e w' => e = .returned (.int .i64 E) ∧ w' = W) := hend
      rw [HNL.out] at hy1 hy2
      have HC0 : Hid (Chg (fun g => wr.heap.size ≤ g) wr wr) := Chg.refl _ _
      clear hE hend hless hx1 hx2
      have hgo : (j < NL ∧ ∃ g, A1 = some ⟨g, 0, none⟩ ∧ ∃ z, wr.cell? ⟨g, j * 3, none⟩ = some (.int .i64 z) ∧ ¬ z < k) ∨ ¬ j < NL := by
        by_cases hjl : j < NL
        · have hjS : j < S1.length := by rw [HNL.out]; exact hjl
          obtain ⟨g, hA, y0, _, _⟩ := HK1.out.at rfl j hjS
          have := HST.out hjS
          exact .inl ⟨hjl, g, hA, _, y0, by omega⟩
        · exact .inr hjl
      clear hmore
      rcases hgo with ⟨hjl, g, hA, z, y0, hzk⟩ | hjl
      · subst hA
        have i1 : (j : Int) < (NL : Int) := by omega
        have i2 : (0 : Int) ≤ (j : Int) := by omega
        go_wp2_with (first
          | (at_builtin; refine wpList_appS (S := []) rfl (.tmp 43) (.tmp 49) rfl (.slice none 0 0) y1 j (by rw [HLN.out.1]; simp) rfl rfl (World.ownsRow_nil _ _ _ _) HX1.out hb1 (by omega) ?_; intro A5 C5 w5 ho5 hg5 hl5; rw [List.nil_append] at ho5
             have HO5 : Hid (w5.ownsRow base 55 3 (.slice A5 j C5) (S1.take j).length ((S1.take j).flatMap cel)) := ho5
             obtain ⟨hc5, hf5, hq5, hn5, _, hs5, hr5⟩ := HK1.out.app HC0.out (nil_far _) hg5 hl5
             have HC5 : Hid (Chg (fun g => wr.heap.size ≤ g) wr w5) := hc5
             have HF5 : Hid (∀ g, blk (.slice A5 j C5) = some g → wr.heap.size ≤ g) := hf5
             have hb5 : base ≤ w5.heap.size := by omega
             rw [HNL.out] at hq5
             clear ho5 hg5 hl5 hc5 hf5)
          | fail)
        refine (HEND.out w5 hn5).mono ?_
        rintro e wz ⟨rfl, hz⟩
        obtain rfl : w5 = wz := hz.symm
        clear hz
        have HO5a : Hid ((w5.alloc (.cells #[.int .i64 k, .int .i64 t, .int .i64 E] 55)).ownsRow base 55 3 (.slice A5 j C5) (S1.take j).length ((S1.take j).flatMap cel)) := HO5.out.alloc _
        have HC5a : Hid (Chg (fun g => wr.heap.size ≤ g) wr (w5.alloc (.cells #[.int .i64 k, .int .i64 t, .int .i64 E] 55))) := HC5.out.trans (Chg.alloc _ _ _)
        have hN1 : NL + 1 ≤ 1000000 := by omega
        have hN2 : j + 1 ≤ 1000000 := by omega
        go_wp2_with (first
          | (at_builtin; refine wpList_appS rfl (.tmp 51) (.tmp 58) rfl (.slice A5 j C5) (.slice (some ⟨w5.heap.size, 0, none⟩) 1 1) (M := [hear now k t]) (j + 1) (by rw [HLN.out.1]; rfl) rfl rfl HO5a.out (by rw [HE.out]; exact Sx.one w5 ⟨k, t, E⟩ 55) (by simp; omega) hN2 ?_; intro A6 C6 w6 ho6 hg6 hl6
             have HO6 : Hid (w6.ownsRow base 55 3 (.slice A6 (j + 1) C6) (S1.take j ++ [hear now k t]).length ((S1.take j ++ [hear now k t]).flatMap cel)) := ho6
             obtain ⟨hc6, hf6, hq6, hn6, _, hs6, hr6⟩ := HK1.out.app HC5a.out HF5.out hg6 hl6
             have HC6 : Hid (Chg (fun g => wr.heap.size ≤ g) wr w6) := hc6
             have HF6 : Hid (∀ g, blk (.slice A6 (j + 1) C6) = some g → wr.heap.size ≤ g) := hf6
             have hb6 : base ≤ w6.heap.size := by omega
             rw [HNL.out] at hq6
             clear ho6 hg6 hl6 hc6 hf6)
          | (at_builtin; refine wpList_appS rfl (.tmp 61) (.tmp 67) rfl (.slice A6 (j + 1) C6) y2 (NL + 1) (by rw [HLN.out.2.1, HLN.out.2.2]; omega) rfl rfl HO6.out (HX2.out.later HC6.out) hb6 hN1 ?_; intro A7 C7 w7 ho7 hg7 hl7
             have HO7 : Hid (w7.ownsRow base 55 3 (.slice A7 (NL + 1) C7) (addS now k t S).length ((addS now k t S).flatMap cel)) := by
               rw [HS1.out.1, HSP.out]
               have e : S1.take j ++ [hear now k t] ++ S1.drop j = S1.take j ++ hear now k t :: S1.drop j := by simp
               rw [← e]; exact ho7
             obtain ⟨hc7, hf7, hq7, _, hz7, hs7, hr7⟩ := HK1.out.app HC6.out HF6.out hg7 hl7
             have HC7 : Hid (Chg (fun g => wr.heap.size ≤ g) wr w7) := hc7
             have HF7 : Hid (∀ g, blk (.slice A7 (NL + 1) C7) = some g → wr.heap.size ≤ g) := hf7
             rw [HNL.out] at hq7
             clear ho7 hg7 hl7 hc7 hf7)
          | fail)
        go_ret
        exact ⟨rfl, Rn.then HK1.out HC1.out.1 HC1.out.2 (HK1.out.row_set HC7.out HO7.out HF7.out)⟩
      · have i1 : ¬ (j : Int) < (NL : Int) := by omega
        go_wp2_with (first
          | (at_builtin; refine wpList_appS (S := []) rfl (.tmp 43) (.tmp 49) rfl (.slice none 0 0) y1 j (by rw [HLN.out.1]; simp) rfl rfl (World.ownsRow_nil _ _ _ _) HX1.out hb1 (by omega) ?_; intro A5 C5 w5 ho5 hg5 hl5; rw [List.nil_append] at ho5
             have HO5 : Hid (w5.ownsRow base 55 3 (.slice A5 j C5) (S1.take j).length ((S1.take j).flatMap cel)) := ho5
             obtain ⟨hc5, hf5, hq5, hn5, _, hs5, hr5⟩ := HK1.out.app HC0.out (nil_far _) hg5 hl5
             have HC5 : Hid (Chg (fun g => wr.heap.size ≤ g) wr w5) := hc5
             have HF5 : Hid (∀ g, blk (.slice A5 j C5) = some g → wr.heap.size ≤ g) := hf5
             have hb5 : base ≤ w5.heap.size := by omega
             rw [HNL.out] at hq5
             clear ho5 hg5 hl5 hc5 hf5)
          | fail)
        refine (HEND.out w5 hn5).mono ?_
        rintro e wz ⟨rfl, hz⟩
        obtain rfl : w5 = wz := hz.symm
        clear hz
        have HO5a : Hid ((w5.alloc (.cells #[.int .i64 k, .int .i64 t, .int .i64 E] 55)).ownsRow base 55 3 (.slice A5 j C5) (S1.take j).length ((S1.take j).flatMap cel)) := HO5.out.alloc _
        have HC5a : Hid (Chg (fun g => wr.heap.size ≤ g) wr (w5.alloc (.cells #[.int .i64 k, .int .i64 t, .int .i64 E] 55))) := HC5.out.trans (Chg.alloc _ _ _)
        have hN1 : NL + 1 ≤ 1000000 := by omega
        have hN2 : j + 1 ≤ 1000000 := by omega
        go_wp2_with (first
          | (at_builtin; refine wpList_appS rfl (.tmp 51) (.tmp 58) rfl (.slice A5 j C5) (.slice (some ⟨w5.heap.size, 0, none⟩) 1 1) (M := [hear now k t]) (j + 1) (by rw [HLN.out.1]; rfl) rfl rfl HO5a.out (by rw [HE.out]; exact Sx.one w5 ⟨k, t, E⟩ 55) (by simp; omega) hN2 ?_; intro A6 C6 w6 ho6 hg6 hl6
             have HO6 : Hid (w6.ownsRow base 55 3 (.slice A6 (j + 1) C6) (S1.take j ++ [hear now k t]).length ((S1.take j ++ [hear now k t]).flatMap cel)) := ho6
             obtain ⟨hc6, hf6, hq6, hn6, _, hs6, hr6⟩ := HK1.out.app HC5a.out HF5.out hg6 hl6
             have HC6 : Hid (Chg (fun g => wr.heap.size ≤ g) wr w6) := hc6
             have HF6 : Hid (∀ g, blk (.slice A6 (j + 1) C6) = some g → wr.heap.size ≤ g) := hf6
             have hb6 : base ≤ w6.heap.size := by omega
             rw [HNL.out] at hq6
             clear ho6 hg6 hl6 hc6 hf6)
          | (at_builtin; refine wpList_appS rfl (.tmp 61) (.tmp 67) rfl (.slice A6 (j + 1) C6) y2 (NL + 1) (by rw [HLN.out.2.1, HLN.out.2.2]; omega) rfl rfl HO6.out (HX2.out.later HC6.out) hb6 hN1 ?_; intro A7 C7 w7 ho7 hg7 hl7
             have HO7 : Hid (w7.ownsRow base 55 3 (.slice A7 (NL + 1) C7) (addS now k t S).length ((addS now k t S).flatMap cel)) := by
               rw [HS1.out.1, HSP.out]
               have e : S1.take j ++ [hear now k t] ++ S1.drop j = S1.take j ++ hear now k t :: S1.drop j := by simp
               rw [← e]; exact ho7
             obtain ⟨hc7, hf7, hq7, _, hz7, hs7, hr7⟩ := HK1.out.app HC6.out HF6.out hg7 hl7
             have HC7 : Hid (Chg (fun g => wr.heap.size ≤ g) wr w7) := hc7
             have HF7 : Hid (∀ g, blk (.slice A7 (NL + 1) C7) = some g → wr.heap.size ≤ g) := hf7
             rw [HNL.out] at hq7
             clear ho7 hg7 hl7 hc7 hf7)
          | fail)
        go_ret
        exact ⟨rfl, Rn.then HK1.out HC1.out.1 HC1.out.2 (HK1.out.row_set HC7.out HO7.out HF7.out)⟩
set_option maxRecDepth 100000 in
theorem radd_any {w : World} {base r : Nat} {now : Int} {v : Value} {S : List Fi} (hb : base ≤ w.heap.size) (h : Rk w base r now v S) (hL : S.length ≤ 99999) (hs : asc S) (hn : 0 ≤ now ∧ now ≤ late) (k t : Int) :
    Calls Tryz.prog 14 #[.pointer (some ⟨r, 0, none⟩), .int .i64 k, .int .i64 t] w fun e w' => e = .returned (.int .i64 (addE k t)) ∧ Rn base r v w w' now (addR now k t S) := by
  by_cases hbad : k < 1 ∨ t < 1 ∨ 1000 < t
  · have HH : Hid (Rk w base r now v S) := h
    rw [show addE k t = 2 by unfold addE; rw [if_pos hbad], show addR now k t S = S by unfold addR; rw [if_pos hbad]]
    clear h
    by_cases h1 : k < 1
    · go_enter Tryz.func14, Tryz.ntmps14
      go_wp2_with fail
      go_ret
      exact ⟨rfl, Rn.refl HH.out⟩
    · by_cases h2 : t < 1
      · go_enter Tryz.func14, Tryz.ntmps14
        go_wp2_with fail
        go_ret
        exact ⟨rfl, Rn.refl HH.out⟩
      · have h3 : t > 1000 := by omega
        go_enter Tryz.func14, Tryz.ntmps14
        go_wp2_with fail
        go_ret
        exact ⟨rfl, Rn.refl HH.out⟩
  · rw [show addE k t = 0 by unfold addE; rw [if_neg hbad], show addR now k t S = addS now k t S by unfold addR; rw [if_neg hbad]]
    exact radd_good hb h hL hs hn k t (by omega) (by omega)
end Go.Proofs.YtbehainbggdpeaaGreat
