/- The contract of KeptEnsembles: configs that were lent are as they were. -/
import Derived.Test.YtohhbhkpekieiaaLentQ
namespace Go.Proofs.Ytohhbhkpekieiaa
open Go.RowKit Go.Sort

theorem lentQ_rg {w : World} {g : Nat} {cs : List Cfg} (h : LentQ w g cs) (d : Nat) (os : Array Obj) : LentQ (grow (redrawn w d) os) g cs := h.below (below_regrown w d os)
set_option maxRecDepth 100000 in
set_option maxHeartbeats 2000000 in
theorem keptQ_any (g n : Nat) (v : Value) (cs : List Cfg) (w : World) (hL : LentQ w g cs) (hA : Cfgs w w.heap.size v cs) (hn : cs.length = n) (hm : n ≤ 50) (hs : ∀ c ∈ cs, c.2.length ≤ 4398046511104) :
    Calls Try.prog 21 #[.slice (some ⟨g, 0, none⟩) n (n + 12), v] w fun e w' => e = .returned (.bool true) ∧ Below w.heap.size w w' := by
  have HL : Hid (LentQ w g cs) := hL
  obtain ⟨A, c, rfl⟩ := hA.form
  rw [hn] at hA ⊢
  have HA : Hid (Cfgs w w.heap.size (.slice A n c) cs) := hA
  have HN : Hid (cs.length = n) := hn
  have HS : Hid (∀ c ∈ cs, c.2.length ≤ 4398046511104) := hs
  clear hL hA hn hs
  go_enter Try.func21, Try.ntmps21
  go_wp2
  go_loopw [6] (fun i wr => ∃ (k : Nat), k ≤ n + 12 ∧ i = .int .i64 k ∧ Below w.heap.size w wr) (fun i _ => n + 12 - (intOf i).toNat)
  case atStart => exact ⟨0, Nat.zero_le _, rfl, Below.refl _ _⟩
  case round =>
    obtain ⟨k, hk, rfl, hB⟩ := hrel
    have HB : Hid (Below w.heap.size w wr) := hB
    have HLr : Hid (LentQ wr g cs) := HL.out.below hB
    clear hB
    by_cases h1 : k < n
    · obtain ⟨b, o, e, -, -, x0, A1, C1, x1, xm, -⟩ := (HA.out.below HB.out).at' k (by have := HN.out; omega)
      obtain ⟨q, y0, y1, hq⟩ := HLr.out.at' k (by have := HN.out; omega)
      have hsz := HS.out _ (List.getElem_mem (show k < cs.length by have := HN.out; omega))
      generalize (cs[k]'(by have := HN.out; omega)) = m at x0 x1 xm y0 y1 hq hsz
      obtain ⟨ver, ml⟩ := m
      dsimp only at x0 x1 xm y0 y1 hq hsz
      subst e
      have d2 : decide (n ≤ k) = false := by simp; omega
      have a0 := fun d os => cell_regrown x0 d os
      have a1 := fun d os => cell_regrown x1 d os
      have b0 := fun d os => cell_regrown y0 d os
      have b1 := fun d os => cell_regrown y1 d os
      have kQ := fun d os => Calls.regrown_of (keptEn_any (lentM_rg hq d os) (mems_rg xm d os) ver hsz)
      clear x0 x1 y0 y1 xm hq hsz
      generalize ml.length = nl at a1 b1 kQ
      go_wp2_with fail
      refine wp_region_quiet_below (by kernel_rfl) (by kernel_rfl) ?_
      repeat (go_big_quiet_step ((go_at_call 14; exact kQ _ _)))
      refine wpQuiet_nil ?_
      intro _ hw'
      obtain ⟨⟨dq, osq⟩, hw''⟩ := hw'
      subst hw''
      go_wp2
      go_roundw
      case rel => exact ⟨k + 1, by omega, by go_num, below_rg HB.out dq osq⟩
      case measure => simp [intOf]; omega
    · by_cases h2 : k < n + 12
      · obtain ⟨y0, y1⟩ := HLr.out.mark k (by have := HN.out; omega) (by have := HN.out; omega)
        rw [HN.out] at y0
        have h1' : n ≤ k := by omega
        have d3 : decide (k < n) = false := by simpa using h1'
        have z0 := fun d os => cell_regrown y0 d os
        have z1 := fun d os => cell_regrown y1 d os
        have mQ := fun d os => Calls.regrown_of (markE_any ((k : Int) - (n : Int)) (grow (redrawn wr d) os) (by omega) (by omega))
        have sQ := fun d os => Calls.regrown_of (sameE_any (w := grow (redrawn wr d) os) (x := .slice none 0 0) (y := .slice none 0 0) (la := []) (lb := []) (.inl ⟨rfl, rfl⟩) (.inl ⟨rfl, rfl⟩) (by simp) (8000024 + ((k : Int) - (n : Int))) (8000024 + ((k : Int) - (n : Int))))
        have et : (decide ((8000024 + ((k : Int) - (n : Int))) = (8000024 + ((k : Int) - (n : Int)))) && decide (([] : List Mem) = [])) = true := by simp
        rw [et] at sQ
        clear y0 y1 h1 et
        go_wp2_with fail
        refine wp_region_quiet_below (by kernel_rfl) (by kernel_rfl) ?_
        repeat (go_big_quiet_step (first | (go_at_call 36; exact mQ _ _) | (go_at_call 29; exact sQ _ _)))
        refine wpQuiet_nil ?_
        intro _ hw'
        obtain ⟨⟨dq, osq⟩, hw''⟩ := hw'
        subst hw''
        go_wp2
        go_roundw
        case rel => exact ⟨k + 1, by omega, by go_num, below_rg HB.out dq osq⟩
        case measure => simp [intOf]; omega
      · go_wp2
        go_ret
        exact ⟨rfl, HB.out⟩
end Go.Proofs.Ytohhbhkpekieiaa
