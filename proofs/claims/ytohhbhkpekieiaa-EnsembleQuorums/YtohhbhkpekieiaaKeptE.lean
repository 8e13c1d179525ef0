/- The contracts of KeptMembers and of the config that is lent: what was lent is as it was. -/
import Derived.Test.YtohhbhkpekieiaaLentE
import Derived.Lib.QuietBelow
import Derived.BigQuiet
namespace Go.Proofs.Ytohhbhkpekieiaa
open Go.RowKit Go.Sort

theorem below_rg {w w' : World} (h : Below w.heap.size w w') (d : Nat) (os : Array Obj) : Below w.heap.size w (grow (redrawn w' d) os) := h.trans ((below_regrown w' d os).mono h.size)
set_option maxRecDepth 100000 in
set_option maxHeartbeats 2000000 in
theorem keptM_any (g n : Nat) (v : Value) (l : List Mem) (w : World) (hL : LentM w g l) (hA : Mems w v l) (hn : l.length = n) (hm : n ≤ 4398046511104) :
    Calls Try.prog 35 #[.slice (some ⟨g, 0, none⟩) n (n + 12), v] w fun e w' => e = .returned (.bool true) ∧ Below w.heap.size w w' := by
  have HL : Hid (LentM w g l) := hL
  obtain ⟨A, c, rfl⟩ := hA.form
  rw [hn] at hA ⊢
  have HA : Hid (Mems w (.slice A n c) l) := hA
  have HN : Hid (l.length = n) := hn
  clear hL hA hn
  go_enter Try.func35, Try.ntmps35
  go_wp2
  go_loopw [6] (fun i wr => ∃ (k : Nat), k ≤ n + 12 ∧ i = .int .i64 k ∧ Below w.heap.size w wr) (fun i _ => n + 12 - (intOf i).toNat)
  case atStart => exact ⟨0, Nat.zero_le _, rfl, Below.refl _ _⟩
  case round =>
    obtain ⟨k, hk, rfl, hB⟩ := hrel
    have HB : Hid (Below w.heap.size w wr) := hB
    have HLr : Hid (LentM wr g l) := HL.out.below hB
    clear hB
    by_cases h1 : k < n
    · obtain ⟨b, o, e, -, x0, x1, x2, x3⟩ := (HA.out.below' HB.out).at' k (by have := HN.out; omega)
      obtain ⟨y0, y1, y2, y3⟩ := HLr.out.cells k (by have := HN.out; rw [List.length_append]; omega)
      rw [List.getElem_append_left (by have := HN.out; omega)] at y0 y1 y2 y3
      generalize (l[k]'(by have := HN.out; omega)) = m at x0 x1 x2 x3 y0 y1 y2 y3
      obtain ⟨mi, mr, mw, mg⟩ := m
      dsimp only at x0 x1 x2 x3 y0 y1 y2 y3
      subst e
      have heq := fun w => memSelf w mi mr mw mg
      have d2 : decide (n ≤ k) = false := by simp; omega
      go_wp2_with fail
      go_quiet (fail)
      go_wp2
      go_roundw
      case rel => exact ⟨k + 1, by omega, by go_num, HB.out.trans ((Chg.drewN Non wr nq).below (fun _ h => h.elim) (Nat.le_refl _) |>.mono HB.out.size)⟩
      case measure => simp [intOf]; omega
    · by_cases h2 : k < n + 12
      · obtain ⟨y0, y1, y2, y3⟩ := HLr.out.cells k (by have := HN.out; rw [List.length_append, marksM_len]; omega)
        have em : (l ++ marksM 12)[k]'(by have := HN.out; rw [List.length_append, marksM_len]; omega) = ⟨8000024 + ((k : Int) - (n : Int)), 0, 0, 0⟩ := by
          rw [List.getElem_append_right (by have := HN.out; omega)]
          simp only [marksM, List.getElem_map, List.getElem_range, mkM, HN.out]
          congr 1
          omega
        rw [em] at y0 y1 y2 y3
        dsimp only at y0 y1 y2 y3
        clear em
        have h1' : n ≤ k := by omega
        have d3 : decide (k < n) = false := by simpa using h1'
        have z0 := fun d os => cell_regrown y0 d os
        have z1 := fun d os => cell_regrown y1 d os
        have z2 := fun d os => cell_regrown y2 d os
        have z3 := fun d os => cell_regrown y3 d os
        have mQ := fun d os => Calls.regrown_of (markM_any ((k : Int) - (n : Int)) (grow (redrawn wr d) os) (by omega) (by omega))
        have heq := fun w => memSelf w (8000024 + ((k : Int) - (n : Int))) 0 0 0
        clear y0 y1 y2 y3 h1
        go_wp2_with fail
        refine wp_region_quiet_below (by kernel_rfl) (by kernel_rfl) ?_
        repeat (go_big_quiet_step ((go_at_call 57; exact mQ _ _)))
        refine wpQuiet_nil ?_
        intro _ hw'
        obtain ⟨⟨dq, osq⟩, hw''⟩ := hw'
        subst hw''
        go_wp2
        go_roundw
        case rel => exact ⟨k + 1, by omega, by go_num, below_rg HB.out dq osq⟩
        case measure => simp [intOf]; omega
      · go_wp2
        go_ret
        exact ⟨rfl, HB.out⟩
end Go.Proofs.Ytohhbhkpekieiaa
