/- The walk of DeedOrder. -/
import Derived.Test.YtbcfeeahlhoggaaDoorDdX
namespace Go.Proofs.YtbcfeeahlhoggaaDoor.DD
open Go.RowKit
set_option linter.unusedVariables false

set_option maxRecDepth 100000 in
theorem pick_any (x n : Int) (hx : I64 x) (hn : I64 n) (h1 : 1 ≤ n) (w : World) : Calls Tryd.prog 17 #[.int .i64 x, .int .i64 n] w fun e w' => e = .returned (.int .i64 (x % n)) ∧ w' = w := by
  unfold I64 at hx hn
  have hm : Int.tmod x n = if Int.tmod x n < 0 then x % n - n else x % n := by
    rw [Int.tmod_eq_emod]
    have := Int.emod_nonneg x (show n ≠ 0 by omega)
    have := Int.emod_lt_of_pos x (show 0 < n by omega)
    by_cases hx0 : 0 ≤ x ∨ n ∣ x
    · simp only [hx0, if_true]
      split <;> omega
    · simp only [hx0, if_false]
      have : (n.natAbs : Int) = n := by omega
      split <;> omega
  have hlo := Int.emod_nonneg x (show n ≠ 0 by omega)
  have hhi := Int.emod_lt_of_pos x (show 0 < n by omega)
  go_enter Tryd.func17, Tryd.ntmps17
  by_cases h : Int.tmod x n < 0
  · rw [if_pos h] at hm
    go_wp2
    go_ret
    exact ⟨by simp, rfl⟩
  · rw [if_neg h] at hm
    go_wp2
    go_ret
    exact ⟨by simp, rfl⟩

set_option maxRecDepth 100000 in
set_option maxHeartbeats 2000000 in
theorem order_any (e c f d : Int) (he : I64 e) (hc : I64 c) (hf : I64 f) (hd : I64 d) (w : World) (hL : PA.Laid w) : Calls Tryd.prog 5 #[.int .i64 e, .int .i64 c, .int .i64 f, .int .i64 d] w fun x w' => x = .returned (.bool true) ∧ Below w.heap.size w w' := by
  have ha := awake_any w hL
  have p1 := fun w => pick_any e 1073741825 he ⟨by decide, by decide⟩ (by decide) w
  have p2 := fun w => pick_any f 1073741825 hf ⟨by decide, by decide⟩ (by decide) w
  have p3 := fun w => pick_any c 4294967296 hc ⟨by decide, by decide⟩ (by decide) w
  have p4 := fun w => pick_any d 4294967296 hd ⟨by decide, by decide⟩ (by decide) w
  obtain ⟨E, hE⟩ : ∃ E, E = e % 1073741825 := ⟨_, rfl⟩
  obtain ⟨F, hF⟩ : ∃ F, F = f % 1073741825 := ⟨_, rfl⟩
  obtain ⟨C, hC⟩ : ∃ C, C = c % 4294967296 := ⟨_, rfl⟩
  obtain ⟨D, hD⟩ : ∃ D, D = d % 4294967296 := ⟨_, rfl⟩
  rw [← hE] at p1
  rw [← hF] at p2
  rw [← hC] at p3
  rw [← hD] at p4
  have bE : 0 ≤ E ∧ E ≤ 1073741824 := by omega
  have bF : 0 ≤ F ∧ F ≤ 1073741824 := by omega
  have bC : 0 ≤ C ∧ C < 4294967296 := by omega
  have bD : 0 ≤ D ∧ D < 4294967296 := by omega
  clear hE hF hC hD
  have m1 := fun w => make_any E C (by unfold I64; omega) (by unfold I64; omega) w
  have m2 := fun w => make_any F D (by unfold I64; omega) (by unfold I64; omega) w
  rw [if_pos (by omega)] at m1 m2
  have eX := fun w => epoch_any (E * 4294967296 + C) (by unfold I64; omega) w
  have eY := fun w => epoch_any (F * 4294967296 + D) (by unfold I64; omega) w
  have cX := fun w => counter_any (E * 4294967296 + C) (by unfold I64; omega) w
  have cY := fun w => counter_any (F * 4294967296 + D) (by unfold I64; omega) w
  have qe : epochI (E * 4294967296 + C) = E := by unfold epochI; rw [if_pos (by omega)]; omega
  have qf : epochI (F * 4294967296 + D) = F := by unfold epochI; rw [if_pos (by omega)]; omega
  have qc : counterI (E * 4294967296 + C) = C := by unfold counterI; rw [if_pos (by omega)]; omega
  have qd : counterI (F * 4294967296 + D) = D := by unfold counterI; rw [if_pos (by omega)]; omega
  simp only [qe, qf, qc, qd] at eX eY cX cY
  clear qe qf qc qd
  obtain ⟨X, hX⟩ : ∃ X, X = E * 4294967296 + C := ⟨_, rfl⟩
  obtain ⟨Y, hY⟩ : ∃ Y, Y = F * 4294967296 + D := ⟨_, rfl⟩
  simp only [← hX, ← hY] at m1 m2 eX eY cX cY
  have l1 : X < Y ↔ (E < F ∨ E = F ∧ C < D) := by omega
  have l2 : X = Y ↔ (E = F ∧ C = D) := by omega
  clear hX hY
  go_enter Tryd.func5, Tryd.ntmps5
  go_wp2_with fail
  refine ha.mono ?_
  rintro x w1 ⟨rfl, hB⟩
  have HB : Hid (Below w.heap.size w w1) := hB
  clear ha hB
  go_wp2_with fail
  refine (p1 _).mono ?_
  rintro x w' ⟨rfl, rfl⟩
  clear p1
  go_wp2_with fail
  refine (p2 _).mono ?_
  rintro x w' ⟨rfl, rfl⟩
  clear p2
  go_wp2_with fail
  refine (p3 _).mono ?_
  rintro x w' ⟨rfl, rfl⟩
  clear p3
  go_wp2_with fail
  refine (p4 _).mono ?_
  rintro x w' ⟨rfl, rfl⟩
  clear p4
  go_wp2_with fail
  refine (m1 _).mono ?_
  rintro x w' ⟨rfl, rfl⟩
  clear m1
  go_wp2_with fail
  refine (m2 _).mono ?_
  rintro x w' ⟨rfl, rfl⟩
  clear m2
  go_wp2_with fail
  refine (eX _).mono ?_
  rintro x w' ⟨rfl, rfl⟩
  clear eX
  go_wp2_with fail
  refine (cX _).mono ?_
  rintro x w' ⟨rfl, rfl⟩
  clear cX
  go_wp2_with fail
  refine (eY _).mono ?_
  rintro x w' ⟨rfl, rfl⟩
  clear eY
  go_wp2_with fail
  refine (cY _).mono ?_
  rintro x w' ⟨rfl, rfl⟩
  clear cY
  rcases Int.lt_trichotomy E F with h | h | h
  · have h1 : X < Y := by omega
    have h2 : ¬ X = Y := by omega
    have h3 : ¬ E = F := by omega
    clear l1 l2
    go_wp2
    go_ret
    exact ⟨congrArg (fun b => Ending.returned (Value.bool b)) (show _ = true by first | rfl | (simp [*]; done) | (simp [*]; rw [beq_eq_false_iff_ne.2 h2, beq_eq_false_iff_ne.2 (show C ≠ D by omega)])), HB.out⟩
  · rcases Int.lt_trichotomy C D with g | g | g
    · have h1 : X < Y := by omega
      have h2 : ¬ X = Y := by omega
      have h3 : ¬ C = D := by omega
      have h4 : ¬ E < F := by omega
      clear l1 l2
      go_wp2
      go_ret
      exact ⟨congrArg (fun b => Ending.returned (Value.bool b)) (show _ = true by first | rfl | (simp [*]; done) | (simp [*]; rw [beq_eq_false_iff_ne.2 h2, beq_eq_false_iff_ne.2 (show C ≠ D by omega)])), HB.out⟩
    · have h1 : ¬ X < Y := by omega
      have h2 : X = Y := by omega
      have h3 : ¬ C < D := by omega
      have h4 : ¬ E < F := by omega
      clear l1 l2
      go_wp2
      go_ret
      exact ⟨congrArg (fun b => Ending.returned (Value.bool b)) (show _ = true by first | rfl | (simp [*]; done) | (simp [*]; rw [beq_eq_false_iff_ne.2 h2, beq_eq_false_iff_ne.2 (show C ≠ D by omega)])), HB.out⟩
    · have h1 : ¬ X < Y := by omega
      have h2 : ¬ X = Y := by omega
      have h3 : ¬ C < D := by omega
      have h4 : ¬ E < F := by omega
      have h5 : ¬ C = D := by omega
      clear l1 l2
      go_wp2
      go_ret
      exact ⟨congrArg (fun b => Ending.returned (Value.bool b)) (show _ = true by first | rfl | (simp [*]; done) | (simp [*]; rw [beq_eq_false_iff_ne.2 h2, beq_eq_false_iff_ne.2 (show C ≠ D by omega)])), HB.out⟩
  · have h1 : ¬ X < Y := by omega
    have h2 : ¬ X = Y := by omega
    have h3 : ¬ E = F := by omega
    have h4 : ¬ E < F := by omega
    clear l1 l2
    go_wp2
    go_ret
    exact ⟨congrArg (fun b => Ending.returned (Value.bool b)) (show _ = true by first | rfl | (simp [*]; done) | (simp [*]; rw [beq_eq_false_iff_ne.2 h2, beq_eq_false_iff_ne.2 (show C ≠ D by omega)])), HB.out⟩
end Go.Proofs.YtbcfeeahlhoggaaDoor.DD
