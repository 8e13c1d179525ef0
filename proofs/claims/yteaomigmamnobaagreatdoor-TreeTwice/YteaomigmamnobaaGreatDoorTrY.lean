/- Trees: the sittings by rising sessions, as mathematics and in memory; which of two goes first. -/
import Derived.Test.YteaomigmamnobaaGreatDoorTrB
import Derived.Deep.QuietTactic
import Derived.Shelf.SlSortCmp.NoneTotal
namespace Go.Proofs.YteaomigmamnobaaGreatDoor.Si
set_option linter.unusedVariables false
open Go.RowKit Go.MapKept
set_option linter.unusedVariables false

/- The cells of the sitting of a session. -/
def encS (L : List Fv) (k : Int) : List Value := match look k L with
  | some q => [.int .i64 k, .int .i64 q.1.tmo, .int .i64 q.1.turn]
  | none => [.int .i64 k, .int .i64 0, .int .i64 0]
theorem encS_len (L : List Fv) (k : Int) : (encS L k).length = 3 := by unfold encS; split <;> rfl
theorem encS_one (L : List Fv) (k : Int) : ∀ u ∈ encS L k, u.oneCell' = true := by
  intro u hu
  unfold encS at hu
  split at hu <;> simp at hu <;> rcases hu with rfl | rfl | rfl <;> rfl
theorem encS_at {L : List Fv} {p : Fv} (h : look p.1.nm L = some p) : encS L p.1.nm = [.int .i64 p.1.nm, .int .i64 p.1.tmo, .int .i64 p.1.turn] := by unfold encS; rw [h]
def cfS (x y : Int) : Int := if x < y then -1 else if y < x then 1 else 0
theorem cfS_neg (x y : Int) : cfS x y < 0 ↔ x < y := by unfold cfS; split <;> (try split) <;> omega
theorem lt_S (x y : Int) : Go.Proofs.ltOf cfS x y = decide (x < y) := by
  unfold Go.Proofs.ltOf
  simp [cfS_neg]
theorem swoS : Go.Sort.SWO (Go.Proofs.ltOf cfS) where
  irrefl x := by rw [lt_S]; exact decide_eq_false (by omega)
  trans x y z h1 h2 := by
    rw [lt_S] at *
    simp only [decide_eq_true_eq] at *
    omega
  ntrans x y z h1 h2 := by
    rw [lt_S] at *
    simp only [decide_eq_false_iff_not] at *
    omega
theorem totS (x y : Int) (h1 : Go.Proofs.ltOf cfS x y = false) (h2 : Go.Proofs.ltOf cfS y x = false) : x = y := by
  rw [lt_S] at *
  simp only [decide_eq_false_iff_not] at *
  omega
def sortS (l : List Int) : List Int := l.mergeSort fun x y => !(Go.Proofs.ltOf cfS) y x
theorem sortS_perm {a b : List Int} (h : a.Perm b) : sortS a = sortS b := by
  have tr : ∀ (x y z : Int), (!(Go.Proofs.ltOf cfS) y x) = true → (!(Go.Proofs.ltOf cfS) z y) = true → (!(Go.Proofs.ltOf cfS) z x) = true := by
    intro x y z h1 h2
    simp only [lt_S, Bool.not_eq_true', decide_eq_false_iff_not] at *
    omega
  have tt : ∀ (x y : Int), ((!(Go.Proofs.ltOf cfS) y x) || (!(Go.Proofs.ltOf cfS) x y)) = true := by
    intro x y
    simp only [lt_S, Bool.or_eq_true, Bool.not_eq_true', decide_eq_false_iff_not]
    omega
  refine List.Perm.eq_of_pairwise (le := fun x y => (!(Go.Proofs.ltOf cfS) y x) = true) ?_ (List.pairwise_mergeSort tr tt a) (List.pairwise_mergeSort tr tt b) (((List.mergeSort_perm a _).trans h).trans (List.mergeSort_perm b _).symm)
  intro x y _ _ h1 h2
  simp only [lt_S, Bool.not_eq_true', decide_eq_false_iff_not] at h1 h2
  omega
set_option maxRecDepth 100000 in
theorem isNaN64_any (x : Int) (w : World) : Calls Tryz.prog 99 #[.int .i64 x] w fun e w' => e = .returned (.bool false) ∧ w' = w := by
  have hb : (x != x) = false := by simp
  go_enter Tryz.func99, Tryz.ntmps99
  go_wp2_with fail
  go_ret
  exact ⟨rfl, rfl⟩
set_option maxRecDepth 100000 in
theorem cmp64_r (x y r : Int) (h : (x < y ∧ r = -1) ∨ (y < x ∧ r = 1) ∨ (x = y ∧ r = 0)) (w : World) : Calls Tryz.prog 67 #[.int .i64 x, .int .i64 y] w fun e w' => e = .returned (.int .i64 r) ∧ w' = w := by
  have h1 := isNaN64_any x
  have h2 := isNaN64_any y
  rcases h with ⟨hc, rfl⟩ | ⟨hc, rfl⟩ | ⟨hc, rfl⟩
  · go_enter Tryz.func67, Tryz.ntmps67
    go_wp2_with fail
    refine (h1 _).mono ?_
    rintro e w1 ⟨rfl, rfl⟩
    go_wp2_with fail
    refine (h2 _).mono ?_
    rintro e w1 ⟨rfl, rfl⟩
    go_wp2_with fail
    go_ret
    exact ⟨rfl, rfl⟩
  · have hc' : ¬ x < y := by omega
    go_enter Tryz.func67, Tryz.ntmps67
    go_wp2_with fail
    refine (h1 _).mono ?_
    rintro e w1 ⟨rfl, rfl⟩
    go_wp2_with fail
    refine (h2 _).mono ?_
    rintro e w1 ⟨rfl, rfl⟩
    go_wp2_with fail
    go_ret
    exact ⟨rfl, rfl⟩
  · have hc1 : ¬ x < y := by omega
    have hc2 : ¬ y < x := by omega
    clear hc
    go_enter Tryz.func67, Tryz.ntmps67
    go_wp2_with fail
    refine (h1 _).mono ?_
    rintro e w1 ⟨rfl, rfl⟩
    go_wp2_with fail
    refine (h2 _).mono ?_
    rintro e w1 ⟨rfl, rfl⟩
    go_wp2_with fail
    go_ret
    exact ⟨rfl, rfl⟩
theorem cmp64_any (x y : Int) (w : World) : Calls Tryz.prog 67 #[.int .i64 x, .int .i64 y] w fun e w' => e = .returned (.int .i64 (cfS x y)) ∧ w' = w := by
  refine cmp64_r x y (cfS x y) ?_ w
  unfold cfS
  split
  · exact .inl ⟨by assumption, rfl⟩
  · split
    · exact .inr (.inl ⟨by assumption, rfl⟩)
    · exact .inr (.inr ⟨by omega, rfl⟩)
theorem grow_two (w : World) (a b : Obj) : (w.alloc a).alloc b = Go.Sort.grow (w.drewN 0) #[a, b] := by
  rw [Go.Sort.alloc_eq_grow, Go.Sort.alloc_eq_grow, Go.Sort.grow_grow]
  rfl
set_option maxRecDepth 100000 in
theorem cmpS_any (x x1 x2 y y1 y2 : Int) (w : World) : Calls Tryz.prog 44 #[.agg #[.int .i64 x, .int .i64 x1, .int .i64 x2], .agg #[.int .i64 y, .int .i64 y1, .int .i64 y2]] w fun e w' => e = .returned (.int .i64 (cfS x y)) ∧ ∃ q os', w' = Go.Sort.grow (w.drewN q) os' := by
  go_enter Tryz.func44, Tryz.ntmps44
  go_wp2_with fail
  refine (cmp64_any x y _).mono ?_
  rintro e w1 ⟨rfl, rfl⟩
  go_wp2_with fail
  go_ret
  exact ⟨rfl, 0, _, grow_two _ _ _⟩
theorem cmpLaysS (L : List Fv) (blk off size : Nat) (w : World) : Go.Proofs.CmpLays Tryz.prog 44 #[] (encS L) 3 cfS blk off size w := by
  intro _ _ _ _ x y
  have hx : ∃ x1 x2, encS L x = [.int .i64 x, .int .i64 x1, .int .i64 x2] := by unfold encS; split <;> exact ⟨_, _, rfl⟩
  have hy : ∃ y1 y2, encS L y = [.int .i64 y, .int .i64 y1, .int .i64 y2] := by unfold encS; split <;> exact ⟨_, _, rfl⟩
  obtain ⟨x1, x2, ex⟩ := hx
  obtain ⟨y1, y2, ey⟩ := hy
  rw [ex, ey]
  exact cmpS_any x x1 x2 y y1 y2 _
end Go.Proofs.YteaomigmamnobaaGreatDoor.Si
