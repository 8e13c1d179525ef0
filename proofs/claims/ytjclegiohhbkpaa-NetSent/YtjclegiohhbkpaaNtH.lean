/- Take, whatever it answers; and the comparing of links. -/
import Derived.Test.YtjclegiohhbkpaaNtG
namespace Go.Proofs.Ytjclegiohhbkpaa
open Go.RowKit Go.MapKept

theorem take_some {w : World} {n : Nat} {l : List Pk} {T : Nat → Prop} (h : Nx w n l T) (k : Int × Int) (i : Int) {b : List UInt8} (hp : peek l k i = some b) :
    Calls Try.prog 19 #[.pointer (some ⟨n, 0, none⟩), .int .i64 k.1, .int .i64 k.2, .int .i64 i] w fun e w' => ∃ A C, e = .returned (.tuple #[.slice A b.length C, .bool true]) ∧ w'.ownsRow 0 5 1 (.slice A b.length C) b.length (bv b) ∧ (∀ g, blk (.slice A b.length C) = some g → ¬ T g) ∧ Nx w' n (takeP l k i.toNat) (fun g => T g ∨ blk (.slice A b.length C) = some g) ∧ Kp T w w' := by
  obtain ⟨base, m, L, h1, h2, h3, h4, h5⟩ := h
  obtain ⟨q, hq, hi, hb, he⟩ := peek_at h3 hp
  have ho := h2.rows q (look_some hq).1 _ (List.getElem_mem hi)
  have hsx : ∀ g, blk (q.ps[i.toNat]'hi).2 = some g → Sx n m L g := fun g hg => .inr (.inr (.inr ⟨q, (look_some hq).1, _, List.getElem_mem hi, hg⟩))
  rw [hb] at ho
  obtain ⟨A, C, hv⟩ := owns_formT ho
  have hc := take_in h2 h3 hq i.toNat hi hv
  rw [← he] at hc
  rw [hv] at ho hsx
  refine hc.mono ?_
  rintro e w' ⟨rfl, L', g1, g2, g3, g4⟩
  have ho' : w'.ownsRow base 5 1 (.slice A b.length C) b.length (bv b) := owns_keepT ho g3 fun g hg e => e.2 hg
  refine ⟨A, C, rfl, owns_lowT ho' (Nat.zero_le _), fun g hg e => h4 g e (hsx g hg), ⟨base, m, L', Nat.le_trans h1 g3.size, g1, g2, ?_, ?_⟩, g3.weak fun g _ e f => h4 g f e.1⟩
  · rintro g (hg | hg) e
    · exact h4 g hg (g4 g e).1
    · exact (g4 g e).2 hg
  · rintro g (hg | hg)
    · exact g3.lt_of (h5 g hg)
    · obtain ⟨cur, hcu, _⟩ := owns_blockT ho' hg
      exact heap_lt hcu

/- Which of two links goes first. -/
def cfI (x y : Int) : Int := if x < y then -1 else if y < x then 1 else 0
def cfK (x y : Int × Int) : Int := if cfI x.1 y.1 = 0 then cfI x.2 y.2 else cfI x.1 y.1
theorem cfI_zero (x y : Int) : cfI x y = 0 ↔ x = y := by unfold cfI; split <;> (try split) <;> omega
theorem cfI_neg (x y : Int) : cfI x y < 0 ↔ x < y := by unfold cfI; split <;> (try split) <;> omega
theorem cfK_neg (x y : Int × Int) : cfK x y < 0 ↔ ltK x y := by
  unfold cfK ltK
  split
  · next h => rw [cfI_zero] at h; rw [cfI_neg]; omega
  · next h => rw [cfI_zero] at h; rw [cfI_neg]; omega
set_option maxRecDepth 100000 in
theorem isNaN_any (x : Int) (w : World) : Calls Try.prog 56 #[.int .i64 x] w fun e w' => e = .returned (.bool false) ∧ w' = w := by
  have hb : (x != x) = false := by simp
  go_enter Try.func56, Try.ntmps56
  go_wp2_with fail
  go_ret
  exact ⟨rfl, rfl⟩
set_option maxRecDepth 100000 in
theorem cmpI_r (x y r : Int) (h : (x < y ∧ r = -1) ∨ (y < x ∧ r = 1) ∨ (x = y ∧ r = 0)) (w : World) : Calls Try.prog 50 #[.int .i64 x, .int .i64 y] w fun e w' => e = .returned (.int .i64 r) ∧ w' = w := by
  have h1 := isNaN_any x
  have h2 := isNaN_any y
  rcases h with ⟨hc, rfl⟩ | ⟨hc, rfl⟩ | ⟨hc, rfl⟩
  · go_enter Try.func50, Try.ntmps50
    go_wp2_with fail
    refine (h1 _).mono ?_
    rintro e w1 ⟨rfl, rfl⟩
    go_wp2_with fail
    refine (h2 _).mono ?_
    rintro e w1 ⟨rfl, rfl⟩
    go_wp2_with fail
    go_ret
    exact ⟨rfl, rfl⟩
  · have hc' : ¬ x < y := by omega
    go_enter Try.func50, Try.ntmps50
    go_wp2_with fail
    refine (h1 _).mono ?_
    rintro e w1 ⟨rfl, rfl⟩
    go_wp2_with fail
    refine (h2 _).mono ?_
    rintro e w1 ⟨rfl, rfl⟩
    go_wp2_with fail
    go_ret
    exact ⟨rfl, rfl⟩
  · have hc1 : ¬ x < y := by omega
    have hc2 : ¬ y < x := by omega
    clear hc
    go_enter Try.func50, Try.ntmps50
    go_wp2_with fail
    refine (h1 _).mono ?_
    rintro e w1 ⟨rfl, rfl⟩
    go_wp2_with fail
    refine (h2 _).mono ?_
    rintro e w1 ⟨rfl, rfl⟩
    go_wp2_with fail
    go_ret
    exact ⟨rfl, rfl⟩
theorem cmpI_any (x y : Int) (w : World) : Calls Try.prog 50 #[.int .i64 x, .int .i64 y] w fun e w' => e = .returned (.int .i64 (cfI x y)) ∧ w' = w := by
  refine cmpI_r x y (cfI x y) ?_ w
  unfold cfI
  split
  · exact .inl ⟨by assumption, rfl⟩
  · split
    · exact .inr (.inl ⟨by assumption, rfl⟩)
    · exact .inr (.inr ⟨by omega, rfl⟩)
set_option maxRecDepth 100000 in
theorem cmpS_any {w : World} {g1 g2 : Nat} (x y : Int × Int) (hx0 : w.cell? ⟨g1, 0, none⟩ = some (.int .i64 x.1)) (hx1 : w.cell? ⟨g1, 1, none⟩ = some (.int .i64 x.2)) (hy0 : w.cell? ⟨g2, 0, none⟩ = some (.int .i64 y.1)) (hy1 : w.cell? ⟨g2, 1, none⟩ = some (.int .i64 y.2)) :
    Calls Try.prog 38 #[.slice (some ⟨g1, 0, none⟩) 2 2, .slice (some ⟨g2, 0, none⟩) 2 2] w fun e w' => e = .returned (.int .i64 (cfK x y)) ∧ w' = w := by
  obtain ⟨x0, x1⟩ := x
  obtain ⟨y0, y1⟩ := y
  simp only at hx0 hx1 hy0 hy1
  have c0 := cmpI_any x0 y0
  have c1 := cmpI_any x1 y1
  unfold cfK
  simp only
  generalize cfI x0 y0 = r0 at *
  generalize cfI x1 y1 = r1 at *
  by_cases h0 : r0 = 0
  · subst h0
    rw [if_pos rfl]
    go_enter Try.func38, Try.ntmps38
    go_wp2_with fail
    refine wp_loop_rounds 3 ?_
    rw [rounds_succ]
    go_wp2_with fail
    refine (c0 _).mono ?_
    rintro e w1 ⟨rfl, rfl⟩
    go_wp2_with fail
    rw [rounds_succ]
    go_wp2_with fail
    refine (c1 _).mono ?_
    rintro e w1 ⟨rfl, rfl⟩
    by_cases h1 : r1 = 0
    · subst h1
      go_wp2_with fail
      rw [rounds_succ]
      go_wp2_with fail
      go_ret
      exact ⟨rfl, rfl⟩
    · have hb : (r1 != 0) = true := by simpa using h1
      go_wp2_with fail
      go_ret
      exact ⟨rfl, rfl⟩
  · rw [if_neg h0]
    have hb : (r0 != 0) = true := by simpa using h0
    go_enter Try.func38, Try.ntmps38
    go_wp2_with fail
    refine wp_loop_rounds 1 ?_
    rw [rounds_succ]
    go_wp2_with fail
    refine (c0 _).mono ?_
    rintro e w1 ⟨rfl, rfl⟩
    go_wp2_with fail
    go_ret
    exact ⟨rfl, rfl⟩
theorem grow_two (w : World) (a b : Obj) (q : Nat) : ((w.alloc a).alloc b).drewN q = Go.Sort.grow (w.drewN q) #[a, b] := by
  rw [Go.Sort.alloc_eq_grow, Go.Sort.alloc_eq_grow, Go.Sort.grow_grow]
  cases q <;> rfl
set_option maxRecDepth 100000 in
theorem cmpK_any (x y : Int × Int) (w : World) : Calls Try.prog 31 #[.agg #[.int .i64 x.1, .int .i64 x.2], .agg #[.int .i64 y.1, .int .i64 y.2]] w fun e w' => e = .returned (.int .i64 (cfK x y)) ∧ ∃ q os', w' = Go.Sort.grow (w.drewN q) os' := by
  go_enter Try.func31, Try.ntmps31
  go_wp2_with fail
  go_quiet (first | (go_at_call 38; exact Calls.quiet_of_same (cmpS_any x y (by simp) (by simp) (by simp) (by simp))))
  go_wp2_with fail
  go_ret
  refine ⟨rfl, nq, #[.cells #[.int .i64 x.1, .int .i64 x.2] 56, .cells #[.int .i64 y.1, .int .i64 y.2] 56], ?_⟩
  exact grow_two _ _ _ _
theorem lt_eq (x y : Int × Int) : Go.Proofs.ltOf cfK x y = decide (ltK x y) := by
  unfold Go.Proofs.ltOf
  simp [cfK_neg]
theorem swoK : Go.Sort.SWO (Go.Proofs.ltOf cfK) where
  irrefl x := by rw [lt_eq]; exact decide_eq_false fun h => ltK_irr h
  trans x y z h1 h2 := by
    rw [lt_eq] at *
    simp only [decide_eq_true_eq] at *
    exact ltK_trans h1 h2
  ntrans x y z h1 h2 := by
    rw [lt_eq] at *
    simp only [decide_eq_false_iff_not] at *
    unfold ltK at *
    omega
theorem totK (x y : Int × Int) (h1 : Go.Proofs.ltOf cfK x y = false) (h2 : Go.Proofs.ltOf cfK y x = false) : x = y := by
  rw [lt_eq] at *
  simp only [decide_eq_false_iff_not] at *
  rcases ltK_tri x y with h | h | h
  · exact absurd h h1
  · exact h
  · exact absurd h h2
def encK (x : Int × Int) : List Value := [.int .i64 x.1, .int .i64 x.2]
theorem cmpLays (blk off size : Nat) (w : World) : Go.Proofs.CmpLays Try.prog 31 #[] encK 2 cfK blk off size w :=
  fun _ _ _ _ x y => cmpK_any x y _
def sortK (l : List (Int × Int)) : List (Int × Int) := l.mergeSort fun x y => !(Go.Proofs.ltOf cfK) y x
theorem sortK_links {l : List (Int × Int)} (hn : l.Nodup) {p : List Pk} (h : ∀ k, k ∈ l ↔ bagOf p k ≠ []) : sortK l = linksOf p := by
  have tr : ∀ (x y z : Int × Int), (!(Go.Proofs.ltOf cfK) y x) = true → (!(Go.Proofs.ltOf cfK) z y) = true → (!(Go.Proofs.ltOf cfK) z x) = true := by
    intro x y z h1 h2
    simp only [lt_eq, Bool.not_eq_true', decide_eq_false_iff_not] at *
    unfold ltK at *
    omega
  have tt : ∀ (x y : Int × Int), ((!(Go.Proofs.ltOf cfK) y x) || (!(Go.Proofs.ltOf cfK) x y)) = true := by
    intro x y
    simp only [lt_eq, Bool.or_eq_true, Bool.not_eq_true', decide_eq_false_iff_not]
    unfold ltK
    omega
  have hs := List.pairwise_mergeSort tr tt l
  have hp := List.mergeSort_perm l (fun x y => !(Go.Proofs.ltOf cfK) y x)
  have hnd : (sortK l).Nodup := hp.symm.nodup hn
  refine sorted_eq ?_ (links_sorted p) fun k => by rw [links_mem, ← h k]; exact hp.mem_iff
  have : (sortK l).Pairwise fun x y => ¬ ltK y x := hs.imp fun h => by
    simp only [lt_eq, Bool.not_eq_true', decide_eq_false_iff_not] at h
    exact h
  have h2 := this.and hnd
  refine h2.imp fun {x y} h => ?_
  rcases ltK_tri x y with e | e | e
  · exact e
  · exact absurd e h.2
  · exact absurd e h.1
end Go.Proofs.Ytjclegiohhbkpaa
