/- The document's disk: which texts are names. -/
import Derived.Test.YtndjlnlmlgimlaaDfB
namespace Go.Proofs.Ytndjlnlmlgimlaa
open Go.RowKit Go.MapKept

/- A sign of a name, or none: by which of the tests it is told. -/
inductive InC (x : UInt8) : Prop
  | a (hi : inN x = true) (c1 : (97 : Int) ≤ x.toNat) (c2 : (x.toNat : Int) ≤ 122)
  | b (hi : inN x = true) (c1 : ¬ (97 : Int) ≤ x.toNat) (c2 : (48 : Int) ≤ x.toNat) (c3 : (x.toNat : Int) ≤ 57)
  | c (hi : inN x = true) (c1 : ¬ (97 : Int) ≤ x.toNat) (c2 : ¬ (48 : Int) ≤ x.toNat) (c3 : ((x.toNat : Int) == 46) = true)
  | d (hi : inN x = true) (c1 : ¬ (97 : Int) ≤ x.toNat) (c2 : ¬ (48 : Int) ≤ x.toNat) (c3 : ((x.toNat : Int) == 46) = false) (c4 : ((x.toNat : Int) == 45) = true)
  | e (hi : inN x = false) (c1 : (97 : Int) ≤ x.toNat) (c2 : ¬ (x.toNat : Int) ≤ 122) (c3 : (48 : Int) ≤ x.toNat) (c4 : ¬ (x.toNat : Int) ≤ 57) (c5 : ((x.toNat : Int) == 46) = false) (c6 : ((x.toNat : Int) == 45) = false)
  | f (hi : inN x = false) (c1 : ¬ (97 : Int) ≤ x.toNat) (c2 : (48 : Int) ≤ x.toNat) (c3 : ¬ (x.toNat : Int) ≤ 57) (c4 : ((x.toNat : Int) == 46) = false) (c5 : ((x.toNat : Int) == 45) = false)
  | g (hi : inN x = false) (c1 : ¬ (97 : Int) ≤ x.toNat) (c2 : ¬ (48 : Int) ≤ x.toNat) (c3 : ((x.toNat : Int) == 46) = false) (c4 : ((x.toNat : Int) == 45) = false)
theorem inN_case (x : UInt8) : InC x := by
  have n46 : ∀ h : x.toNat ≠ 46, ((x.toNat : Int) == 46) = false := fun h => beq_eq_false_iff_ne.2 (by omega)
  have n45 : ∀ h : x.toNat ≠ 45, ((x.toNat : Int) == 45) = false := fun h => beq_eq_false_iff_ne.2 (by omega)
  have hI : inN x = ((decide (97 ≤ x.toNat) && decide (x.toNat ≤ 122)) || (decide (48 ≤ x.toNat) && decide (x.toNat ≤ 57)) || decide (x.toNat = 46) || decide (x.toNat = 45)) := rfl
  by_cases a : 97 ≤ x.toNat
  · by_cases b : x.toNat ≤ 122
    · exact .a (by rw [hI, decide_eq_true a, decide_eq_true b]; rfl) (by omega) (by omega)
    · exact .e (by rw [hI, decide_eq_false b, decide_eq_false (show ¬ x.toNat ≤ 57 by omega), decide_eq_false (show ¬ x.toNat = 46 by omega), decide_eq_false (show ¬ x.toNat = 45 by omega)]; simp) (by omega) (by omega) (by omega) (by omega) (n46 (by omega)) (n45 (by omega))
  · by_cases b : 48 ≤ x.toNat
    · by_cases c : x.toNat ≤ 57
      · exact .b (by rw [hI, decide_eq_true b, decide_eq_true c]; simp) (by omega) (by omega) (by omega)
      · exact .f (by rw [hI, decide_eq_false a, decide_eq_false c, decide_eq_false (show ¬ x.toNat = 46 by omega), decide_eq_false (show ¬ x.toNat = 45 by omega)]; simp) (by omega) (by omega) (by omega) (n46 (by omega)) (n45 (by omega))
    · by_cases c : x.toNat = 46
      · exact .c (by rw [hI, decide_eq_true c]; simp) (by omega) (by omega) (beq_iff_eq.2 (by omega))
      · by_cases d : x.toNat = 45
        · exact .d (by rw [hI, decide_eq_true d]; simp) (by omega) (by omega) (n46 c) (beq_iff_eq.2 (by omega))
        · exact .g (by rw [hI, decide_eq_false a, decide_eq_false b, decide_eq_false c, decide_eq_false d]; simp) (by omega) (by omega) (n46 c) (n45 d)
def Len63 (n : Nat) : Prop := n ≤ 9223372036854775807
theorem wrap_succ {pos n : Nat} (h : pos < n) (hn : Len63 n) : wrap64 ((pos : Int) + 1) = ((pos + 1 : Nat) : Int) := by
  unfold Len63 at hn
  unfold wrap64
  omega
theorem next_rel {l : List UInt8} {pos : Nat} (hp : pos < l.length) (hl : Len63 l.length) (hok : ∀ j (hj : j < l.length), j < pos → inN (l[j]'hj) = true) (hi : inN (l[pos]'hp) = true) :
    (∃ pos_1 : Nat, Value.int IntKind.i64 (wrap64 ((pos : Int) + 1)) = Value.int IntKind.i64 ↑pos_1 ∧ pos_1 ≤ l.length ∧ (∀ (j : Nat) (hj : j < l.length), j < pos_1 → inN (l[j]'hj) = true) ∧ True) ∧ l.length - (intOf (Value.int IntKind.i64 (wrap64 ((pos : Int) + 1)))).toNat < l.length - (intOf (Value.int IntKind.i64 ↑pos)).toNat := by
  have hw := wrap_succ hp hl
  have h2 : (intOf (Value.int IntKind.i64 (wrap64 ((pos : Int) + 1)))).toNat = pos + 1 := by
    rw [hw]; exact Int.toNat_natCast _
  have h3 : (intOf (Value.int IntKind.i64 (pos : Int))).toNat = pos := Int.toNat_natCast _
  refine ⟨⟨pos + 1, congrArg (Value.int IntKind.i64) hw, by omega, fun j hj hlt => ?_, trivial⟩, by rw [h2, h3]; omega⟩
  rcases Nat.lt_succ_iff_lt_or_eq.1 hlt with e | e
  · exact hok j hj e
  · subst e; exact hi
set_option maxRecDepth 100000 in
theorem rname_any (l : List UInt8) (hl : Len63 l.length) (b : Bool) (hb : nameB l = b) (w : World) : Calls Try.prog 39 #[.string (mkS l)] w fun e w' => e = .returned (.bool b) ∧ w' = w := by
  have hs := mkS_size l
  have HL : Hid (Len63 l.length) := hl
  clear hl
  have HB : Hid (nameB l = b) := hb
  clear hb
  go_enter Try.func39, Try.ntmps39
  go_wp2_with fail
  go_loopw [3] (fun i wr => ∃ pos : Nat, i = .int .i64 pos ∧ pos ≤ l.length ∧ (∀ j (hj : j < l.length), j < pos → inN (l[j]'hj) = true) ∧ wr = w) (fun i _ => l.length - (intOf i).toNat)
  case atStart => exact ⟨0, rfl, by omega, fun j _ h => by omega, rfl⟩
  case round =>
    obtain ⟨pos, rfl, hle, hok, rfl⟩ := hrel
    have HOK : Hid (∀ j (hj : j < l.length), j < pos → inN (l[j]'hj) = true) := hok
    clear hok
    by_cases hp : pos < l.length
    · have hp' : pos < (mkS l).size := by rw [mkS_size]; exact hp
      have hg := mkS_get l pos hp hp'
      obtain ⟨x, hx⟩ : ∃ x : UInt8, x = l[pos]'hp := ⟨_, rfl⟩
      rw [← hx] at hg
      have HX : Hid (x = l[pos]'hp) := hx
      clear hx
      have hw0 : wrap64 ((pos : Int) + 1) = ((pos + 1 : Nat) : Int) := wrap_succ hp HL.out
      have HW : Hid (wrap64 ((pos : Int) + 1) = ((pos + 1 : Nat) : Int)) := hw0
      clear hw0
      cases inN_case x with
      | a hi c1 c2 =>
        have HR : Hid ((∃ pos_1 : Nat, Value.int IntKind.i64 (wrap64 ((pos : Int) + 1)) = Value.int IntKind.i64 ↑pos_1 ∧ pos_1 ≤ l.length ∧ (∀ (j : Nat) (hj : j < l.length), j < pos_1 → inN (l[j]'hj) = true) ∧ True) ∧ l.length - (intOf (Value.int IntKind.i64 (wrap64 ((pos : Int) + 1)))).toNat < l.length - (intOf (Value.int IntKind.i64 ↑pos)).toNat) := next_rel hp HL.out HOK.out (by rw [← HX.out]; exact hi)
        clear HX hi HW HB HOK HL
        go_wp2_with fail
        exact HR.out
      | b hi c1 c2 c3 =>
        have HR : Hid ((∃ pos_1 : Nat, Value.int IntKind.i64 (wrap64 ((pos : Int) + 1)) = Value.int IntKind.i64 ↑pos_1 ∧ pos_1 ≤ l.length ∧ (∀ (j : Nat) (hj : j < l.length), j < pos_1 → inN (l[j]'hj) = true) ∧ True) ∧ l.length - (intOf (Value.int IntKind.i64 (wrap64 ((pos : Int) + 1)))).toNat < l.length - (intOf (Value.int IntKind.i64 ↑pos)).toNat) := next_rel hp HL.out HOK.out (by rw [← HX.out]; exact hi)
        clear HX hi HW HB HOK HL
        go_wp2_with fail
        exact HR.out
      | c hi c1 c2 c3 =>
        have HR : Hid ((∃ pos_1 : Nat, Value.int IntKind.i64 (wrap64 ((pos : Int) + 1)) = Value.int IntKind.i64 ↑pos_1 ∧ pos_1 ≤ l.length ∧ (∀ (j : Nat) (hj : j < l.length), j < pos_1 → inN (l[j]'hj) = true) ∧ True) ∧ l.length - (intOf (Value.int IntKind.i64 (wrap64 ((pos : Int) + 1)))).toNat < l.length - (intOf (Value.int IntKind.i64 ↑pos)).toNat) := next_rel hp HL.out HOK.out (by rw [← HX.out]; exact hi)
        clear HX hi HW HB HOK HL
        go_wp2_with fail
        exact HR.out
      | d hi c1 c2 c3 c4 =>
        have HR : Hid ((∃ pos_1 : Nat, Value.int IntKind.i64 (wrap64 ((pos : Int) + 1)) = Value.int IntKind.i64 ↑pos_1 ∧ pos_1 ≤ l.length ∧ (∀ (j : Nat) (hj : j < l.length), j < pos_1 → inN (l[j]'hj) = true) ∧ True) ∧ l.length - (intOf (Value.int IntKind.i64 (wrap64 ((pos : Int) + 1)))).toNat < l.length - (intOf (Value.int IntKind.i64 ↑pos)).toNat) := next_rel hp HL.out HOK.out (by rw [← HX.out]; exact hi)
        clear HX hi HW HB HOK HL
        go_wp2_with fail
        exact HR.out
      | e hi c1 c2 c3 c4 c5 c6 =>
        have hb : b = false := by rw [← HB.out]; rw [HX.out] at hi; simp [nameB, all_not l pos hp hi]
        clear HX HW HB HOK HL hi
        subst hb
        go_wp2_with fail
        go_ret
        exact ⟨rfl, rfl⟩
      | f hi c1 c2 c3 c4 c5 =>
        have hb : b = false := by rw [← HB.out]; rw [HX.out] at hi; simp [nameB, all_not l pos hp hi]
        clear HX HW HB HOK HL hi
        subst hb
        go_wp2_with fail
        go_ret
        exact ⟨rfl, rfl⟩
      | g hi c1 c2 c3 c4 =>
        have hb : b = false := by rw [← HB.out]; rw [HX.out] at hi; simp [nameB, all_not l pos hp hi]
        clear HX HW HB HOK HL hi
        subst hb
        go_wp2_with fail
        go_ret
        exact ⟨rfl, rfl⟩
    · have ha : l.all inN = true := all_of l fun j hj => HOK.out j hj (by omega)
      have hb : b = (decide (1 ≤ l.length) && decide (l.length ≤ 30)) := by rw [← HB.out, nameB, ha, Bool.and_true]
      clear HB HOK HL ha
      by_cases h1 : 1 ≤ l.length
      · by_cases h2 : l.length ≤ 30
        · rw [decide_eq_true h1, decide_eq_true h2, Bool.and_self] at hb
          subst hb
          go_wp2_with fail
          go_ret
          exact ⟨congrArg (fun b => Ending.returned (Value.bool b)) (decide_eq_true (show (l.length : Int) ≤ 30 by omega)), rfl⟩
        · rw [decide_eq_true h1, decide_eq_false h2, Bool.true_and] at hb
          subst hb
          go_wp2_with fail
          go_ret
          exact ⟨congrArg (fun b => Ending.returned (Value.bool b)) (decide_eq_false (show ¬ (l.length : Int) ≤ 30 by omega)), rfl⟩
      · rw [decide_eq_false h1, Bool.false_and] at hb
        subst hb
        go_wp2_with fail
        go_ret
        exact ⟨rfl, rfl⟩
end Go.Proofs.Ytndjlnlmlgimlaa
