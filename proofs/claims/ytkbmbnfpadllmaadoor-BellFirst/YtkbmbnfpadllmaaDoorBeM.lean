/- Watches as mathematics: which may be, which event a change rings for a watch, how rings are ordered. -/
import Derived.Test.YtkbmbnfpadllmaaDoorBeA
import Derived.Test.YtkbmbnfpadllmaaDoorPathP
import Derived.Shelf.SlSortCmp.InsertionK
namespace Go.Proofs.YtkbmbnfpadllmaaDoor.We
set_option linter.unusedSimpArgs false
set_option linter.unusedVariables false
open Go.RowKit Go.MapKept
set_option linter.unusedVariables false
set_option linter.unusedSimpArgs false

instance : Inhabited Wa := ⟨⟨0, 0, []⟩⟩
/- May a watch be? -/
def mayB (so : Int) (p : List UInt8) : Bool := (decide (so = 1) || decide (so = 2) || decide (so = 3)) && PA.right p
/- Which event a change of a kind, of a path, makes for a watch; 0: none. -/
def rgK (k : Int) (p : List UInt8) (w : Wa) : Int :=
  if k = 1 then (if w.p = p ∧ w.so = 2 then 1 else if w.so = 3 ∧ w.p = PA.parentS p then 4 else 0)
  else if k = 2 then (if w.p = p then 2 else if w.so = 3 ∧ w.p = PA.parentS p then 4 else 0)
  else if k = 3 then (if w.p = p ∧ ¬ w.so = 3 then 3 else 0) else 0
/- A ring: its connection, kind, sort, path, zxid. -/
structure Rg where
  cn : Int
  kd : Int
  so : Int
  p : List UInt8
  z : Int
  deriving DecidableEq
def rgOf (kd z : Int) (x : Wa) : Rg := ⟨x.cn, kd, x.so, x.p, z⟩
def rgC (r : Rg) : List Value := [.int .i64 r.cn, .int .u8 r.kd, .int .u8 r.so, .string (mkS r.p), .int .i64 r.z]
def encE (kd : Wa → Int) (z : Int) (x : Wa) : List Value := rgC (rgOf (kd x) z x)
theorem encE_len (kd : Wa → Int) (z : Int) (x : Wa) : (encE kd z x).length = 5 := rfl
theorem encE_one (kd : Wa → Int) (z : Int) (x : Wa) : ∀ u ∈ encE kd z x, u.oneCell' = true := by
  intro u hu
  simp [encE, rgC, rgOf] at hu
  rcases hu with rfl | rfl | rfl | rfl | rfl <;> rfl
theorem rgC_one (l : List Rg) : ∀ u ∈ l.flatMap rgC, u.oneCell' = true := by
  intro u hu
  obtain ⟨x, _, hu⟩ := List.mem_flatMap.1 hu
  simp [rgC] at hu
  rcases hu with rfl | rfl | rfl | rfl | rfl <;> rfl
theorem rgC_len (l : List Rg) : (l.flatMap rgC).length = l.length * 5 := by
  induction l with
  | nil => rfl
  | cons x l ih => rw [List.flatMap_cons, List.length_append, ih, List.length_cons]; simp [rgC]; omega

/- Which of two watches goes first. -/
def cfI (x y : Int) : Int := if x < y then -1 else if y < x then 1 else 0
theorem cfI_cases (x y : Int) : (x < y ∧ cfI x y = -1) ∨ (y < x ∧ cfI x y = 1) ∨ (x = y ∧ cfI x y = 0) := by
  unfold cfI
  split
  · exact .inl ⟨by assumption, rfl⟩
  · split
    · exact .inr (.inl ⟨by assumption, rfl⟩)
    · exact .inr (.inr ⟨by omega, rfl⟩)
def cfW (a b : Wa) : Int := if cfI a.cn b.cn ≠ 0 then cfI a.cn b.cn else if cfI a.so b.so ≠ 0 then cfI a.so b.so else Lib.compareBytes a.p b.p
theorem cmp_lt' : ∀ (x y : List UInt8), Lib.compareBytes x y < 0 ↔ x < y
  | [], [] => by simp [Lib.compareBytes]
  | [], b :: y => by simp [Lib.compareBytes]
  | a :: x, [] => by simp [Lib.compareBytes]
  | a :: x, b :: y => by
    have ih := cmp_lt' x y
    rw [List.cons_lt_cons_iff]
    simp only [Lib.compareBytes]
    by_cases h1 : a < b
    · simp [h1]
    · by_cases h2 : b < a
      · have hne : ¬ a = b := by intro e; subst e; exact h1 h2
        simp [h1, h2, hne]
      · have he : a = b := UInt8.le_antisymm (UInt8.not_lt.1 h2) (UInt8.not_lt.1 h1)
        subst he
        simp [h1, ih]
def Lt (a b : Wa) : Prop := a.cn < b.cn ∨ a.cn = b.cn ∧ (a.so < b.so ∨ a.so = b.so ∧ a.p < b.p)
instance (a b : Wa) : Decidable (Lt a b) := by unfold Lt; infer_instance
theorem lt_W (a b : Wa) : Go.Proofs.ltOf cfW a b = decide (Lt a b) := by
  unfold Go.Proofs.ltOf
  congr 1
  apply propext
  have h3 := cmp_lt' a.p b.p
  unfold Lt cfW
  rcases cfI_cases a.cn b.cn with ⟨h1, e1⟩ | ⟨h1, e1⟩ | ⟨h1, e1⟩
  · rw [if_pos (by rw [e1]; decide), e1]
    exact ⟨fun _ => .inl h1, fun _ => by decide⟩
  · rw [if_pos (by rw [e1]; decide), e1]
    exact ⟨fun h => absurd h (by decide), by rintro (h | ⟨h, _⟩) <;> omega⟩
  · rw [if_neg (by rw [e1]; decide)]
    rcases cfI_cases a.so b.so with ⟨h2, e2⟩ | ⟨h2, e2⟩ | ⟨h2, e2⟩
    · rw [if_pos (by rw [e2]; decide), e2]
      exact ⟨fun _ => .inr ⟨h1, .inl h2⟩, fun _ => by decide⟩
    · rw [if_pos (by rw [e2]; decide), e2]
      exact ⟨fun h => absurd h (by decide), by rintro (h | ⟨_, h | ⟨h, _⟩⟩) <;> omega⟩
    · rw [if_neg (by rw [e2]; decide), h3]
      exact ⟨fun h => .inr ⟨h1, .inr ⟨h2, h⟩⟩, by rintro (h | ⟨_, h | ⟨_, h⟩⟩) <;> first | exact h | omega⟩
theorem plt_irrefl (x : List UInt8) : ¬ x < x := List.lt_irrefl x
theorem pnlt_trans {x y z : List UInt8} (h1 : ¬ x < y) (h2 : ¬ y < z) : ¬ x < z := by
  have a : y ≤ x := h1
  have b : z ≤ y := h2
  have c : z ≤ x := List.le_trans b a
  exact c
theorem pnlt_anti {x y : List UInt8} (h1 : ¬ x < y) (h2 : ¬ y < x) : x = y := List.le_antisymm (show x ≤ y from h2) (show y ≤ x from h1)
theorem Lt.irrefl (a : Wa) : ¬ Lt a a := by
  rintro (h | ⟨_, h | ⟨_, h⟩⟩)
  · omega
  · omega
  · exact plt_irrefl _ h
theorem Lt.trans {a b c : Wa} (h1 : Lt a b) (h2 : Lt b c) : Lt a c := by
  rcases h1 with h1 | ⟨e1, h1 | ⟨f1, h1⟩⟩ <;> rcases h2 with h2 | ⟨e2, h2 | ⟨f2, h2⟩⟩
  · exact .inl (by omega)
  · exact .inl (by omega)
  · exact .inl (by omega)
  · exact .inl (by omega)
  · exact .inr ⟨by omega, .inl (by omega)⟩
  · exact .inr ⟨by omega, .inl (by omega)⟩
  · exact .inl (by omega)
  · exact .inr ⟨by omega, .inl (by omega)⟩
  · exact .inr ⟨by omega, .inr ⟨by omega, List.lt_trans h1 h2⟩⟩
theorem Lt.anti {a b : Wa} (h1 : ¬ Lt a b) (h2 : ¬ Lt b a) : a = b := by
  obtain ⟨a1, a2, a3⟩ := a
  obtain ⟨b1, b2, b3⟩ := b
  have e1 : a1 = b1 := by
    have x1 : ¬ a1 < b1 := fun h => h1 (.inl h)
    have x2 : ¬ b1 < a1 := fun h => h2 (.inl h)
    omega
  subst e1
  have e2 : a2 = b2 := by
    have x1 : ¬ a2 < b2 := fun h => h1 (.inr ⟨rfl, .inl h⟩)
    have x2 : ¬ b2 < a2 := fun h => h2 (.inr ⟨rfl, .inl h⟩)
    omega
  subst e2
  have e3 : a3 = b3 := pnlt_anti (fun h => h1 (.inr ⟨rfl, .inr ⟨rfl, h⟩⟩)) (fun h => h2 (.inr ⟨rfl, .inr ⟨rfl, h⟩⟩))
  rw [e3]
theorem Lt.ntrans {a b c : Wa} (h1 : ¬ Lt a b) (h2 : ¬ Lt b c) : ¬ Lt a c := by
  intro h
  by_cases e : Lt b a
  · exact h2 (e.trans h)
  · have := Lt.anti h1 e
    subst this
    exact h2 h
theorem swoW : Go.Sort.SWO (Go.Proofs.ltOf cfW) where
  irrefl x := by rw [lt_W]; exact decide_eq_false (Lt.irrefl x)
  trans x y z h1 h2 := by
    rw [lt_W] at *
    simp only [decide_eq_true_eq] at *
    exact h1.trans h2
  ntrans x y z h1 h2 := by
    rw [lt_W] at *
    simp only [decide_eq_false_iff_not] at *
    exact Lt.ntrans h1 h2
theorem totW (x y : Wa) (h1 : Go.Proofs.ltOf cfW x y = false) (h2 : Go.Proofs.ltOf cfW y x = false) : x = y := by
  rw [lt_W] at *
  simp only [decide_eq_false_iff_not] at *
  exact Lt.anti h1 h2
def sortW (l : List Wa) : List Wa := l.mergeSort fun x y => !(Go.Proofs.ltOf cfW) y x
theorem sortW_all (l : List Wa) : (sortW l).Pairwise fun x y => (!(Go.Proofs.ltOf cfW) y x) = true := by
  have tr : ∀ (x y z : Wa), (!(Go.Proofs.ltOf cfW) y x) = true → (!(Go.Proofs.ltOf cfW) z y) = true → (!(Go.Proofs.ltOf cfW) z x) = true := by
    intro x y z h1 h2
    simp only [lt_W, Bool.not_eq_true', decide_eq_false_iff_not] at *
    exact Lt.ntrans h2 h1
  have tt : ∀ (x y : Wa), ((!(Go.Proofs.ltOf cfW) y x) || (!(Go.Proofs.ltOf cfW) x y)) = true := by
    intro x y
    simp only [lt_W, Bool.or_eq_true, Bool.not_eq_true', decide_eq_false_iff_not]
    by_cases h : Lt y x
    · exact .inr fun h' => Lt.irrefl x (h'.trans h)
    · exact .inl h
  exact List.pairwise_mergeSort tr tt l
theorem sortW_perm {a b : List Wa} (h : a.Perm b) : sortW a = sortW b := by
  refine List.Perm.eq_of_pairwise (le := fun x y => (!(Go.Proofs.ltOf cfW y x)) = true) ?_ (sortW_all a) (sortW_all b) (((List.mergeSort_perm a _).trans h).trans (List.mergeSort_perm b _).symm)
  intro x y _ _ h1 h2
  simp only [lt_W, Bool.not_eq_true', decide_eq_false_iff_not] at h1 h2
  exact Lt.anti h2 h1
theorem sortW_is (l : List Wa) : (sortW l).Perm l := List.mergeSort_perm l _
theorem sortW_len (l : List Wa) : (sortW l).length = l.length := (sortW_is l).length_eq
theorem sortW_eq {l s : List Wa} (hp : s.Perm l) (hs : s.Pairwise Lt) : sortW l = s := by
  refine List.Perm.eq_of_pairwise (le := fun x y => (!(Go.Proofs.ltOf cfW y x)) = true) ?_ (sortW_all l) (hs.imp fun {x y} h => ?_) ((sortW_is l).trans hp.symm)
  · intro x y _ _ h1 h2
    simp only [lt_W, Bool.not_eq_true', decide_eq_false_iff_not] at h1 h2
    exact Lt.anti h2 h1
  · simp only [lt_W, Bool.not_eq_true', decide_eq_false_iff_not]
    exact fun h' => Lt.irrefl x (h.trans h')

/- One change: what is told, and what is left. -/
def told1 (k : Int) (p : List UInt8) (z : Int) (L : List Wa) : List Rg := (sortW (L.filter fun x => !decide (rgK k p x = 0))).map fun x => rgOf (rgK k p x) z x
def left1 (k : Int) (p : List UInt8) (L : List Wa) : List Wa := L.filter fun x => decide (rgK k p x = 0)
/- Several changes. -/
def toldAll (z : Int) : List (Int × List UInt8) → List Wa → List Rg
  | [], _ => []
  | c :: cs, L => told1 c.1 c.2 z L ++ toldAll z cs (left1 c.1 c.2 L)
def leftAll : List (Int × List UInt8) → List Wa → List Wa
  | [], L => L
  | c :: cs, L => leftAll cs (left1 c.1 c.2 L)
theorem left_sub : ∀ (cs : List (Int × List UInt8)) (L : List Wa), (leftAll cs L).Sublist L
  | [], _ => List.Sublist.refl _
  | c :: cs, L => (left_sub cs _).trans List.filter_sublist
theorem filter_parts (q : Wa → Bool) : ∀ L : List Wa, (L.filter fun x => !q x).length + (L.filter q).length = L.length
  | [] => rfl
  | x :: L => by
    have ih := filter_parts q L
    rw [List.filter_cons, List.filter_cons]
    cases h : q x <;> simp <;> omega
theorem told_len : ∀ (z : Int) (cs : List (Int × List UInt8)) (L : List Wa), (toldAll z cs L).length + (leftAll cs L).length = L.length
  | _, [], _ => by simp [toldAll, leftAll]
  | z, c :: cs, L => by
    have ih := told_len z cs (left1 c.1 c.2 L)
    have hl := filter_parts (fun x => decide (rgK c.1 c.2 x = 0)) L
    simp only [toldAll, leftAll, List.length_append, told1, List.length_map, sortW_len] at *
    unfold left1 at *
    omega
end Go.Proofs.YtkbmbnfpadllmaaDoor.We
