/- A book, as mathematics: its sessions by rising numbers. -/
import Derived.Test.YtbehainbggdpeaaGreatBoA
namespace Go.Proofs.YtbehainbggdpeaaGreat

/- The sessions, rising; a session put among them; those that are told, those that are left. -/
def asc (S : List Fi) : Prop := S.Pairwise fun p q => p.nm < q.nm
def insS (p : Fi) : List Fi → List Fi
  | [] => [p]
  | q :: S => if p.nm < q.nm then p :: q :: S else if p.nm = q.nm then p :: S else q :: insS p S
def told (now : Int) (S : List Fi) : List Int := (S.filter fun p => decide (p.en ≤ now)).map fun p => p.nm
def rest (now : Int) (S : List Fi) : List Fi := S.filter fun p => !decide (p.en ≤ now)
def rup (t : Int) : Int := (t + 3) / 4 * 4
def hear (now s t : Int) : Fi := ⟨s, t, rup (now + t)⟩
def addS (now s t : Int) (S : List Fi) : List Fi := insS (hear now s t) S
def touchS (now s : Int) (S : List Fi) : List Fi := match look s S with
  | some q => insS (hear now s q.tmo) S
  | none => S
def late : Int := 1152921504606846976
def clamp (n : Int) : Int := min (max n 0) late
def tickN (now n : Int) : Int := if n ≤ late then max now n else now
/- The error of Add. -/
def addE (s t : Int) : Int := if s < 1 ∨ t < 1 ∨ 1000 < t then 2 else 0

/- What Add makes of the sessions. -/
def addR (now s t : Int) (S : List Fi) : List Fi := if s < 1 ∨ t < 1 ∨ 1000 < t then S else addS now s t S
theorem asc.tail {p : Fi} {S : List Fi} (h : asc (p :: S)) : asc S := (List.pairwise_cons.1 h).2
theorem asc.names {S : List Fi} (h : asc S) : (S.map fun p => p.nm).Nodup := by
  unfold asc at h
  unfold List.Nodup
  rw [List.pairwise_map]
  exact h.imp fun h e => by omega
theorem asc.nodup {S : List Fi} (h : asc S) : S.Nodup := by
  unfold asc at h
  exact h.imp fun h e => by subst e; omega
theorem nodup_of_names {L : List Fi} (h : (L.map fun p => p.nm).Nodup) : L.Nodup := by
  unfold List.Nodup at h ⊢
  rw [List.pairwise_map] at h
  exact h.imp fun h e => h (by rw [e])
theorem look_iff {L : List Fi} (h : (L.map fun p => p.nm).Nodup) {k : Int} {q : Fi} : look k L = some q ↔ q ∈ L ∧ q.nm = k :=
  ⟨look_some, fun ⟨h1, h2⟩ => by subst h2; exact look_mem h h1⟩
theorem look_none {L : List Fi} {k : Int} : look k L = none ↔ ∀ q ∈ L, q.nm ≠ k := by
  induction L with
  | nil => simp [look]
  | cons q L ih =>
    unfold look
    by_cases h : q.nm = k
    · simp [h]
    · simp [h, ih]
theorem look_perm {L S : List Fi} (h : L.Perm S) (hn : (L.map fun p => p.nm).Nodup) (k : Int) : look k L = look k S := by
  have hn' : (S.map fun p => p.nm).Nodup := (h.map _).nodup_iff.1 hn
  cases e : look k S with
  | none =>
    rw [look_none] at e ⊢
    intro q hq; exact e q (h.mem_iff.1 hq)
  | some q =>
    rw [look_iff hn'] at e
    rw [look_iff hn]
    exact ⟨h.mem_iff.2 e.1, e.2⟩
theorem mem_putL {p q : Fi} : ∀ {L : List Fi}, (L.map fun p => p.nm).Nodup → (q ∈ putL p L ↔ q = p ∨ (q ∈ L ∧ q.nm ≠ p.nm))
  | [], _ => by simp [putL]
  | x :: L, hn => by
    simp only [List.map_cons, List.nodup_cons, List.mem_map, not_exists, not_and] at hn
    unfold putL
    by_cases hx : x.nm = p.nm
    · rw [if_pos hx]
      simp only [List.mem_cons]
      constructor
      · rintro (h | h)
        · exact .inl h
        · exact .inr ⟨.inr h, fun e => hn.1 q h (e.trans hx.symm)⟩
      · rintro (h | ⟨rfl | h, h2⟩)
        · exact .inl h
        · exact absurd hx h2
        · exact .inr h
    · rw [if_neg hx]
      simp only [List.mem_cons, mem_putL hn.2]
      constructor
      · rintro (rfl | h | ⟨h, h2⟩)
        · exact .inr ⟨.inl rfl, hx⟩
        · exact .inl h
        · exact .inr ⟨.inr h, h2⟩
      · rintro (h | ⟨rfl | h, h2⟩)
        · exact .inr (.inl h)
        · exact .inl rfl
        · exact .inr (.inr ⟨h, h2⟩)
theorem mem_insS {p q : Fi} : ∀ {S : List Fi}, asc S → (q ∈ insS p S ↔ q = p ∨ (q ∈ S ∧ q.nm ≠ p.nm))
  | [], _ => by simp [insS]
  | x :: S, hs => by
    have ht := hs.tail
    have hx := (List.pairwise_cons.1 hs).1
    unfold insS
    by_cases h1 : p.nm < x.nm
    · rw [if_pos h1]
      simp only [List.mem_cons]
      constructor
      · rintro (h | rfl | h)
        · exact .inl h
        · exact .inr ⟨.inl rfl, by omega⟩
        · exact .inr ⟨.inr h, by have := hx q h; omega⟩
      · rintro (h | ⟨h, _⟩)
        · exact .inl h
        · exact .inr h
    · rw [if_neg h1]
      by_cases h2 : p.nm = x.nm
      · rw [if_pos h2]
        simp only [List.mem_cons]
        constructor
        · rintro (h | h)
          · exact .inl h
          · exact .inr ⟨.inr h, by have := hx q h; omega⟩
        · rintro (h | ⟨rfl | h, h3⟩)
          · exact .inl h
          · exact absurd h2.symm h3
          · exact .inr h
      · rw [if_neg h2]
        simp only [List.mem_cons, mem_insS ht]
        constructor
        · rintro (rfl | h | ⟨h, h3⟩)
          · exact .inr ⟨.inl rfl, fun e => h2 e.symm⟩
          · exact .inl h
          · exact .inr ⟨.inr h, h3⟩
        · rintro (h | ⟨rfl | h, h3⟩)
          · exact .inr (.inl h)
          · exact .inl rfl
          · exact .inr (.inr ⟨h, h3⟩)
theorem asc_insS {p : Fi} : ∀ {S : List Fi}, asc S → asc (insS p S)
  | [], _ => by simp [insS, asc]
  | x :: S, hs => by
    have ht := hs.tail
    have hx := (List.pairwise_cons.1 hs).1
    unfold insS
    by_cases h1 : p.nm < x.nm
    · rw [if_pos h1]
      refine List.pairwise_cons.2 ⟨fun q hq => ?_, hs⟩
      rcases List.mem_cons.1 hq with rfl | hq
      · exact h1
      · have := hx q hq; omega
    · rw [if_neg h1]
      by_cases h2 : p.nm = x.nm
      · rw [if_pos h2]
        exact List.pairwise_cons.2 ⟨fun q hq => by have := hx q hq; omega, ht⟩
      · rw [if_neg h2]
        refine List.pairwise_cons.2 ⟨fun q hq => ?_, asc_insS ht⟩
        rcases (mem_insS ht).1 hq with rfl | ⟨hq, _⟩
        · omega
        · exact hx q hq
theorem mem_delL {k : Int} {q : Fi} : ∀ {L : List Fi}, (L.map fun p => p.nm).Nodup → (q ∈ delL k L ↔ q ∈ L ∧ q.nm ≠ k)
  | [], _ => by simp [delL]
  | x :: L, hn => by
    simp only [List.map_cons, List.nodup_cons, List.mem_map, not_exists, not_and] at hn
    unfold delL
    by_cases hx : x.nm = k
    · rw [if_pos hx]
      simp only [List.mem_cons]
      constructor
      · intro h; exact ⟨.inr h, fun e => hn.1 q h (e.trans hx.symm)⟩
      · rintro ⟨rfl | h, h2⟩
        · exact absurd hx h2
        · exact h
    · rw [if_neg hx]
      simp only [List.mem_cons, mem_delL hn.2]
      constructor
      · rintro (rfl | ⟨h, h2⟩)
        · exact ⟨.inl rfl, hx⟩
        · exact ⟨.inr h, h2⟩
      · rintro ⟨rfl | h, h2⟩
        · exact .inl rfl
        · exact .inr ⟨h, h2⟩
theorem del_sub (k : Int) : ∀ L : List Fi, (delL k L).Sublist L
  | [] => .slnil
  | x :: L => by
    unfold delL
    split
    · exact (List.Sublist.refl _).cons _
    · exact (del_sub k L).cons_cons _
theorem asc_delL {k : Int} {S : List Fi} (h : asc S) : asc (delL k S) := List.Pairwise.sublist (del_sub k S) h
theorem asc_rest {n : Int} {S : List Fi} (h : asc S) : asc (rest n S) := List.Pairwise.sublist List.filter_sublist h
theorem put_names {p : Fi} {L : List Fi} (hn : (L.map fun p => p.nm).Nodup) : ((putL p L).map fun p => p.nm).Nodup := by
  induction L with
  | nil => simp [putL]
  | cons x L ih =>
    have hn' := hn
    simp only [List.map_cons, List.nodup_cons, List.mem_map, not_exists, not_and] at hn'
    unfold putL
    by_cases hx : x.nm = p.nm
    · rw [if_pos hx]
      simp only [List.map_cons, List.nodup_cons, List.mem_map, not_exists, not_and]
      exact ⟨fun q hq e => hn'.1 q hq (e.trans hx.symm), hn'.2⟩
    · rw [if_neg hx]
      simp only [List.map_cons, List.nodup_cons, List.mem_map, not_exists, not_and]
      refine ⟨fun q hq e => ?_, ih hn'.2⟩
      rcases (mem_putL hn'.2).1 hq with rfl | ⟨hq, _⟩
      · exact hx e.symm
      · exact hn'.1 q hq e
theorem put_perm {p : Fi} {L S : List Fi} (h : L.Perm S) (hs : asc S) : (putL p L).Perm (insS p S) := by
  have hn : (L.map fun p => p.nm).Nodup := (h.map _).nodup_iff.2 hs.names
  refine (List.perm_ext_iff_of_nodup (nodup_of_names (put_names hn)) (asc_insS hs).nodup).2 fun q => ?_
  rw [mem_putL hn, mem_insS hs, h.mem_iff]
theorem del_perm {k : Int} {L S : List Fi} (h : L.Perm S) (hs : asc S) : (delL k L).Perm (delL k S) := by
  have hn : (L.map fun p => p.nm).Nodup := (h.map _).nodup_iff.2 hs.names
  refine (List.perm_ext_iff_of_nodup (List.Nodup.sublist (del_sub k L) (nodup_of_names hn)) (asc_delL hs).nodup).2 fun q => ?_
  rw [mem_delL hn, mem_delL hs.names, h.mem_iff]

/- Numbers as they rise. -/
def sortN (l : List Int) : List Int := l.mergeSort fun x y => decide (x ≤ y)
theorem sortN_perm {a b : List Int} (h : a.Perm b) : sortN a = sortN b := by
  have tr : ∀ (x y z : Int), decide (x ≤ y) = true → decide (y ≤ z) = true → decide (x ≤ z) = true := by
    intro x y z h1 h2
    simp only [decide_eq_true_eq] at *
    omega
  have tt : ∀ (x y : Int), (decide (x ≤ y) || decide (y ≤ x)) = true := by
    intro x y
    simp only [Bool.or_eq_true, decide_eq_true_eq]
    omega
  refine List.Perm.eq_of_pairwise (le := fun x y => decide (x ≤ y) = true) ?_ (List.pairwise_mergeSort tr tt a) (List.pairwise_mergeSort tr tt b) (((List.mergeSort_perm a _).trans h).trans (List.mergeSort_perm b _).symm)
  intro x y _ _ h1 h2
  simp only [decide_eq_true_eq] at h1 h2
  omega
theorem sortN_asc {l : List Int} (h : l.Pairwise (· < ·)) : sortN l = l := by
  unfold sortN
  refine List.mergeSort_of_pairwise (h.imp fun h => ?_)
  simp only [decide_eq_true_eq]; omega
theorem asc_nums {S : List Fi} (h : asc S) : (S.map fun p => p.nm).Pairwise (· < ·) := List.pairwise_map.2 h
theorem told_asc {n : Int} {S : List Fi} (h : asc S) : (told n S).Pairwise (· < ·) := asc_nums (List.Pairwise.sublist List.filter_sublist h)
theorem len_insS (p : Fi) : ∀ S : List Fi, (insS p S).length ≤ S.length + 1
  | [] => by simp [insS]
  | q :: S => by
    unfold insS
    split
    · simp
    · split
      · simp
      · have := len_insS p S; simp; omega
end Go.Proofs.YtbehainbggdpeaaGreat
