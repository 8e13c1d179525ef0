/- SittingOnce, as mathematics: what is told, and what is left, lie in all that was there, in its order. -/
import Derived.Test.YtbehainbggdpeaaGreatBoM
namespace Go.Proofs.YtbehainbggdpeaaGreat
set_option linter.unusedSimpArgs false
set_option linter.unusedVariables false
set_option linter.unusedVariables false
set_option linter.unusedSimpArgs false

theorem told_app (n : Int) (a b : List Fi) : told n (a ++ b) = told n a ++ told n b := by simp [told]
theorem rest_app (n : Int) (a b : List Fi) : rest n (a ++ b) = rest n a ++ rest n b := by simp [rest]
theorem told_rest_len (n : Int) : ∀ S : List Fi, (told n S).length + (rest n S).length = S.length
  | [] => rfl
  | p :: S => by
    have ih := told_rest_len n S
    unfold told rest at *
    by_cases h : p.en ≤ n
    · simp [List.filter_cons, h] at *; omega
    · simp [List.filter_cons, h] at *; omega
theorem told_rest (n : Int) (S : List Fi) : told n (rest n S) = [] := by
  unfold told rest
  rw [List.map_eq_nil_iff, List.filter_eq_nil_iff]
  intro p hp
  have := (List.mem_filter.1 hp).2
  simpa using this
theorem rest_rest (n : Int) (S : List Fi) : rest n (rest n S) = rest n S := by
  unfold rest
  rw [List.filter_filter]
  simp
theorem told_yes {n : Int} {p : Fi} (h : p.en ≤ n) (S : List Fi) : told n (p :: S) = p.nm :: told n S := by simp [told, List.filter_cons, h]
theorem told_not {n : Int} {p : Fi} (h : ¬ p.en ≤ n) (S : List Fi) : told n (p :: S) = told n S := by simp [told, List.filter_cons, h]
theorem rest_yes {n : Int} {p : Fi} (h : p.en ≤ n) (S : List Fi) : rest n (p :: S) = rest n S := by simp [rest, List.filter_cons, h]
theorem rest_not {n : Int} {p : Fi} (h : ¬ p.en ≤ n) (S : List Fi) : rest n (p :: S) = p :: rest n S := by simp [rest, List.filter_cons, h]
theorem once_gone {n : Int} {S : List Fi} {i : Nat} (hi : i < S.length) (he : (S[i]'hi).en ≤ n) :
    ∃ h : (told n (S.take i)).length < (told n S).length, (told n S)[(told n (S.take i)).length]'h = (S[i]'hi).nm ∧ (told n (S.take (i + 1))).length = (told n (S.take i)).length + 1 ∧ (rest n (S.take (i + 1))).length = (rest n (S.take i)).length := by
  have hd : S = S.take i ++ (S[i]'hi) :: S.drop (i + 1) := by
    rw [← List.drop_eq_getElem_cons hi, List.take_append_drop]
  have h1 : told n S = told n (S.take i) ++ (S[i]'hi).nm :: told n (S.drop (i + 1)) := by
    conv => lhs; rw [hd]
    rw [told_app, told_yes he]
  have h2 : told n (S.take (i + 1)) = told n (S.take i) ++ [(S[i]'hi).nm] := by
    rw [List.take_succ_eq_append_getElem hi, told_app]
    congr 1
    simp [told, List.filter_cons, he]
  have h3 : rest n (S.take (i + 1)) = rest n (S.take i) := by
    rw [List.take_succ_eq_append_getElem hi, rest_app]
    simp [rest, List.filter_cons, he]
  have hlt : (told n (S.take i)).length < (told n S).length := by rw [h1]; simp
  refine ⟨hlt, ?_, by rw [h2]; simp, by rw [h3]⟩
  have : (told n S)[(told n (S.take i)).length]? = some (S[i]'hi).nm := by rw [h1]; simp
  rw [List.getElem?_eq_getElem hlt] at this
  exact Option.some.inj this
theorem once_kept {n : Int} {S : List Fi} (hs : asc S) {i : Nat} (hi : i < S.length) (he : n < (S[i]'hi).en) :
    (∀ h : (told n (S.take i)).length < (told n S).length, ¬ (told n S)[(told n (S.take i)).length]'h = (S[i]'hi).nm) ∧
    ∃ h : (rest n (S.take i)).length < ((rest n S).map fun p => p.nm).length, ((rest n S).map fun p => p.nm)[(rest n (S.take i)).length]'h = (S[i]'hi).nm ∧ (told n (S.take (i + 1))).length = (told n (S.take i)).length ∧ (rest n (S.take (i + 1))).length = (rest n (S.take i)).length + 1 := by
  have hd : S = S.take i ++ (S[i]'hi) :: S.drop (i + 1) := by
    rw [← List.drop_eq_getElem_cons hi, List.take_append_drop]
  have he' : ¬ (S[i]'hi).en ≤ n := by omega
  have h1 : told n S = told n (S.take i) ++ told n (S.drop (i + 1)) := by
    conv => lhs; rw [hd]
    rw [told_app, told_not he']
  have h1' : rest n S = rest n (S.take i) ++ (S[i]'hi) :: rest n (S.drop (i + 1)) := by
    conv => lhs; rw [hd]
    rw [rest_app, rest_not he']
  have h2 : told n (S.take (i + 1)) = told n (S.take i) := by
    rw [List.take_succ_eq_append_getElem hi, told_app]
    simp [told, List.filter_cons, he']
  have h3 : rest n (S.take (i + 1)) = rest n (S.take i) ++ [S[i]'hi] := by
    rw [List.take_succ_eq_append_getElem hi, rest_app]
    simp [rest, List.filter_cons, he']
  refine ⟨fun h e => ?_, ?_⟩
  · have h4 : (told n S)[(told n (S.take i)).length]'h ∈ told n (S.drop (i + 1)) := by
      have : (told n S)[(told n (S.take i)).length]? = (told n (S.drop (i + 1)))[0]? := by rw [h1, List.getElem?_append_right (Nat.le_refl _), Nat.sub_self]
      rw [List.getElem?_eq_getElem h] at this
      exact List.mem_of_getElem? this.symm
    rw [e] at h4
    unfold told at h4
    obtain ⟨q, hq, hqn⟩ := List.mem_map.1 h4
    have hq2 := (List.mem_filter.1 hq).1
    have hss : asc (S[i] :: S.drop (i + 1)) := by
      rw [← List.drop_eq_getElem_cons hi]
      exact List.Pairwise.sublist (List.drop_sublist i S) hs
    have := (List.pairwise_cons.1 hss).1 q hq2
    omega
  · have hlt : (rest n (S.take i)).length < ((rest n S).map fun p => p.nm).length := by rw [h1']; simp
    refine ⟨hlt, ?_, by rw [h2], by rw [h3]; simp⟩
    have : ((rest n S).map fun p => p.nm)[(rest n (S.take i)).length]? = some (S[i]'hi).nm := by rw [h1']; simp
    rw [List.getElem?_eq_getElem hlt] at this
    exact Option.some.inj this
theorem once_rises {S : List Fi} (hs : asc S) {i : Nat} (hi : i < S.length) (h0 : 0 < i) : (S[i - 1]'(by omega)).nm < (S[i]'hi).nm := by
  have := List.pairwise_iff_getElem.1 hs (i - 1) i (by omega) hi (by omega)
  exact this
theorem len_told (n : Int) (S : List Fi) : (told n S).length ≤ S.length := by have := told_rest_len n S; omega
theorem len_rest (n : Int) (S : List Fi) : (rest n S).length ≤ S.length := by have := told_rest_len n S; omega
theorem len_addR (now s t : Int) (S : List Fi) : (addR now s t S).length ≤ S.length + 1 := by
  unfold addR addS
  split
  · omega
  · exact len_insS _ _
theorem tick_back {now n back : Int} (hn : n ≤ late) (hb : now ≤ late) : tickN (tickN now n) (min n back) = tickN now n := by
  unfold tickN
  rw [if_pos (show min n back ≤ late by omega), if_pos hn]
  omega
end Go.Proofs.YtbehainbggdpeaaGreat
