/- SittingFair, as mathematics: what is known of each of the sessions 1 to 9. -/
import Derived.Test.YtbehainbggdpeaaBoM
namespace Go.Proofs.Ytbehainbggdpeaa
set_option linter.unusedSimpArgs false
set_option linter.unusedVariables false
set_option linter.unusedVariables false
set_option linter.unusedSimpArgs false

def upd (f : Nat → Int) (n : Nat) (x : Int) : Nat → Int := fun k => if k = n then x else f k
theorem look_eq {L : List Fi} (h : (L.map fun p => p.nm).Nodup) {k : Int} {o : Option Fi} (ho : ∀ q, o = some q ↔ q ∈ L ∧ q.nm = k) : look k L = o := by
  cases o with
  | none =>
    rw [look_none]
    intro q hq e
    exact nomatch (ho q).2 ⟨hq, e⟩
  | some q => exact (look_iff h).2 ((ho q).1 rfl)
theorem look_ins {S : List Fi} (hs : asc S) (p : Fi) (k : Int) : look k (insS p S) = if k = p.nm then some p else look k S := by
  apply look_eq (asc_insS hs).names
  intro q
  rw [mem_insS hs]
  by_cases hk : k = p.nm
  · rw [if_pos hk]
    constructor
    · intro e; cases e; exact ⟨.inl rfl, hk.symm⟩
    · rintro ⟨rfl | ⟨_, h⟩, h2⟩
      · rfl
      · exact absurd (h2.trans hk) h
  · rw [if_neg hk, look_iff hs.names]
    constructor
    · rintro ⟨h1, h2⟩; exact ⟨.inr ⟨h1, fun e => hk (h2.symm.trans e)⟩, h2⟩
    · rintro ⟨rfl | ⟨h1, _⟩, h2⟩
      · exact absurd h2.symm hk
      · exact ⟨h1, h2⟩
theorem look_del {S : List Fi} (hs : asc S) (s k : Int) : look k (delL s S) = if k = s then none else look k S := by
  apply look_eq (asc_delL hs).names
  intro q
  rw [mem_delL hs.names]
  by_cases hk : k = s
  · rw [if_pos hk]
    constructor
    · intro e; cases e
    · rintro ⟨⟨_, h⟩, h2⟩; exact absurd (h2.trans hk) h
  · rw [if_neg hk, look_iff hs.names]
    constructor
    · rintro ⟨h1, h2⟩; exact ⟨⟨h1, fun e => hk (h2.symm.trans e)⟩, h2⟩
    · rintro ⟨⟨h1, _⟩, h2⟩; exact ⟨h1, h2⟩
theorem mem_told {n x : Int} {S : List Fi} : x ∈ told n S ↔ ∃ q ∈ S, q.nm = x ∧ q.en ≤ n := by
  unfold told
  simp only [List.mem_map, List.mem_filter, decide_eq_true_eq]
  constructor
  · rintro ⟨q, ⟨h1, h2⟩, h3⟩; exact ⟨q, h1, h3, h2⟩
  · rintro ⟨q, h1, h2, h3⟩; exact ⟨q, ⟨h1, h3⟩, h2⟩
theorem look_rest {n : Int} {S : List Fi} (hs : asc S) (k : Int) : look k (rest n S) = if k ∈ told n S then none else look k S := by
  apply look_eq (asc_rest hs).names
  intro q
  have hm : q ∈ rest n S ↔ q ∈ S ∧ ¬ q.en ≤ n := by unfold rest; rw [List.mem_filter]; simp
  rw [hm]
  by_cases hk : k ∈ told n S
  · rw [if_pos hk]
    obtain ⟨p, hp, hpn, hpe⟩ := mem_told.1 hk
    constructor
    · intro e; cases e
    · rintro ⟨⟨h1, h2⟩, h3⟩
      have e1 := look_mem hs.names h1
      have e2 := look_mem hs.names hp
      rw [h3, ← hpn, e2] at e1
      have := Option.some.inj e1
      subst this
      exact absurd hpe h2
  · rw [if_neg hk, look_iff hs.names]
    constructor
    · rintro ⟨h1, h2⟩; exact ⟨⟨h1, fun e => hk (mem_told.2 ⟨q, h1, h2, e⟩)⟩, h2⟩
    · rintro ⟨⟨h1, _⟩, h2⟩; exact ⟨h1, h2⟩
theorem rup_lo (t : Int) : t ≤ rup t := by unfold rup; omega
theorem rup_hi (t : Int) : rup t ≤ t + 3 := by unfold rup; omega

structure Inv (now : Int) (S : List Fi) (H T : Nat → Int) : Prop where
  up : asc S
  nums : ∀ p ∈ S, 1 ≤ p.nm ∧ p.nm ≤ 9
  at' : ∀ s : Nat, 1 ≤ s → s ≤ 9 → look s S = if T s = 0 then none else some ⟨s, T s, rup (H s + T s)⟩
  rng : ∀ s : Nat, 1 ≤ s → s ≤ 9 → 0 ≤ T s ∧ T s ≤ 40 ∧ 0 ≤ H s ∧ H s ≤ now
theorem Inv.start : Inv 0 [] (fun _ => 0) (fun _ => 0) := ⟨.nil, (fun p hp => by cases hp), (fun s _ _ => by simp [look]), (fun s _ _ => by simp)⟩
theorem Inv.add {now : Int} {S : List Fi} {H T : Nat → Int} (h : Inv now S H T) (s : Nat) (hs : 1 ≤ s ∧ s ≤ 9) (t : Int) (ht : 1 ≤ t ∧ t ≤ 40) (hn : 0 ≤ now) : Inv now (addS now s t S) (upd H s now) (upd T s t) := by
  refine ⟨asc_insS h.up, fun p hp => ?_, fun k h1 h2 => ?_, fun k h1 h2 => ?_⟩
  · rcases (mem_insS h.up).1 hp with rfl | ⟨hp, _⟩
    · show 1 ≤ (s : Int) ∧ (s : Int) ≤ 9; omega
    · exact h.nums p hp
  · unfold addS
    rw [look_ins h.up]
    unfold upd
    by_cases hk : k = s
    · subst hk
      rw [if_pos (show (k : Int) = (hear now k t).nm from rfl), if_pos rfl, if_pos rfl, if_neg (by omega)]; rfl
    · rw [if_neg (show ¬ (k : Int) = (hear now s t).nm by show ¬ (k : Int) = (s : Int); omega), if_neg hk, if_neg hk]
      exact h.at' k h1 h2
  · have := h.rng k h1 h2
    unfold upd
    split <;> omega
theorem Inv.touch {now : Int} {S : List Fi} {H T : Nat → Int} (h : Inv now S H T) (s : Nat) (hs : 1 ≤ s ∧ s ≤ 9) (hn : 0 ≤ now) : Inv now (touchS now s S) (upd H s now) T := by
  have hr : ∀ k : Nat, 1 ≤ k → k ≤ 9 → 0 ≤ T k ∧ T k ≤ 40 ∧ 0 ≤ upd H s now k ∧ upd H s now k ≤ now := by
    intro k h1 h2
    have := h.rng k h1 h2
    unfold upd
    split <;> omega
  have ha := h.at' s hs.1 hs.2
  unfold touchS
  by_cases h0 : T s = 0
  · rw [if_pos h0] at ha
    rw [ha]
    refine ⟨h.up, h.nums, fun k h1 h2 => ?_, hr⟩
    by_cases hk : k = s
    · subst hk; rw [if_pos h0, ha]
    · rw [h.at' k h1 h2]; unfold upd; rw [if_neg hk]
  · rw [if_neg h0] at ha
    rw [ha]
    refine ⟨asc_insS h.up, fun p hp => ?_, fun k h1 h2 => ?_, hr⟩
    · rcases (mem_insS h.up).1 hp with rfl | ⟨hp, _⟩
      · show 1 ≤ (s : Int) ∧ (s : Int) ≤ 9; omega
      · exact h.nums p hp
    · show look k (insS (hear now s (T s)) S) = _
      rw [look_ins h.up]
      by_cases hk : k = s
      · subst hk
        rw [if_pos (show (k : Int) = (hear now k (T k)).nm from rfl), if_neg h0]
        unfold upd; rw [if_pos rfl]; rfl
      · rw [if_neg (show ¬ (k : Int) = (hear now s (T s)).nm by show ¬ (k : Int) = (s : Int); omega)]
        rw [h.at' k h1 h2]; unfold upd; rw [if_neg hk]
theorem Inv.isIn {now : Int} {S : List Fi} {H T : Nat → Int} (h : Inv now S H T) (s : Nat) (hs : 1 ≤ s ∧ s ≤ 9) : (look s S).isSome = decide (0 < T s) := by
  have := h.rng s hs.1 hs.2
  rw [h.at' s hs.1 hs.2]
  by_cases h0 : T s = 0
  · rw [if_pos h0, h0]; rfl
  · rw [if_neg h0, decide_eq_true (by omega)]; rfl
theorem Inv.remove {now : Int} {S : List Fi} {H T : Nat → Int} (h : Inv now S H T) (s : Nat) (hs : 1 ≤ s ∧ s ≤ 9) : Inv now (delL s S) H (upd T s 0) := by
  refine ⟨asc_delL h.up, fun p hp => h.nums p ((del_sub _ S).subset hp), fun k h1 h2 => ?_, fun k h1 h2 => ?_⟩
  · rw [look_del h.up]
    by_cases hk : k = s
    · subst hk; unfold upd; rw [if_pos rfl, if_pos rfl, if_pos rfl]
    · rw [if_neg (by omega)]; unfold upd; rw [if_neg hk]; exact h.at' k h1 h2
  · have := h.rng k h1 h2
    unfold upd
    split <;> omega
/- What is left of the timeouts when the sessions of l are gone. -/
def lessT (T : Nat → Int) (l : List Int) : Nat → Int := fun s => if (s : Int) ∈ l then 0 else T s
theorem lessT_nil (T : Nat → Int) : lessT T [] = T := by funext s; simp [lessT]
theorem lessT_snoc (T : Nat → Int) (l : List Int) (s : Nat) : lessT T (l ++ [(s : Int)]) = upd (lessT T l) s 0 := by
  funext k
  unfold lessT upd
  by_cases hk : k = s
  · subst hk; simp
  · rw [if_neg hk]
    have : ((k : Int) ∈ l ++ [(s : Int)]) ↔ (k : Int) ∈ l := by
      simp only [List.mem_append, List.mem_singleton]
      constructor
      · rintro (h | h)
        · exact h
        · omega
      · exact .inl
    simp only [this]
theorem Inv.tick {now : Int} {S : List Fi} {H T : Nat → Int} (h : Inv now S H T) (n : Int) (hn : now ≤ n) : Inv n (rest n S) H (lessT T (told n S)) := by
  refine ⟨asc_rest h.up, fun p hp => h.nums p (List.mem_filter.1 hp).1, fun k h1 h2 => ?_, fun k h1 h2 => ?_⟩
  · rw [look_rest h.up]
    unfold lessT
    by_cases hk : (k : Int) ∈ told n S
    · rw [if_pos hk, if_pos hk, if_pos rfl]
    · rw [if_neg hk, if_neg hk]; exact h.at' k h1 h2
  · have := h.rng k h1 h2
    unfold lessT
    split <;> omega
theorem Inv.gone {now : Int} {S : List Fi} {H T : Nat → Int} (h : Inv now S H T) {n g : Int} (hg : g ∈ told n S) : ∃ s : Nat, g = s ∧ 1 ≤ s ∧ s ≤ 9 ∧ 0 < T s ∧ H s + T s ≤ n := by
  obtain ⟨q, hq, hqn, hqe⟩ := mem_told.1 hg
  have hr := h.nums q hq
  obtain ⟨s, hs⟩ : ∃ s : Nat, q.nm = s := ⟨q.nm.toNat, by omega⟩
  have h1 : 1 ≤ s := by omega
  have h2 : s ≤ 9 := by omega
  have ha := h.at' s h1 h2
  have hl := look_mem h.up.names hq
  rw [hs] at hl
  rw [hl] at ha
  have hrg := h.rng s h1 h2
  by_cases h0 : T s = 0
  · rw [if_pos h0] at ha; cases ha
  · rw [if_neg h0] at ha
    have hqq := Option.some.inj ha
    have : q.en = rup (H s + T s) := by rw [hqq]
    have := rup_lo (H s + T s)
    exact ⟨s, by omega, h1, h2, by omega, by omega⟩
theorem Inv.late {now : Int} {S : List Fi} {H T : Nat → Int} (h : Inv now S H T) {n : Int} {s : Nat} (h1 : 1 ≤ s) (h2 : s ≤ 9) (ht : 0 < lessT T (told n S) s) : n < H s + lessT T (told n S) s + 3 := by
  unfold lessT at *
  by_cases hk : (s : Int) ∈ told n S
  · rw [if_pos hk] at ht; omega
  · rw [if_neg hk] at ht ⊢
    have ha := h.at' s h1 h2
    rw [if_neg (by omega)] at ha
    obtain ⟨hm, hnm⟩ := look_some ha
    have : ¬ rup (H s + T s) ≤ n := fun e => hk (mem_told.2 ⟨_, hm, hnm, e⟩)
    have := rup_hi (H s + T s)
    omega
theorem Inv.len {now : Int} {S : List Fi} {H T : Nat → Int} (h : Inv now S H T) : S.length ≤ 9 := by
  have hn := h.up.names
  have hsub : (S.map fun p => p.nm) ⊆ [1, 2, 3, 4, 5, 6, 7, 8, 9] := by
    intro x hx
    obtain ⟨p, hp, rfl⟩ := List.mem_map.1 hx
    have := h.nums p hp
    simp only [List.mem_cons, List.not_mem_nil, or_false]
    omega
  have := List.Nodup.length_le_of_subset hn hsub
  simpa using this
end Go.Proofs.Ytbehainbggdpeaa
