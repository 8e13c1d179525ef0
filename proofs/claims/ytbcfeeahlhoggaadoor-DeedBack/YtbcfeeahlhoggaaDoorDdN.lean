/- A right deed's config, and its parts', are small. -/
import Derived.Test.YtbcfeeahlhoggaaDoorDd2
namespace Go.Proofs.YtbcfeeahlhoggaaDoor.DD

theorem mems_zero {f : Fl} (hb : bareB f = true) (h : ¬ f.kind = 7) : f.mems = [] := by
  refine ((bare_fields hb f.kind rfl).2.2.2.2.2.2.2.1 ?_).2
  unfold allow
  simp only [h, if_false]
  repeat' split
  all_goals rfl
theorem right_mems {f : Fl} {ps : List Fl} (hf : DedFit f ps) (hr : rightD f ps = true) : f.mems.length ≤ 140737488355328 ∧ ∀ p ∈ ps, p.mems.length ≤ 140737488355328 := by
  have h := rightD_fits hr
  have hc := com_parts (fits_com h).1
  constructor
  · by_cases h7 : f.kind = 7
    · unfold fitsB at h
      have hn : ¬ isNode f.kind = true := by rw [h7]; decide
      rw [if_neg hn] at h
      unfold kindB at h
      simp only [h7] at h
      simp at h
      have hk := h.2.2
      unfold chk at hk
      split at hk
      · simp at hk
      · omega
    · rw [mems_zero hc.1 h7]; simp
  · intro p hp
    cases hh : hasParts f.kind with
    | false =>
      have h0 := np_zero hc.1 hh
      have : ps = [] := List.length_eq_zero_iff.1 (by rw [← hf.len]; exact h0)
      subst this
      simp at hp
    | true =>
      obtain ⟨h1, h2, h3⟩ := (fits_parts h hh).2 p hp
      rw [mems_zero (com_parts (leaf_parts h3).2.1).1 (by have := node_kind h1; omega)]
      simp
end Go.Proofs.YtbcfeeahlhoggaaDoor.DD
