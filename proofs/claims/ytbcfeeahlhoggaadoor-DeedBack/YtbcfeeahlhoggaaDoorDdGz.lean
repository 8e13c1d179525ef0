/- What ensemble.Get leaves, in one form. -/
import Derived.Test.YtbcfeeahlhoggaaDoorDdGa
namespace Go.Proofs.YtbcfeeahlhoggaaDoor.DD
open Go.RowKit

theorem get_or {w : World} {x : Value} {b : List UInt8} (hx : Bs w x b) (hb : b.length ≤ 140737488355328) :
    Calls Tryd.prog 57 #[x] w fun e w' => ∃ AM CM eo, e = .returned (.tuple #[.agg #[.int .i64 (cfgOr (cfgOf b)).1, .slice AM (cfgOr (cfgOf b)).2.length CM], .int .i64 eo]) ∧ Mems w' (.slice AM (cfgOr (cfgOf b)).2.length CM) (cfgOr (cfgOf b)).2 ∧ (∀ k, bk (.slice AM (cfgOr (cfgOf b)).2.length CM) = some k → w.heap.size ≤ k ∧ k < w'.heap.size) ∧ Below w.heap.size w w' := by
  refine (get_any hx hb).mono ?_
  intro e w' h
  cases hc : cfgOf b with
  | none =>
    rw [hc] at h
    obtain ⟨rfl, hB⟩ := h
    exact ⟨none, 0, 4, rfl, .inl ⟨rfl, rfl⟩, (fun k hk => absurd hk (bk_zero _ _ _)), hB⟩
  | some y =>
    rw [hc] at h
    obtain ⟨ver, ml⟩ := y
    obtain ⟨v, rfl, ho, hB⟩ := h
    have hm := mems_of_owns ho
    have hl : ∀ k, bk v = some k → w.heap.size ≤ k ∧ k < w'.heap.size := fun k hk => ho.lt k (bk_blk hk)
    obtain ⟨A, C, rfl⟩ := hm.form
    exact ⟨A, C, 0, rfl, hm, hl, hB⟩
end Go.Proofs.YtbcfeeahlhoggaaDoor.DD
