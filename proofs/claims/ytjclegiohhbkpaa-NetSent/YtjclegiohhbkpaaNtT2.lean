/- A row of NetSent's loses one element: what stands ahead of it, and what stands behind it, put together anew. -/
import Derived.Test.YtjclegiohhbkpaaNtT1
namespace Go.Proofs.Ytjclegiohhbkpaa
open Go.RowKit Go.MapKept

theorem Rw.cellAt {w : World} {g n C : Nat} {L : List (List UInt8 × Value)} (h : Rw w (.slice (some ⟨g, 0, none⟩) n C) L) : ∀ j u, (L.map Prod.snd)[j]? = some u → w.cell? ⟨g, j, none⟩ = some u := by
  intro j u hu
  have hj : j < L.length := by
    have := (List.getElem?_eq_some_iff.1 hu).1
    simpa using this
  rcases h.row.2 with ⟨h0, _⟩ | ⟨g', cap, cur, hv, _⟩
  · cases h0
  · cases hv
    rw [World.ownsRow.cellAt h.row j (by simpa using hj)]
    exact hu
theorem Rw.cut {w : World} {g C : Nat} {L : List (List UInt8 × Value)} (h : Rw w (.slice (some ⟨g, 0, none⟩) L.length C) L) {i : Nat} (hi : i < L.length) (hL : L.length ≤ 1000) (o' C' : Nat) (ho : o' = i + 1 ∨ L.length = i + 1) :
    ∃ v1 w1 A2 C2 w2, (Builtin.append_ #[42, 42] 42 #[.slice (some ⟨w.heap.size, 0, none⟩) 0 0, .slice (some ⟨g, 0, none⟩) i C]).run Try.prog (w.alloc (.cells #[] 27)) = .ok v1 w1 ∧
      (Builtin.append_ #[42, 42] 42 #[v1, .slice (some ⟨g, o', none⟩) (L.length - (i + 1)) C']).run Try.prog w1 = .ok (.slice A2 (L.length - 1) C2) w2 ∧
      Rw w2 (.slice A2 (L.length - 1) C2) (L.eraseIdx i) ∧ Below w.heap.size w w1 ∧ Below w.heap.size w w2 ∧ ∀ k, blk (.slice A2 (L.length - 1) C2) = some k → w.heap.size ≤ k := by
  obtain ⟨i0, hi0, hz0, hz1, hz2⟩ := info_parts info27
  have hone : ∀ l : List (List UInt8 × Value), (∀ x ∈ l, x ∈ L) → ∀ u ∈ l.map Prod.snd, u.oneCell' = true := by
    intro l hl u hu
    obtain ⟨x, hx, rfl⟩ := List.mem_map.1 hu
    obtain ⟨A, C, e⟩ := owns_formT (h.els x (hl x hx))
    rw [e]; rfl
  have b0 : Below w.heap.size w (w.alloc (.cells #[] 27)) := below1 _ _
  have hcl : ∀ W, Below w.heap.size w W → ∀ j u, (L.map Prod.snd)[j]? = some u → W.cell? ⟨g, j, none⟩ = some u := fun W hW j u hu => (h.below hW).cellAt j u hu
  have hown0 : (w.alloc (.cells #[] 27)).ownsRow w.heap.size 27 1 (.slice (some ⟨w.heap.size, 0, none⟩) 0 0) 0 [] :=
    ⟨rfl, .inr ⟨w.heap.size, 0, #[], rfl, Nat.le_refl _, heap_alloc_new w _, Nat.le_refl _, by unfold maxLen; omega, rfl, rfl⟩⟩
  obtain ⟨v1, w1, hr1, ho1, hg1, hn1, hl1⟩ := run_append_own_at (P := Try.prog) (w.alloc (.cells #[] 27)) w.heap.size 42 42 27 i0 (.slice none 0 0) 1 24 Try.underlying42 hi0 hz0 hz1 hz2 rfl (by decide) _ 0 [] hown0 ⟨g, 0, none⟩ i C ((L.take i).map Prod.snd) (by simp; omega)
    (fun j u hu => by
      rw [show (⟨g, 0, none⟩ : Addr).add j = ⟨g, j, none⟩ by simp only [Addr.add]; split <;> simp_all]
      refine hcl _ b0 j u ?_
      rw [List.map_take, List.getElem?_take] at hu
      split at hu
      · exact hu
      · cases hu)
    (hone _ (fun x hx => List.mem_of_mem_take hx)) (by unfold maxLen; omega) (by omega) (by simp)
  have b1 : Below w.heap.size w w1 := b0.trans ((Chg.of_grown hg1).below (fun k hk => by cases hk; exact Nat.le_refl _) (by simp))
  obtain ⟨v2, w2, hr2, ho2, hg2, hn2, hl2⟩ := run_append_own_at (P := Try.prog) w1 w.heap.size 42 42 27 i0 (.slice none 0 0) 1 24 Try.underlying42 hi0 hz0 hz1 hz2 rfl (by decide) v1 (0 + i) ([] ++ (L.take i).map Prod.snd) ho1 ⟨g, o', none⟩ (L.length - (i + 1)) C' ((L.drop (i + 1)).map Prod.snd) (by simp)
    (fun j u hu => by
      rw [show (⟨g, o', none⟩ : Addr).add j = ⟨g, o' + j, none⟩ by simp only [Addr.add]; split <;> simp_all]
      rw [List.map_drop, List.getElem?_drop] at hu
      rcases ho with rfl | e
      · exact hcl _ b1 _ u hu
      · have := (List.getElem?_eq_some_iff.1 hu).1
        simp at this; omega)
    (hone _ (fun x hx => List.mem_of_mem_drop hx)) (by unfold maxLen; omega) (by omega) b1.size
  have hlen : 0 + i + (L.length - (i + 1)) = L.length - 1 := by omega
  have hel : [] ++ (L.take i).map Prod.snd ++ (L.drop (i + 1)).map Prod.snd = (L.eraseIdx i).map Prod.snd := by
    rw [List.nil_append, ← List.map_append, List.eraseIdx_eq_take_drop_succ]
  rw [hlen, hel] at ho2
  obtain ⟨A2, C2, rfl⟩ := owns_formT ho2
  have b2 : Below w.heap.size w w2 := b1.trans ((Chg.of_grown hg2).below (fun k hk => by obtain ⟨_, _, q⟩ := owns_blockT ho1 hk; exact q) b1.size)
  have hll : (L.eraseIdx i).length = L.length - 1 := by rw [List.length_eraseIdx]; simp [hi]
  refine ⟨v1, w1, A2, C2, w2, hr1, hr2, ⟨?_, fun x hx => ?_⟩, b1, b2, fun k hk => ?_⟩
  · rw [hll]; exact owns_lowT ho2 (Nat.zero_le _)
  · exact owns_keepT (h.els x (List.mem_of_mem_eraseIdx hx)) (Chg.of_below b2) (fun _ _ => id)
  · obtain ⟨_, _, q⟩ := owns_blockT ho2 hk; exact q
end Go.Proofs.Ytjclegiohhbkpaa
