/- The document's disk: a copy. -/
import Derived.Test.YtndjlnlmlgimlaaDfG
namespace Go.Proofs.Ytndjlnlmlgimlaa
open Go.RowKit Go.MapKept

theorem new_ownF (W : World) : (W.alloc (.cells #[] 64)).ownsRow W.heap.size 64 3 (.slice (some ⟨W.heap.size, 0, none⟩) 0 0) 0 [] :=
  ⟨rfl, .inr ⟨W.heap.size, 0, #[], rfl, Nat.le_refl _, heap_alloc_new W _, Nat.le_refl _, by unfold maxLen; omega, rfl, rfl⟩⟩
theorem copy_row {W : World} {base r : Nat} {room : Int} {A1 : Option Addr} {N C1 : Nat} {L : List Fv} (h : Rk W base r room (.slice A1 N C1) L) (hN : N = L.length) (hL : L.length ≤ 1000000) :
    ∃ A2 C2 W2, (Builtin.append_ #[46, 46] 46 #[.slice (some ⟨W.heap.size, 0, none⟩) 0 0, .slice A1 N C1]).run Try.prog (W.alloc (.cells #[] 64)) = .ok (.slice A2 N C2) W2 ∧ W2.ownsRow W.heap.size 64 3 (.slice A2 N C2) N (L.flatMap cel) ∧ Below W.heap.size W W2 := by
  subst hN
  obtain ⟨i0, hi0, hz0, hz1, hz2⟩ := info_parts infoF
  rcases h.row.2 with ⟨e, h0⟩ | ⟨g, cap, cur, e, hb, hg, hc, hm, hs, ht⟩
  · injection e with e1 e2 e3
    subst e1 e3
    rw [h0]
    have hL0 : L = [] := List.length_eq_zero_iff.1 h0
    subst hL0
    refine ⟨_, _, _, run_append_owned_none (P := Try.prog) _ W.heap.size 46 46 64 i0 3 Try.underlying46 hi0 _ 0 [] (new_ownF W), new_ownF W, below1 _ _⟩
  · injection e with e1 e2 e3
    subst e1 e3
    have hr := h.alloc (.cells #[] 64)
    obtain ⟨v', w', hr, ho, hgr, hn0, hl⟩ := run_append_own_at (P := Try.prog) (W.alloc (.cells #[] 64)) W.heap.size 46 46 64 i0 (.agg #[.string ⟨#[]⟩, .slice none 0 0, .int .i64 0]) 3 48 Try.underlying46 hi0 hz0 hz1 hz2 rfl (by decide) _ 0 [] (new_ownF W) ⟨g, 0, none⟩ L.length C1 (L.flatMap cel) (cel_len L)
      (fun t u hu => by have := hr.row.cells (g := g) rfl t u hu; exact this) (cel_one h (fun p hp => hp)) (by unfold maxLen; omega) (by omega) (by simp)
    simp only [Nat.zero_add, List.nil_append] at ho
    obtain ⟨A2, C2, rfl⟩ := owns_formN ho
    refine ⟨A2, C2, w', hr, ho, (below1 _ _).trans ((Chg.of_grown hgr).below (fun k hk => by cases hk; exact Nat.le_refl _) (by simp))⟩
set_option maxRecDepth 100000 in
set_option maxHeartbeats 4000000 in
theorem rcopy_any {w : World} {base r : Nat} {room : Int} {v : Value} {L : List Fv} (hb : base ≤ w.heap.size) (h : Rk w base r room v L) (hL : L.length ≤ 1000000) :
    Calls Try.prog 15 #[.pointer (some ⟨r, 0, none⟩)] w fun e w' => ∃ s v', e = .returned (.pointer (some ⟨s, 0, none⟩)) ∧ Rk w' base s room v' L ∧ w.heap.size ≤ s ∧ (∀ g, blk v' = some g → w.heap.size ≤ g) ∧ Below w.heap.size w w' := by
  obtain ⟨A1, C1, rfl⟩ := owns_formN h.row
  have hc := h.head
  obtain ⟨c0, c1⟩ := hc
  have hrl := heap_lt h.cell
  obtain ⟨N, hN⟩ : ∃ N, N = L.length := ⟨_, rfl⟩
  rw [← hN] at c1 h
  obtain ⟨A2, C2, W2, hr2, ho2, hB2⟩ := copy_row (W := w.drew) h.drew hN hL
  have hB : Below w.heap.size w W2 := ((Below.refl w.heap.size w).drew).trans hB2
  have a := (h.alloc (.cells #[] 64)).head
  obtain ⟨a0, a1⟩ := a
  have b := (h.below hB).head
  obtain ⟨b0, b1⟩ := b
  have HH : Hid (Rk w base r room (.slice A1 N C1) L ∧ Below w.heap.size w W2 ∧ N = L.length ∧ W2.ownsRow w.heap.size 64 3 (.slice A2 N C2) N (L.flatMap cel) ∧ base ≤ w.heap.size) := ⟨h, hB, hN, ho2, hb⟩
  clear h hN hL hb hB ho2 hB2
  go_enter Try.func15, Try.ntmps15
  go_wp2_with fail
  go_region_law (first
    | (refine step_app1 46 rfl (.tmp 7) (.tmp 11) rfl _ _ _ _ rfl rfl hr2 ?_))
  all_goals
    go_wp2_with fail
    go_ret
    obtain ⟨h, hB, hN, ho, hb⟩ := HH.out
    have h2 := h.below hB
    refine ⟨W2.heap.size, .slice A2 N C2, rfl, ⟨heap_alloc_new W2 _, ?_, ?_, h.fits, h.rm, Nat.le_trans hb hB.size⟩, hB.size, ?_, hB.alloc hB.size _⟩
    · rw [← hN]; exact owns_lowN (owns_keepN ho (Chg.alloc Non _ _) (fun _ _ => id)) hb
    · intro p hp
      exact owns_keepN (h2.bs p hp) (Chg.alloc Non _ _) (fun _ _ => id)
    · intro k hk
      obtain ⟨cur, hc, hle⟩ := owns_blockN ho hk
      exact hle
end Go.Proofs.Ytndjlnlmlgimlaa
