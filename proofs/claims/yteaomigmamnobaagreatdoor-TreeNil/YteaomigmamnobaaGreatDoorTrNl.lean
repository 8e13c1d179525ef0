/- TreeNil, over what awake answers. -/
import Derived.Test.YteaomigmamnobaaGreatDoorTrSy
import Derived.Test.YteaomigmamnobaaGreatDoorTrQ
namespace Go.Proofs.YteaomigmamnobaaGreatDoor
set_option linter.unusedSimpArgs false
set_option linter.unusedVariables false
open Go.RowKit Go.MapKept
set_option linter.unusedVariables false
set_option linter.unusedSimpArgs false
set_option maxRecDepth 100000 in
set_option maxHeartbeats 4000000 in
theorem nil_any (haw : ∀ w : World, PA.Laid w → Calls Tryz.prog 8 #[] w fun e w' => e = .returned (.bool true) ∧ Below w.heap.size w w') {w : World} (hL : PA.Laid w) (c0 c1 c2 c3 c4 c5 c6 c7 c8 c9 c10 c11 c12 c13 c14 c15 : Value) :
    Calls Tryz.prog 3 #[.agg #[c0, c1, c2, c3, c4, c5, c6, c7, c8, c9, c10, c11, c12, c13, c14, c15]] w fun e w' => e = .returned (.bool true) ∧ Below w.heap.size w w' := by
  obtain ⟨W0, hW0⟩ : ∃ W0, W0 = w.alloc (.cells #[c0, c1, c2, c3, c4, c5, c6, c7, c8, c9, c10, c11, c12, c13, c14, c15] 31) := ⟨_, rfl⟩
  have hBA : Below w.heap.size w W0 := by rw [hW0]; exact lay1 w _
  have h1 := haw _ (hL.below hBA)
  have HS0 : Hid (w.heap.size < W0.heap.size) := by rw [hW0]; show _ < _; simp
  have HZ : Hid (∀ w', Below W0.heap.size W0 w' → w'.cell? ⟨w.heap.size, 0, none⟩ = some c0 ∧ w'.cell? ⟨w.heap.size, 1, none⟩ = some c1 ∧ w'.cell? ⟨w.heap.size, 2, none⟩ = some c2 ∧ w'.cell? ⟨w.heap.size, 3, none⟩ = some c3 ∧ w'.cell? ⟨w.heap.size, 4, none⟩ = some c4 ∧ w'.cell? ⟨w.heap.size, 5, none⟩ = some c5 ∧ w'.cell? ⟨w.heap.size, 6, none⟩ = some c6 ∧ w'.cell? ⟨w.heap.size, 7, none⟩ = some c7 ∧ w'.cell? ⟨w.heap.size, 8, none⟩ = some c8 ∧ w'.cell? ⟨w.heap.size, 9, none⟩ = some c9 ∧ w'.cell? ⟨w.heap.size, 10, none⟩ = some c10 ∧ w'.cell? ⟨w.heap.size, 11, none⟩ = some c11 ∧ w'.cell? ⟨w.heap.size, 12, none⟩ = some c12 ∧ w'.cell? ⟨w.heap.size, 13, none⟩ = some c13 ∧ w'.cell? ⟨w.heap.size, 14, none⟩ = some c14 ∧ w'.cell? ⟨w.heap.size, 15, none⟩ = some c15) := fun w' hb => by
    have hbx : w'.heap[w.heap.size]? = some (.cells #[c0, c1, c2, c3, c4, c5, c6, c7, c8, c9, c10, c11, c12, c13, c14, c15] 31 (0, 0)) := by rw [hb.block _ HS0.out, hW0]; exact heap_alloc_new w _
    exact ⟨cell_at hbx 0, cell_at hbx 1, cell_at hbx 2, cell_at hbx 3, cell_at hbx 4, cell_at hbx 5, cell_at hbx 6, cell_at hbx 7, cell_at hbx 8, cell_at hbx 9, cell_at hbx 10, cell_at hbx 11, cell_at hbx 12, cell_at hbx 13, cell_at hbx 14, cell_at hbx 15⟩
  have HBA : Hid (Below w.heap.size w W0) := hBA
  have hW0' := hW0
  rw [hW0] at h1
  have h1' : Calls Tryz.prog 8 #[] (w.alloc (.cells #[c0, c1, c2, c3, c4, c5, c6, c7, c8, c9, c10, c11, c12, c13, c14, c15] 31)) fun e w' => e = .returned (.bool true) ∧ Below W0.heap.size W0 w' := by rw [hW0]; exact h1
  clear haw hL hBA h1 hW0 hW0'
  go_enter Tryz.func3, Tryz.ntmps3
  go_wp2_with fail
  refine h1'.mono ?_
  rintro e w1 ⟨rfl, hb⟩
  have HB1 : Hid (Below W0.heap.size W0 w1) := hb
  obtain ⟨z0, z1, z2, z3, z4, z5, z6, z7, z8, z9, z10, z11, z12, z13, z14, z15⟩ := HZ.out _ HB1.out
  clear h1' hb
  have hn := none_yes (w := w1) (v := .pointer none) (.inl rfl) c0 c1 c2 c3 c4 c5 c6 c7 c8 c9 c10 c11 c12 c13 c14 c15
  go_wp2_with fail
  refine hn.mono ?_
  rintro e w2 ⟨rfl, hb⟩
  clear hn z0 z1 z2 z3 z4 z5 z6 z7 z8 z9 z10 z11 z12 z13 z14 z15
  have HB2 : Hid (Below W0.heap.size W0 w2) := HB1.out.trans (hb.mono HB1.out.size)
  have HB2a : Hid (Below W0.heap.size W0 (w2.alloc (.cells #[.map none, .map none] 38))) := HB2.out.alloc HB2.out.size _
  obtain ⟨z0, z1, z2, z3, z4, z5, z6, z7, z8, z9, z10, z11, z12, z13, z14, z15⟩ := HZ.out _ HB2a.out
  have hn := none_yes (w := w2.alloc (.cells #[.map none, .map none] 38)) (v := .pointer (some ⟨w2.heap.size, 0, none⟩)) (.inr ⟨_, rfl, cell_at (heap_alloc_new w2 _) 0⟩) c0 c1 c2 c3 c4 c5 c6 c7 c8 c9 c10 c11 c12 c13 c14 c15
  clear hb
  go_wp2_with fail
  refine hn.mono ?_
  rintro e w3 ⟨rfl, hb⟩
  clear hn z0 z1 z2 z3 z4 z5 z6 z7 z8 z9 z10 z11 z12 z13 z14 z15
  have HB3 : Hid (Below W0.heap.size W0 w3) := HB2a.out.trans (hb.mono HB2a.out.size)
  have HB3a : Hid (Below W0.heap.size W0 (w3.alloc (.cells #[.map none, .map none] 38))) := HB3.out.alloc HB3.out.size _
  have hs := same_no_no (w := w3.alloc (.cells #[.map none, .map none] 38)) (u := .pointer none) (v := .pointer (some ⟨w3.heap.size, 0, none⟩)) (.inl rfl) (.inr ⟨_, rfl, cell_at (heap_alloc_new w3 _) 0⟩)
  clear hb
  go_wp2_with fail
  refine hs.mono ?_
  rintro e w4 ⟨rfl, hw4⟩
  have HB4 : Hid (Below W0.heap.size W0 w4) := by rw [hw4]; exact HB3a.out
  clear hs hw4
  have hn := new_tr w4
  go_wp2_with fail
  refine hn.mono ?_
  rintro e w5 ⟨t5, m5, n5, rfl, hT5, hW5, hb⟩
  have HB5 : Hid (Below W0.heap.size W0 w5) := HB4.out.trans (hb.mono HB4.out.size)
  obtain ⟨L5, K5, hT5, _, _⟩ := hT5
  have hs := same_no_yes (w := w5) (u := .pointer none) (.inl rfl) (cell_at hT5.cell 0)
  clear hn hb hT5 hW5
  go_wp2_with fail
  refine hs.mono ?_
  rintro e w6 ⟨rfl, hw6⟩
  have HB6 : Hid (Below W0.heap.size W0 w6) := by rw [hw6]; exact HB5.out
  clear hs hw6
  have hn := new_tr w6
  go_wp2_with fail
  refine hn.mono ?_
  rintro e w7 ⟨t7, m7, n7, rfl, hT7, hW7, hb⟩
  have HB7 : Hid (Below W0.heap.size W0 w7) := HB6.out.trans (hb.mono HB6.out.size)
  obtain ⟨L7, K7, hT7, _, _⟩ := hT7
  have hs := same_yes_no (w := w7) (v := .pointer none) (cell_at hT7.cell 0) (.inl rfl)
  clear hn hb hT7 hW7
  go_wp2_with fail
  refine hs.mono ?_
  rintro e w8 ⟨rfl, hw8⟩
  have HB8 : Hid (Below W0.heap.size W0 w8) := by rw [hw8]; exact HB7.out
  clear hs hw8
  have hn := new_tr w8
  go_wp2_with fail
  refine hn.mono ?_
  rintro e w9 ⟨t9, m9, n9, rfl, hT9, hW9, hb⟩
  have HB9 : Hid (Below W0.heap.size W0 w9) := HB8.out.trans (hb.mono HB8.out.size)
  obtain ⟨L9, K9, hT9, hL9, hK9⟩ := hT9
  have HT9 : Hid (∀ w', Below w9.heap.size w9 w' → Tk w' t9 m9 n9 L9 K9) := fun w' h => hT9.below h
  clear hn hb hT9 hW9
  have hn := new_tr w9
  go_wp2_with fail
  refine hn.mono ?_
  rintro e w10 ⟨t10, m10, n10, rfl, hT10, hW10, hb⟩
  have HB10 : Hid (Below W0.heap.size W0 w10) := HB9.out.trans (hb.mono HB9.out.size)
  obtain ⟨L10, K10, hT10, hL10, hK10⟩ := hT10
  have hKe : K9 = [] := List.map_eq_nil_iff.1 hK9
  have hKf : K10 = [] := List.map_eq_nil_iff.1 hK10
  have hs := same_yes (HT9.out _ hb) hT10 (by have h1 := congrArg List.length hL9; have h2 := congrArg List.length hL10; simp at h1 h2; omega) (by
      intro p hp
      have e1 : p.1 = ⟨[47], [], zeroSt⟩ := by
        have : p.1 ∈ L9.map Prod.fst := List.mem_map.2 ⟨p, hp, rfl⟩
        rw [hL9] at this
        simpa using this
      rcases L10 with _ | ⟨q, l⟩
      · simp at hL10
      · have e2 : q.1 = ⟨[47], [], zeroSt⟩ := by simpa using (List.cons.inj (by simpa using hL10 : q.1 :: l.map Prod.fst = [⟨[47], [], zeroSt⟩])).1
        refine ⟨q.2, ?_⟩
        unfold look
        rw [e1, e2]
        simp only [if_true]
        rw [← e2])
    (by rw [hKe, hKf]) (by rw [hKe]; intro p hp; simp at hp)
  clear hn hb hT10 hW10 hL9 hL10 hK9 hK10 hKe hKf
  go_wp2_with fail
  refine hs.mono ?_
  rintro e w11 ⟨rfl, hb⟩
  have HB11 : Hid (Below W0.heap.size W0 w11) := HB10.out.trans (hb.mono HB10.out.size)
  clear hs hb
  go_wp2_with fail
  go_ret
  exact ⟨rfl, HBA.out.trans (HB11.out.mono HBA.out.size)⟩
end Go.Proofs.YteaomigmamnobaaGreatDoor
