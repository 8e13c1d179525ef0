/- Trees: Same of two trees that are alike. -/
import Derived.Test.YteaomigmamnobaaGreatDoorTrEf
import Derived.Test.YteaomigmamnobaaGreatDoorTrSm
namespace Go.Proofs.YteaomigmamnobaaGreatDoor
set_option linter.unusedSimpArgs false
set_option linter.unusedVariables false
open Go.RowKit Go.MapKept
set_option linter.unusedVariables false
set_option linter.unusedSimpArgs false
set_option maxRecDepth 100000 in
set_option maxHeartbeats 4000000 in
theorem same_yes {w : World} {t m n t' m' n' : Nat} {L L' : List Fv} {K K' : List Si.Fv} (h : Tk w t m n L K) (h' : Tk w t' m' n' L' K') (hl : L.length = L'.length) (hs : ∀ p ∈ L, ∃ y, look p.1.nm L' = some (p.1, y)) (hk : K.length = K'.length) (hs2 : ∀ p ∈ K, Si.look p.1.nm K' = some p) :
    Calls Tryz.prog 10 #[.pointer (some ⟨t, 0, none⟩), .pointer (some ⟨t', 0, none⟩)] w fun e w' => e = .returned (.bool true) ∧ Below w.heap.size w w' := by
  have hc0 := cell_at h.cell 0
  have hc1 := cell_at h.cell 1
  have hd0 := cell_at h'.cell 0
  have hd1 := cell_at h'.cell 1
  simp at hc0 hc1 hd0 hd1
  have h1 := there_yes hc0
  have h2 := there_yes hd0
  have hE : Hid (∀ {w' : World}, Below w.heap.size w w' → Calls Tryz.prog 34 #[.map (some m), .map (some m'), .func (.func 35) #[] #[]] w' fun e w'' => e = .returned (.bool true) ∧ Below w'.heap.size w' w'') := fun hb =>
    equalFunc_yes (h.below hb).nodes (h'.below hb).nodes hl hs (fun p hp => Bs.of_owns ((h.below hb).bs p hp)) (fun p hp => Bs.of_owns ((h'.below hb).bs p hp))
  have hF : Hid (∀ {w' : World}, Below w.heap.size w w' → Calls Tryz.prog 36 #[.map (some n), .map (some n')] w' fun e w'' => e = .returned (.bool true) ∧ Below w'.heap.size w' w'') := fun hb =>
    Si.equal_yes (h.below hb).seats (h'.below hb).seats hk hs2
  have HC : Hid (∀ {w' : World}, Below w.heap.size w w' → w'.cell? ⟨t, 0, none⟩ = some (.map (some m)) ∧ w'.cell? ⟨t', 0, none⟩ = some (.map (some m')) ∧ w'.cell? ⟨t, 1, none⟩ = some (.map (some n)) ∧ w'.cell? ⟨t', 1, none⟩ = some (.map (some n'))) := fun hb => by
    have e0 := cell_at (h.below hb).cell 0
    have e1 := cell_at (h.below hb).cell 1
    have e2 := cell_at (h'.below hb).cell 0
    have e3 := cell_at (h'.below hb).cell 1
    simp at e0 e1 e2 e3
    exact ⟨e0, e2, e1, e3⟩
  clear h h' hl hs hk hs2
  go_enter Tryz.func10, Tryz.ntmps10
  go_wp2_with fail
  refine h1.mono ?_
  rintro e w1 ⟨rfl, hw1⟩
  obtain rfl : w = w1 := hw1.symm
  go_wp2_with fail
  refine h2.mono ?_
  rintro e w1 ⟨rfl, hw1⟩
  obtain rfl : w = w1 := hw1.symm
  clear h1 h2
  go_wp2_with fail
  have HD : Hid (Below w.heap.size w w.drew) := (Below.refl _ _).drew
  have hEd := hE.out HD.out
  go_region_held3 (fun w' => w'.cell? ⟨t, 0, none⟩ = some (.map (some m)) ∧ w'.cell? ⟨t', 0, none⟩ = some (.map (some m')) ∧ w'.cell? ⟨t, 1, none⟩ = some (.map (some n)) ∧ w'.cell? ⟨t', 1, none⟩ = some (.map (some n')))
    (first | exact ⟨hc0, hd0, hc1, hd1⟩ | exact HC.out HB5.out | exact HC.out HB6.out | go_keep)
    (first
      | (go_at_call 34; refine hEd.mono ?_; rintro e w5 ⟨rfl, hB5⟩; have HB5 : Hid (Below w.heap.size w w5) := HD.out.trans hB5; have hFd := hF.out HB5.out)
      | (go_at_call 36; refine hFd.mono ?_; rintro e w6 ⟨rfl, hB6⟩; have HB6 : Hid (Below w.heap.size w w6) := HB5.out.trans (hB6.mono HB5.out.size)))
  clear hEd hFd
  go_wp2_with fail
  go_ret
  exact ⟨rfl, HB6.out⟩
end Go.Proofs.YteaomigmamnobaaGreatDoor
