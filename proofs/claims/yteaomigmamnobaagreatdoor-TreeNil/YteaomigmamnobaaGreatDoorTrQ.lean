/- TreeNil's none: a tree that isn't there does and tells nothing. -/
import Derived.Test.YteaomigmamnobaaGreatDoorTrO
import Derived.Lib.QuietBelow
import Derived.BigQuiet
import Derived.Deep.RegionWith
namespace Go.Proofs.YteaomigmamnobaaGreatDoor
set_option linter.unusedVariables false
open Go.RowKit Go.MapKept Go.Sort
set_option linter.unusedVariables false

set_option maxRecDepth 100000 in
theorem none_yes {w : World} {v : Value} (h : NoTree w v) (c0 c1 c2 c3 c4 c5 c6 c7 c8 c9 c10 c11 c12 c13 c14 c15 : Value) : Calls Tryz.prog 9 #[v, .agg #[c0, c1, c2, c3, c4, c5, c6, c7, c8, c9, c10, c11, c12, c13, c14, c15]] w fun e w' => e = .returned (.bool true) ∧ Below w.heap.size w w' := by
  have H : Hid (∀ U, Below w.heap.size w U → NoTree U v) := fun U hU => h.below hU
  have ha := apply_no (h.lay (.cells #[c0, c1, c2, c3, c4, c5, c6, c7, c8, c9, c10, c11, c12, c13, c14, c15] 31)) #[c0, c1, c2, c3, c4, c5, c6, c7, c8, c9, c10, c11, c12, c13, c14, c15]
  clear h
  go_enter Tryz.func9, Tryz.ntmps9
  go_wp2_with fail
  refine ha.mono ?_
  rintro e w1 ⟨rfl, hb⟩
  have HB1 : Hid (Below w.heap.size w w1) := (lay1 w _).trans (hb.mono (by simp))
  clear ha hb
  have hs := fun o l => seat_no (H.out (w1.alloc o) (HB1.out.trans ((lay1 w1 o).mono HB1.out.size))) l
  go_wp2_with fail
  refine (hs _ _).mono ?_
  rintro e w2 ⟨rfl, hb⟩
  have HB2 : Hid (Below w.heap.size w w2) := HB1.out.trans (((lay1 w1 _).trans (hb.mono (by simp))).mono HB1.out.size)
  have hg := fun p => get_no (H.out w2 HB2.out) p
  clear hs hb HB1
  go_wp2_with fail
  refine (hg _).mono ?_
  rintro e w3 ⟨rfl, hb⟩
  have HB3 : Hid (Below w.heap.size w w3) := HB2.out.trans (hb.mono HB2.out.size)
  have hl := fun o p => list_no (H.out (w3.alloc o) (HB3.out.trans ((lay1 w3 o).mono HB3.out.size))) p
  clear hg hb HB2
  go_wp2_with fail
  refine (hl _ _).mono ?_
  rintro e w4 ⟨rfl, hb⟩
  have HB4 : Hid (Below w.heap.size w w4) := HB3.out.trans (((lay1 w3 _).trans (hb.mono (by simp))).mono HB3.out.size)
  clear hl hb HB3
  have hA := all_no (H.out w4 HB4.out)
  go_wp2_with fail
  refine hA.mono ?_
  rintro e w5 ⟨rfl, hb⟩
  have HB5 : Hid (Below w.heap.size w w5) := HB4.out.trans (hb.mono HB4.out.size)
  clear hA hb HB4
  have hO := owned_no (H.out w5 HB5.out) 1
  go_wp2_with fail
  refine hO.mono ?_
  rintro e w6 ⟨rfl, hb⟩
  have HB6 : Hid (Below w.heap.size w w6) := HB5.out.trans (hb.mono HB5.out.size)
  clear hO hb HB5
  have hL := fun o l => load_no (H.out (w6.alloc o) (HB6.out.trans ((lay1 w6 o).mono HB6.out.size))) l
  go_wp2_with fail
  refine (hL _ _).mono ?_
  rintro e w7 ⟨rfl, hb⟩
  have HB7 : Hid (Below w.heap.size w w7) := HB6.out.trans (((lay1 w6 _).trans (hb.mono (by simp))).mono HB6.out.size)
  clear hL hb HB6
  have hS := sittings_no (H.out w7 HB7.out)
  go_wp2_with fail
  refine hS.mono ?_
  rintro e w8 ⟨rfl, hb⟩
  have HB8 : Hid (Below w.heap.size w w8) := HB7.out.trans (hb.mono HB7.out.size)
  clear hS hb HB7
  have hC := copy_no (H.out w8 HB8.out)
  go_wp2_with fail
  refine hC.mono ?_
  rintro e w9 ⟨rfl, hw⟩
  subst hw
  clear hC
  go_wp2_with fail
  go_ret
  exact ⟨rfl, HB8.out⟩
end Go.Proofs.YteaomigmamnobaaGreatDoor
