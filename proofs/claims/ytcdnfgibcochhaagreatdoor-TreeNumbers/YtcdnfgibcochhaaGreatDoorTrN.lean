/- No tree, and one that nobody made: what is done to it, and what it tells. -/
import Derived.Test.YtcdnfgibcochhaaGreatDoorTrS
import Derived.Laws.Cover3
namespace Go.Proofs.YtcdnfgibcochhaaGreatDoor
set_option linter.unusedVariables false
open Go.RowKit Go.MapKept
set_option linter.unusedVariables false

theorem neqN (w : World) (m : Option Nat) : (binOp .neq 35 (.map m) (.map none)).run Tryz.prog w = .ok (.bool (!m.isNone)) w := run_neq_map_nil w 35 9 77 m undM
def NoTree (w : World) (v : Value) : Prop := v = .pointer none ∨ ∃ d, v = .pointer (some ⟨d, 0, none⟩) ∧ w.cell? ⟨d, 0, none⟩ = some (.map none)
theorem tcell_lt {w : World} {d : Nat} {x : Value} (h : w.cell? ⟨d, 0, none⟩ = some x) : d < w.heap.size := by
  rcases Nat.lt_or_ge d w.heap.size with h1 | h1
  · exact h1
  · simp [World.cell?, Array.getElem?_eq_none h1] at h
theorem NoTree.below {w w' : World} {v : Value} (h : NoTree w v) (hb : Below w.heap.size w w') : NoTree w' v := by
  rcases h with h | ⟨d, rfl, hc⟩
  · exact .inl h
  · exact .inr ⟨d, rfl, by rw [World.cell?_of_block (hb.block d (tcell_lt hc))]; exact hc⟩
set_option maxRecDepth 100000 in
theorem there_no {w : World} {v : Value} (h : NoTree w v) : Calls Tryz.prog 33 #[v] w fun e w' => e = .returned (.bool false) ∧ w' = w := by
  have hm := neqN
  rcases h with rfl | ⟨d, rfl, h⟩
  · go_enter Tryz.func33, Tryz.ntmps33
    go_wp2_with fail
    go_ret
    exact ⟨rfl, rfl⟩
  · go_enter Tryz.func33, Tryz.ntmps33
    go_wp2_with fail
    go_ret
    exact ⟨rfl, rfl⟩
set_option maxRecDepth 100000 in
theorem there_yes {w : World} {d m : Nat} (h : w.cell? ⟨d, 0, none⟩ = some (.map (some m))) : Calls Tryz.prog 33 #[.pointer (some ⟨d, 0, none⟩)] w fun e w' => e = .returned (.bool true) ∧ w' = w := by
  have hm := neqN
  go_enter Tryz.func33, Tryz.ntmps33
  go_wp2_with fail
  go_ret
  exact ⟨rfl, rfl⟩
set_option maxRecDepth 100000 in
theorem copy_no {w : World} {v : Value} (h : NoTree w v) : Calls Tryz.prog 19 #[v] w fun e w' => e = .returned (.pointer none) ∧ w' = w := by
  have ht := there_no h
  clear h
  go_enter Tryz.func19, Tryz.ntmps19
  go_wp2_with fail
  refine ht.mono ?_
  rintro e w1 ⟨rfl, rfl⟩
  clear ht
  go_wp2_with fail
  go_ret
  exact ⟨rfl, rfl⟩
set_option maxRecDepth 100000 in
theorem sittings_no {w : World} {v : Value} (h : NoTree w v) : Calls Tryz.prog 18 #[v] w fun e w' => e = .returned (.slice none 0 0) ∧ Below w.heap.size w w' := by
  have ht := there_no h
  clear h
  go_enter Tryz.func18, Tryz.ntmps18
  go_wp2_with fail
  refine ht.mono ?_
  rintro e w1 ⟨rfl, rfl⟩
  clear ht
  go_wp2_with fail
  go_ret
  exact ⟨rfl, Below.refl _ _⟩
set_option maxRecDepth 100000 in
theorem all_no {w : World} {v : Value} (h : NoTree w v) : Calls Tryz.prog 23 #[v] w fun e w' => e = .returned (.slice none 0 0) ∧ Below w.heap.size w w' := by
  have ht := there_no h
  clear h
  go_enter Tryz.func23, Tryz.ntmps23
  go_wp2_with fail
  refine ht.mono ?_
  rintro e w1 ⟨rfl, rfl⟩
  clear ht
  go_wp2_with fail
  go_ret
  exact ⟨rfl, Below.refl _ _⟩
set_option maxRecDepth 100000 in
theorem owned_no {w : World} {v : Value} (h : NoTree w v) (s : Int) : Calls Tryz.prog 16 #[v, .int .i64 s] w fun e w' => e = .returned (.slice none 0 0) ∧ Below w.heap.size w w' := by
  have ht := there_no h
  clear h
  go_enter Tryz.func16, Tryz.ntmps16
  go_wp2_with fail
  refine ht.mono ?_
  rintro e w1 ⟨rfl, rfl⟩
  clear ht
  go_wp2_with fail
  go_ret
  exact ⟨rfl, Below.refl _ _⟩
set_option maxRecDepth 100000 in
theorem load_no {w : World} {v : Value} (h : NoTree w v) (l : Value) : Calls Tryz.prog 20 #[v, l] w fun e w' => e = .returned (.int .i64 1) ∧ Below w.heap.size w w' := by
  have ht := there_no h
  clear h
  go_enter Tryz.func20, Tryz.ntmps20
  go_wp2_with fail
  refine ht.mono ?_
  rintro e w1 ⟨rfl, rfl⟩
  clear ht
  go_wp2_with fail
  go_ret
  exact ⟨rfl, Below.refl _ _⟩
set_option maxRecDepth 100000 in
theorem seat_no {w : World} {v : Value} (h : NoTree w v) (l : Value) : Calls Tryz.prog 21 #[v, l] w fun e w' => e = .returned (.tuple #[]) ∧ Below w.heap.size w w' := by
  have ht := there_no h
  clear h
  go_enter Tryz.func21, Tryz.ntmps21
  go_wp2_with fail
  refine ht.mono ?_
  rintro e w1 ⟨rfl, rfl⟩
  clear ht
  go_wp2_with fail
  exact bodyPost_ret (results_none Tryz.results21 _ _ _) rfl ⟨rfl, Below.refl _ _⟩
theorem NoTree.lay {w : World} {v : Value} (h : NoTree w v) (o : Obj) : NoTree (w.alloc o) v := h.below ((Below.refl _ _).alloc (Nat.le_refl _) o)
theorem lay1 (w : World) (o : Obj) : Below w.heap.size w (w.alloc o) := (Below.refl _ _).alloc (Nat.le_refl _) o
set_option maxRecDepth 100000 in
theorem apply_no {w : World} {v : Value} (h : NoTree w v) (cs : Array Value) : Calls Tryz.prog 12 #[v, .agg cs] w fun e w' => e = .returned (.tuple #[]) ∧ Below w.heap.size w w' := by
  have ht := there_no (h.lay (.cells cs 31))
  clear h
  go_enter Tryz.func12, Tryz.ntmps12
  go_wp2_with fail
  refine ht.mono ?_
  rintro e w1 ⟨rfl, hw⟩
  have HB : Hid (Below w.heap.size w w1) := by rw [hw]; exact lay1 _ _
  clear ht hw
  go_wp2_with fail
  exact bodyPost_ret (results_none Tryz.results12 _ _ _) rfl ⟨rfl, HB.out⟩
end Go.Proofs.YtcdnfgibcochhaaGreatDoor
