/- Links that are not there. -/
import Derived.Test.YtnonboegnbnepaaLkG
namespace Go.Proofs.Ytnonboegnbnepaa
set_option linter.unusedVariables false
open Go.RowKit
set_option linter.unusedVariables false

/- No link, or one that nobody made. -/
def NoLink (w : World) (v : Value) : Prop := v = .pointer none ∨ ∃ d, v = .pointer (some ⟨d, 0, none⟩) ∧ w.cell? ⟨d, 0, none⟩ = some (.int .i64 0)
theorem NoLink.below {w w' : World} {v : Value} (h : NoLink w v) (hb : Below w.heap.size w w') : NoLink w' v := by
  rcases h with h | ⟨d, rfl, hc⟩
  · exact .inl h
  · exact .inr ⟨d, rfl, by rw [World.cell?_of_block (hb.block d (cell_lt hc))]; exact hc⟩
set_option maxRecDepth 100000 in
theorem there_no {w : World} {v : Value} (h : NoLink w v) : Calls Try.prog 30 #[v] w fun e w' => e = .returned (.bool false) ∧ w' = w := by
  rcases h with rfl | ⟨d, rfl, h⟩
  · go_enter Try.func30, Try.ntmps30
    go_wp2_with fail
    go_ret
    exact ⟨rfl, rfl⟩
  · go_enter Try.func30, Try.ntmps30
    go_wp2_with fail
    go_ret
    exact ⟨rfl, rfl⟩
set_option maxRecDepth 100000 in
theorem known_no {w : World} {v : Value} (h : NoLink w v) : Calls Try.prog 27 #[v] w fun e w' => e = .returned (.bool false) ∧ w' = w := by
  have ht := there_no h
  clear h
  go_enter Try.func27, Try.ntmps27
  go_wp2_with fail
  refine ht.mono ?_
  rintro e w1 ⟨rfl, rfl⟩
  go_wp2_with fail
  go_ret
  exact ⟨rfl, rfl⟩
set_option maxRecDepth 100000 in
theorem wait_no {w : World} {v : Value} (h : NoLink w v) : Calls Try.prog 26 #[v] w fun e w' => e = .returned (.int .i64 0) ∧ w' = w := by
  have ht := there_no h
  clear h
  go_enter Try.func26, Try.ntmps26
  go_wp2_with fail
  refine ht.mono ?_
  rintro e w1 ⟨rfl, rfl⟩
  go_wp2_with fail
  go_ret
  exact ⟨rfl, rfl⟩
set_option maxRecDepth 100000 in
theorem send_no {w : World} {v x : Value} (h : NoLink w v) : Calls Try.prog 12 #[v, x] w fun e w' => e = .returned (.int .i64 1) ∧ w' = w := by
  have ht := there_no h
  clear h
  go_enter Try.func12, Try.ntmps12
  go_wp2_with fail
  refine ht.mono ?_
  rintro e w1 ⟨rfl, rfl⟩
  go_wp2_with fail
  go_ret
  exact ⟨rfl, rfl⟩
set_option maxRecDepth 100000 in
theorem out_no {w : World} {v : Value} (h : NoLink w v) : Calls Try.prog 24 #[v] w fun e w' => e = .returned (pkV ⟨0, 0, 0, 0, []⟩ none 0) ∧ Below w.heap.size w w' := by
  have ht := there_no (h.below (below1 w (.cells #[.int .i64 0, .int .i64 0, .int .i64 0, .int .i64 0, .slice none 0 0] 32)))
  clear h
  go_enter Try.func24, Try.ntmps24
  go_wp2_with fail
  refine ht.mono ?_
  rintro e w1 ⟨rfl, hw1⟩
  have HX : Hid (w1.heap[w.heap.size]? = some (.cells #[.int .i64 0, .int .i64 0, .int .i64 0, .int .i64 0, .slice none 0 0] 32 (0, 0))) := by rw [hw1]; exact heap_alloc_new w _
  have HB : Hid (Below w.heap.size w w1) := by rw [hw1]; exact below1 _ _
  have x0 := cell_at HX.out 0
  have x1 := cell_at HX.out 1
  have x2 := cell_at HX.out 2
  have x3 := cell_at HX.out 3
  have x4 := cell_at HX.out 4
  have fx := frozen_at HX.out
  simp at x0 x1 x2 x3 x4
  clear hw1
  go_wp2_with fail
  have H9 := set_all (w := w1) (n := w.heap.size) HX.out (.int .i64 0) (.int .i64 0) (.int .i64 0) (.int .i64 0) (.slice none 0 0)
  have y0 := cell_at H9.1 0
  have y1 := cell_at H9.1 1
  have y2 := cell_at H9.1 2
  have y3 := cell_at H9.1 3
  have y4 := cell_at H9.1 4
  simp only [List.getElem?_toArray, List.getElem?_cons_succ, List.getElem?_cons_zero] at y0 y1 y2 y3 y4
  have HC := H9.2.below (fun k hk => Nat.le_of_eq hk.symm) HB.out.size
  generalize (((((w1.setCell ⟨w.heap.size, 0, none⟩ (.int .i64 0)).setCell ⟨w.heap.size, 1, none⟩ (.int .i64 0)).setCell ⟨w.heap.size, 2, none⟩ (.int .i64 0)).setCell ⟨w.heap.size, 3, none⟩ (.int .i64 0)).setCell ⟨w.heap.size, 4, none⟩ (.slice none 0 0)) = W9 at y0 y1 y2 y3 y4 HC ⊢
  refine bodyPost_ret (v := pkV ⟨0, 0, 0, 0, []⟩ none 0) (by simp [results, Try.results24, go_sem, y0, y1, y2, y3, y4, pkV]) rfl ⟨rfl, HB.out.trans HC⟩
set_option maxRecDepth 100000 in
theorem take_no {w : World} {v : Value} (h : NoLink w v) (p : Pkt) (A : Option Addr) (C : Nat) : Calls Try.prog 17 #[v, pkV p A C] w fun e w' => e = .returned (.tuple #[.slice none 0 0, .bool false, .bool false]) ∧ Below w.heap.size w w' := by
  have ht := fun q => there_no (h.below (below_drewN (below1 w (.cells #[.int .i64 p.fr, .int .i64 p.to, .int .i64 p.seq, .int .i64 p.ack, .slice A p.load.length C] 32)) q))
  unfold pkV
  clear h
  go_enter Try.func17, Try.ntmps17
  go_wp2_with fail
  go_quiet ((go_at_call 30; exact Calls.quiet_of_same (ht _)))
  go_wp2_with fail
  go_ret3
  exact ⟨rfl, below_drewN (below1 _ _) _⟩
/- A packet held against itself. -/
set_option maxRecDepth 100000 in
theorem samePk_eq {w : World} {p : Pkt} {A B : Option Addr} {C D : Nat} (hA : Bs w (.slice A p.load.length C) p.load) (hB : Bs w (.slice B p.load.length D) p.load) (hl : p.load.length ≤ 140737488355328) :
    Calls Try.prog 23 #[pkV p A C, pkV p B D] w fun e w' => e = .returned (.bool true) ∧ Below w.heap.size w w' := by
  have hb := below2 w (.cells #[.int .i64 p.fr, .int .i64 p.to, .int .i64 p.seq, .int .i64 p.ack, .slice A p.load.length C] 32) (.cells #[.int .i64 p.fr, .int .i64 p.to, .int .i64 p.seq, .int .i64 p.ack, .slice B p.load.length D] 32)
  have hs := same_any (hA.below' hb) (hB.below' hb) hl
  rw [decide_eq_true rfl] at hs
  have HB : Hid _ := hb
  unfold pkV
  clear hA hB hb
  go_enter Try.func23, Try.ntmps23
  go_wp2_with fail
  refine hs.mono ?_
  rintro e w1 ⟨rfl, q, rfl⟩
  go_wp2_with fail
  go_ret
  exact ⟨rfl, below_drewN HB.out q⟩
end Go.Proofs.Ytnonboegnbnepaa
