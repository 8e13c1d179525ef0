/- Trees: finding a node; a node's children. -/
import Derived.Test.YteaomigmamnobaaGreatDoorTrG
import Derived.Test.YteaomigmamnobaaGreatDoorTrO
namespace Go.Proofs.YteaomigmamnobaaGreatDoor
set_option linter.unusedSimpArgs false
set_option linter.unusedVariables false
open Go.RowKit Go.MapKept
set_option linter.unusedVariables false
set_option linter.unusedSimpArgs false

theorem trange_below {w w' : World} {B b o : Nat} {cs : List Value} (h : w.rangeAt b o cs) (hb : Below B w w') (hk : b < B) : w'.rangeAt b o cs := fun j v hj => by
  have := h j v hj
  unfold World.cell? at this ⊢
  simp only [hb.block b hk]
  exact this
abbrev nodeA (q : Fi) (A : Option Addr) (C : Nat) : Array Value := #[.slice A q.b.length C, .int .i64 q.st.cz, .int .i64 q.st.mz, .int .i64 q.st.pz, .int .i64 q.st.ct, .int .i64 q.st.mt, .int .i64 q.st.ver, .int .i64 q.st.cv, .int .i64 q.st.own, .int .i64 q.st.len, .int .i64 q.st.chd]
set_option maxRecDepth 100000 in
set_option maxHeartbeats 2000000 in
theorem find_yes {w : World} {t m n : Nat} {L : List Fv} {K : List Si.Fv} (h : Tk w t m n L K) (p : List UInt8) {q : Fi} {A : Option Addr} {C : Nat} (hq : look p L = some (q, .slice A q.b.length C)) :
    Calls Tryz.prog 39 #[.pointer (some ⟨t, 0, none⟩), .string (mkS p)] w fun e w' => e = .returned (.tuple #[.agg (nodeA q A C), .bool true]) ∧ Below w.heap.size w w' := by
  have hA := h.alloc (.cells #[.slice none 0 0, .int .i64 0, .int .i64 0, .int .i64 0, .int .i64 0, .int .i64 0, .int .i64 0, .int .i64 0, .int .i64 0, .int .i64 0, .int .i64 0] 77)
  have hc0 := cell_at hA.cell 0
  simp at hc0
  have hlk := hA.nodes.lookup p true
  rw [hq] at hlk
  simp only [if_true, valOf, Option.getD_some, Option.isSome_some, stV] at hlk
  have hth := there_yes hc0
  clear hA h hq
  go_enter Tryz.func39, Tryz.ntmps39
  go_wp2_with fail
  refine hth.mono ?_
  rintro e w1 ⟨rfl, rfl⟩
  clear hth
  go_wp2_with fail
  refine bodyPost_ret (results_row2 _ _ _ Tryz.results39 w.heap.size rfl (.bool true) rfl (nodeA q A C).toList _ ?_ Tryz.underlying77 rfl (by kernel_rfl)) rfl ⟨rfl, ?_⟩
  · exact trange_below (range_new w (nodeA q A C).toList 77) (lay1 _ _) (by simp)
  · exact (lay1 _ _).trans ((lay1 _ _).mono (by simp))
end Go.Proofs.YteaomigmamnobaaGreatDoor
