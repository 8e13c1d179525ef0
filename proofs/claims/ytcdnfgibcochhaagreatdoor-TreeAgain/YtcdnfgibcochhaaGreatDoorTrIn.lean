/- What a row of numbers that comes in gives. -/
import Derived.Test.YtcdnfgibcochhaaGreatDoorTrWb
import Derived.Test.YtcdnfgibcochhaaGreatDoorDdIn
import Derived.ChangeSlices
import Derived.Deep.Slices
namespace Go.Proofs.YtcdnfgibcochhaaGreatDoor
set_option linter.unusedSimpArgs false
set_option linter.unusedVariables false
set_option linter.unusedSimpArgs false
set_option linter.unusedVariables false
open Go.ChangeShapes Go.WideShapes Go.ChangeAt Go.RowKit

theorem wf_num {n : Int} (h : (Lit.int .i64 n).wf = true) : I64 n := by
  exact wf_i64 h
set_option maxRecDepth 100000 in
theorem nums_in {H : Type} {enc : TypeId × Value → H} {W : World} {a : Option Addr} {len cap : Nat} {d : DataW H} {p : List MemPlace}
    (h : DataW.Trod enc Tryz.prog W 0 (fun _ => true) true 65 (Value.slice a len cap) d p) :
    ∃ l : List Int, len = l.length ∧ NRow W a l ∧ l.length ≤ 9223372036854775807 := by
  obtain ⟨fuel, hf⟩ := h
  rcases open_ints Tryz.underlying65 Tryz.underlying3 (by kernel_rfl) hf with ⟨hcs, hx⟩ | ⟨a', len', cap', zs, hcs, _, hl, hm, hz, hx, hcell, hwz⟩
  · simp [Value.cells] at hcs
    obtain ⟨rfl, rfl, rfl⟩ := hcs
    exact ⟨[], rfl, ⟨fun x hx => (by cases hx), fun j hj => absurd hj (by simp)⟩, by simp⟩
  · simp [Value.cells] at hcs
    obtain ⟨rfl, rfl, rfl⟩ := hcs
    simp only [if_true] at hz
    have hlen : (zs.take len).length = len := by rw [List.length_take]; omega
    have hmx : maxLen = 9223372036854775807 := rfl
    refine ⟨zs.take len, hlen.symm, ⟨fun n hn => wf_num (hwz n (List.mem_of_mem_take hn)), fun j hj => ?_⟩, by omega⟩
    have hj' : j < len := by omega
    have := hcell j (by omega)
    obtain ⟨b, o, spot⟩ := a'
    have hsp : spot = none := by simpa [Addr.add] using World.cell?_spot (hcell 0 (by omega))
    subst hsp
    refine ⟨b, o, rfl, ?_⟩
    have e : (⟨b, o, none⟩ : Addr).add j = ⟨b, o + j, none⟩ := by unfold Addr.add; split <;> simp_all
    rw [e] at this
    rw [this, List.getElem_take]
    simp [List.getD_eq_getElem?_getD, show j < zs.length by omega]
end Go.Proofs.YtcdnfgibcochhaaGreatDoor
