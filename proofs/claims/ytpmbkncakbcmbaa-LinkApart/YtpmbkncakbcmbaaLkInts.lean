/- What a row of numbers that comes in gives. -/
import Derived.Test.YtpmbkncakbcmbaaLkLift
import Derived.Test.YtpmbkncakbcmbaaLkNs
import Derived.ChangeSlices
import Derived.Deep.Slices
namespace Go.Proofs.Ytpmbkncakbcmbaa
open Go.ChangeShapes Go.WideShapes Go.ChangeAt Go.RowKit

set_option maxRecDepth 100000 in
theorem ints_in {H : Type} {enc : TypeId × Value → H} {W : World} {a : Option Addr} {len cap : Nat} {d : DataW H} {p : List MemPlace}
    (h : DataW.Trod enc Try.prog W 0 (fun _ => true) true 56 (Value.slice a len cap) d p) :
    ∃ l, len = l.length ∧ Ns W (.slice a l.length cap) l := by
  obtain ⟨fuel, hf⟩ := h
  rcases open_ints Try.underlying56 Try.underlying3 (by kernel_rfl) hf with ⟨hcs, hx⟩ | ⟨a', len', cap', zs, hcs, _, hl, hm, hz, hx, hcell, hwz⟩
  · simp [Value.cells] at hcs
    obtain ⟨rfl, rfl, rfl⟩ := hcs
    exact ⟨[], rfl, none, 0, rfl, fun x hx => (by cases hx), fun j hj => absurd hj (by simp)⟩
  · simp [Value.cells] at hcs
    obtain ⟨rfl, rfl, rfl⟩ := hcs
    simp only [if_true] at hz
    have hlen : (zs.take len).length = len := by rw [List.length_take]; omega
    refine ⟨zs.take len, hlen.symm, some a', cap, rfl, fun n hn => wf_i64 (hwz n (List.mem_of_mem_take hn)), fun j hj => ?_⟩
    have hj' : j < len := by omega
    have := hcell j (by omega)
    obtain ⟨b, o, spot⟩ := a'
    have hsp : spot = none := by simpa [Addr.add] using World.cell?_spot (hcell 0 (by omega))
    subst hsp
    refine ⟨b, o, rfl, ?_⟩
    have e : (⟨b, o, none⟩ : Addr).add j = ⟨b, o + j, none⟩ := by unfold Addr.add; split <;> simp_all
    rw [e] at this
    rw [this, List.getElem_take]
    simp [List.getD_eq_getElem?_getD, show j < zs.length by omega]
end Go.Proofs.Ytpmbkncakbcmbaa
