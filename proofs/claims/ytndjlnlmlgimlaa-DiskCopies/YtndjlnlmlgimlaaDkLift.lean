/- What a row of bytes that comes in gives: where it lies, and how long it may be. -/
import Derived.Test.YtndjlnlmlgimlaaRows
import Derived.ProofKit
import Derived.OpenShut
import Derived.ShutString
import Derived.ChangeOld
import Derived.SizedLaws
import Derived.Test.YtndjlnlmlgimlaaDkBase
namespace Go.Proofs.Ytndjlnlmlgimlaa
open Go.ChangeShapes Go.WideShapes Go.ChangeAt Go.RowKit

theorem wf_u8 {n : Int} (h : (Lit.int .u8 n).wf = true) : 0 ≤ n ∧ n < 256 := by
  have : 0 ≤ n ∧ n ≤ 255 := by simpa [Lit.wf, IntKind.min, IntKind.max, IntKind.signed, IntKind.bits] using h
  omega
theorem wf_i64 {n : Int} (h : (Lit.int .i64 n).wf = true) : -9223372036854775808 ≤ n ∧ n < 9223372036854775808 := by
  have : -9223372036854775808 ≤ n ∧ n ≤ 9223372036854775807 := by simpa [Lit.wf, IntKind.min, IntKind.max, IntKind.signed, IntKind.bits] using h
  omega
def toB (zs : List Int) : List UInt8 := zs.map fun n => UInt8.ofNat n.toNat
theorem toB_len (zs : List Int) : (toB zs).length = zs.length := by simp [toB]
theorem toB_at (zs : List Int) (h : ∀ n ∈ zs, (Lit.int .u8 n).wf = true) (j : Nat) (hj : j < zs.length) (hj2 : j < (toB zs).length) : (((toB zs)[j]'hj2).toNat : Int) = zs.getD j 0 := by
  have h1 := wf_u8 (h _ (List.getElem_mem hj))
  simp only [toB, List.getElem_map, List.getD_eq_getElem?_getD, List.getElem?_eq_getElem hj, Option.getD_some, UInt8.toNat_ofNat']
  omega
theorem plain_add (b o j : Nat) : (⟨b, o, none⟩ : Addr).add j = ⟨b, o + j, none⟩ := by simp only [Addr.add]; split <;> simp_all
theorem bytes_read {H : Type} {enc : TypeId × Value → H} {W : World} {fuel : Nat} {cs : List Value} {x : DataW H × List MemPlace}
    (hf : DataW.trod enc Try.prog W 0 (fun _ => true) true fuel 28 cs = some x) :
    ∃ l A C, cs = [.slice A l.length C] ∧ Bs W (.slice A l.length C) l ∧ ((∀ y ∈ DataW.weights Try.prog 28 x.1, y ≤ reachBytes) → l.length ≤ 140737488351232) ∧ (x.1 = .nil ∧ l = [] ∨ ∃ zs sp : List Int, x.1 = .slice (lits .u8 zs) (lits .u8 sp) ∧ zs.length = l.length) := by
  rcases open_ints Try.underlying28 Try.underlying5 (by kernel_rfl) hf with ⟨hcs, hx⟩ | ⟨a, len, cap, zs, hcs, _, hl, hm, hz, hx, hcell, hwz⟩
  · exact ⟨[], none, 0, hcs, Bs.nil _, fun _ => by simp, .inl ⟨by rw [hx], rfl⟩⟩
  · simp only [if_true] at hz
    have hlen : (toB (zs.take len)).length = len := by rw [toB_len, List.length_take]; omega
    refine ⟨toB (zs.take len), some a, cap, by rw [hlen]; exact hcs, ?_, fun hw => ?_, .inr ⟨zs.take len, zs.drop len, by rw [hx], by rw [hlen, List.length_take]; omega⟩⟩
    · by_cases h0 : 0 < len
      · obtain ⟨b, o, spot⟩ := a
        have hsp : spot = none := by simpa [Addr.add] using World.cell?_spot (hcell 0 (by omega))
        subst hsp
        have hlt : b < W.heap.size := World.block_lt_of_cell? W _ (hcell 0 (by omega))
        refine Bs.mk b o cap rfl (by omega) hlt fun j hj => ?_
        have hj2 : j < len := by omega
        rw [toB_at (zs.take len) (fun n hn => hwz n (List.mem_of_mem_take hn)) j (by rw [List.length_take]; omega)]
        have := hcell j (by omega)
        rw [plain_add] at this
        rw [this]
        simp [List.getD_eq_getElem?_getD, hj2]
      · have e : toB (zs.take len) = [] := List.length_eq_zero_iff.1 (by omega)
        rw [e]
        exact .inr (.inl ⟨a, cap, rfl, rfl⟩)
    · have hb : Try.prog.bytesOf 5 = 1 := by kernel_rfl
      have := hw (((lits IntKind.u8 (zs.take len) : List (DataW H)).length + (lits IntKind.u8 (zs.drop len) : List (DataW H)).length) * Try.prog.bytesOf 5) (by
        rw [hx]
        simp only [DataW.weights, Try.underlying28]
        exact List.mem_cons_self)
      rw [hb] at this
      have hr : reachBytes = 140737488351232 := rfl
      rw [hr] at this
      simp [lits] at this
      omega
theorem bytes_in {H : Type} {enc : TypeId × Value → H} {W : World} {fuel : Nat} {a : Option Addr} {len cap : Nat} {d : DataW H} {p : List MemPlace}
    (hf : DataW.trod enc Try.prog W 0 (fun _ => true) true fuel 28 (Value.slice a len cap).cells.toList = some (d, p)) :
    ∃ l, Bs W (.slice a len cap) l ∧ ((∀ x ∈ DataW.weights Try.prog 28 d, x ≤ reachBytes) → l.length ≤ 140737488351232) ∧ (d = .nil ∧ l = [] ∨ ∃ zs sp : List Int, d = .slice (lits .u8 zs) (lits .u8 sp) ∧ zs.length = l.length) := by
  obtain ⟨l, A, C, hcs, h1, h2, h3⟩ := bytes_read hf
  simp [Value.cells] at hcs
  obtain ⟨rfl, rfl, rfl⟩ := hcs
  exact ⟨l, h1, h2, h3⟩
end Go.Proofs.Ytndjlnlmlgimlaa
