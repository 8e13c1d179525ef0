/- What rows of bytes that come in give. -/
import Derived.Test.YtniopcfjekpnjaaDkLift
import Derived.Test.YtniopcfjekpnjaaDkCr
import Derived.Deep.Slices
namespace Go.Proofs.Ytniopcfjekpnjaa
open Go.ChangeShapes Go.WideShapes Go.ChangeAt Go.RowKit

theorem list_of {α : Type} (P : Nat → α → Prop) : ∀ n, (∀ i, i < n → ∃ x, P i x) → ∃ l : List α, l.length = n ∧ ∀ i (h : i < l.length), P i (l[i]'h)
  | 0, _ => ⟨[], rfl, fun i h => by simp at h⟩
  | n + 1, h => by
    obtain ⟨l, hl, hp⟩ := list_of P n (fun i hi => h i (by omega))
    obtain ⟨x, hx⟩ := h n (by omega)
    refine ⟨l ++ [x], by simp [hl], fun i hi => ?_⟩
    by_cases hlt : i < l.length
    · rw [List.getElem_append_left hlt]; exact hp i hlt
    · have : i = l.length := by simp at hi; omega
      subst this
      rw [List.getElem_append_right (Nat.le_refl _)]
      simp only [Nat.sub_self, List.getElem_cons_zero]
      rw [hl]; exact hx
theorem cells_at {w : World} {b o n : Nat} {cs : List Value} (h : w.cells? 0 ⟨b, o, none⟩ n = some cs) : cs.length = n ∧ ∀ i, i < n → w.cell? ⟨b, o + i, none⟩ = cs[i]? := by
  unfold World.cells? at h
  rw [if_pos (Nat.zero_le _)] at h
  refine ⟨by simpa using mapM_some_length h, fun i hi => ?_⟩
  have := mapM_some_get h i i (by simp [hi])
  rwa [plain_add] at this
set_option maxRecDepth 100000 in
theorem rows_in {H : Type} {enc : TypeId × Value → H} {W : World} {a : Option Addr} {len cap : Nat} {d : DataW H} {p : List MemPlace}
    (h : DataW.Trod enc Try.prog W 0 (fun _ => true) true 48 (.slice a len cap) d p) : ∃ l, Rws W (.slice a len cap) l ∧ True := by
  obtain ⟨fuel, hf⟩ := h
  rcases Go.Deep.open_slice Try.underlying48 hf with ⟨hcs, hx⟩ | ⟨ad, len', cap', m, n, D, Pl, hcs, _, hl, hmx, hm, hx, hel⟩
  · simp [Value.cells] at hcs
    obtain ⟨rfl, rfl, rfl⟩ := hcs
    exact ⟨[], .inl ⟨rfl, rfl⟩, trivial⟩
  · simp [Value.cells] at hcs
    obtain ⟨rfl, rfl, rfl⟩ := hcs
    simp only [if_true] at hm
    subst hm
    have hc1 : Try.prog.cellsOf 28 = 1 := by kernel_rfl
    by_cases h0 : 0 < len
    · obtain ⟨cs0, hc0, hd0⟩ := hel 0 (by omega)
      obtain ⟨b, o, spot⟩ := ad
      rw [hc1] at hel hc0
      have hsp : spot = none := by
        unfold World.cells? at hc0
        rw [if_pos (Nat.zero_le _), show List.range 1 = [0] from rfl] at hc0
        simp only [List.mapM_cons] at hc0
        cases h : W.cell? ((({ block := b, off := o, spot := spot } : Addr).add (0 * 1)).add 0) with
        | none => simp [h] at hc0
        | some u => simpa [Addr.add] using World.cell?_spot h
      subst hsp
      have key : ∀ i, i < len → ∃ t : List UInt8, ∃ A C, W.cell? ⟨b, o + i, none⟩ = some (.slice A t.length C) ∧ Bs W (.slice A t.length C) t := by
        intro i hi
        obtain ⟨cs', hk1, hk2⟩ := hel i (by omega)
        rw [plain_add, Nat.mul_one] at hk1
        obtain ⟨t, A, C, hs, hb, _⟩ := bytes_read hk2
        subst hs
        obtain ⟨-, hcc⟩ := cells_at hk1
        have := hcc 0 (by decide)
        rw [Nat.add_zero] at this
        exact ⟨t, A, C, this, hb⟩
      obtain ⟨l, hll, hp⟩ := list_of _ len key
      refine ⟨l, .inr (.inr ⟨by omega, b, o, m, by rw [hll], by omega, ?_, fun j hj => ?_⟩), trivial⟩
      · obtain ⟨t, A, C, ht, _⟩ := key 0 h0
        exact World.block_lt_of_cell? W _ ht
      · have e : l.getD j [] = l[j]'hj := by simp [hj]
        rw [e]
        exact hp j hj
    · have hl0 : len = 0 := by omega
      subst hl0
      exact ⟨[], .inr (.inl ⟨ad, m, rfl, rfl⟩), trivial⟩
end Go.Proofs.Ytniopcfjekpnjaa
