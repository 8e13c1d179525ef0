/- What configs that come in give: where they lie, and how many members each may have. -/
import Derived.Test.YtohhbhkpekieiaaLiftE
namespace Go.Proofs.Ytohhbhkpekieiaa
open Go.ChangeShapes Go.WideShapes Go.ChangeAt Go.RowKit

theorem weights_all {H : Type} {P : Program} {e : TypeId} {d : DataW H} {y : Nat} : ∀ {ds : List (DataW H)}, d ∈ ds → y ∈ DataW.weights P e d → y ∈ DataW.weightsAll P e ds
  | [], h, _ => by simp at h
  | x :: r, h, hy => by
    simp only [DataW.weightsAll, List.mem_append]
    rcases List.mem_cons.1 h with rfl | h
    · exact .inl hy
    · exact .inr (weights_all h hy)
set_option maxRecDepth 100000 in
theorem cfgs_in {H : Type} {enc : TypeId × Value → H} {W : World} {a : Option Addr} {len cap : Nat} {d : DataW H} {p : List MemPlace}
    (h : DataW.Trod enc Try.prog W 0 (fun _ => true) true 37 (.slice a len cap) d p) :
    ∃ l, Cfgs W W.heap.size (.slice a len cap) l ∧ l.length ≤ maxLen ∧ ((∀ y ∈ DataW.weights Try.prog 37 d, y ≤ reachBytes) → ∀ c ∈ l, c.2.length ≤ 4398046511104) := by
  obtain ⟨fuel, hf⟩ := h
  rcases Go.Deep.open_slice Try.underlying37 hf with ⟨hcs, hx⟩ | ⟨ad, len', cap', m, n, D, Pl, hcs, _, hl, hmx, hm, hx, hel⟩
  · simp [Value.cells] at hcs
    obtain ⟨rfl, rfl, rfl⟩ := hcs
    exact ⟨[], .inl ⟨rfl, rfl⟩, by simp, fun _ c hc => by simp at hc⟩
  · simp [Value.cells] at hcs
    obtain ⟨rfl, rfl, rfl⟩ := hcs
    simp only [if_true] at hm
    subst hm
    have hd : d = .slice ((List.range len).map D) ((List.range (m - len)).map fun j => D (len + j)) := congrArg Prod.fst hx
    by_cases h0 : 0 < len
    · obtain ⟨cs0, hc0, _⟩ := hel 0 (by omega)
      obtain ⟨b, o, spot⟩ := ad
      rw [ens_cells] at hel hc0
      have hsp : spot = none := by
        unfold World.cells? at hc0
        rw [if_pos (Nat.zero_le _), show List.range 2 = [0, 1] from rfl] at hc0
        simp only [List.mapM_cons] at hc0
        cases h : W.cell? ((({ block := b, off := o, spot := spot } : Addr).add (0 * 2)).add 0) with
        | none => simp [h] at hc0
        | some u => simpa [Addr.add] using World.cell?_spot h
      subst hsp
      have key : ∀ i, i < len → ∃ z : Cfg, (W.cell? ⟨b, o + i * 2, none⟩ = some (.int .i64 z.1) ∧ ∃ A C, W.cell? ⟨b, o + i * 2 + 1, none⟩ = some (.slice A z.2.length C) ∧ Mems W (.slice A z.2.length C) z.2) ∧ ((∀ y ∈ DataW.weights Try.prog 25 (D i), y ≤ reachBytes) → z.2.length ≤ 4398046511104) := by
        intro i hi
        obtain ⟨cs', hc1, hc2⟩ := hel i (by omega)
        rw [plain_add] at hc1
        obtain ⟨v0, v1, rfl, c0, c1⟩ := cells2 hc1
        obtain ⟨y0, y1, n', hy, _, t0, t1⟩ := Go.ChangeShapes.trod_struct2 Try.underlying25 hc2
        obtain ⟨z0, hz0, _, w0⟩ := DataW.trod_int Try.underlying22 t0
        obtain ⟨l, A, C, hcs, h1, h2, h3, h4⟩ := mems_read t1
        have e0 : v0 = .int .i64 z0 := by have := hz0; revert this; simp [show Try.prog.cellsOf 22 = 1 by kernel_rfl]
        have e1 : v1 = .slice A l.length C := by have := hcs; revert this; simp [show Try.prog.cellsOf 23 = 1 by kernel_rfl]
        subst e0; subst e1
        refine ⟨(z0, l), ⟨c0, A, C, c1, h1⟩, fun hw => h4 fun y hy' => hw y ?_⟩
        rw [show D i = .agg [y0.1, y1.1] from congrArg Prod.fst hy]
        simp [DataW.weights, Try.underlying25, DataW.weightsEach, hy']
      obtain ⟨l, hll, hp⟩ := list_of _ len key
      refine ⟨l, .inr (.inr ⟨by omega, b, o, m, by rw [hll], by omega, ?_, Nat.le_refl _, fun j hj => ?_⟩), by omega, fun hw c hc => ?_⟩
      · obtain ⟨z, ⟨hz, _⟩, _⟩ := key 0 h0
        exact World.block_lt_of_cell? W _ hz
      · obtain ⟨⟨c0, A, C, c1, hm⟩, _⟩ := hp j hj
        exact ⟨c0, A, C, c1, hm, fun k hk => hm.lt hk⟩
      · obtain ⟨j, hj, rfl⟩ := List.getElem_of_mem hc
        refine (hp j hj).2 fun y hy => hw y ?_
        rw [hd]
        simp only [DataW.weights, Try.underlying37, List.mem_cons, List.mem_append]
        exact .inr (.inl (weights_all (List.mem_map.2 ⟨j, List.mem_range.2 (by omega), rfl⟩) hy))
    · have hl0 : len = 0 := by omega
      subst hl0
      exact ⟨[], .inr (.inl ⟨ad, m, rfl, rfl⟩), by simp, fun _ c hc => by simp at hc⟩
end Go.Proofs.Ytohhbhkpekieiaa
