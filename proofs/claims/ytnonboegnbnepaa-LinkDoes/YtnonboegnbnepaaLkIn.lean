/- What a row of steps that comes in gives. -/
import Derived.Test.YtnonboegnbnepaaLkLift
import Derived.Test.YtnonboegnbnepaaLkDo
namespace Go.Proofs.Ytnonboegnbnepaa
open Go.ChangeShapes Go.WideShapes Go.ChangeAt Go.RowKit

theorem list_of {α : Type} (P : Nat → α → Prop) : ∀ n, (∀ i, i < n → ∃ x, P i x) → ∃ l : List α, l.length = n ∧ ∀ i (h : i < l.length), P i (l[i]'h)
  | 0, _ => ⟨[], rfl, fun i h => by simp at h⟩
  | n + 1, h => by
    obtain ⟨l, hl, hp⟩ := list_of P n (fun i hi => h i (by omega))
    obtain ⟨x, hx⟩ := h n (by omega)
    refine ⟨l ++ [x], by simp [hl], fun i hi => ?_⟩
    by_cases hlt : i < l.length
    · rw [List.getElem_append_left hlt]; exact hp i hlt
    · have : i = l.length := by simp at hi; omega
      subst this
      rw [List.getElem_append_right (Nat.le_refl _)]
      simp only [Nat.sub_self, List.getElem_cons_zero]
      rw [hl]; exact hx
theorem cells_at {w : World} {b o n : Nat} {cs : List Value} (h : w.cells? 0 ⟨b, o, none⟩ n = some cs) : cs.length = n ∧ ∀ i, i < n → w.cell? ⟨b, o + i, none⟩ = cs[i]? := by
  unfold World.cells? at h
  rw [if_pos (Nat.zero_le _)] at h
  refine ⟨by simpa using mapM_some_length h, fun i hi => ?_⟩
  have := mapM_some_get h i i (by simp [hi])
  rwa [plain_add] at this
theorem weights_mem {P : Program} {H : Type} {e : TypeId} : ∀ (l : List (DataW H)) (d : DataW H), d ∈ l → ∀ y ∈ DataW.weights P e d, y ∈ DataW.weightsAll P e l := by
  intro l d hd y hy
  induction l with
  | nil => cases hd
  | cons a l ih =>
    simp only [DataW.weightsAll, List.mem_append]
    rcases List.mem_cons.1 hd with rfl | hd
    · exact .inl hy
    · exact .inr (ih hd)
theorem deed_cells : Try.prog.cellsOf 34 = 8 := by kernel_rfl
set_option maxRecDepth 100000 in
theorem deed_read {H : Type} {enc : TypeId × Value → H} {W : World} {fuel : Nat} {cs : List Value} {x : DataW H × List MemPlace} (hf : DataW.trod enc Try.prog W 0 (fun _ => true) true fuel 34 cs = some x) (hl : cs.length = 8) :
    ∃ (d : Dd) (A1 A2 : Option Addr) (C1 C2 : Nat), cs = [.int .i64 d.kind, .slice A1 d.load.length C1, .int .i64 d.p.fr, .int .i64 d.p.to, .int .i64 d.p.seq, .int .i64 d.p.ack, .slice A2 d.p.load.length C2, .int .i64 d.inc] ∧ d.ok ∧ Bs W (.slice A1 d.load.length C1) d.load ∧ Bs W (.slice A2 d.p.load.length C2) d.p.load ∧
      ((∀ y ∈ DataW.weights Try.prog 34 x.1, y ≤ reachBytes) → d.load.length ≤ 140737488351232 ∧ d.p.load.length ≤ 140737488351232) := by
  obtain ⟨y0, y1, y2, y3, n', hx, _, t0, t1, t2, t3⟩ := Go.Joins.trod_struct4 Try.underlying34 hf
  match cs, hl with
  | [v0, v1, v2, v3, v4, v5, v6, v7], _ =>
  obtain ⟨a0, h0, _, w0⟩ := DataW.trod_int Try.underlying3 t0
  obtain ⟨lb, A1, C1, h1, hB1, hS1, _⟩ := bytes_read t1
  obtain ⟨p, A2, C2, z0, z1, z2, z3, z4, h2, hok, hB2, hz, hS2⟩ := pkt_read t2 (by simp [pkt_cells])
  obtain ⟨a3, h3, _, w3⟩ := DataW.trod_int Try.underlying3 t3
  have e0 : v0 = .int .i64 a0 := by have := h0; revert this; simp [k3]
  have e1 : v1 = .slice A1 lb.length C1 := by have := h1; revert this; simp [kb]
  have e3 : v7 = .int .i64 a3 := by have := h3; revert this; simp [k3]
  simp [pkt_cells] at h2
  obtain ⟨rfl, rfl, rfl, rfl, rfl⟩ := h2
  subst e0 e1 e3
  refine ⟨⟨a0, lb, p, a3⟩, A1, A2, C1, C2, rfl, ⟨wf_i64 w0, hok.1, wf_i64 w3⟩, hB1, hB2, fun hw => ?_⟩
  rw [hx] at hw
  simp only [DataW.weights, Try.underlying34, List.map_cons, List.map_nil, DataW.weightsEach, List.append_nil, List.mem_append, hz, Try.underlying32] at hw
  refine ⟨hS1 fun y hy => hw y (.inr (.inl hy)), hS2 fun y hy => hw y ?_⟩
  refine .inr (.inr (.inl ?_))
  exact .inr (.inr (.inr (.inr hy)))
set_option maxRecDepth 100000 in
theorem deeds_in {H : Type} {enc : TypeId × Value → H} {W : World} {base : Nat} {a : Option Addr} {len cap : Nat} {d : DataW H} {p : List MemPlace}
    (hv : Value.okWide Try.prog W .any base 22 (.slice a len cap)) (h : DataW.Trod enc Try.prog W 0 (fun _ => true) true 22 (.slice a len cap) d p) :
    ∃ l, Dds W (.slice a len cap) l ∧ ((∀ y ∈ DataW.weights Try.prog 22 d, y ≤ reachBytes) → ∀ x ∈ l, x.load.length ≤ 140737488351232 ∧ x.p.load.length ≤ 140737488351232) := by
  obtain ⟨fuel, hf⟩ := h
  rcases Go.Deep.open_slice Try.underlying22 hf with ⟨hcs, hx⟩ | ⟨ad, len', cap', m, n, D, Pl, hcs, _, hl, hmx, hm, hx, hel⟩
  · simp [Value.cells] at hcs
    obtain ⟨rfl, rfl, rfl⟩ := hcs
    exact ⟨[], ⟨none, 0, rfl, fun x hx => by simp at hx, fun j hj => by simp at hj⟩, fun _ x hx => by simp at hx⟩
  · simp [Value.cells] at hcs
    obtain ⟨rfl, rfl, rfl⟩ := hcs
    simp only [if_true] at hm
    subst hm
    simp only [Value.okWide, Try.underlying22, Cell.okWide, Cell.ok] at hv
    obtain ⟨_, _, _, hspot, row, cells, hsh, _⟩ := hv
    obtain ⟨b, o, spot⟩ := ad
    dsimp only at hspot
    subst hspot
    have key : ∀ i, i < len → ∃ x : Dd, x.ok ∧ (∃ A1 A2 C1 C2, W.cell? ⟨b, o + i * 8, none⟩ = some (.int .i64 x.kind) ∧ W.cell? ⟨b, o + i * 8 + 1, none⟩ = some (.slice A1 x.load.length C1) ∧ W.cell? ⟨b, o + i * 8 + 2, none⟩ = some (.int .i64 x.p.fr) ∧ W.cell? ⟨b, o + i * 8 + 3, none⟩ = some (.int .i64 x.p.to) ∧ W.cell? ⟨b, o + i * 8 + 4, none⟩ = some (.int .i64 x.p.seq) ∧ W.cell? ⟨b, o + i * 8 + 5, none⟩ = some (.int .i64 x.p.ack) ∧ W.cell? ⟨b, o + i * 8 + 6, none⟩ = some (.slice A2 x.p.load.length C2) ∧ W.cell? ⟨b, o + i * 8 + 7, none⟩ = some (.int .i64 x.inc) ∧ Bs W (.slice A1 x.load.length C1) x.load ∧ Bs W (.slice A2 x.p.load.length C2) x.p.load) ∧
        ((∀ y ∈ DataW.weights Try.prog 34 (D i), y ≤ reachBytes) → x.load.length ≤ 140737488351232 ∧ x.p.load.length ≤ 140737488351232) := by
      intro i hi
      obtain ⟨cs', hc1, hc2⟩ := hel i (by omega)
      rw [deed_cells, plain_add] at hc1
      obtain ⟨hlen, hat⟩ := cells_at hc1
      obtain ⟨x, A1, A2, C1, C2, hcs, h1, h2, h3, h4⟩ := deed_read hc2 hlen
      subst hcs
      exact ⟨x, h1, ⟨A1, A2, C1, C2, hat 0 (by omega), hat 1 (by omega), hat 2 (by omega), hat 3 (by omega), hat 4 (by omega), hat 5 (by omega), hat 6 (by omega), hat 7 (by omega), h2, h3⟩, h4⟩
    obtain ⟨l, hll, hp⟩ := list_of _ len key
    subst hll
    refine ⟨l, ⟨_, _, rfl, fun x hx => ?_, fun j hj => ?_⟩, fun hw x hxm => ?_⟩
    · obtain ⟨j, hj, rfl⟩ := List.getElem_of_mem hx
      exact (hp j hj).1
    · obtain ⟨_, ⟨A1, A2, C1, C2, q⟩, _⟩ := hp j hj
      exact ⟨b, o, A1, C1, A2, C2, rfl, q⟩
    · obtain ⟨j, hj, rfl⟩ := List.getElem_of_mem hxm
      refine (hp j hj).2.2 fun y hy => hw y ?_
      simp only [Prod.mk.injEq] at hx
      rw [hx.1]
      simp only [DataW.weights, Try.underlying22]
      refine List.mem_cons_of_mem _ (List.mem_append.2 (.inl ?_))
      exact weights_mem _ (D j) (List.mem_map.2 ⟨j, by simpa using hj, rfl⟩) y hy
end Go.Proofs.Ytnonboegnbnepaa
