/- What a row of steps that comes in gives. -/
import Derived.Test.YtndjlnlmlgimlaaDkLift
import Derived.Test.YtndjlnlmlgimlaaDfO
import Derived.Deep.Slices
import Derived.Deep.Strs
namespace Go.Proofs.Ytndjlnlmlgimlaa
open Go.ChangeShapes Go.WideShapes Go.ChangeAt Go.RowKit

theorem list_of {α : Type} (P : Nat → α → Prop) : ∀ n, (∀ i, i < n → ∃ x, P i x) → ∃ l : List α, l.length = n ∧ ∀ i (h : i < l.length), P i (l[i]'h)
  | 0, _ => ⟨[], rfl, fun i h => by simp at h⟩
  | n + 1, h => by
    obtain ⟨l, hl, hp⟩ := list_of P n (fun i hi => h i (by omega))
    obtain ⟨x, hx⟩ := h n (by omega)
    refine ⟨l ++ [x], by simp [hl], fun i hi => ?_⟩
    by_cases hlt : i < l.length
    · rw [List.getElem_append_left hlt]; exact hp i hlt
    · have : i = l.length := by simp at hi; omega
      subst this
      rw [List.getElem_append_right (Nat.le_refl _)]
      simp only [Nat.sub_self, List.getElem_cons_zero]
      rw [hl]; exact hx
theorem cells_at {w : World} {b o n : Nat} {cs : List Value} (h : w.cells? 0 ⟨b, o, none⟩ n = some cs) : cs.length = n ∧ ∀ i, i < n → w.cell? ⟨b, o + i, none⟩ = cs[i]? := by
  unfold World.cells? at h
  rw [if_pos (Nat.zero_le _)] at h
  refine ⟨by simpa using mapM_some_length h, fun i hi => ?_⟩
  have := mapM_some_get h i i (by simp [hi])
  rwa [plain_add] at this
theorem weights_mem {P : Program} {H : Type} {e : TypeId} : ∀ (l : List (DataW H)) (d : DataW H), d ∈ l → ∀ y ∈ DataW.weights P e d, y ∈ DataW.weightsAll P e l := by
  intro l d hd y hy
  induction l with
  | nil => cases hd
  | cons a l ih =>
    simp only [DataW.weightsAll, List.mem_append]
    rcases List.mem_cons.1 hd with rfl | hd
    · exact .inl hy
    · exact .inr (ih hd)
theorem trod_five {P : Program} {H : Type} {enc : TypeId × Value → H} {w : World} {base : Nat} {spare : Nat → Bool} {held : Bool} {t : TypeId} {f0 f1 f2 f3 f4 : Field} {fuel : Nat} {cs : List Value} {x : DataW H × List MemPlace} (ht : P.underlying t = some (.struct #[f0, f1, f2, f3, f4])) (h : DataW.trod enc P w base spare held fuel t cs = some x) :
    ∃ y0 y1 y2 y3 y4 n, x.1 = .agg [y0.1, y1.1, y2.1, y3.1, y4.1] ∧ DataW.trod enc P w base spare held n f0.type ((cs.drop f0.offset).take (P.cellsOf f0.type)) = some y0 ∧ DataW.trod enc P w base spare held n f1.type ((cs.drop f1.offset).take (P.cellsOf f1.type)) = some y1 ∧
      DataW.trod enc P w base spare held n f2.type ((cs.drop f2.offset).take (P.cellsOf f2.type)) = some y2 ∧ DataW.trod enc P w base spare held n f3.type ((cs.drop f3.offset).take (P.cellsOf f3.type)) = some y3 ∧ DataW.trod enc P w base spare held n f4.type ((cs.drop f4.offset).take (P.cellsOf f4.type)) = some y4 := by
  obtain ⟨xs, n, _, rfl, hl, hlen, hf⟩ := DataW.trod_struct ht h
  match xs, hlen with
  | [y0, y1, y2, y3, y4], _ => exact ⟨y0, y1, y2, y3, y4, n, by simp, by simpa using hf 0 f0 rfl, by simpa using hf 1 f1 rfl, by simpa using hf 2 f2 rfl, by simpa using hf 3 f3 rfl, by simpa using hf 4 f4 rfl⟩
theorem do_cells : Try.prog.cellsOf 30 = 5 := by kernel_rfl
theorem mkS_of (s : ByteArray) : mkS s.data.toList = s := rfl
set_option maxRecDepth 100000 in
theorem do_read {H : Type} {enc : TypeId × Value → H} {W : World} {fuel : Nat} {cs : List Value} {x : DataW H × List MemPlace} (hf : DataW.trod enc Try.prog W 0 (fun _ => true) true fuel 30 cs = some x) (hl : cs.length = 5) :
    ∃ (d : Do8) (A : Option Addr) (C : Nat), cs = [.int .i64 d.op, .string (mkS d.nm), .string (mkS d.tt), .slice A d.b.length C, .int .i64 d.n] ∧ Bs W (.slice A d.b.length C) d.b ∧ ((∀ y ∈ DataW.weights Try.prog 30 x.1, y ≤ reachBytes) → d.ok) := by
  obtain ⟨y0, y1, y2, y3, y4, n', hx, t0, t1, t2, t3, t4⟩ := trod_five Try.underlying30 hf
  match cs, hl with
  | [v0, v1, v2, v3, v4], _ =>
  obtain ⟨a0, h0, _, w0⟩ := DataW.trod_int Try.underlying3 t0
  obtain ⟨s1, h1, _, z1⟩ := DataW.trod_string Try.underlying9 t1
  obtain ⟨s2, h2, _, z2⟩ := DataW.trod_string Try.underlying9 t2
  obtain ⟨lb, A, C, h3, hB, hS, _⟩ := bytes_read t3
  obtain ⟨a4, h4, _, w4⟩ := DataW.trod_int Try.underlying3 t4
  have k3 : Try.prog.cellsOf 3 = 1 := by kernel_rfl
  have k9 : Try.prog.cellsOf 9 = 1 := by kernel_rfl
  have kb : Try.prog.cellsOf 28 = 1 := by kernel_rfl
  have e0 : v0 = .int .i64 a0 := by have := h0; revert this; simp [k3]
  have e1 : v1 = .string s1 := by have := h1; revert this; simp [k9]
  have e2 : v2 = .string s2 := by have := h2; revert this; simp [k9]
  have e3 : v3 = .slice A lb.length C := by have := h3; revert this; simp [kb]
  have e4 : v4 = .int .i64 a4 := by have := h4; revert this; simp [k3]
  subst e0 e1 e2 e3 e4
  have hs : ∀ s : ByteArray, s.size ≤ maxLen → Len63 s.data.toList.length := by
    intro s hs
    unfold maxLen at hs
    unfold Len63
    rw [Array.length_toList]
    exact hs
  refine ⟨⟨a0, s1.data.toList, s2.data.toList, lb, a4⟩, A, C, rfl, hB, fun hw => ?_⟩
  rw [hx] at hw
  simp only [DataW.weights, Try.underlying30, List.map_cons, List.map_nil, DataW.weightsEach, List.append_nil, List.mem_append] at hw
  have hS' := hS fun y hy => hw y (.inr (.inr (.inr (.inl hy))))
  exact ⟨wf_i64 w0, wf_i64 w4, hs s1 z1, hs s2 z2, by simp only; omega⟩
set_option maxRecDepth 100000 in
theorem dos_in {H : Type} {enc : TypeId × Value → H} {W : World} {base : Nat} {a : Option Addr} {len cap : Nat} {d : DataW H} {p : List MemPlace}
    (hv : Value.okWide Try.prog W .any base 22 (.slice a len cap)) (h : DataW.Trod enc Try.prog W 0 (fun _ => true) true 22 (.slice a len cap) d p) : ∃ l, (∀ y ∈ DataW.weights Try.prog 22 d, y ≤ reachBytes) → Dos W (.slice a len cap) l := by
  obtain ⟨fuel, hf⟩ := h
  rcases Go.Deep.open_slice Try.underlying22 hf with ⟨hcs, hx⟩ | ⟨ad, len', cap', m, n, D, Pl, hcs, _, hl, hmx, hm, hx, hel⟩
  · simp [Value.cells] at hcs
    obtain ⟨rfl, rfl, rfl⟩ := hcs
    exact ⟨[], fun _ => ⟨none, 0, rfl, Nat.le_refl _, fun x hx => by simp at hx, fun j hj => by simp at hj⟩⟩
  · simp [Value.cells] at hcs
    obtain ⟨rfl, rfl, rfl⟩ := hcs
    simp only [if_true] at hm
    subst hm
    simp only [Value.okWide, Try.underlying22, Cell.okWide, Cell.ok] at hv
    obtain ⟨_, _, _, hspot, row, cells, hsh, _⟩ := hv
    obtain ⟨b, o, spot⟩ := ad
    dsimp only at hspot
    subst hspot
    have key : ∀ i, i < len → ∃ x : Do8, ((∀ y ∈ DataW.weights Try.prog 30 (D i), y ≤ reachBytes) → x.ok) ∧ ∃ A C, W.cell? ⟨b, o + i * 5, none⟩ = some (.int .i64 x.op) ∧ W.cell? ⟨b, o + i * 5 + 1, none⟩ = some (.string (mkS x.nm)) ∧
        W.cell? ⟨b, o + i * 5 + 2, none⟩ = some (.string (mkS x.tt)) ∧ W.cell? ⟨b, o + i * 5 + 3, none⟩ = some (.slice A x.b.length C) ∧ W.cell? ⟨b, o + i * 5 + 4, none⟩ = some (.int .i64 x.n) ∧ Bs W (.slice A x.b.length C) x.b := by
      intro i hi
      obtain ⟨cs', hc1, hc2⟩ := hel i (by omega)
      rw [do_cells, plain_add] at hc1
      obtain ⟨hlen, hat⟩ := cells_at hc1
      obtain ⟨x, A, C, hcs, hB, hS⟩ := do_read hc2 hlen
      subst hcs
      exact ⟨x, hS, A, C, hat 0 (by omega), hat 1 (by omega), hat 2 (by omega), hat 3 (by omega), hat 4 (by omega), hB⟩
    obtain ⟨l, hll, hp⟩ := list_of _ len key
    subst hll
    refine ⟨l, fun hw => ⟨_, _, rfl, by omega, fun x hxm => ?_, fun j hj => ?_⟩⟩
    · obtain ⟨j, hj, rfl⟩ := List.getElem_of_mem hxm
      refine (hp j hj).1 fun y hy => hw y ?_
      simp only [Prod.mk.injEq] at hx
      rw [hx.1]
      simp only [DataW.weights, Try.underlying22]
      refine List.mem_cons_of_mem _ (List.mem_append.2 (.inl ?_))
      exact weights_mem _ (D j) (List.mem_map.2 ⟨j, by simpa using hj, rfl⟩) y hy
    · obtain ⟨_, A, C, q⟩ := hp j hj
      exact ⟨b, o, A, C, rfl, q⟩
end Go.Proofs.Ytndjlnlmlgimlaa
