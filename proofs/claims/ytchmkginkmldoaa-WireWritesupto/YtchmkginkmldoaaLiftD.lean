/- What a row of things that comes in gives: where they lie, and how great they may be. -/
import Derived.Deep.Slices
import Derived.Deep.Strs
import Derived.JoinedCond
import Derived.Test.YtchmkginkmldoaaLift
import Derived.Test.YtchmkginkmldoaaDeeds
namespace Go.Proofs.Ytchmkginkmldoaa
open Go.ChangeShapes Go.WideShapes Go.ChangeAt Go.RowKit

theorem list_of {α : Type} (P : Nat → α → Prop) : ∀ n, (∀ i, i < n → ∃ x, P i x) → ∃ l : List α, l.length = n ∧ ∀ i (h : i < l.length), P i (l[i]'h)
  | 0, _ => ⟨[], rfl, fun i h => by simp at h⟩
  | n + 1, h => by
    obtain ⟨l, hl, hp⟩ := list_of P n (fun i hi => h i (by omega))
    obtain ⟨x, hx⟩ := h n (by omega)
    refine ⟨l ++ [x], by simp [hl], fun i hi => ?_⟩
    by_cases hlt : i < l.length
    · rw [List.getElem_append_left hlt]; exact hp i hlt
    · have : i = l.length := by simp at hi; omega
      subst this
      rw [List.getElem_append_right (Nat.le_refl _)]
      simp only [Nat.sub_self, List.getElem_cons_zero]
      rw [hl]; exact hx
theorem cells3 {w : World} {b o : Nat} {cs : List Value} (h : w.cells? 0 ⟨b, o, none⟩ 3 = some cs) : ∃ v0 v1 v2, cs = [v0, v1, v2] ∧ w.cell? ⟨b, o, none⟩ = some v0 ∧ w.cell? ⟨b, o + 1, none⟩ = some v1 ∧ w.cell? ⟨b, o + 2, none⟩ = some v2 := by
  unfold World.cells? at h
  rw [if_pos (Nat.zero_le _), show List.range 3 = [0, 1, 2] from rfl] at h
  simp only [List.mapM_cons, List.mapM_nil, plain_add, Nat.add_zero] at h
  cases h0 : w.cell? ⟨b, o, none⟩ with
  | none => simp [h0] at h
  | some v0 =>
    cases h1 : w.cell? ⟨b, o + 1, none⟩ with
    | none => simp [h0, h1] at h
    | some v1 =>
      cases h2 : w.cell? ⟨b, o + 2, none⟩ with
      | none => simp [h0, h1, h2] at h
      | some v2 =>
        simp [h0, h1, h2] at h
        exact ⟨v0, v1, v2, h.symm, rfl, rfl, rfl⟩
theorem deed_cells : Try.prog.cellsOf 30 = 3 := by kernel_rfl
theorem bulk_mem {H : Type} {d : DataW H} : ∀ {ds : List (DataW H)}, d ∈ ds → Rows.uptoBulk d ≤ Rows.uptoBulkAll ds
  | [], h => by simp at h
  | e :: r, h => by
    simp only [Rows.uptoBulkAll]
    rcases List.mem_cons.1 h with rfl | h
    · omega
    · have := bulk_mem h; omega
theorem bulk_lits {H : Type} (zs : List Int) : zs.length ≤ Rows.uptoBulkAll (lits .u8 zs : List (DataW H)) := by
  induction zs with
  | nil => simp
  | cons z r ih =>
    have : (lits .u8 (z :: r) : List (DataW H)) = .lit (.int .u8 z) :: lits .u8 r := rfl
    rw [this]
    simp only [Rows.uptoBulkAll, List.length_cons]
    have h1 : 1 ≤ Rows.uptoBulk (.lit (.int .u8 z) : DataW H) := by simp [Rows.uptoBulk]
    omega
theorem bulk_bytes {H : Type} {d : DataW H} {l : List UInt8} (h : d = .nil ∧ l = [] ∨ ∃ zs sp : List Int, d = .slice (lits .u8 zs) (lits .u8 sp) ∧ zs.length = l.length) : l.length ≤ Rows.uptoBulk d := by
  rcases h with ⟨_, rfl⟩ | ⟨zs, sp, rfl, hl⟩
  · simp
  · have := bulk_lits (H := H) zs
    simp only [Rows.uptoBulk]
    omega
theorem deeds_in {H : Type} {enc : TypeId × Value → H} {W : World} {base fuel : Nat} {a : Option Addr} {len cap : Nat} {d : DataW H} {p : List MemPlace}
    (hv : Value.okWide Try.prog W .any base 22 (.slice a len cap)) (hf : DataW.trod enc Try.prog W 0 (fun _ => true) true fuel 22 (Value.slice a len cap).cells.toList = some (d, p)) :
    ∃ l, Deeds W W.heap.size (.slice a len cap) l ∧ l.length ≤ maxLen ∧ (∀ x ∈ l, (-9223372036854775808 ≤ x.sort ∧ x.sort < 9223372036854775808) ∧ (-9223372036854775808 ≤ x.n ∧ x.n < 9223372036854775808) ∧ x.b.length ≤ Rows.uptoBulk d) := by
  rcases Go.Deep.open_slice Try.underlying22 hf with ⟨hcs, hx⟩ | ⟨ad, len', cap', m, n, D, Pl, hcs, _, hl, hmx, hm, hx, hel⟩
  · simp [Value.cells] at hcs
    obtain ⟨rfl, rfl, rfl⟩ := hcs
    exact ⟨[], .inl ⟨rfl, rfl⟩, by simp, fun x hx => by simp at hx⟩
  · simp [Value.cells] at hcs
    obtain ⟨rfl, rfl, rfl⟩ := hcs
    simp only [if_true] at hm
    subst hm
    simp only [Value.okWide, Try.underlying22, Cell.okWide, Cell.ok] at hv
    obtain ⟨_, _, _, hspot, row, cells, hsh, _⟩ := hv
    have hlt : ad.block < W.heap.size := by
      rcases Nat.lt_or_ge ad.block W.heap.size with h | h
      · exact h
      · simp [World.shape?, Array.getElem?_eq_none h] at hsh
    obtain ⟨b, o, spot⟩ := ad
    dsimp only at hspot hlt
    subst hspot
    have hd : d = .slice ((List.range len).map D) ((List.range (m - len)).map fun j => D (len + j)) := congrArg Prod.fst hx
    have key : ∀ i, i < len → ∃ x : Th, W.cell? ⟨b, o + i * 3, none⟩ = some (.int .i64 x.sort) ∧ W.cell? ⟨b, o + i * 3 + 1, none⟩ = some (.int .i64 x.n) ∧
        (∃ A C, W.cell? ⟨b, o + i * 3 + 2, none⟩ = some (.slice A x.b.length C) ∧ Bs W (.slice A x.b.length C) x.b) ∧
        (-9223372036854775808 ≤ x.sort ∧ x.sort < 9223372036854775808) ∧ (-9223372036854775808 ≤ x.n ∧ x.n < 9223372036854775808) ∧ x.b.length ≤ Rows.uptoBulk (D i) := by
      intro i hi
      obtain ⟨cs', hc1, hc2⟩ := hel i (by omega)
      rw [deed_cells, plain_add] at hc1
      obtain ⟨v0, v1, v2, rfl, c0, c1, c2⟩ := cells3 hc1
      obtain ⟨y0, y1, y2, n', hy, _, t0, t1, t2⟩ := Go.Deep.trod_struct3 Try.underlying30 hc2
      obtain ⟨s, hs, _, ws⟩ := DataW.trod_int Try.underlying3 t0
      obtain ⟨nn, hnn, _, wn⟩ := DataW.trod_int Try.underlying2 t1
      obtain ⟨lb, A, C, hb, hB, _, hbk⟩ := bytes_read t2
      have e0 : v0 = .int .i64 s := by have := hs; revert this; simp [show Try.prog.cellsOf 3 = 1 by kernel_rfl]
      have e1 : v1 = .int .i64 nn := by have := hnn; revert this; simp [show Try.prog.cellsOf 2 = 1 by kernel_rfl]
      have e2 : v2 = .slice A lb.length C := by have := hb; revert this; simp [show Try.prog.cellsOf 28 = 1 by kernel_rfl]
      subst e0; subst e1; subst e2
      refine ⟨⟨s, nn, lb⟩, c0, c1, ⟨A, C, c2, hB⟩, wf_i64 ws, wf_i64 wn, ?_⟩
      have h1 := bulk_bytes hbk
      have h2 : D i = .agg [y0.1, y1.1, y2.1] := congrArg Prod.fst hy
      rw [h2]
      simp only [Rows.uptoBulk, Rows.uptoBulkAll]
      omega
    obtain ⟨l, hll, hp⟩ := list_of _ len key
    refine ⟨l, .inr ⟨b, o, m, by rw [hll], by omega, hlt, Nat.le_refl _, fun j hj => ?_⟩, by omega, fun x hx => ?_⟩
    · obtain ⟨p1, p2, ⟨A, C, p3, p4⟩, _⟩ := hp j hj
      exact ⟨p1, p2, A, C, p3, p4, fun k hk => p4.lt hk⟩
    · obtain ⟨j, hj, rfl⟩ := List.getElem_of_mem hx
      obtain ⟨_, _, _, q1, q2, q3⟩ := hp j hj
      refine ⟨q1, q2, Nat.le_trans q3 ?_⟩
      rw [hd]
      simp only [Rows.uptoBulk]
      have := bulk_mem (d := D j) (ds := (List.range len).map D) (List.mem_map.2 ⟨j, List.mem_range.2 (by omega), rfl⟩)
      omega
theorem num_len' (n : Int) (h1 : -9223372036854775808 ≤ n) (h2 : n < 9223372036854775808) : (numB n).length ≤ 10 := by
  have := dec_num n h1 h2 []
  rw [List.append_nil] at this
  have := dec_some _ 0 _ _ (by omega) this
  omega
theorem allB_small (l : List Th) (N : Nat) (h : ∀ x ∈ l, x.b.length ≤ N) (hn : ∀ x ∈ l, -9223372036854775808 ≤ x.n ∧ x.n < 9223372036854775808) (hN : N < 4611686018427387904) : (allB l).length ≤ l.length * (N + 10) := by
  induction l with
  | nil => simp [allB]
  | cons x r ih =>
    rw [allB_cons, List.length_append, List.length_cons, Nat.succ_mul]
    have h1 := ih (fun y hy => h y (List.mem_cons_of_mem _ hy)) (fun y hy => hn y (List.mem_cons_of_mem _ hy))
    have hx := h x List.mem_cons_self
    have hxn := hn x List.mem_cons_self
    have h2 : (putB x).length ≤ N + 10 := by
      unfold putB
      split
      · simp
      · split
        · have := num_len' x.n hxn.1 hxn.2; omega
        · have := num_len' (x.b.length : Int) (by omega) (by omega)
          simp only [textB, List.length_append]
          omega
    omega
theorem allB_60 (l : List Th) (h : ∀ x ∈ l, x.b.length ≤ 1048576) (hn : ∀ x ∈ l, -9223372036854775808 ≤ x.n ∧ x.n < 9223372036854775808) : (allB (l.take 60)).length ≤ 35184372088832 := by
  have h1 := allB_small (l.take 60) 1048576 (fun x hx => h x (List.mem_of_mem_take hx)) (fun x hx => hn x (List.mem_of_mem_take hx)) (by omega)
  have h2 : (l.take 60).length ≤ 60 := by rw [List.length_take]; omega
  have h3 : (l.take 60).length * (1048576 + 10) ≤ 60 * (1048576 + 10) := Nat.mul_le_mul_right _ h2
  omega
end Go.Proofs.Ytchmkginkmldoaa
