/- A row of deeds that one appends to, and a row of numbers: what the two appends of Scan do. -/
import Derived.Test.YtogikhondibifaaDoorDdI
import Derived.Deep.MidRow
namespace Go.Proofs.YtogikhondibifaaDoor.DD
set_option linter.unusedVariables false
open Go.RowKit
set_option linter.unusedVariables false

theorem setCells_row : ∀ (us : List Value) (w : World) (g o : Nat) (cur : Array Value) (T : TypeId) (fr : Nat × Nat), w.heap[g]? = some (.cells cur T fr) →
    ∃ cur', (w.setCells g o us).heap[g]? = some (.cells cur' T fr) ∧ cur'.size = cur.size ∧ ∀ i, i < cur.size → cur'[i]? = if o ≤ i ∧ i < o + us.length then us[i - o]? else cur[i]?
  | [], w, g, o, cur, T, fr, h => ⟨cur, h, rfl, fun i _ => by rw [if_neg]; rintro ⟨a, b⟩; simp at b; omega⟩
  | u :: us, w, g, o, cur, T, fr, h => by
    have h1 := heap_set h o u
    obtain ⟨cur', e1, e2, e3⟩ := setCells_row us _ g (o + 1) _ T fr h1
    refine ⟨cur', e1, by rw [e2]; simp, fun i hi => ?_⟩
    rw [e3 i (by simpa using hi)]
    by_cases c1 : o + 1 ≤ i ∧ i < o + 1 + us.length
    · rw [if_pos c1, if_pos ⟨by omega, by rw [List.length_cons]; omega⟩, show i - o = (i - (o + 1)) + 1 by omega]
      simp
    · rw [if_neg c1]
      by_cases c2 : o = i
      · subst c2
        rw [if_pos ⟨Nat.le_refl _, by simp⟩, Nat.sub_self, Array.getElem?_setIfInBounds_self_of_lt hi]
        rfl
      · rw [Array.getElem?_setIfInBounds_ne c2, if_neg]
        rintro ⟨a, b⟩
        rw [List.length_cons] at b
        exact c1 ⟨by omega, by omega⟩
theorem setCells_chg (S : Nat → Prop) (g : Nat) (hS : S g) : ∀ (us : List Value) (w : World) (o : Nat), Chg S w (w.setCells g o us)
  | [], w, o => Chg.refl _ _
  | u :: us, w, o => (Chg.setCell w ⟨g, o, none⟩ u hS).trans (setCells_chg S g hS us _ (o + 1))
theorem owns_last {w : World} {base T g k cap : Nat} {xs zs us : List Value} (h : w.ownsRow base T 16 (.slice (some ⟨g, 0, none⟩) (k + 1) cap) (k + 1) (xs ++ zs)) (hx : xs.length = k * 16) (hz : zs.length = 16) (hu : us.length = 16) :
    (w.setCells g (k * 16) us).ownsRow base T 16 (.slice (some ⟨g, 0, none⟩) (k + 1) cap) (k + 1) (xs ++ us) ∧ w.there g (k * 16) 16 := by
  obtain ⟨h1, h2⟩ := h
  rcases h2 with ⟨e, _⟩ | ⟨g', cap', cur, hv, hb, hg, hc, hm, hs, ht⟩
  · cases e
  cases hv
  obtain ⟨cur', e1, e2, e3⟩ := setCells_row us w g (k * 16) cur T (0, 0) hg
  have hsz : (k + 1) * 16 ≤ cur.size := by rw [hs]; exact Nat.mul_le_mul_right 16 hc
  have hci : ∀ i, i < (k + 1) * 16 → cur[i]? = (xs ++ zs)[i]? := by
    intro i hi
    rw [← ht, List.getElem?_take_of_lt hi, Array.getElem?_toList]
  refine ⟨⟨by rw [List.length_append, hx, hu]; omega, .inr ⟨g, cap, cur', rfl, hb, e1, hc, hm, by rw [e2]; exact hs, ?_⟩⟩, ?_⟩
  · apply List.ext_getElem?
    intro i
    by_cases hi : i < (k + 1) * 16
    · rw [List.getElem?_take_of_lt hi, Array.getElem?_toList, e3 i (by omega), hu]
      by_cases c : i < k * 16
      · rw [if_neg (by omega), hci i hi, List.getElem?_append_left (by omega), List.getElem?_append_left (by omega)]
      · rw [if_pos ⟨by omega, by omega⟩, List.getElem?_append_right (by omega), hx]
    · rw [List.getElem?_eq_none (by rw [List.length_take]; omega), List.getElem?_eq_none (by rw [List.length_append, hx, hu]; omega)]
  · intro j hj
    refine ⟨?_, frozen_at hg _⟩
    rw [cell_at hg, Array.getElem?_eq_getElem (by omega)]
    rfl
theorem zero16 : ∀ u ∈ [Value.int .i64 0, .int .u8 0, .int .i64 0, .int .i64 0, .int .i64 0, .int .i64 0, .string ⟨#[]⟩, .slice none 0 0, .int .i64 0, .int .i64 0, .int .i64 0, .int .i64 0, .int .i64 0, .int .i64 0, .slice none 0 0, .slice none 0 0], u.oneCell' = true := by
  intro u hu
  simp only [List.mem_cons, List.not_mem_nil, or_false] at hu
  rcases hu with rfl | rfl | rfl | rfl | rfl | rfl | rfl | rfl | rfl | rfl | rfl | rfl | rfl | rfl | rfl | rfl <;> rfl
theorem app16 {W : World} {base k C : Nat} {A : Option Addr} {xs us : List Value} (ho : W.ownsRow base 37 16 (.slice A k C) k xs) (hb : base ≤ W.heap.size) (hk : k ≤ 4294967296) (hus : us.length = 16) (h1 : ∀ u ∈ us, u.oneCell' = true) :
    ∃ g cap W1, (Builtin.append_ #[35, 35] 35 #[.slice A k C, .slice (some ⟨W.heap.size, 0, none⟩) 1 1]).run Tryd.prog (W.alloc (.cells #[.int .i64 0, .int .u8 0, .int .i64 0, .int .i64 0, .int .i64 0, .int .i64 0, .string ⟨#[]⟩, .slice none 0 0, .int .i64 0, .int .i64 0, .int .i64 0, .int .i64 0, .int .i64 0, .int .i64 0, .slice none 0 0, .slice none 0 0] 37)) = .ok (.slice (some ⟨g, 0, none⟩) (k + 1) cap) W1 ∧
      W1.there g (k * 16) 16 ∧
      (W1.setCells g (k * 16) us).ownsRow base 37 16 (.slice (some ⟨g, 0, none⟩) (k + 1) cap) (k + 1) (xs ++ us) ∧
      Chg (fun i => (Value.slice A k C).ownBlock = some i) W (W1.setCells g (k * 16) us) ∧ ((Value.slice A k C).ownBlock = some g ∨ W.heap.size ≤ g) := by
  obtain ⟨i0, hi, hz0, hz1, hz2⟩ := info_parts infoD
  obtain ⟨g, cap, W1, hr, h2, h3, h4, h5⟩ := run_append_lies (P := Tryd.prog) (W.alloc (.cells #[.int .i64 0, .int .u8 0, .int .i64 0, .int .i64 0, .int .i64 0, .int .i64 0, .string ⟨#[]⟩, .slice none 0 0, .int .i64 0, .int .i64 0, .int .i64 0, .int .i64 0, .int .i64 0, .int .i64 0, .slice none 0 0, .slice none 0 0] 37)) 35 35 base 37 i0 _ 16 184 Tryd.underlying35 hi hz0 hz1 hz2 rfl (by decide) (.slice A k C) k xs (ho.alloc _) ⟨W.heap.size, 0, none⟩ 1 1 _ rfl (World.news_of_block (heap_alloc_new W _)) zero16 (by omega) (by unfold maxLen; omega) (by omega) (by simp; omega) (W.heap.size + 1) (by simp)
  have hxl : xs.length = k * 16 := ho.1
  obtain ⟨q1, q2⟩ := owns_last h2 hxl rfl hus
  refine ⟨g, cap, W1, hr, q2, q1, ?_, ?_⟩
  · have c1 : Chg (fun i => (Value.slice A k C).ownBlock = some i) W W1 := (Chg.alloc _ W _).trans (Chg.of_grown h3)
    rcases h4 with h4 | h4
    · exact c1.trans (setCells_chg _ g h4 us W1 _)
    · refine ⟨?_, ?_, ?_, ?_, ?_⟩
      · exact (setCells_chg (fun _ => True) g trivial us W1 _).os.trans c1.os
      · exact (setCells_chg (fun _ => True) g trivial us W1 _).tape.trans c1.tape
      · exact (setCells_chg (fun _ => True) g trivial us W1 _).output.trans c1.output
      · exact Nat.le_trans c1.size (setCells_chg (fun _ => True) g trivial us W1 (k * 16)).size
      · intro i hi' hn
        have hsz := c1.size
        exact ((setCells_chg (fun j => j = g) g rfl us W1 (k * 16)).block i (by omega) (by omega)).trans (c1.block i hi' hn)
  · rcases h4 with h4 | h4
    · exact .inl h4
    · exact .inr (by omega)
theorem infoI : (Tryd.prog.info? 3).map (fun i => (i.zero, i.size, i.bytes)) = some (some (.int .i64 0), 1, 8) := by kernel_rfl
theorem appI {W : World} {base k C : Nat} {A : Option Addr} {xs : List Value} (ho : W.ownsRow base 3 1 (.slice A k C) k xs) (hb : base ≤ W.heap.size) (hk : k ≤ 4294967296) (n : Int) :
    ∃ g cap W1, (Builtin.append_ #[39, 39] 39 #[.slice A k C, .slice (some ⟨W.heap.size, 0, none⟩) 1 1]).run Tryd.prog (W.alloc (.cells #[.int .i64 n] 3)) = .ok (.slice (some ⟨g, 0, none⟩) (k + 1) cap) W1 ∧
      W1.ownsRow base 3 1 (.slice (some ⟨g, 0, none⟩) (k + 1) cap) (k + 1) (xs ++ [.int .i64 n]) ∧
      Chg (fun i => (Value.slice A k C).ownBlock = some i) W W1 ∧ ((Value.slice A k C).ownBlock = some g ∨ W.heap.size ≤ g) := by
  obtain ⟨i0, hi, hz0, hz1, hz2⟩ := info_parts infoI
  obtain ⟨g, cap, W1, hr, h2, h3, h4, h5⟩ := run_append_lies (P := Tryd.prog) (W.alloc (.cells #[.int .i64 n] 3)) 39 39 base 3 i0 _ 1 8 Tryd.underlying39 hi hz0 hz1 hz2 rfl (by decide) (.slice A k C) k xs (ho.alloc _) ⟨W.heap.size, 0, none⟩ 1 1 [.int .i64 n] rfl (World.news_of_block (heap_alloc_new W _)) (fun u hu => by simp at hu; subst hu; rfl) (by omega) (by unfold maxLen; omega) (by omega) (by simp; omega) (W.heap.size + 1) (by simp)
  refine ⟨g, cap, W1, hr, h2, (Chg.alloc _ W _).trans (Chg.of_grown h3), ?_⟩
  rcases h4 with h4 | h4
  · exact .inl h4
  · exact .inr (by omega)
theorem there_16 {w : World} {g o : Nat} (h : w.there g o 16) : ∃ v0 v1 v2 v3 v4 v5 v6 v7 v8 v9 v10 v11 v12 v13 v14 v15 : Value, w.cell? ⟨g, o, none⟩ = some v0 ∧ w.cell? ⟨g, o + 1, none⟩ = some v1 ∧ w.cell? ⟨g, o + 2, none⟩ = some v2 ∧ w.cell? ⟨g, o + 3, none⟩ = some v3 ∧ w.cell? ⟨g, o + 4, none⟩ = some v4 ∧ w.cell? ⟨g, o + 5, none⟩ = some v5 ∧ w.cell? ⟨g, o + 6, none⟩ = some v6 ∧ w.cell? ⟨g, o + 7, none⟩ = some v7 ∧ w.cell? ⟨g, o + 8, none⟩ = some v8 ∧ w.cell? ⟨g, o + 9, none⟩ = some v9 ∧ w.cell? ⟨g, o + 10, none⟩ = some v10 ∧ w.cell? ⟨g, o + 11, none⟩ = some v11 ∧ w.cell? ⟨g, o + 12, none⟩ = some v12 ∧ w.cell? ⟨g, o + 13, none⟩ = some v13 ∧ w.cell? ⟨g, o + 14, none⟩ = some v14 ∧ w.cell? ⟨g, o + 15, none⟩ = some v15 ∧ w.frozen? ⟨g, o, none⟩ = false ∧ w.frozen? ⟨g, o + 1, none⟩ = false ∧ w.frozen? ⟨g, o + 2, none⟩ = false ∧ w.frozen? ⟨g, o + 3, none⟩ = false ∧ w.frozen? ⟨g, o + 4, none⟩ = false ∧ w.frozen? ⟨g, o + 5, none⟩ = false ∧ w.frozen? ⟨g, o + 6, none⟩ = false ∧ w.frozen? ⟨g, o + 7, none⟩ = false ∧ w.frozen? ⟨g, o + 8, none⟩ = false ∧ w.frozen? ⟨g, o + 9, none⟩ = false ∧ w.frozen? ⟨g, o + 10, none⟩ = false ∧ w.frozen? ⟨g, o + 11, none⟩ = false ∧ w.frozen? ⟨g, o + 12, none⟩ = false ∧ w.frozen? ⟨g, o + 13, none⟩ = false ∧ w.frozen? ⟨g, o + 14, none⟩ = false ∧ w.frozen? ⟨g, o + 15, none⟩ = false := by
  have k : ∀ j, j < 16 → ∃ v, w.cell? ⟨g, o + j, none⟩ = some v := fun j hj => Option.isSome_iff_exists.1 (h j hj).1
  obtain ⟨v0, h0⟩ := k 0 (by omega)
  obtain ⟨v1, h1⟩ := k 1 (by omega)
  obtain ⟨v2, h2⟩ := k 2 (by omega)
  obtain ⟨v3, h3⟩ := k 3 (by omega)
  obtain ⟨v4, h4⟩ := k 4 (by omega)
  obtain ⟨v5, h5⟩ := k 5 (by omega)
  obtain ⟨v6, h6⟩ := k 6 (by omega)
  obtain ⟨v7, h7⟩ := k 7 (by omega)
  obtain ⟨v8, h8⟩ := k 8 (by omega)
  obtain ⟨v9, h9⟩ := k 9 (by omega)
  obtain ⟨v10, h10⟩ := k 10 (by omega)
  obtain ⟨v11, h11⟩ := k 11 (by omega)
  obtain ⟨v12, h12⟩ := k 12 (by omega)
  obtain ⟨v13, h13⟩ := k 13 (by omega)
  obtain ⟨v14, h14⟩ := k 14 (by omega)
  obtain ⟨v15, h15⟩ := k 15 (by omega)
  exact ⟨v0, v1, v2, v3, v4, v5, v6, v7, v8, v9, v10, v11, v12, v13, v14, v15, h0, h1, h2, h3, h4, h5, h6, h7, h8, h9, h10, h11, h12, h13, h14, h15, (h 0 (by omega)).2, (h 1 (by omega)).2, (h 2 (by omega)).2, (h 3 (by omega)).2, (h 4 (by omega)).2, (h 5 (by omega)).2, (h 6 (by omega)).2, (h 7 (by omega)).2, (h 8 (by omega)).2, (h 9 (by omega)).2, (h 10 (by omega)).2, (h 11 (by omega)).2, (h 12 (by omega)).2, (h 13 (by omega)).2, (h 14 (by omega)).2, (h 15 (by omega)).2⟩
end Go.Proofs.YtogikhondibifaaDoor.DD
