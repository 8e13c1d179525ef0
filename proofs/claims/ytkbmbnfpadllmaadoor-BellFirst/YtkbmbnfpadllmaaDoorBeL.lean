/- Rows of rings held against one another. -/
import Derived.Test.YtkbmbnfpadllmaaDoorBeG
namespace Go.Proofs.YtkbmbnfpadllmaaDoor.We
set_option linter.unusedSimpArgs false
set_option linter.unusedVariables false
open Go.RowKit Go.MapKept
set_option linter.unusedVariables false
set_option linter.unusedSimpArgs false

theorem ringEq (w : World) (a b : Rg) : (Op.equalIn 10000 56 (.agg (rgC a).toArray) (.agg (rgC b).toArray)).run Tryd.prog w = .ok (decide (a = b)) w := by
  have u3 := Tryd.underlying3
  have u4 := Tryd.underlying22
  have u5 := Tryd.underlying52
  have u6 := Tryd.underlying23
  have u9 := Tryd.underlying9
  have a3 := Tryd.isAgg3
  have z3 := Tryd.sizeOf3
  have aE := Tryd.isAgg54
  have zE := Tryd.sizeOf54
  have hS : Tryd.prog.underlying 56 = some (.struct (Tryd.prog.fieldsOf 56)) := by kernel_rfl
  have hp : Tryd.prog.stoodInHeld 56 = false := by kernel_rfl
  have hS' : Tryd.prog.underlying 54 = some (.struct (Tryd.prog.fieldsOf 54)) := by kernel_rfl
  have hp' : Tryd.prog.stoodInHeld 54 = false := by kernel_rfl
  obtain ⟨a1, a2, a3', a4, a5⟩ := a
  obtain ⟨b1, b2, b3, b4, b5⟩ := b
  have hE : ∀ W : World, (Op.equalIn 9999 54 (.agg #[.int .u8 a2, .int .u8 a3', .string (mkS a4), .int .i64 a5]) (.agg #[.int .u8 b2, .int .u8 b3, .string (mkS b4), .int .i64 b5])).run Tryd.prog W = .ok (decide (a2 = b2 ∧ a3' = b3 ∧ a4 = b4 ∧ a5 = b5)) W := by
    intro W
    rw [show (9999 : Nat) = 9998 + 1 from rfl, run_equalIn_agg W 9998 54 _ _ hS' hp']
    simp only [Program.fieldsOf, Tryd.underlying54]
    go_simp
    by_cases h1 : a2 = b2 <;> by_cases h2 : a3' = b3 <;> by_cases h3 : a4 = b4 <;> by_cases h4 : a5 = b5 <;> simp [h1, h2, h3, h4, mkS]
  simp only [rgC]
  rw [show (10000 : Nat) = 9999 + 1 from rfl, run_equalIn_agg w 9999 56 _ _ hS hp]
  simp only [Program.fieldsOf, Tryd.underlying56]
  go_simp
  by_cases h0 : a1 = b1 <;> by_cases h1 : a2 = b2 <;> by_cases h2 : a3' = b3 <;> by_cases h3 : a4 = b4 <;> by_cases h4 : a5 = b5 <;> simp [h0, h1, h2, h3, h4]
theorem ringNeq (w : World) (a b : Rg) : (binOp .neq 56 (.agg (rgC a).toArray) (.agg (rgC b).toArray)).run Tryd.prog w = .ok (.bool (!decide (a = b))) w := by
  rw [run_neq_struct, ringEq]
  rfl
theorem evEq (w : World) (a2 a3' : Int) (a4 : List UInt8) (a5 b2 b3 : Int) (b4 : List UInt8) (b5 : Int) : (binOp .eql 54 (.agg #[.int .u8 a2, .int .u8 a3', .string (mkS a4), .int .i64 a5]) (.agg #[.int .u8 b2, .int .u8 b3, .string (mkS b4), .int .i64 b5])).run Tryd.prog w = .ok (.bool (decide (a2 = b2 ∧ a3' = b3 ∧ a4 = b4 ∧ a5 = b5))) w := by
  have u3 := Tryd.underlying3
  have u4 := Tryd.underlying22
  have u5 := Tryd.underlying52
  have u6 := Tryd.underlying23
  have u9 := Tryd.underlying9
  have hS' : Tryd.prog.underlying 54 = some (.struct (Tryd.prog.fieldsOf 54)) := by kernel_rfl
  have hp' : Tryd.prog.stoodInHeld 54 = false := by kernel_rfl
  rw [run_eql_struct, show (10000 : Nat) = 9999 + 1 from rfl, run_equalIn_agg w 9999 54 _ _ hS' hp']
  simp only [Program.fieldsOf, Tryd.underlying54]
  go_simp
  by_cases h1 : a2 = b2 <;> by_cases h2 : a3' = b3 <;> by_cases h3 : a4 = b4 <;> by_cases h4 : a5 = b5 <;> simp [h1, h2, h3, h4, mkS, Result.andThen]

/- A row of rings in memory, to be read. -/
def RowIs (w : World) (v : Value) (R : List Rg) : Prop := ∃ A C, v = .slice A R.length C ∧ ∀ k (hk : k < R.length), ∃ b o, A = some ⟨b, o, none⟩ ∧ w.cell? ⟨b, o + k * 5, none⟩ = some (.int .i64 (R[k]'hk).cn) ∧ w.cell? ⟨b, o + k * 5 + 1, none⟩ = some (.int .u8 (R[k]'hk).kd) ∧ w.cell? ⟨b, o + k * 5 + 2, none⟩ = some (.int .u8 (R[k]'hk).so) ∧ w.cell? ⟨b, o + k * 5 + 3, none⟩ = some (.string (mkS (R[k]'hk).p)) ∧ w.cell? ⟨b, o + k * 5 + 4, none⟩ = some (.int .i64 (R[k]'hk).z)
theorem flat5 : ∀ (R : List Rg) (k : Nat) (hk : k < R.length) (i : Nat), i < 5 → (R.flatMap rgC)[k * 5 + i]? = (rgC (R[k]'hk))[i]?
  | [], k, hk, _, _ => by simp at hk
  | x :: R, 0, _, i, hi => by
    rw [List.flatMap_cons, Nat.zero_mul, Nat.zero_add, List.getElem?_append_left (by simp [rgC]; exact hi)]
    rfl
  | x :: R, k + 1, hk, i, hi => by
    have hl : (rgC x).length = 5 := rfl
    rw [List.flatMap_cons, List.getElem?_append_right (by rw [hl]; omega), hl, show (k + 1) * 5 + i - 5 = k * 5 + i by omega, flat5 R k (by simpa using hk) i hi]
    simp
theorem RowIs.cells {w : World} {g C : Nat} {R : List Rg} (h : ∀ j u, (R.flatMap rgC)[j]? = some u → w.cell? ⟨g, j, none⟩ = some u) : RowIs w (.slice (some ⟨g, 0, none⟩) R.length C) R := by
  refine ⟨_, _, rfl, fun k hk => ⟨g, 0, rfl, ?_, ?_, ?_, ?_, ?_⟩⟩
  · rw [Nat.zero_add]; exact h _ _ (flat5 R k hk 0 (by omega))
  · rw [Nat.zero_add]; exact h _ _ (flat5 R k hk 1 (by omega))
  · rw [Nat.zero_add]; exact h _ _ (flat5 R k hk 2 (by omega))
  · rw [Nat.zero_add]; exact h _ _ (flat5 R k hk 3 (by omega))
  · rw [Nat.zero_add]; exact h _ _ (flat5 R k hk 4 (by omega))
theorem RowIs.of {w : World} {base : Nat} {v : Value} {R : List Rg} (h : w.ownsRow base 56 5 v R.length (R.flatMap rgC)) : RowIs w v R := by
  have h' := h
  rcases h.2 with ⟨rfl, h0⟩ | ⟨g, cap, cur, rfl, _⟩
  · have e : R = [] := List.length_eq_zero_iff.1 h0
    subst e
    exact ⟨none, 0, rfl, fun k hk => by simp at hk⟩
  · refine RowIs.cells fun j u hu => ?_
    have := rows_cells h' j u hu
    rwa [show (⟨g, 0, none⟩ : Addr).add j = ⟨g, j, none⟩ by simp only [Addr.add]; split <;> simp_all] at this
theorem RowIs.below {w w' : World} {v : Value} {R : List Rg} (h : RowIs w v R) (hB : Below w.heap.size w w') : RowIs w' v R := by
  obtain ⟨A, C, rfl, h⟩ := h
  refine ⟨A, C, rfl, fun k hk => ?_⟩
  obtain ⟨b, o, e, h0, h1, h2, h3, h4⟩ := h k hk
  have kk : ∀ {i : Nat} {x : Value}, w.cell? ⟨b, i, none⟩ = some x → w'.cell? ⟨b, i, none⟩ = some x := fun hx => (hB.cell (p := ⟨b, _, none⟩) (cell_lt hx)).trans hx
  exact ⟨b, o, e, kk h0, kk h1, kk h2, kk h3, kk h4⟩
theorem RowIs.len {w : World} {v : Value} {R : List Rg} (h : RowIs w v R) : ∃ A C, v = .slice A R.length C := by
  obtain ⟨A, C, e, _⟩ := h
  exact ⟨A, C, e⟩
set_option maxRecDepth 100000 in
set_option maxHeartbeats 1000000 in
theorem is_any {w : World} {v v' : Value} {R R' : List Rg} (h : RowIs w v R) (h' : RowIs w v' R') (hl : R.length ≤ 1000000) (hl' : R'.length ≤ 1000000) : Calls Tryd.prog 11 #[v, v'] w fun e w' => e = .returned (.bool (decide (R = R'))) ∧ ∃ q, w' = w.drewN q := by
  obtain ⟨A, C, rfl, h⟩ := h
  obtain ⟨A', C', rfl, h'⟩ := h'
  have HH : Hid (∀ k (hk : k < R.length), ∃ b o, A = some ⟨b, o, none⟩ ∧ w.cell? ⟨b, o + k * 5, none⟩ = some (.int .i64 (R[k]'hk).cn) ∧ w.cell? ⟨b, o + k * 5 + 1, none⟩ = some (.int .u8 (R[k]'hk).kd) ∧ w.cell? ⟨b, o + k * 5 + 2, none⟩ = some (.int .u8 (R[k]'hk).so) ∧ w.cell? ⟨b, o + k * 5 + 3, none⟩ = some (.string (mkS (R[k]'hk).p)) ∧ w.cell? ⟨b, o + k * 5 + 4, none⟩ = some (.int .i64 (R[k]'hk).z)) := h
  have HH' : Hid (∀ k (hk : k < R'.length), ∃ b o, A' = some ⟨b, o, none⟩ ∧ w.cell? ⟨b, o + k * 5, none⟩ = some (.int .i64 (R'[k]'hk).cn) ∧ w.cell? ⟨b, o + k * 5 + 1, none⟩ = some (.int .u8 (R'[k]'hk).kd) ∧ w.cell? ⟨b, o + k * 5 + 2, none⟩ = some (.int .u8 (R'[k]'hk).so) ∧ w.cell? ⟨b, o + k * 5 + 3, none⟩ = some (.string (mkS (R'[k]'hk).p)) ∧ w.cell? ⟨b, o + k * 5 + 4, none⟩ = some (.int .i64 (R'[k]'hk).z)) := h'
  clear h h'
  by_cases hn : R.length = R'.length
  · have hnb : ((R.length : Int) != (R'.length : Int)) = false := by simp [hn]
    have HN : Hid (R.length = R'.length) := hn
    clear hn
    go_enter Tryd.func11, Tryd.ntmps11
    go_wp2_with fail
    go_loopw [5] (fun i wr => ∃ (k q : Nat), k ≤ R.length ∧ i = .int .i64 k ∧ wr = w.drewN q ∧ R.take k = R'.take k) (fun i _ => R.length - (Go.Lib.intOf i).toNat)
    case atStart => exact ⟨0, 0, Nat.zero_le _, rfl, rfl, by simp⟩
    case round =>
      obtain ⟨k, q, hk, rfl, hwq, hx⟩ := hrel
      have HX : Hid (R.take k = R'.take k ∧ wr = w.drewN q) := ⟨hx, hwq⟩
      have hce : ∀ a, wr.cell? a = w.cell? a := fun a => by rw [hwq]; rfl
      clear hx hwq
      by_cases hlt : k < R.length
      · have hlt' : k < R'.length := by have := HN.out; omega
        obtain ⟨b, o, rfl, h0, h1, h2, h3, h4⟩ := HH.out k hlt
        obtain ⟨b', o', rfl, h0', h1', h2', h3', h4'⟩ := HH'.out k hlt'
        rw [← hce] at h0 h1 h2 h3 h4 h0' h1' h2' h3' h4'
        clear hce
        have i1 : (k : Int) < R.length := by omega
        have i2 : (k : Int) < R'.length := by omega
        have i3 : (0 : Int) ≤ k := by omega
        obtain ⟨x, hx⟩ : ∃ x, x = R[k]'hlt := ⟨_, rfl⟩
        obtain ⟨y, hy⟩ : ∃ y, y = R'[k]'hlt' := ⟨_, rfl⟩
        rw [← hx] at h0 h1 h2 h3 h4
        rw [← hy] at h0' h1' h2' h3' h4'
        have hne := fun W => ringNeq W x y
        simp only [rgC] at hne
        by_cases hxy : x = y
        · have HS : Hid (R.take (k + 1) = R'.take (k + 1)) := by
            show _ = _
            rw [List.take_succ_eq_append_getElem hlt, List.take_succ_eq_append_getElem hlt', HX.out.1, ← hx, ← hy, hxy]
          rw [decide_eq_true hxy] at hne
          clear hx hy hxy
          go_wp2_with fail
          go_quiet (fail)
          go_wp2_with fail
          go_roundw
          case rel => exact ⟨k + 1, q + nq, by omega, by go_num, by rw [HX.out.2]; simp [World.drewN]; omega, HS.out⟩
          case measure => simp [Go.Lib.intOf]; omega
        · have HS : Hid (decide (R = R') = false) := by
            show decide _ = false
            refine decide_eq_false fun e => hxy ?_
            subst e
            rw [hx, hy]
          rw [decide_eq_false hxy] at hne
          clear hx hy hxy
          go_wp2_with fail
          go_quiet (fail)
          go_wp2_with fail
          go_ret
          exact ⟨by rw [HS.out]; rfl, q + nq, by rw [HX.out.2]; simp [World.drewN]; omega⟩
      · have HS : Hid (decide (R = R') = true) := by
          show decide _ = true
          have h1 := HX.out.1
          have h2 := HN.out
          rw [List.take_of_length_le (by omega), List.take_of_length_le (by omega)] at h1
          exact decide_eq_true h1
        have i1 : ¬ (k : Int) < R.length := by omega
        clear hce
        go_wp2_with fail
        go_ret
        exact ⟨by rw [HS.out]; rfl, q, HX.out.2⟩
  · have hnb : ((R.length : Int) != (R'.length : Int)) = true := by simpa using fun e => hn (by omega)
    have HN : Hid (decide (R = R') = false) := by show decide _ = false; exact decide_eq_false fun e => hn (by rw [e])
    clear hn
    go_enter Tryd.func11, Tryd.ntmps11
    go_wp2_with fail
    go_ret
    exact ⟨by rw [HN.out]; rfl, 0, by cases w; rfl⟩
end Go.Proofs.YtkbmbnfpadllmaaDoor.We
