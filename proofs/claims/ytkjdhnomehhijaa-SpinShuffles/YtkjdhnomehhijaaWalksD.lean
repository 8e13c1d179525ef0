/- Contracts of the document's own spins (package beadleref01), and of both kinds of spins over whole blocks of memory. -/
import Derived.Test.YtkjdhnomehhijaaWalksC
namespace Go.Proofs.Ytkjdhnomehhijaa
open Go.RowKit

/-- A spin turned on; the number that it then tells. -/
def turn (z : Int × Int) : Int × Int := red (gadd (gmul z (3, 2)) (1, 0))
def nx (z : Int × Int) (n : Int) : Int := if n < 1 then 0 else ((turn z).1 + (turn z).2) % n
theorem rt_turn (z : Int × Int) : Rt (turn z) := rt_red _
theorem turn_eq (z : Int × Int) : turn z = ((z.1 * 3 - z.2 * 2 + 1) % 524287, (z.1 * 2 + z.2 * 3) % 524287) := by
  unfold turn red gadd gmul
  simp
theorem nx_bounds (z : Int × Int) (n : Int) (h : 1 ≤ n) : 0 ≤ nx z n ∧ nx z n < n := by
  unfold nx
  rw [if_neg (by omega)]
  exact ⟨Int.emod_nonneg _ (by omega), Int.emod_lt_of_pos _ (by omega)⟩

def SpinAt (w : World) (b : Nat) (z : Int × Int) : Prop := w.heap[b]? = some (.cells #[C z, .bool true] 35 (0, 0))
def RefAt (w : World) (b : Nat) (z : Int × Int) : Prop := w.heap[b]? = some (.cells #[C z] 51 (0, 0))

theorem SpinAt.cell0 {w : World} {b : Nat} {z : Int × Int} (h : SpinAt w b z) : w.cell? ⟨b, 0, none⟩ = some (C z) := by
  rw [cell_of_row w b 0 _ _ _ h]; rfl
theorem SpinAt.cell1 {w : World} {b : Nat} {z : Int × Int} (h : SpinAt w b z) : w.cell? ⟨b, 1, none⟩ = some (.bool true) := by
  rw [cell_of_row w b 1 _ _ _ h]; rfl
theorem SpinAt.thaw {w : World} {b : Nat} {z : Int × Int} (h : SpinAt w b z) : w.frozen? ⟨b, 0, none⟩ = false := frozen_of_row w b 0 _ _ h
theorem RefAt.cell0 {w : World} {b : Nat} {z : Int × Int} (h : RefAt w b z) : w.cell? ⟨b, 0, none⟩ = some (C z) := by
  rw [cell_of_row w b 0 _ _ _ h]; rfl
theorem RefAt.thaw {w : World} {b : Nat} {z : Int × Int} (h : RefAt w b z) : w.frozen? ⟨b, 0, none⟩ = false := frozen_of_row w b 0 _ _ h
theorem SpinAt.set {w : World} {b : Nat} {z : Int × Int} (h : SpinAt w b z) (z' : Int × Int) : SpinAt (w.setCell ⟨b, 0, none⟩ (C z')) b z' := by
  have := heap_setCell_same w b 0 _ _ (C z') h
  exact this
theorem RefAt.set {w : World} {b : Nat} {z : Int × Int} (h : RefAt w b z) (z' : Int × Int) : RefAt (w.setCell ⟨b, 0, none⟩ (C z')) b z' := by
  have := heap_setCell_same w b 0 _ _ (C z') h
  exact this
theorem grownBy_set (w : World) (b o : Nat) (v : Value) : w.grownBy (w.setCell ⟨b, o, none⟩ v) (some b) :=
  ⟨rfl, rfl, rfl, by simp, fun k _ hk => heap_setCell_other w ⟨b, o, none⟩ k v (fun e => hk (by simp [e]))⟩
theorem grownBy_drewN {w w' : World} {r : Option Nat} (h : w.grownBy w' r) (k : Nat) : w.grownBy (w'.drewN k) r := ⟨h.os, h.tape, h.output, h.size, h.block⟩
theorem grownBy_refl (w : World) (r : Option Nat) : w.grownBy w r := ⟨rfl, rfl, rfl, Nat.le_refl _, fun _ _ _ => rfl⟩
theorem grownBy_trans {a b c : World} {r : Option Nat} (h : a.grownBy b r) (k : b.grownBy c r) : a.grownBy c r :=
  ⟨k.os.trans h.os, k.tape.trans h.tape, k.output.trans h.output, Nat.le_trans h.size k.size, fun x hx hr => (k.block x (Nat.lt_of_lt_of_le hx h.size) hr).trans (h.block x hx hr)⟩

theorem nextC (z : Int × Int) (n : Int) (b : Nat) (w : World) (hz : Rt z) (h : SpinAt w b z) :
    Calls Try.prog 11 #[.pointer (some ⟨b, 0, none⟩), .int .i64 n] w fun e w' => e = .returned (.int .i64 (nx z n)) ∧ SpinAt w' b (turn z) ∧ w.grownBy w' (some b) := by
  by_cases hn : n < 1
  · refine (next_low z.1 z.2 n b w hz.lo1 hz.hi1 hz.lo2 hz.hi2 h.cell0 h.cell1 h.thaw hn).mono ?_
    rintro e w' ⟨rfl, rfl⟩
    have e1 : Value.complex .f64 (F ((z.1 * 3 - z.2 * 2 + 1) % 524287)) (F ((z.1 * 2 + z.2 * 3) % 524287)) = C (turn z) := by rw [turn_eq]; rfl
    rw [e1]
    exact ⟨by unfold nx; rw [if_pos hn], h.set _, grownBy_set _ _ _ _⟩
  · refine (next_any z.1 z.2 n b w hz.lo1 hz.hi1 hz.lo2 hz.hi2 h.cell0 h.cell1 h.thaw (by omega)).mono ?_
    rintro e w' ⟨rfl, k, rfl⟩
    have e1 : Value.complex .f64 (F ((z.1 * 3 - z.2 * 2 + 1) % 524287)) (F ((z.1 * 2 + z.2 * 3) % 524287)) = C (turn z) := by rw [turn_eq]; rfl
    rw [e1]
    exact ⟨by unfold nx; rw [if_neg hn, turn_eq], h.set _, grownBy_drewN (grownBy_set _ _ _ _) _⟩

/-! The document's own functions. -/
set_option maxHeartbeats 400000 in
theorem whole_any (n : Int) (w : World) (h0 : 0 ≤ n) (h : n < 524287) :
    Calls Try.prog 58 #[.float .f64 (F n)] w fun e w' => e = .returned (.tuple #[.int .i64 n, .bool true]) ∧ w' = w := by
  have o1 := ord_zero n h0 h
  have o2 := ord_M n h0 h
  have o3 := ord_self n (by omega)
  have c1 : ∀ w, (convert 42 2 (.float .f64 (F n))).run Try.prog w = .ok (.int .i64 n) w := fun w => run_convert_float_int w 42 2 .f64 .i64 (F n) n (by rw [Try.underlying42]; rfl) Try.underlying2 (toInt_val n (by omega))
  have c2 : ∀ w, (convert 2 42 (.int .i64 n)).run Try.prog w = .ok (.float .f64 (F n)) w := fun w => run_convert_int_float w 2 42 .i64 .f64 n (by rw [Try.underlying2]; rfl) Try.underlying42
  go_enter Try.func58, Try.ntmps58
  go_wp2
  go_ret2
  exact ⟨rfl, rfl⟩
set_option maxHeartbeats 400000 in
theorem pair_any (x : Int × Int) (w : World) (hx : Rt x) :
    Calls Try.prog 37 #[C x] w fun e w' => e = .returned (.tuple #[.int .i64 x.1, .int .i64 x.2, .bool true]) ∧ w' = w := by
  have l1 := hx.lo1
  have l2 := hx.hi1
  have l3 := hx.lo2
  have l4 := hx.hi2
  have b1 : ∀ ts t w, (Builtin.real_ ts t #[C x]).run Try.prog w = .ok (.float .f64 (F x.1)) w := fun _ _ _ => rfl
  have b2 : ∀ ts t w, (Builtin.imag_ ts t #[C x]).run Try.prog w = .ok (.float .f64 (F x.2)) w := fun _ _ _ => rfl
  go_enter Try.func37, Try.ntmps37
  go_wp2_with (go_at_call 58; refine (whole_any _ _ (by assumption) (by assumption)).mono ?_; rintro e w' ⟨rfl, rfl⟩)
  go_ret3
  exact ⟨rfl, rfl⟩
set_option maxHeartbeats 400000 in
theorem number_any (a b : Int) (w : World) :
    Calls Try.prog 28 #[.int .i64 a, .int .i64 b] w fun e w' => e = .returned (C (red (a, b))) ∧ w' = w := by
  have c2 : ∀ m w, (convert 2 42 (.int .i64 m)).run Try.prog w = .ok (.float .f64 (F m)) w := fun m w => run_convert_int_float w 2 42 .i64 .f64 m (by rw [Try.underlying2]; rfl) Try.underlying42
  obtain ⟨b1, b2⟩ := tmod_bounds a
  obtain ⟨b3, b4⟩ := tmod_bounds b
  have fin : ∀ x y : Int, x = a % 524287 → y = b % 524287 → Ending.returned (.complex .f64 (F x) (F y)) = .returned (C (red (a, b))) := by
    rintro x y rfl rfl; rfl
  have HF : Hid (∀ x y : Int, x = a % 524287 → y = b % 524287 → Ending.returned (.complex .f64 (F x) (F y)) = .returned (C (red (a, b)))) := fin
  clear fin
  by_cases ha : a.tmod 524287 < 0 <;> by_cases hb : b.tmod 524287 < 0
  all_goals
    go_enter Try.func28, Try.ntmps28
    go_wp2
    go_ret
  · exact ⟨HF.out _ _ (tmod_neg a ha) (tmod_neg b hb), rfl⟩
  · exact ⟨HF.out _ _ (tmod_neg a ha) (tmod_pos b (by omega)), rfl⟩
  · exact ⟨HF.out _ _ (tmod_pos a (by omega)) (tmod_neg b hb), rfl⟩
  · exact ⟨HF.out _ _ (tmod_pos a (by omega)) (tmod_pos b (by omega)), rfl⟩

set_option maxHeartbeats 400000 in
theorem refTimes (x y : Int × Int) (w : World) (hx : Rt x) (hy : Rt y) :
    Calls Try.prog 31 #[C x, C y] w fun e w' => e = .returned (.tuple #[C (red (gmul x y)), .bool true]) ∧ w' = w := by
  obtain ⟨p1, p2⟩ := prod_bounds x.1 y.1 hx.lo1 hy.lo1 hx.hi1 hy.hi1
  obtain ⟨p3, p4⟩ := prod_bounds x.2 y.2 hx.lo2 hy.lo2 hx.hi2 hy.hi2
  obtain ⟨p5, p6⟩ := prod_bounds x.1 y.2 hx.lo1 hy.lo2 hx.hi1 hy.hi2
  obtain ⟨p7, p8⟩ := prod_bounds x.2 y.1 hx.lo2 hy.lo1 hx.hi2 hy.hi1
  go_enter Try.func31, Try.ntmps31
  go_wp2_with (first | (go_at_call 37; refine (pair_any _ _ (by assumption)).mono ?_; rintro e w' ⟨rfl, rfl⟩) | (go_at_call 28; refine (number_any _ _ _).mono ?_; rintro e w' ⟨rfl, rfl⟩))
  go_ret2
  exact ⟨rfl, rfl⟩
set_option maxHeartbeats 400000 in
theorem refPlus (x y : Int × Int) (w : World) (hx : Rt x) (hy : Rt y) :
    Calls Try.prog 32 #[C x, C y] w fun e w' => e = .returned (.tuple #[C (red (gadd x y)), .bool true]) ∧ w' = w := by
  have p1 := hx.lo1
  have p2 := hx.hi1
  have p3 := hx.lo2
  have p4 := hx.hi2
  have p5 := hy.lo1
  have p6 := hy.hi1
  have p7 := hy.lo2
  have p8 := hy.hi2
  go_enter Try.func32, Try.ntmps32
  go_wp2_with (first | (go_at_call 37; refine (pair_any _ _ (by assumption)).mono ?_; rintro e w' ⟨rfl, rfl⟩) | (go_at_call 28; refine (number_any _ _ _).mono ?_; rintro e w' ⟨rfl, rfl⟩))
  go_ret2
  exact ⟨rfl, rfl⟩

theorem rt_32 : Rt (3, 2) := ⟨by decide, by decide, by decide, by decide⟩
theorem rt_10 : Rt (1, 0) := ⟨by decide, by decide, by decide, by decide⟩
theorem C_32 : C (3, 2) = .complex .f64 4613937818241073152 4611686018427387904 := by unfold C; rw [F_3, F_2]
theorem C_10 : C (1, 0) = .complex .f64 4607182418800017408 0 := by unfold C; rw [F_1, F_zero]
theorem refTimes32 (x : Int × Int) (w : World) (hx : Rt x) :
    Calls Try.prog 31 #[C x, .complex .f64 4613937818241073152 4611686018427387904] w fun e w' => e = .returned (.tuple #[C (red (gmul x (3, 2))), .bool true]) ∧ w' = w := by
  rw [← C_32]; exact refTimes x (3, 2) w hx rt_32
theorem refPlus1 (x : Int × Int) (w : World) :
    Calls Try.prog 32 #[C (red (gmul x (3, 2))), .complex .f64 4607182418800017408 0] w fun e w' => e = .returned (.tuple #[.complex .f64 (F (turn x).1) (F (turn x).2), .bool true]) ∧ w' = w := by
  have h := refPlus (red (gmul x (3, 2))) (1, 0) w (rt_red _) rt_10
  have e : red (gadd (red (gmul x (3, 2))) (1, 0)) = turn x := by
    unfold turn
    rw [← red_add, red_red, red_add]
  rw [e, C_10] at h
  exact h
theorem number_raw (a b : Int) (w : World) :
    Calls Try.prog 28 #[.int .i64 a, .int .i64 b] w fun e w' => e = .returned (.complex .f64 (F (red (a, b)).1) (F (red (a, b)).2)) ∧ w' = w := number_any a b w
theorem refNew (seed : Int) (w : World) :
    Calls Try.prog 10 #[.int .i64 seed] w fun e w' => e = .returned (.pointer (some ⟨w.heap.size, 0, none⟩)) ∧ w' = w.alloc (.cells #[C (red (seed, 1))] 51) := by
  go_enter Try.func10, Try.ntmps10
  go_wp2_with (go_at_call 28; refine (number_raw _ _ _).mono ?_; rintro e w' ⟨rfl, rfl⟩)
  go_ret
  exact ⟨rfl, rfl⟩
theorem newC (seed : Int) (w : World) :
    Calls Try.prog 9 #[.int .i64 seed] w fun e w' => e = .returned (.pointer (some ⟨w.heap.size, 0, none⟩)) ∧ w' = w.alloc (.cells #[C (red (seed, 1)), .bool true] 35) := by
  have h := new_any seed w
  have e : C (red (seed, 1)) = .complex .f64 (F (seed % 524287)) 4607182418800017408 := by
    unfold C red
    show Value.complex .f64 (F (seed % 524287)) (F (1 % 524287)) = _
    rw [show (1 : Int) % 524287 = 1 from rfl, F_1]
  rw [e]; exact h

theorem ret_nx (z : Int × Int) (n : Int) (h : 1 ≤ n) : Ending.returned (.int .i64 (((turn z).1 + (turn z).2) % n)) = .returned (.int .i64 (nx z n)) := by
  unfold nx; rw [if_neg (by omega)]
theorem ret_nx0 (z : Int × Int) (n : Int) (h : n < 1) : Ending.returned (.int .i64 0) = .returned (.int .i64 (nx z n)) := by
  unfold nx; rw [if_pos h]

set_option maxHeartbeats 400000 in
theorem refNextC (z : Int × Int) (n : Int) (b : Nat) (w : World) (hz : Rt z) (h : RefAt w b z) :
    Calls Try.prog 12 #[.pointer (some ⟨b, 0, none⟩), .int .i64 n] w fun e w' => e = .returned (.int .i64 (nx z n)) ∧ RefAt w' b (turn z) ∧ w.grownBy w' (some b) := by
  have c0 := h.cell0
  have f0 := h.thaw
  have H : Hid (RefAt w b z) := h
  clear h
  have ht := rt_turn z
  have l1 := ht.lo1
  have l2 := ht.hi1
  have l3 := ht.lo2
  have l4 := ht.hi2
  have c1 : ∀ w, (convert 42 3 (.float .f64 (F (turn z).1))).run Try.prog w = .ok (.int .i64 (turn z).1) w := fun w => run_convert_float_int w 42 3 .f64 .i64 _ _ (by rw [Try.underlying42]; rfl) Try.underlying3 (toInt_val _ (by omega))
  have c2 : ∀ w, (convert 42 3 (.float .f64 (F (turn z).2))).run Try.prog w = .ok (.int .i64 (turn z).2) w := fun w => run_convert_float_int w 42 3 .f64 .i64 _ _ (by rw [Try.underlying42]; rfl) Try.underlying3 (toInt_val _ (by omega))
  have hst : ∀ w a x y m, (store a (.complex .f64 x y) m).run Try.prog w = stored Try.prog w a (.complex .f64 x y) m := fun w a x y m => run_store _ w a _ m rfl
  by_cases hn : n < 1
  · go_enter Try.func12, Try.ntmps12
    go_wp2_with (first | (go_at_call 31; refine (refTimes32 _ _ (by assumption)).mono ?_; rintro e w' ⟨rfl, rfl⟩) | (go_at_call 32; refine (refPlus1 _ _).mono ?_; rintro e w' ⟨rfl, rfl⟩))
    go_ret
    exact ⟨ret_nx0 z n hn, H.out.set _, grownBy_set _ _ _ _⟩
  · go_enter Try.func12, Try.ntmps12
    go_wp2_with (first | (go_at_call 31; refine (refTimes32 _ _ (by assumption)).mono ?_; rintro e w' ⟨rfl, rfl⟩) | (go_at_call 32; refine (refPlus1 _ _).mono ?_; rintro e w' ⟨rfl, rfl⟩))
    go_ret
    exact ⟨ret_nx z n (by omega), H.out.set _, grownBy_set _ _ _ _⟩
end Go.Proofs.Ytkjdhnomehhijaa
