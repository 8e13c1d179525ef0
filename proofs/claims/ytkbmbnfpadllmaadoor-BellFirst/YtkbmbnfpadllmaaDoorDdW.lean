/- The walks of the small functions of package deed. -/
import Derived.Test.YtkbmbnfpadllmaaDoorDd2
import Derived.Test.YtkbmbnfpadllmaaDoorPathW
import Derived.Test.YtkbmbnfpadllmaaDoorEnsE
namespace Go.Proofs.YtkbmbnfpadllmaaDoor.DD
open Go.RowKit

theorem wrap_small {n : Int} (h1 : -9223372036854775808 ≤ n) (h2 : n < 9223372036854775808) : wrap64 n = n := by unfold wrap64; omega
theorem mayBe_any (z : Int) (hz : I64 z) (w : World) : Calls Tryd.prog 32 #[.int .i64 z] w fun e w' => e = .returned (.bool (decide (0 ≤ z) && decide (z / 4294967296 ≤ 1073741824))) ∧ w' = w := by
  unfold I64 at hz
  by_cases h : 0 ≤ z
  · have hq : Int.tdiv z 4294967296 = z / 4294967296 := Int.tdiv_eq_ediv_of_nonneg h
    have hw : wrap64 (z / 4294967296) = z / 4294967296 := wrap_small (by omega) (by omega)
    rw [decide_eq_true h, Bool.true_and]
    go_enter Tryd.func32, Tryd.ntmps32
    go_wp2
    go_ret
    exact ⟨rfl, rfl⟩
  · have e : (decide (0 ≤ z) && decide (z / 4294967296 ≤ 1073741824)) = false := by rw [decide_eq_false h]; rfl
    rw [e]
    clear e
    go_enter Tryd.func32, Tryd.ntmps32
    go_wp2
    go_ret
    exact ⟨rfl, rfl⟩
theorem of_any (k : Int) (hk : 0 ≤ k ∧ k < 256) (w : World) (hL : PA.Laid w) : Calls Tryd.prog 43 #[.int .u8 k] w fun e w' => e = .returned (.int .u16 (PA.kTab k.toNat)) ∧ w' = w := by
  by_cases h : k < 10
  · have hc := hL.tab k.toNat (by omega)
    have e : (k.toNat : Int) = k := by omega
    go_enter Tryd.func43, Tryd.ntmps43
    go_wp2
    go_ret
    exact ⟨rfl, rfl⟩
  · have e : PA.kTab k.toNat = 0 := by
      unfold PA.kTab
      rw [List.getD_eq_getElem?_getD, List.getElem?_eq_none (by simp; omega)]
      rfl
    rw [e]
    clear e
    go_enter Tryd.func43, Tryd.ntmps43
    go_wp2
    go_ret
    exact ⟨rfl, rfl⟩
theorem below2 (w : World) (o1 o2 : Obj) : Below w.heap.size w ((w.alloc o1).alloc o2) := ((Below.refl _ _).alloc (Nat.le_refl _) _).alloc (by simp) _
set_option maxRecDepth 100000 in
theorem headOf_any (zx kd se tu xi ti ow ve cv tmo er cr : Int) (p : ByteArray) (x y z : Value) (w : World) :
    Calls Tryd.prog 31 #[.agg #[.int .i64 zx, .int .u8 kd, .int .i64 se, .int .i64 tu, .int .i64 xi, .int .i64 ti, .string p, x, .int .i64 ow, .int .i64 ve, .int .i64 cv, .int .i64 tmo, .int .i64 er, .int .i64 cr, y, z]] w fun e w' => e = .returned (.agg #[.int .i64 zx, .int .i64 se, .int .i64 tu, .int .i64 xi, .int .i64 ti]) ∧ Below w.heap.size w w' := by
  go_enter Tryd.func31, Tryd.ntmps31
  go_wp2
  refine bodyPost_ret (v := .agg #[.int .i64 zx, .int .i64 se, .int .i64 tu, .int .i64 xi, .int .i64 ti]) (by simp [results, Tryd.results31, go_sem]) rfl ⟨rfl, below2 _ _ _⟩
set_option maxRecDepth 100000 in
theorem numbersOf_any (zx kd se tu xi ti ow ve cv tmo er cr : Int) (p : ByteArray) (x y z : Value) (w : World) :
    Calls Tryd.prog 45 #[.agg #[.int .i64 zx, .int .u8 kd, .int .i64 se, .int .i64 tu, .int .i64 xi, .int .i64 ti, .string p, x, .int .i64 ow, .int .i64 ve, .int .i64 cv, .int .i64 tmo, .int .i64 er, .int .i64 cr, y, z]] w fun e w' => e = .returned (.agg #[.int .i64 ow, .int .i64 ve, .int .i64 cv, .int .i64 tmo, .int .i64 er]) ∧ Below w.heap.size w w' := by
  go_enter Tryd.func45, Tryd.ntmps45
  go_wp2
  refine bodyPost_ret (v := .agg #[.int .i64 ow, .int .i64 ve, .int .i64 cv, .int .i64 tmo, .int .i64 er]) (by simp [results, Tryd.results45, go_sem]) rfl ⟨rfl, below2 _ _ _⟩
def bitsI : List Bool → Int
  | [] => 0
  | b :: r => (if b = true then 1 else 0) + 2 * bitsI r
theorem or_bits : ∀ b0 b1 b2 b3 b4 b5 b6 b7 : Bool,
    bits BinOp.or IntKind.u16 (bitsI []) 1 = bitsI [true] ∧ bits BinOp.or IntKind.u16 (bitsI [b0]) 2 = bitsI [b0, true] ∧ bits BinOp.or IntKind.u16 (bitsI [b0, b1]) 4 = bitsI [b0, b1, true] ∧ bits BinOp.or IntKind.u16 (bitsI [b0, b1, b2]) 8 = bitsI [b0, b1, b2, true] ∧
    bits BinOp.or IntKind.u16 (bitsI [b0, b1, b2, b3]) 16 = bitsI [b0, b1, b2, b3, true] ∧ bits BinOp.or IntKind.u16 (bitsI [b0, b1, b2, b3, b4]) 32 = bitsI [b0, b1, b2, b3, b4, true] ∧ bits BinOp.or IntKind.u16 (bitsI [b0, b1, b2, b3, b4, b5]) 64 = bitsI [b0, b1, b2, b3, b4, b5, true] ∧
    bits BinOp.or IntKind.u16 (bitsI [b0, b1, b2, b3, b4, b5, b6]) 128 = bitsI [b0, b1, b2, b3, b4, b5, b6, true] ∧ bits BinOp.or IntKind.u16 (bitsI [b0, b1, b2, b3, b4, b5, b6, b7]) 256 = bitsI [b0, b1, b2, b3, b4, b5, b6, b7, true] := by decide +kernel
theorem off_bits : ∀ b0 b1 b2 b3 b4 b5 b6 b7 : Bool,
    bitsI [] = bitsI [false] ∧ bitsI [b0] = bitsI [b0, false] ∧ bitsI [b0, b1] = bitsI [b0, b1, false] ∧ bitsI [b0, b1, b2] = bitsI [b0, b1, b2, false] ∧ bitsI [b0, b1, b2, b3] = bitsI [b0, b1, b2, b3, false] ∧ bitsI [b0, b1, b2, b3, b4] = bitsI [b0, b1, b2, b3, b4, false] ∧
    bitsI [b0, b1, b2, b3, b4, b5] = bitsI [b0, b1, b2, b3, b4, b5, false] ∧ bitsI [b0, b1, b2, b3, b4, b5, b6] = bitsI [b0, b1, b2, b3, b4, b5, b6, false] ∧ bitsI [b0, b1, b2, b3, b4, b5, b6, b7] = bitsI [b0, b1, b2, b3, b4, b5, b6, b7, false] := by decide +kernel
/- The bits up tmo k. -/
def upTo (b0 b1 b2 b3 b4 b5 b6 b7 b8 : Bool) (k : Nat) : Int := bitsI ([b0, b1, b2, b3, b4, b5, b6, b7, b8].take k)
theorem ix0 (w : World) (b0 b1 b2 b3 b4 b5 b6 b7 b8 : Bool) : (Instr.index 109 (.agg #[.bool b0, .bool b1, .bool b2, .bool b3, .bool b4, .bool b5, .bool b6, .bool b7, .bool b8]) (.int .i64 0)).run Tryd.prog w = .ok (.bool b0) w := by
  simp [Instr.index, run_underlying Tryd.underlying109, asIntOf, go_sem]
theorem ix1 (w : World) (b0 b1 b2 b3 b4 b5 b6 b7 b8 : Bool) : (Instr.index 109 (.agg #[.bool b0, .bool b1, .bool b2, .bool b3, .bool b4, .bool b5, .bool b6, .bool b7, .bool b8]) (.int .i64 1)).run Tryd.prog w = .ok (.bool b1) w := by
  simp [Instr.index, run_underlying Tryd.underlying109, asIntOf, go_sem]
theorem ix2 (w : World) (b0 b1 b2 b3 b4 b5 b6 b7 b8 : Bool) : (Instr.index 109 (.agg #[.bool b0, .bool b1, .bool b2, .bool b3, .bool b4, .bool b5, .bool b6, .bool b7, .bool b8]) (.int .i64 2)).run Tryd.prog w = .ok (.bool b2) w := by
  simp [Instr.index, run_underlying Tryd.underlying109, asIntOf, go_sem]
theorem ix3 (w : World) (b0 b1 b2 b3 b4 b5 b6 b7 b8 : Bool) : (Instr.index 109 (.agg #[.bool b0, .bool b1, .bool b2, .bool b3, .bool b4, .bool b5, .bool b6, .bool b7, .bool b8]) (.int .i64 3)).run Tryd.prog w = .ok (.bool b3) w := by
  simp [Instr.index, run_underlying Tryd.underlying109, asIntOf, go_sem]
theorem ix4 (w : World) (b0 b1 b2 b3 b4 b5 b6 b7 b8 : Bool) : (Instr.index 109 (.agg #[.bool b0, .bool b1, .bool b2, .bool b3, .bool b4, .bool b5, .bool b6, .bool b7, .bool b8]) (.int .i64 4)).run Tryd.prog w = .ok (.bool b4) w := by
  simp [Instr.index, run_underlying Tryd.underlying109, asIntOf, go_sem]
theorem ix5 (w : World) (b0 b1 b2 b3 b4 b5 b6 b7 b8 : Bool) : (Instr.index 109 (.agg #[.bool b0, .bool b1, .bool b2, .bool b3, .bool b4, .bool b5, .bool b6, .bool b7, .bool b8]) (.int .i64 5)).run Tryd.prog w = .ok (.bool b5) w := by
  simp [Instr.index, run_underlying Tryd.underlying109, asIntOf, go_sem]
theorem ix6 (w : World) (b0 b1 b2 b3 b4 b5 b6 b7 b8 : Bool) : (Instr.index 109 (.agg #[.bool b0, .bool b1, .bool b2, .bool b3, .bool b4, .bool b5, .bool b6, .bool b7, .bool b8]) (.int .i64 6)).run Tryd.prog w = .ok (.bool b6) w := by
  simp [Instr.index, run_underlying Tryd.underlying109, asIntOf, go_sem]
theorem ix7 (w : World) (b0 b1 b2 b3 b4 b5 b6 b7 b8 : Bool) : (Instr.index 109 (.agg #[.bool b0, .bool b1, .bool b2, .bool b3, .bool b4, .bool b5, .bool b6, .bool b7, .bool b8]) (.int .i64 7)).run Tryd.prog w = .ok (.bool b7) w := by
  simp [Instr.index, run_underlying Tryd.underlying109, asIntOf, go_sem]
theorem ix8 (w : World) (b0 b1 b2 b3 b4 b5 b6 b7 b8 : Bool) : (Instr.index 109 (.agg #[.bool b0, .bool b1, .bool b2, .bool b3, .bool b4, .bool b5, .bool b6, .bool b7, .bool b8]) (.int .i64 8)).run Tryd.prog w = .ok (.bool b8) w := by
  simp [Instr.index, run_underlying Tryd.underlying109, asIntOf, go_sem]
set_option maxRecDepth 100000 in
set_option maxHeartbeats 4000000 in
theorem filled_loop (zx kd se tu xi ti ow ve cv tmo er cr : Int) (p : ByteArray) (A1 A2 A3 : Option Addr) (n1 n2 n3 c1 c2 c3 : Nat) (w : World) (b0 b1 b2 b3 b4 b5 b6 b7 b8 : Bool) (h0 : (!p.toList.isEmpty) = b0) (h1 : decide (0 < n1) = b1) (h2 : (ow != 0) = b2) (h3 : (ve != 0) = b3) (h4 : (cv != 0) = b4) (h5 : (tmo != 0) = b5) (h6 : (er != 0) = b6) (h7 : ((cr != 0) = true ∧ b7 = true) ∨ ((cr != 0) = false ∧ decide (0 < n2) = b7)) (h8 : decide (0 < n3) = b8) :
    Calls Tryd.prog 44 #[.agg #[.int .i64 zx, .int .u8 kd, .int .i64 se, .int .i64 tu, .int .i64 xi, .int .i64 ti, .string p, .slice A1 n1 c1, .int .i64 ow, .int .i64 ve, .int .i64 cv, .int .i64 tmo, .int .i64 er, .int .i64 cr, .slice A2 n2 c2, .slice A3 n3 c3]] w fun e w' => e = .returned (.int .u16 (upTo b0 b1 b2 b3 b4 b5 b6 b7 b8 9)) ∧ Below w.heap.size w w' := by
  have HB : Hid (∀ o, Below w.heap.size w (w.alloc o)) := fun o => (Below.refl _ _).alloc (Nat.le_refl _) o
  rcases h7 with ⟨hcr, h7⟩ | ⟨hcr, h7⟩
  · subst h7
    go_enter Tryd.func44, Tryd.ntmps44
    go_wp2_with fail
    generalize hwx : w.alloc _ = wX
    have HBX : Hid (Below w.heap.size w wX) := by rw [← hwx]; exact HB.out _
    clear hwx HB h0 h1 h2 h3 h4 h5 h6 h8
    go_loopw [3, 44] (fun v c wr => ∃ k : Nat, k ≤ 9 ∧ c = .int .i64 k ∧ v = .int .u16 (upTo b0 b1 b2 b3 b4 b5 b6 true b8 k) ∧ wr = wX) (fun _ c _ => 9 - (intOf c).toNat)
    case atStart => exact ⟨0, by omega, rfl, rfl, rfl⟩
    case round =>
      obtain ⟨k, hk, rfl, rfl, rfl⟩ := hrel
      by_cases h9 : k = 9
      · subst h9
        go_wp2
        go_ret
        exact ⟨rfl, HBX.out⟩
      · have x0 := fun w => ix0 w b0 b1 b2 b3 b4 b5 b6 true b8
        have x1 := fun w => ix1 w b0 b1 b2 b3 b4 b5 b6 true b8
        have x2 := fun w => ix2 w b0 b1 b2 b3 b4 b5 b6 true b8
        have x3 := fun w => ix3 w b0 b1 b2 b3 b4 b5 b6 true b8
        have x4 := fun w => ix4 w b0 b1 b2 b3 b4 b5 b6 true b8
        have x5 := fun w => ix5 w b0 b1 b2 b3 b4 b5 b6 true b8
        have x6 := fun w => ix6 w b0 b1 b2 b3 b4 b5 b6 true b8
        have x7 := fun w => ix7 w b0 b1 b2 b3 b4 b5 b6 true b8
        have x8 := fun w => ix8 w b0 b1 b2 b3 b4 b5 b6 true b8
        obtain rfl | rfl | rfl | rfl | rfl | rfl | rfl | rfl | rfl : k = 0 ∨ k = 1 ∨ k = 2 ∨ k = 3 ∨ k = 4 ∨ k = 5 ∨ k = 6 ∨ k = 7 ∨ k = 8 := by omega
        · cases b0
          · have hup : upTo false b1 b2 b3 b4 b5 b6 true b8 0 = upTo false b1 b2 b3 b4 b5 b6 true b8 1 := (off_bits true true true true true true true true).1
            go_wp2
            exact ⟨⟨1, by omega, by go_num, (by first | rfl | rw [hup]), (by first | trivial | rfl)⟩, by simp [intOf]⟩
          · have hup : bits BinOp.or IntKind.u16 (upTo true b1 b2 b3 b4 b5 b6 true b8 0) 1 = upTo true b1 b2 b3 b4 b5 b6 true b8 1 := (or_bits true true true true true true true true).1
            go_wp2
            exact ⟨⟨1, by omega, by go_num, (by first | rfl | rw [hup]), (by first | trivial | rfl)⟩, by simp [intOf]⟩
        · cases b1
          · have hup : upTo b0 false b2 b3 b4 b5 b6 true b8 1 = upTo b0 false b2 b3 b4 b5 b6 true b8 2 := (off_bits b0 true true true true true true true).2.1
            go_wp2
            exact ⟨⟨2, by omega, by go_num, (by first | rfl | rw [hup]), (by first | trivial | rfl)⟩, by simp [intOf]⟩
          · have hup : bits BinOp.or IntKind.u16 (upTo b0 true b2 b3 b4 b5 b6 true b8 1) 2 = upTo b0 true b2 b3 b4 b5 b6 true b8 2 := (or_bits b0 true true true true true true true).2.1
            go_wp2
            exact ⟨⟨2, by omega, by go_num, (by first | rfl | rw [hup]), (by first | trivial | rfl)⟩, by simp [intOf]⟩
        · cases b2
          · have hup : upTo b0 b1 false b3 b4 b5 b6 true b8 2 = upTo b0 b1 false b3 b4 b5 b6 true b8 3 := (off_bits b0 b1 true true true true true true).2.2.1
            go_wp2
            exact ⟨⟨3, by omega, by go_num, (by first | rfl | rw [hup]), (by first | trivial | rfl)⟩, by simp [intOf]⟩
          · have hup : bits BinOp.or IntKind.u16 (upTo b0 b1 true b3 b4 b5 b6 true b8 2) 4 = upTo b0 b1 true b3 b4 b5 b6 true b8 3 := (or_bits b0 b1 true true true true true true).2.2.1
            go_wp2
            exact ⟨⟨3, by omega, by go_num, (by first | rfl | rw [hup]), (by first | trivial | rfl)⟩, by simp [intOf]⟩
        · cases b3
          · have hup : upTo b0 b1 b2 false b4 b5 b6 true b8 3 = upTo b0 b1 b2 false b4 b5 b6 true b8 4 := (off_bits b0 b1 b2 true true true true true).2.2.2.1
            go_wp2
            exact ⟨⟨4, by omega, by go_num, (by first | rfl | rw [hup]), (by first | trivial | rfl)⟩, by simp [intOf]⟩
          · have hup : bits BinOp.or IntKind.u16 (upTo b0 b1 b2 true b4 b5 b6 true b8 3) 8 = upTo b0 b1 b2 true b4 b5 b6 true b8 4 := (or_bits b0 b1 b2 true true true true true).2.2.2.1
            go_wp2
            exact ⟨⟨4, by omega, by go_num, (by first | rfl | rw [hup]), (by first | trivial | rfl)⟩, by simp [intOf]⟩
        · cases b4
          · have hup : upTo b0 b1 b2 b3 false b5 b6 true b8 4 = upTo b0 b1 b2 b3 false b5 b6 true b8 5 := (off_bits b0 b1 b2 b3 true true true true).2.2.2.2.1
            go_wp2
            exact ⟨⟨5, by omega, by go_num, (by first | rfl | rw [hup]), (by first | trivial | rfl)⟩, by simp [intOf]⟩
          · have hup : bits BinOp.or IntKind.u16 (upTo b0 b1 b2 b3 true b5 b6 true b8 4) 16 = upTo b0 b1 b2 b3 true b5 b6 true b8 5 := (or_bits b0 b1 b2 b3 true true true true).2.2.2.2.1
            go_wp2
            exact ⟨⟨5, by omega, by go_num, (by first | rfl | rw [hup]), (by first | trivial | rfl)⟩, by simp [intOf]⟩
        · cases b5
          · have hup : upTo b0 b1 b2 b3 b4 false b6 true b8 5 = upTo b0 b1 b2 b3 b4 false b6 true b8 6 := (off_bits b0 b1 b2 b3 b4 true true true).2.2.2.2.2.1
            go_wp2
            exact ⟨⟨6, by omega, by go_num, (by first | rfl | rw [hup]), (by first | trivial | rfl)⟩, by simp [intOf]⟩
          · have hup : bits BinOp.or IntKind.u16 (upTo b0 b1 b2 b3 b4 true b6 true b8 5) 32 = upTo b0 b1 b2 b3 b4 true b6 true b8 6 := (or_bits b0 b1 b2 b3 b4 true true true).2.2.2.2.2.1
            go_wp2
            exact ⟨⟨6, by omega, by go_num, (by first | rfl | rw [hup]), (by first | trivial | rfl)⟩, by simp [intOf]⟩
        · cases b6
          · have hup : upTo b0 b1 b2 b3 b4 b5 false true b8 6 = upTo b0 b1 b2 b3 b4 b5 false true b8 7 := (off_bits b0 b1 b2 b3 b4 b5 true true).2.2.2.2.2.2.1
            go_wp2
            exact ⟨⟨7, by omega, by go_num, (by first | rfl | rw [hup]), (by first | trivial | rfl)⟩, by simp [intOf]⟩
          · have hup : bits BinOp.or IntKind.u16 (upTo b0 b1 b2 b3 b4 b5 true true b8 6) 64 = upTo b0 b1 b2 b3 b4 b5 true true b8 7 := (or_bits b0 b1 b2 b3 b4 b5 true true).2.2.2.2.2.2.1
            go_wp2
            exact ⟨⟨7, by omega, by go_num, (by first | rfl | rw [hup]), (by first | trivial | rfl)⟩, by simp [intOf]⟩
        · have hup : bits BinOp.or IntKind.u16 (upTo b0 b1 b2 b3 b4 b5 b6 true b8 7) 128 = upTo b0 b1 b2 b3 b4 b5 b6 true b8 8 := (or_bits b0 b1 b2 b3 b4 b5 b6 true).2.2.2.2.2.2.2.1
          go_wp2
          exact ⟨⟨8, by omega, by go_num, (by first | rfl | rw [hup]), (by first | trivial | rfl)⟩, by simp [intOf]⟩
        · cases b8
          · have hup : upTo b0 b1 b2 b3 b4 b5 b6 true false 8 = upTo b0 b1 b2 b3 b4 b5 b6 true false 9 := (off_bits b0 b1 b2 b3 b4 b5 b6 true).2.2.2.2.2.2.2.2
            go_wp2
            exact ⟨⟨9, by omega, by go_num, (by first | rfl | rw [hup]), (by first | trivial | rfl)⟩, by simp [intOf]⟩
          · have hup : bits BinOp.or IntKind.u16 (upTo b0 b1 b2 b3 b4 b5 b6 true true 8) 256 = upTo b0 b1 b2 b3 b4 b5 b6 true true 9 := (or_bits b0 b1 b2 b3 b4 b5 b6 true).2.2.2.2.2.2.2.2
            go_wp2
            exact ⟨⟨9, by omega, by go_num, (by first | rfl | rw [hup]), (by first | trivial | rfl)⟩, by simp [intOf]⟩
  · go_enter Tryd.func44, Tryd.ntmps44
    go_wp2_with fail
    generalize hwx : w.alloc _ = wX
    have HBX : Hid (Below w.heap.size w wX) := by rw [← hwx]; exact HB.out _
    clear hwx HB h0 h1 h2 h3 h4 h5 h6 h7 h8
    go_loopw [3, 44] (fun v c wr => ∃ k : Nat, k ≤ 9 ∧ c = .int .i64 k ∧ v = .int .u16 (upTo b0 b1 b2 b3 b4 b5 b6 b7 b8 k) ∧ wr = wX) (fun _ c _ => 9 - (intOf c).toNat)
    case atStart => exact ⟨0, by omega, rfl, rfl, rfl⟩
    case round =>
      obtain ⟨k, hk, rfl, rfl, rfl⟩ := hrel
      by_cases h9 : k = 9
      · subst h9
        go_wp2
        go_ret
        exact ⟨rfl, HBX.out⟩
      · have x0 := fun w => ix0 w b0 b1 b2 b3 b4 b5 b6 b7 b8
        have x1 := fun w => ix1 w b0 b1 b2 b3 b4 b5 b6 b7 b8
        have x2 := fun w => ix2 w b0 b1 b2 b3 b4 b5 b6 b7 b8
        have x3 := fun w => ix3 w b0 b1 b2 b3 b4 b5 b6 b7 b8
        have x4 := fun w => ix4 w b0 b1 b2 b3 b4 b5 b6 b7 b8
        have x5 := fun w => ix5 w b0 b1 b2 b3 b4 b5 b6 b7 b8
        have x6 := fun w => ix6 w b0 b1 b2 b3 b4 b5 b6 b7 b8
        have x7 := fun w => ix7 w b0 b1 b2 b3 b4 b5 b6 b7 b8
        have x8 := fun w => ix8 w b0 b1 b2 b3 b4 b5 b6 b7 b8
        obtain rfl | rfl | rfl | rfl | rfl | rfl | rfl | rfl | rfl : k = 0 ∨ k = 1 ∨ k = 2 ∨ k = 3 ∨ k = 4 ∨ k = 5 ∨ k = 6 ∨ k = 7 ∨ k = 8 := by omega
        · cases b0
          · have hup : upTo false b1 b2 b3 b4 b5 b6 b7 b8 0 = upTo false b1 b2 b3 b4 b5 b6 b7 b8 1 := (off_bits true true true true true true true true).1
            go_wp2
            exact ⟨⟨1, by omega, by go_num, (by first | rfl | rw [hup]), (by first | trivial | rfl)⟩, by simp [intOf]⟩
          · have hup : bits BinOp.or IntKind.u16 (upTo true b1 b2 b3 b4 b5 b6 b7 b8 0) 1 = upTo true b1 b2 b3 b4 b5 b6 b7 b8 1 := (or_bits true true true true true true true true).1
            go_wp2
            exact ⟨⟨1, by omega, by go_num, (by first | rfl | rw [hup]), (by first | trivial | rfl)⟩, by simp [intOf]⟩
        · cases b1
          · have hup : upTo b0 false b2 b3 b4 b5 b6 b7 b8 1 = upTo b0 false b2 b3 b4 b5 b6 b7 b8 2 := (off_bits b0 true true true true true true true).2.1
            go_wp2
            exact ⟨⟨2, by omega, by go_num, (by first | rfl | rw [hup]), (by first | trivial | rfl)⟩, by simp [intOf]⟩
          · have hup : bits BinOp.or IntKind.u16 (upTo b0 true b2 b3 b4 b5 b6 b7 b8 1) 2 = upTo b0 true b2 b3 b4 b5 b6 b7 b8 2 := (or_bits b0 true true true true true true true).2.1
            go_wp2
            exact ⟨⟨2, by omega, by go_num, (by first | rfl | rw [hup]), (by first | trivial | rfl)⟩, by simp [intOf]⟩
        · cases b2
          · have hup : upTo b0 b1 false b3 b4 b5 b6 b7 b8 2 = upTo b0 b1 false b3 b4 b5 b6 b7 b8 3 := (off_bits b0 b1 true true true true true true).2.2.1
            go_wp2
            exact ⟨⟨3, by omega, by go_num, (by first | rfl | rw [hup]), (by first | trivial | rfl)⟩, by simp [intOf]⟩
          · have hup : bits BinOp.or IntKind.u16 (upTo b0 b1 true b3 b4 b5 b6 b7 b8 2) 4 = upTo b0 b1 true b3 b4 b5 b6 b7 b8 3 := (or_bits b0 b1 true true true true true true).2.2.1
            go_wp2
            exact ⟨⟨3, by omega, by go_num, (by first | rfl | rw [hup]), (by first | trivial | rfl)⟩, by simp [intOf]⟩
        · cases b3
          · have hup : upTo b0 b1 b2 false b4 b5 b6 b7 b8 3 = upTo b0 b1 b2 false b4 b5 b6 b7 b8 4 := (off_bits b0 b1 b2 true true true true true).2.2.2.1
            go_wp2
            exact ⟨⟨4, by omega, by go_num, (by first | rfl | rw [hup]), (by first | trivial | rfl)⟩, by simp [intOf]⟩
          · have hup : bits BinOp.or IntKind.u16 (upTo b0 b1 b2 true b4 b5 b6 b7 b8 3) 8 = upTo b0 b1 b2 true b4 b5 b6 b7 b8 4 := (or_bits b0 b1 b2 true true true true true).2.2.2.1
            go_wp2
            exact ⟨⟨4, by omega, by go_num, (by first | rfl | rw [hup]), (by first | trivial | rfl)⟩, by simp [intOf]⟩
        · cases b4
          · have hup : upTo b0 b1 b2 b3 false b5 b6 b7 b8 4 = upTo b0 b1 b2 b3 false b5 b6 b7 b8 5 := (off_bits b0 b1 b2 b3 true true true true).2.2.2.2.1
            go_wp2
            exact ⟨⟨5, by omega, by go_num, (by first | rfl | rw [hup]), (by first | trivial | rfl)⟩, by simp [intOf]⟩
          · have hup : bits BinOp.or IntKind.u16 (upTo b0 b1 b2 b3 true b5 b6 b7 b8 4) 16 = upTo b0 b1 b2 b3 true b5 b6 b7 b8 5 := (or_bits b0 b1 b2 b3 true true true true).2.2.2.2.1
            go_wp2
            exact ⟨⟨5, by omega, by go_num, (by first | rfl | rw [hup]), (by first | trivial | rfl)⟩, by simp [intOf]⟩
        · cases b5
          · have hup : upTo b0 b1 b2 b3 b4 false b6 b7 b8 5 = upTo b0 b1 b2 b3 b4 false b6 b7 b8 6 := (off_bits b0 b1 b2 b3 b4 true true true).2.2.2.2.2.1
            go_wp2
            exact ⟨⟨6, by omega, by go_num, (by first | rfl | rw [hup]), (by first | trivial | rfl)⟩, by simp [intOf]⟩
          · have hup : bits BinOp.or IntKind.u16 (upTo b0 b1 b2 b3 b4 true b6 b7 b8 5) 32 = upTo b0 b1 b2 b3 b4 true b6 b7 b8 6 := (or_bits b0 b1 b2 b3 b4 true true true).2.2.2.2.2.1
            go_wp2
            exact ⟨⟨6, by omega, by go_num, (by first | rfl | rw [hup]), (by first | trivial | rfl)⟩, by simp [intOf]⟩
        · cases b6
          · have hup : upTo b0 b1 b2 b3 b4 b5 false b7 b8 6 = upTo b0 b1 b2 b3 b4 b5 false b7 b8 7 := (off_bits b0 b1 b2 b3 b4 b5 true true).2.2.2.2.2.2.1
            go_wp2
            exact ⟨⟨7, by omega, by go_num, (by first | rfl | rw [hup]), (by first | trivial | rfl)⟩, by simp [intOf]⟩
          · have hup : bits BinOp.or IntKind.u16 (upTo b0 b1 b2 b3 b4 b5 true b7 b8 6) 64 = upTo b0 b1 b2 b3 b4 b5 true b7 b8 7 := (or_bits b0 b1 b2 b3 b4 b5 true true).2.2.2.2.2.2.1
            go_wp2
            exact ⟨⟨7, by omega, by go_num, (by first | rfl | rw [hup]), (by first | trivial | rfl)⟩, by simp [intOf]⟩
        · cases b7
          · have hup : upTo b0 b1 b2 b3 b4 b5 b6 false b8 7 = upTo b0 b1 b2 b3 b4 b5 b6 false b8 8 := (off_bits b0 b1 b2 b3 b4 b5 b6 true).2.2.2.2.2.2.2.1
            go_wp2
            exact ⟨⟨8, by omega, by go_num, (by first | rfl | rw [hup]), (by first | trivial | rfl)⟩, by simp [intOf]⟩
          · have hup : bits BinOp.or IntKind.u16 (upTo b0 b1 b2 b3 b4 b5 b6 true b8 7) 128 = upTo b0 b1 b2 b3 b4 b5 b6 true b8 8 := (or_bits b0 b1 b2 b3 b4 b5 b6 true).2.2.2.2.2.2.2.1
            go_wp2
            exact ⟨⟨8, by omega, by go_num, (by first | rfl | rw [hup]), (by first | trivial | rfl)⟩, by simp [intOf]⟩
        · cases b8
          · have hup : upTo b0 b1 b2 b3 b4 b5 b6 b7 false 8 = upTo b0 b1 b2 b3 b4 b5 b6 b7 false 9 := (off_bits b0 b1 b2 b3 b4 b5 b6 b7).2.2.2.2.2.2.2.2
            go_wp2
            exact ⟨⟨9, by omega, by go_num, (by first | rfl | rw [hup]), (by first | trivial | rfl)⟩, by simp [intOf]⟩
          · have hup : bits BinOp.or IntKind.u16 (upTo b0 b1 b2 b3 b4 b5 b6 b7 true 8) 256 = upTo b0 b1 b2 b3 b4 b5 b6 b7 true 9 := (or_bits b0 b1 b2 b3 b4 b5 b6 b7).2.2.2.2.2.2.2.2
            go_wp2
            exact ⟨⟨9, by omega, by go_num, (by first | rfl | rw [hup]), (by first | trivial | rfl)⟩, by simp [intOf]⟩
theorem ne_flag (n : Int) : (n != 0) = decide (n ≠ 0) := by
  by_cases h : n = 0 <;> simp [h]
theorem path_flag (p : List UInt8) : (!(mkS p).toList.isEmpty) = decide (p ≠ []) := by
  rw [PA.mkS_toList]; cases p <;> simp
def fillI (f : Fl) : Int := bitsI (flags f)
theorem filled_any (f : Fl) (A1 A2 A3 : Option Addr) (c1 c2 c3 : Nat) (w : World) :
    Calls Tryd.prog 44 #[.agg #[.int .i64 f.zxid, .int .u8 f.kind, .int .i64 f.session, .int .i64 f.turn, .int .i64 f.xid, .int .i64 f.time, .string (mkS f.path), .slice A1 f.data.length c1, .int .i64 f.owner, .int .i64 f.version, .int .i64 f.cversion, .int .i64 f.timeout, .int .i64 f.err, .int .i64 f.cver, .slice A2 f.mems.length c2, .slice A3 f.np c3]] w fun e w' => e = .returned (.int .u16 (fillI f)) ∧ Below w.heap.size w w' := by
  refine (filled_loop _ _ _ _ _ _ _ _ _ _ _ _ _ A1 A2 A3 _ _ _ c1 c2 c3 w _ _ _ _ _ _ _ (decide (f.cver ≠ 0) || decide (0 < f.mems.length)) _ (path_flag _) rfl (ne_flag _) (ne_flag _) (ne_flag _) (ne_flag _) (ne_flag _) ?_ rfl).mono ?_
  · by_cases h : f.cver = 0
    · right; simp [h]
    · left; simp [h]
  · rintro e w' ⟨rfl, hB⟩
    exact ⟨rfl, hB⟩
end Go.Proofs.YtkbmbnfpadllmaaDoor.DD
