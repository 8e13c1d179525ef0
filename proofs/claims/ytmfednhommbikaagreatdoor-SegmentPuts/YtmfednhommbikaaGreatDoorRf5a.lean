/- The walk of the document's own bare: which fields must be zero. -/
import Derived.Test.YtmfednhommbikaaGreatDoorRe5
import Derived.Test.YtmfednhommbikaaGreatDoorDdW
namespace Go.Proofs.YtmfednhommbikaaGreatDoor.DD
set_option linter.unusedSimpArgs false
set_option linter.unusedVariables false
open Go.RowKit
set_option linter.unusedVariables false
set_option linter.unusedSimpArgs false

theorem retb {a b : Bool} (h : a = b) : Ending.returned (.bool a) = .returned (.bool b) := by rw [h]
theorem len0 (n : Nat) : ((n : Int) == 0) = !decide (0 < n) := by
  rw [Bool.eq_iff_iff]; simp
theorem al1 (w : World) (o : Obj) : Below w.heap.size w (w.alloc o) := (Below.refl _ _).alloc (Nat.le_refl _) _
set_option maxRecDepth 100000 in
set_option maxHeartbeats 2000000 in
theorem rbare1 (zx se tu xi ti ow ve cv tmo er cr : Int) (p : ByteArray) (A1 A2 A3 : Option Addr) (n1 n2 n3 c1 c2 c3 : Nat) (w : World) :
    Calls Tryz.prog 70 #[.agg #[.int .i64 zx, .int .u8 1, .int .i64 se, .int .i64 tu, .int .i64 xi, .int .i64 ti, .string p, .slice A1 n1 c1, .int .i64 ow, .int .i64 ve, .int .i64 cv, .int .i64 tmo, .int .i64 er, .int .i64 cr, .slice A2 n2 c2, .slice A3 n3 c3]] w fun e w' => e = .returned (.bool (under [!p.toList.isEmpty, decide (0 < n1), ow != 0, ve != 0, cv != 0, tmo != 0, er != 0, (cr != 0) || decide (0 < n2), decide (0 < n3)] (allow 1))) ∧ Below w.heap.size w w' := by
  go_enter Tryz.func70, Tryz.ntmps70
  go_wp2
  all_goals (go_ret; exact ⟨retb (by simp_all [under, allow, len0]), al1 _ _⟩)
set_option maxRecDepth 100000 in
set_option maxHeartbeats 2000000 in
theorem rbare2 (zx se tu xi ti ow ve cv tmo er cr : Int) (p : ByteArray) (A1 A2 A3 : Option Addr) (n1 n2 n3 c1 c2 c3 : Nat) (w : World) :
    Calls Tryz.prog 70 #[.agg #[.int .i64 zx, .int .u8 2, .int .i64 se, .int .i64 tu, .int .i64 xi, .int .i64 ti, .string p, .slice A1 n1 c1, .int .i64 ow, .int .i64 ve, .int .i64 cv, .int .i64 tmo, .int .i64 er, .int .i64 cr, .slice A2 n2 c2, .slice A3 n3 c3]] w fun e w' => e = .returned (.bool (under [!p.toList.isEmpty, decide (0 < n1), ow != 0, ve != 0, cv != 0, tmo != 0, er != 0, (cr != 0) || decide (0 < n2), decide (0 < n3)] (allow 2))) ∧ Below w.heap.size w w' := by
  go_enter Tryz.func70, Tryz.ntmps70
  go_wp2
  all_goals (go_ret; exact ⟨retb (by simp_all [under, allow, len0]), al1 _ _⟩)
set_option maxRecDepth 100000 in
set_option maxHeartbeats 2000000 in
theorem rbare3 (zx se tu xi ti ow ve cv tmo er cr : Int) (p : ByteArray) (A1 A2 A3 : Option Addr) (n1 n2 n3 c1 c2 c3 : Nat) (w : World) :
    Calls Tryz.prog 70 #[.agg #[.int .i64 zx, .int .u8 3, .int .i64 se, .int .i64 tu, .int .i64 xi, .int .i64 ti, .string p, .slice A1 n1 c1, .int .i64 ow, .int .i64 ve, .int .i64 cv, .int .i64 tmo, .int .i64 er, .int .i64 cr, .slice A2 n2 c2, .slice A3 n3 c3]] w fun e w' => e = .returned (.bool (under [!p.toList.isEmpty, decide (0 < n1), ow != 0, ve != 0, cv != 0, tmo != 0, er != 0, (cr != 0) || decide (0 < n2), decide (0 < n3)] (allow 3))) ∧ Below w.heap.size w w' := by
  go_enter Tryz.func70, Tryz.ntmps70
  go_wp2
  all_goals (go_ret; exact ⟨retb (by simp_all [under, allow, len0]), al1 _ _⟩)
set_option maxRecDepth 100000 in
set_option maxHeartbeats 2000000 in
theorem rbare4 (zx se tu xi ti ow ve cv tmo er cr : Int) (p : ByteArray) (A1 A2 A3 : Option Addr) (n1 n2 n3 c1 c2 c3 : Nat) (w : World) :
    Calls Tryz.prog 70 #[.agg #[.int .i64 zx, .int .u8 4, .int .i64 se, .int .i64 tu, .int .i64 xi, .int .i64 ti, .string p, .slice A1 n1 c1, .int .i64 ow, .int .i64 ve, .int .i64 cv, .int .i64 tmo, .int .i64 er, .int .i64 cr, .slice A2 n2 c2, .slice A3 n3 c3]] w fun e w' => e = .returned (.bool (under [!p.toList.isEmpty, decide (0 < n1), ow != 0, ve != 0, cv != 0, tmo != 0, er != 0, (cr != 0) || decide (0 < n2), decide (0 < n3)] (allow 4))) ∧ Below w.heap.size w w' := by
  go_enter Tryz.func70, Tryz.ntmps70
  go_wp2
  all_goals (go_ret; exact ⟨retb (by simp_all [under, allow, len0]), al1 _ _⟩)
set_option maxRecDepth 100000 in
set_option maxHeartbeats 2000000 in
theorem rbare5 (zx se tu xi ti ow ve cv tmo er cr : Int) (p : ByteArray) (A1 A2 A3 : Option Addr) (n1 n2 n3 c1 c2 c3 : Nat) (w : World) :
    Calls Tryz.prog 70 #[.agg #[.int .i64 zx, .int .u8 5, .int .i64 se, .int .i64 tu, .int .i64 xi, .int .i64 ti, .string p, .slice A1 n1 c1, .int .i64 ow, .int .i64 ve, .int .i64 cv, .int .i64 tmo, .int .i64 er, .int .i64 cr, .slice A2 n2 c2, .slice A3 n3 c3]] w fun e w' => e = .returned (.bool (under [!p.toList.isEmpty, decide (0 < n1), ow != 0, ve != 0, cv != 0, tmo != 0, er != 0, (cr != 0) || decide (0 < n2), decide (0 < n3)] (allow 5))) ∧ Below w.heap.size w w' := by
  go_enter Tryz.func70, Tryz.ntmps70
  go_wp2
  all_goals (go_ret; exact ⟨retb (by simp_all [under, allow, len0]), al1 _ _⟩)
set_option maxRecDepth 100000 in
set_option maxHeartbeats 2000000 in
theorem rbare6 (zx se tu xi ti ow ve cv tmo er cr : Int) (p : ByteArray) (A1 A2 A3 : Option Addr) (n1 n2 n3 c1 c2 c3 : Nat) (w : World) :
    Calls Tryz.prog 70 #[.agg #[.int .i64 zx, .int .u8 6, .int .i64 se, .int .i64 tu, .int .i64 xi, .int .i64 ti, .string p, .slice A1 n1 c1, .int .i64 ow, .int .i64 ve, .int .i64 cv, .int .i64 tmo, .int .i64 er, .int .i64 cr, .slice A2 n2 c2, .slice A3 n3 c3]] w fun e w' => e = .returned (.bool (under [!p.toList.isEmpty, decide (0 < n1), ow != 0, ve != 0, cv != 0, tmo != 0, er != 0, (cr != 0) || decide (0 < n2), decide (0 < n3)] (allow 6))) ∧ Below w.heap.size w w' := by
  go_enter Tryz.func70, Tryz.ntmps70
  go_wp2
  all_goals (go_ret; exact ⟨retb (by simp_all [under, allow, len0]), al1 _ _⟩)
set_option maxRecDepth 100000 in
set_option maxHeartbeats 2000000 in
theorem rbare7 (zx se tu xi ti ow ve cv tmo er cr : Int) (p : ByteArray) (A1 A2 A3 : Option Addr) (n1 n2 n3 c1 c2 c3 : Nat) (w : World) :
    Calls Tryz.prog 70 #[.agg #[.int .i64 zx, .int .u8 7, .int .i64 se, .int .i64 tu, .int .i64 xi, .int .i64 ti, .string p, .slice A1 n1 c1, .int .i64 ow, .int .i64 ve, .int .i64 cv, .int .i64 tmo, .int .i64 er, .int .i64 cr, .slice A2 n2 c2, .slice A3 n3 c3]] w fun e w' => e = .returned (.bool (under [!p.toList.isEmpty, decide (0 < n1), ow != 0, ve != 0, cv != 0, tmo != 0, er != 0, (cr != 0) || decide (0 < n2), decide (0 < n3)] (allow 7))) ∧ Below w.heap.size w w' := by
  go_enter Tryz.func70, Tryz.ntmps70
  go_wp2
  all_goals (go_ret; exact ⟨retb (by simp_all [under, allow, len0]), al1 _ _⟩)
set_option maxRecDepth 100000 in
set_option maxHeartbeats 2000000 in
theorem rbare8 (zx se tu xi ti ow ve cv tmo er cr : Int) (p : ByteArray) (A1 A2 A3 : Option Addr) (n1 n2 n3 c1 c2 c3 : Nat) (w : World) :
    Calls Tryz.prog 70 #[.agg #[.int .i64 zx, .int .u8 8, .int .i64 se, .int .i64 tu, .int .i64 xi, .int .i64 ti, .string p, .slice A1 n1 c1, .int .i64 ow, .int .i64 ve, .int .i64 cv, .int .i64 tmo, .int .i64 er, .int .i64 cr, .slice A2 n2 c2, .slice A3 n3 c3]] w fun e w' => e = .returned (.bool (under [!p.toList.isEmpty, decide (0 < n1), ow != 0, ve != 0, cv != 0, tmo != 0, er != 0, (cr != 0) || decide (0 < n2), decide (0 < n3)] (allow 8))) ∧ Below w.heap.size w w' := by
  go_enter Tryz.func70, Tryz.ntmps70
  go_wp2
  all_goals (go_ret; exact ⟨retb (by simp_all [under, allow, len0]), al1 _ _⟩)
set_option maxRecDepth 100000 in
set_option maxHeartbeats 2000000 in
theorem rbare9 (zx se tu xi ti ow ve cv tmo er cr : Int) (p : ByteArray) (A1 A2 A3 : Option Addr) (n1 n2 n3 c1 c2 c3 : Nat) (w : World) :
    Calls Tryz.prog 70 #[.agg #[.int .i64 zx, .int .u8 9, .int .i64 se, .int .i64 tu, .int .i64 xi, .int .i64 ti, .string p, .slice A1 n1 c1, .int .i64 ow, .int .i64 ve, .int .i64 cv, .int .i64 tmo, .int .i64 er, .int .i64 cr, .slice A2 n2 c2, .slice A3 n3 c3]] w fun e w' => e = .returned (.bool (under [!p.toList.isEmpty, decide (0 < n1), ow != 0, ve != 0, cv != 0, tmo != 0, er != 0, (cr != 0) || decide (0 < n2), decide (0 < n3)] (allow 9))) ∧ Below w.heap.size w w' := by
  go_enter Tryz.func70, Tryz.ntmps70
  go_wp2
  all_goals (go_ret; exact ⟨retb (by simp_all [under, allow, len0]), al1 _ _⟩)
set_option maxRecDepth 100000 in
set_option maxHeartbeats 2000000 in
theorem rbareO (kd : Int) (k1 : (kd == 1) = false) (m1 : (kd != 1) = true) (k2 : (kd == 2) = false) (m2 : (kd != 2) = true) (k3 : (kd == 3) = false) (m3 : (kd != 3) = true) (k4 : (kd == 4) = false) (m4 : (kd != 4) = true) (k5 : (kd == 5) = false) (m5 : (kd != 5) = true) (k7 : (kd == 7) = false) (m7 : (kd != 7) = true) (k8 : (kd == 8) = false) (m8 : (kd != 8) = true) (k9 : (kd == 9) = false) (m9 : (kd != 9) = true) (zx se tu xi ti ow ve cv tmo er cr : Int) (p : ByteArray) (A1 A2 A3 : Option Addr) (n1 n2 n3 c1 c2 c3 : Nat) (w : World) :
    Calls Tryz.prog 70 #[.agg #[.int .i64 zx, .int .u8 kd, .int .i64 se, .int .i64 tu, .int .i64 xi, .int .i64 ti, .string p, .slice A1 n1 c1, .int .i64 ow, .int .i64 ve, .int .i64 cv, .int .i64 tmo, .int .i64 er, .int .i64 cr, .slice A2 n2 c2, .slice A3 n3 c3]] w fun e w' => e = .returned (.bool (under [!p.toList.isEmpty, decide (0 < n1), ow != 0, ve != 0, cv != 0, tmo != 0, er != 0, (cr != 0) || decide (0 < n2), decide (0 < n3)] [false, false, false, false, false, false, false, false, false])) ∧ Below w.heap.size w w' := by
  go_enter Tryz.func70, Tryz.ntmps70
  go_wp2
  all_goals (go_ret; exact ⟨retb (by simp_all [under, allow, len0]), al1 _ _⟩)
theorem neb (a b : Int) (h : a ≠ b) : (a == b) = false ∧ (a != b) = true := by simp [h]
theorem flags_eq (f : Fl) : flags f = [!(mkS f.path).toList.isEmpty, decide (0 < f.data.length), f.owner != 0, f.version != 0, f.cversion != 0, f.timeout != 0, f.err != 0, (f.cver != 0) || decide (0 < f.mems.length), decide (0 < f.np)] := by
  unfold flags
  simp only [path_flag, ne_flag]
theorem rbare_any (f : Fl) (A1 A2 A3 : Option Addr) (c1 c2 c3 : Nat) (w : World) :
    Calls Tryz.prog 70 #[.agg #[.int .i64 f.zxid, .int .u8 f.kind, .int .i64 f.session, .int .i64 f.turn, .int .i64 f.xid, .int .i64 f.time, .string (mkS f.path), .slice A1 f.data.length c1, .int .i64 f.owner, .int .i64 f.version, .int .i64 f.cversion, .int .i64 f.timeout, .int .i64 f.err, .int .i64 f.cver, .slice A2 f.mems.length c2, .slice A3 f.np c3]] w fun e w' => e = .returned (.bool (bareB f)) ∧ Below w.heap.size w w' := by
  unfold bareB
  rw [flags_eq]
  generalize f.kind = kd
  by_cases e1 : kd = 1
  · subst e1
    exact rbare1 _ _ _ _ _ _ _ _ _ _ _ _ _ _ _ _ _ _ _ _ _ w
  by_cases e2 : kd = 2
  · subst e2
    exact rbare2 _ _ _ _ _ _ _ _ _ _ _ _ _ _ _ _ _ _ _ _ _ w
  by_cases e3 : kd = 3
  · subst e3
    exact rbare3 _ _ _ _ _ _ _ _ _ _ _ _ _ _ _ _ _ _ _ _ _ w
  by_cases e4 : kd = 4
  · subst e4
    exact rbare4 _ _ _ _ _ _ _ _ _ _ _ _ _ _ _ _ _ _ _ _ _ w
  by_cases e5 : kd = 5
  · subst e5
    exact rbare5 _ _ _ _ _ _ _ _ _ _ _ _ _ _ _ _ _ _ _ _ _ w
  by_cases e6 : kd = 6
  · subst e6
    exact rbare6 _ _ _ _ _ _ _ _ _ _ _ _ _ _ _ _ _ _ _ _ _ w
  by_cases e7 : kd = 7
  · subst e7
    exact rbare7 _ _ _ _ _ _ _ _ _ _ _ _ _ _ _ _ _ _ _ _ _ w
  by_cases e8 : kd = 8
  · subst e8
    exact rbare8 _ _ _ _ _ _ _ _ _ _ _ _ _ _ _ _ _ _ _ _ _ w
  by_cases e9 : kd = 9
  · subst e9
    exact rbare9 _ _ _ _ _ _ _ _ _ _ _ _ _ _ _ _ _ _ _ _ _ w
  rw [show allow kd = [false, false, false, false, false, false, false, false, false] by simp [allow, e1, e2, e3, e4, e5, e7, e8, e9]]
  exact rbareO kd (neb _ _ e1).1 (neb _ _ e1).2 (neb _ _ e2).1 (neb _ _ e2).2 (neb _ _ e3).1 (neb _ _ e3).2 (neb _ _ e4).1 (neb _ _ e4).2 (neb _ _ e5).1 (neb _ _ e5).2 (neb _ _ e7).1 (neb _ _ e7).2 (neb _ _ e8).1 (neb _ _ e8).2 (neb _ _ e9).1 (neb _ _ e9).2 _ _ _ _ _ _ _ _ _ _ _ _ _ _ _ _ _ _ _ _ _ w
end Go.Proofs.YtmfednhommbikaaGreatDoor.DD
