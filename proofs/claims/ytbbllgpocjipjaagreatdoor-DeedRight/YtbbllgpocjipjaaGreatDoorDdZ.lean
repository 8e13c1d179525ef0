/- The walks of the document's zxids, and of DeedZxids and DeedOrder. -/
import Derived.Test.YtbbllgpocjipjaaGreatDoorDdAw
namespace Go.Proofs.YtbbllgpocjipjaaGreatDoor.DD
set_option linter.unusedVariables false
open Go.RowKit
set_option maxRecDepth 100000 in
theorem rmay_any (z : Int) (hz : I64 z) (w : World) : Calls Tryz.prog 32 #[.int .i64 z] w fun x w' => x = .returned (.bool (decide (0 ≤ z) && decide (z / 4294967296 ≤ 1073741824))) ∧ w' = w := by
  unfold I64 at hz
  by_cases h : 0 ≤ z
  · rw [decide_eq_true h, Bool.true_and]
    go_enter Tryz.func32, Tryz.ntmps32
    go_wp2
    go_ret
    exact ⟨rfl, rfl⟩
  · rw [decide_eq_false h, Bool.false_and]
    go_enter Tryz.func32, Tryz.ntmps32
    go_wp2
    go_ret
    exact ⟨rfl, rfl⟩
theorem and_low (z : Int) (h : 0 ≤ z) (h2 : z < 9223372036854775808) : bits BinOp.and IntKind.i64 z 4294967295 = z % 4294967296 := by
  obtain ⟨n, rfl⟩ : ∃ n : Nat, z = (n : Int) := ⟨z.toNat, by omega⟩
  have e1 : n &&& 4294967295 = n % 4294967296 := by
    have := Nat.and_two_pow_sub_one_eq_mod n 32
    simpa using this
  show IntKind.i64.wrap ((BitVec.ofInt 64 (n : Int) &&& BitVec.ofInt 64 4294967295).toNat : Int) = _
  have h3 : (BitVec.ofInt 64 (n : Int)).toNat = n := by
    rw [BitVec.toNat_ofInt]; omega
  have h4 : (BitVec.ofInt 64 4294967295).toNat = 4294967295 := by decide
  rw [BitVec.toNat_and, h3, h4, e1]
  simp [IntKind.wrap, IntKind.bits, IntKind.signed]
  omega
end Go.Proofs.YtbbllgpocjipjaaGreatDoor.DD
/- The walk of DeedOrder. -/
namespace Go.Proofs.YtbbllgpocjipjaaGreatDoor.DD
set_option linter.unusedVariables false
open Go.RowKit
end Go.Proofs.YtbbllgpocjipjaaGreatDoor.DD
/- The walk of great. -/
namespace Go.Proofs.YtbbllgpocjipjaaGreatDoor.DD
set_option linter.unusedVariables false
open Go.RowKit Go.Sort
set_option linter.unusedVariables false

def IsBool (e : Ending) : Prop := ∃ b, e = .returned (.bool b)
set_option maxRecDepth 100000 in
set_option maxHeartbeats 2000000 in
theorem great_any (f : Fl) (ps : List Fl) (A1 A2 A3 : Option Addr) (c1 c2 c3 : Nat) (w : World) (hv : DVal w f ps A1 c1 A2 c2 A3 c3) (hlen : f.np = ps.length) (hl : f.np ≤ 9223372036854775807) :
    Calls Tryz.prog 5 #[.agg #[.int .i64 f.zxid, .int .u8 f.kind, .int .i64 f.session, .int .i64 f.turn, .int .i64 f.xid, .int .i64 f.time, .string (mkS f.path), .slice A1 f.data.length c1, .int .i64 f.owner, .int .i64 f.version, .int .i64 f.cversion, .int .i64 f.timeout, .int .i64 f.err, .int .i64 f.cver, .slice A2 f.mems.length c2, .slice A3 f.np c3]] w fun e w' => IsBool e ∧ Below w.heap.size w w' := by
  obtain ⟨n, hn⟩ : ∃ n, n = f.np := ⟨_, rfl⟩
  have HP : Hid (Prts w w.heap.size (.slice A3 n c3) ps) := by rw [hn]; exact hv.pr
  rw [← hn] at hlen hl ⊢
  have HN : Hid (n = ps.length) := hlen
  clear hv hn hlen
  go_enter Tryz.func5, Tryz.ntmps5
  go_wp2_with fail
  go_loopw [3, 4] (fun v c wr => ∃ (k : Nat) (m : Int), v = .int .i64 m ∧ c = .int .i64 k ∧ k ≤ n ∧ Below w.heap.size w wr ∧ wr.heap[w.heap.size]? = some (.cells #[.int .i64 f.zxid, .int .u8 f.kind, .int .i64 f.session, .int .i64 f.turn, .int .i64 f.xid, .int .i64 f.time, .string (mkS f.path), .slice A1 f.data.length c1, .int .i64 f.owner, .int .i64 f.version, .int .i64 f.cversion, .int .i64 f.timeout, .int .i64 f.err, .int .i64 f.cver, .slice A2 f.mems.length c2, .slice A3 n c3] 31 (0, 0))) (fun _ c _ => n - (intOf c).toNat)
  case atStart => exact ⟨0, _, rfl, rfl, by omega, (Below.refl _ _).alloc (Nat.le_refl _) _, heap_alloc_new w _⟩
  case round =>
    obtain ⟨k, m, rfl, rfl, hk, hB, hc⟩ := hrel
    have HB : Hid (Below w.heap.size w wr) := hB
    have HC : Hid (wr.heap[w.heap.size]? = some (.cells #[.int .i64 f.zxid, .int .u8 f.kind, .int .i64 f.session, .int .i64 f.turn, .int .i64 f.xid, .int .i64 f.time, .string (mkS f.path), .slice A1 f.data.length c1, .int .i64 f.owner, .int .i64 f.version, .int .i64 f.cversion, .int .i64 f.timeout, .int .i64 f.err, .int .i64 f.cver, .slice A2 f.mems.length c2, .slice A3 n c3] 31 (0, 0))) := hc
    obtain ⟨-, -, -, -, -, -, -, -, -, -, -, -, -, -, x14, x15⟩ := cells16 hc
    clear hB hc
    by_cases hlt : k < n
    · by_cases hm : m < 200000
      · have hkl : k < ps.length := by have := HN.out; omega
        obtain ⟨b, o, rfl, -, -, B1, d1, B2, d2, B3, d3, hcl, -⟩ := (HP.out.below HB.out).at' k hkl
        generalize (ps[k]'hkl) = g at hcl
        obtain ⟨-, -, -, -, -, -, z6, z7, -, -, -, -, -, -, -, z15⟩ := hcl
        have z6 := fun d os => cell_regrown z6 d os
        have z7 := fun d os => cell_regrown z7 d os
        have z15 := fun d os => cell_regrown z15 d os
        have y14 := fun d os => cell_regrown x14 d os
        have y15 := fun d os => cell_regrown x15 d os
        go_wp2_with fail
        refine wp_region_quiet_below (by kernel_rfl) (by kernel_rfl) ?_
        repeat (go_big_quiet_step (fail))
        refine wpQuiet_nil ?_
        intro _ hw'
        obtain ⟨⟨dq, osq⟩, hw''⟩ := hw'
        subst hw''
        have HB3 : Hid (Below w.heap.size w (grow (redrawn wr dq) osq)) := below_rg' HB.out dq osq
        have HC3 : Hid ((grow (redrawn wr dq) osq).heap[w.heap.size]? = some (.cells #[.int .i64 f.zxid, .int .u8 f.kind, .int .i64 f.session, .int .i64 f.turn, .int .i64 f.xid, .int .i64 f.time, .string (mkS f.path), .slice A1 f.data.length c1, .int .i64 f.owner, .int .i64 f.version, .int .i64 f.cversion, .int .i64 f.timeout, .int .i64 f.err, .int .i64 f.cver, .slice A2 f.mems.length c2, .slice (some ⟨b, o, none⟩) n c3] 31 (0, 0))) := by
          show _ = _
          rw [(below_regrown wr dq osq).block _ (heap_lt HC.out)]
          exact HC.out
        clear z6 z7 z15 y14 y15 x14 x15
        go_wp2_with fail
        exact ⟨⟨k + 1, _, rfl, by go_num, by omega, HB3.out, HC3.out⟩, by simp [intOf]; omega⟩
      · go_wp2_with fail
        all_goals (go_ret; exact ⟨⟨_, rfl⟩, HB.out⟩)
    · go_wp2_with fail
      all_goals (go_ret; exact ⟨⟨_, rfl⟩, HB.out⟩)
end Go.Proofs.YtbbllgpocjipjaaGreatDoor.DD
