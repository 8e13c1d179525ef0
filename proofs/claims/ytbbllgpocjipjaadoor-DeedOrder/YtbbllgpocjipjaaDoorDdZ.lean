/- The walks of the document's zxids, and of DeedZxids and DeedOrder. -/
import Derived.Test.YtbbllgpocjipjaaDoorDdAw
namespace Go.Proofs.YtbbllgpocjipjaaDoor.DD
set_option linter.unusedVariables false
open Go.RowKit
set_option linter.unusedVariables false

set_option maxRecDepth 100000 in
theorem rmake_any (e c : Int) (he : I64 e) (hc : I64 c) (w : World) : Calls Tryd.prog 7 #[.int .i64 e, .int .i64 c] w fun x w' => x = .returned (.int .i64 (if 0 ≤ e ∧ e ≤ 1073741824 ∧ 0 ≤ c ∧ c < 4294967296 then e * 4294967296 + c else 0)) ∧ w' = w := by
  unfold I64 at he hc
  by_cases h1 : e < 0
  · rw [if_neg (by omega)]
    go_enter Tryd.func7, Tryd.ntmps7
    go_wp2
    go_ret
    exact ⟨rfl, rfl⟩
  by_cases h2 : 1073741824 < e
  · rw [if_neg (by omega)]
    go_enter Tryd.func7, Tryd.ntmps7
    go_wp2
    go_ret
    exact ⟨rfl, rfl⟩
  by_cases h3 : c < 0
  · rw [if_neg (by omega)]
    go_enter Tryd.func7, Tryd.ntmps7
    go_wp2
    go_ret
    exact ⟨rfl, rfl⟩
  by_cases h4 : 4294967295 < c
  · rw [if_neg (by omega)]
    go_enter Tryd.func7, Tryd.ntmps7
    go_wp2
    go_ret
    exact ⟨rfl, rfl⟩
  rw [if_pos (by omega)]
  go_enter Tryd.func7, Tryd.ntmps7
  go_wp2
  go_ret
  exact ⟨rfl, rfl⟩
set_option maxRecDepth 100000 in
theorem rmay_any (z : Int) (hz : I64 z) (w : World) : Calls Tryd.prog 22 #[.int .i64 z] w fun x w' => x = .returned (.bool (decide (0 ≤ z) && decide (z / 4294967296 ≤ 1073741824))) ∧ w' = w := by
  unfold I64 at hz
  by_cases h : 0 ≤ z
  · rw [decide_eq_true h, Bool.true_and]
    go_enter Tryd.func22, Tryd.ntmps22
    go_wp2
    go_ret
    exact ⟨rfl, rfl⟩
  · rw [decide_eq_false h, Bool.false_and]
    go_enter Tryd.func22, Tryd.ntmps22
    go_wp2
    go_ret
    exact ⟨rfl, rfl⟩
set_option maxRecDepth 100000 in
theorem repoch_any (z : Int) (hz : I64 z) (w : World) : Calls Tryd.prog 9 #[.int .i64 z] w fun x w' => x = .returned (.int .i64 (epochI z)) ∧ w' = w := by
  have hm := rmay_any z hz w
  unfold I64 at hz
  unfold epochI
  by_cases h : 0 ≤ z ∧ z / 4294967296 ≤ 1073741824
  · rw [if_pos h]
    rw [decide_eq_true h.1, decide_eq_true h.2] at hm
    go_enter Tryd.func9, Tryd.ntmps9
    go_wp2_with fail
    refine hm.mono ?_
    rintro e w' ⟨rfl, rfl⟩
    go_wp2
    go_ret
    exact ⟨rfl, rfl⟩
  · rw [if_neg h]
    have hb : (decide (0 ≤ z) && decide (z / 4294967296 ≤ 1073741824)) = false := by simp; omega
    rw [hb] at hm
    go_enter Tryd.func9, Tryd.ntmps9
    go_wp2_with fail
    refine hm.mono ?_
    rintro e w' ⟨rfl, rfl⟩
    go_wp2
    go_ret
    exact ⟨rfl, rfl⟩
theorem and_low (z : Int) (h : 0 ≤ z) (h2 : z < 9223372036854775808) : bits BinOp.and IntKind.i64 z 4294967295 = z % 4294967296 := by
  obtain ⟨n, rfl⟩ : ∃ n : Nat, z = (n : Int) := ⟨z.toNat, by omega⟩
  have e1 : n &&& 4294967295 = n % 4294967296 := by
    have := Nat.and_two_pow_sub_one_eq_mod n 32
    simpa using this
  show IntKind.i64.wrap ((BitVec.ofInt 64 (n : Int) &&& BitVec.ofInt 64 4294967295).toNat : Int) = _
  have h3 : (BitVec.ofInt 64 (n : Int)).toNat = n := by
    rw [BitVec.toNat_ofInt]; omega
  have h4 : (BitVec.ofInt 64 4294967295).toNat = 4294967295 := by decide
  rw [BitVec.toNat_and, h3, h4, e1]
  simp [IntKind.wrap, IntKind.bits, IntKind.signed]
  omega
set_option maxRecDepth 100000 in
theorem rcounter_any (z : Int) (hz : I64 z) (w : World) : Calls Tryd.prog 11 #[.int .i64 z] w fun x w' => x = .returned (.int .i64 (counterI z)) ∧ w' = w := by
  have hm := rmay_any z hz w
  unfold I64 at hz
  unfold counterI
  by_cases h : 0 ≤ z ∧ z / 4294967296 ≤ 1073741824
  · rw [if_pos h]
    rw [decide_eq_true h.1, decide_eq_true h.2] at hm
    have hq := and_low z h.1 hz.2
    go_enter Tryd.func11, Tryd.ntmps11
    go_wp2_with fail
    refine hm.mono ?_
    rintro e w' ⟨rfl, rfl⟩
    go_wp2
    go_ret
    exact ⟨rfl, rfl⟩
  · rw [if_neg h]
    have hb : (decide (0 ≤ z) && decide (z / 4294967296 ≤ 1073741824)) = false := by simp; omega
    rw [hb] at hm
    go_enter Tryd.func11, Tryd.ntmps11
    go_wp2_with fail
    refine hm.mono ?_
    rintro e w' ⟨rfl, rfl⟩
    go_wp2
    go_ret
    exact ⟨rfl, rfl⟩
set_option maxRecDepth 100000 in
set_option maxHeartbeats 2000000 in
theorem zxids_any (e c z : Int) (he : I64 e) (hc : I64 c) (hz : I64 z) (w : World) (hL : PA.Laid w) : Calls Tryd.prog 3 #[.int .i64 e, .int .i64 c, .int .i64 z] w fun x w' => x = .returned (.bool true) ∧ Below w.heap.size w w' := by
  have m1 := make_any e c he hc w
  have m2 := rmake_any e c he hc w
  have e1 := epoch_any z hz w
  have e2 := repoch_any z hz w
  have c1 := counter_any z hz w
  have c2 := rcounter_any z hz w
  have ha := awake_any w hL
  generalize (if 0 ≤ e ∧ e ≤ 1073741824 ∧ 0 ≤ c ∧ c < 4294967296 then e * 4294967296 + c else 0) = M at m1 m2
  generalize epochI z = E at e1 e2
  generalize counterI z = CC at c1 c2
  go_enter Tryd.func3, Tryd.ntmps3
  go_wp2_with (first | (go_at_call 6; refine m1.mono ?_; rintro e w' ⟨rfl, rfl⟩) | (go_at_call 7; refine m2.mono ?_; rintro e w' ⟨rfl, rfl⟩) | (go_at_call 8; refine e1.mono ?_; rintro e w' ⟨rfl, rfl⟩) | (go_at_call 9; refine e2.mono ?_; rintro e w' ⟨rfl, rfl⟩) | (go_at_call 10; refine c1.mono ?_; rintro e w' ⟨rfl, rfl⟩) | (go_at_call 11; refine c2.mono ?_; rintro e w' ⟨rfl, rfl⟩) | (go_at_call 12; refine ha.mono ?_; rintro e w' ⟨rfl, hB⟩))
  go_ret
  exact ⟨rfl, hB⟩
end Go.Proofs.YtbbllgpocjipjaaDoor.DD
/- The walk of DeedOrder. -/
namespace Go.Proofs.YtbbllgpocjipjaaDoor.DD
set_option linter.unusedVariables false
open Go.RowKit
set_option linter.unusedVariables false

set_option maxRecDepth 100000 in
theorem pick_any (x n : Int) (hx : I64 x) (hn : I64 n) (h1 : 1 ≤ n) (w : World) : Calls Tryd.prog 17 #[.int .i64 x, .int .i64 n] w fun e w' => e = .returned (.int .i64 (x % n)) ∧ w' = w := by
  unfold I64 at hx hn
  have hm : Int.tmod x n = if Int.tmod x n < 0 then x % n - n else x % n := by
    rw [Int.tmod_eq_emod]
    have := Int.emod_nonneg x (show n ≠ 0 by omega)
    have := Int.emod_lt_of_pos x (show 0 < n by omega)
    by_cases hx0 : 0 ≤ x ∨ n ∣ x
    · simp only [hx0, if_true]
      split <;> omega
    · simp only [hx0, if_false]
      have : (n.natAbs : Int) = n := by omega
      split <;> omega
  have hlo := Int.emod_nonneg x (show n ≠ 0 by omega)
  have hhi := Int.emod_lt_of_pos x (show 0 < n by omega)
  go_enter Tryd.func17, Tryd.ntmps17
  by_cases h : Int.tmod x n < 0
  · rw [if_pos h] at hm
    go_wp2
    go_ret
    exact ⟨by simp, rfl⟩
  · rw [if_neg h] at hm
    go_wp2
    go_ret
    exact ⟨by simp, rfl⟩

set_option maxRecDepth 100000 in
set_option maxHeartbeats 2000000 in
theorem order_any (e c f d : Int) (he : I64 e) (hc : I64 c) (hf : I64 f) (hd : I64 d) (w : World) (hL : PA.Laid w) : Calls Tryd.prog 5 #[.int .i64 e, .int .i64 c, .int .i64 f, .int .i64 d] w fun x w' => x = .returned (.bool true) ∧ Below w.heap.size w w' := by
  have ha := awake_any w hL
  have p1 := fun w => pick_any e 1073741825 he ⟨by decide, by decide⟩ (by decide) w
  have p2 := fun w => pick_any f 1073741825 hf ⟨by decide, by decide⟩ (by decide) w
  have p3 := fun w => pick_any c 4294967296 hc ⟨by decide, by decide⟩ (by decide) w
  have p4 := fun w => pick_any d 4294967296 hd ⟨by decide, by decide⟩ (by decide) w
  obtain ⟨E, hE⟩ : ∃ E, E = e % 1073741825 := ⟨_, rfl⟩
  obtain ⟨F, hF⟩ : ∃ F, F = f % 1073741825 := ⟨_, rfl⟩
  obtain ⟨C, hC⟩ : ∃ C, C = c % 4294967296 := ⟨_, rfl⟩
  obtain ⟨D, hD⟩ : ∃ D, D = d % 4294967296 := ⟨_, rfl⟩
  rw [← hE] at p1
  rw [← hF] at p2
  rw [← hC] at p3
  rw [← hD] at p4
  have bE : 0 ≤ E ∧ E ≤ 1073741824 := by omega
  have bF : 0 ≤ F ∧ F ≤ 1073741824 := by omega
  have bC : 0 ≤ C ∧ C < 4294967296 := by omega
  have bD : 0 ≤ D ∧ D < 4294967296 := by omega
  clear hE hF hC hD
  have m1 := fun w => make_any E C (by unfold I64; omega) (by unfold I64; omega) w
  have m2 := fun w => make_any F D (by unfold I64; omega) (by unfold I64; omega) w
  rw [if_pos (by omega)] at m1 m2
  have eX := fun w => epoch_any (E * 4294967296 + C) (by unfold I64; omega) w
  have eY := fun w => epoch_any (F * 4294967296 + D) (by unfold I64; omega) w
  have cX := fun w => counter_any (E * 4294967296 + C) (by unfold I64; omega) w
  have cY := fun w => counter_any (F * 4294967296 + D) (by unfold I64; omega) w
  have qe : epochI (E * 4294967296 + C) = E := by unfold epochI; rw [if_pos (by omega)]; omega
  have qf : epochI (F * 4294967296 + D) = F := by unfold epochI; rw [if_pos (by omega)]; omega
  have qc : counterI (E * 4294967296 + C) = C := by unfold counterI; rw [if_pos (by omega)]; omega
  have qd : counterI (F * 4294967296 + D) = D := by unfold counterI; rw [if_pos (by omega)]; omega
  simp only [qe, qf, qc, qd] at eX eY cX cY
  clear qe qf qc qd
  obtain ⟨X, hX⟩ : ∃ X, X = E * 4294967296 + C := ⟨_, rfl⟩
  obtain ⟨Y, hY⟩ : ∃ Y, Y = F * 4294967296 + D := ⟨_, rfl⟩
  simp only [← hX, ← hY] at m1 m2 eX eY cX cY
  have l1 : X < Y ↔ (E < F ∨ E = F ∧ C < D) := by omega
  have l2 : X = Y ↔ (E = F ∧ C = D) := by omega
  clear hX hY
  go_enter Tryd.func5, Tryd.ntmps5
  go_wp2_with fail
  refine ha.mono ?_
  rintro x w1 ⟨rfl, hB⟩
  have HB : Hid (Below w.heap.size w w1) := hB
  clear ha hB
  go_wp2_with fail
  refine (p1 _).mono ?_
  rintro x w' ⟨rfl, rfl⟩
  clear p1
  go_wp2_with fail
  refine (p2 _).mono ?_
  rintro x w' ⟨rfl, rfl⟩
  clear p2
  go_wp2_with fail
  refine (p3 _).mono ?_
  rintro x w' ⟨rfl, rfl⟩
  clear p3
  go_wp2_with fail
  refine (p4 _).mono ?_
  rintro x w' ⟨rfl, rfl⟩
  clear p4
  go_wp2_with fail
  refine (m1 _).mono ?_
  rintro x w' ⟨rfl, rfl⟩
  clear m1
  go_wp2_with fail
  refine (m2 _).mono ?_
  rintro x w' ⟨rfl, rfl⟩
  clear m2
  go_wp2_with fail
  refine (eX _).mono ?_
  rintro x w' ⟨rfl, rfl⟩
  clear eX
  go_wp2_with fail
  refine (cX _).mono ?_
  rintro x w' ⟨rfl, rfl⟩
  clear cX
  go_wp2_with fail
  refine (eY _).mono ?_
  rintro x w' ⟨rfl, rfl⟩
  clear eY
  go_wp2_with fail
  refine (cY _).mono ?_
  rintro x w' ⟨rfl, rfl⟩
  clear cY
  rcases Int.lt_trichotomy E F with h | h | h
  · have h1 : X < Y := by omega
    have h2 : ¬ X = Y := by omega
    have h3 : ¬ E = F := by omega
    clear l1 l2
    go_wp2
    go_ret
    exact ⟨congrArg (fun b => Ending.returned (Value.bool b)) (show _ = true by first | rfl | (simp [*]; done) | (simp [*]; rw [beq_eq_false_iff_ne.2 h2, beq_eq_false_iff_ne.2 (show C ≠ D by omega)])), HB.out⟩
  · rcases Int.lt_trichotomy C D with g | g | g
    · have h1 : X < Y := by omega
      have h2 : ¬ X = Y := by omega
      have h3 : ¬ C = D := by omega
      have h4 : ¬ E < F := by omega
      clear l1 l2
      go_wp2
      go_ret
      exact ⟨congrArg (fun b => Ending.returned (Value.bool b)) (show _ = true by first | rfl | (simp [*]; done) | (simp [*]; rw [beq_eq_false_iff_ne.2 h2, beq_eq_false_iff_ne.2 (show C ≠ D by omega)])), HB.out⟩
    · have h1 : ¬ X < Y := by omega
      have h2 : X = Y := by omega
      have h3 : ¬ C < D := by omega
      have h4 : ¬ E < F := by omega
      clear l1 l2
      go_wp2
      go_ret
      exact ⟨congrArg (fun b => Ending.returned (Value.bool b)) (show _ = true by first | rfl | (simp [*]; done) | (simp [*]; rw [beq_eq_false_iff_ne.2 h2, beq_eq_false_iff_ne.2 (show C ≠ D by omega)])), HB.out⟩
    · have h1 : ¬ X < Y := by omega
      have h2 : ¬ X = Y := by omega
      have h3 : ¬ C < D := by omega
      have h4 : ¬ E < F := by omega
      have h5 : ¬ C = D := by omega
      clear l1 l2
      go_wp2
      go_ret
      exact ⟨congrArg (fun b => Ending.returned (Value.bool b)) (show _ = true by first | rfl | (simp [*]; done) | (simp [*]; rw [beq_eq_false_iff_ne.2 h2, beq_eq_false_iff_ne.2 (show C ≠ D by omega)])), HB.out⟩
  · have h1 : ¬ X < Y := by omega
    have h2 : ¬ X = Y := by omega
    have h3 : ¬ E = F := by omega
    have h4 : ¬ E < F := by omega
    clear l1 l2
    go_wp2
    go_ret
    exact ⟨congrArg (fun b => Ending.returned (Value.bool b)) (show _ = true by first | rfl | (simp [*]; done) | (simp [*]; rw [beq_eq_false_iff_ne.2 h2, beq_eq_false_iff_ne.2 (show C ≠ D by omega)])), HB.out⟩
end Go.Proofs.YtbbllgpocjipjaaDoor.DD
/- The walk of great. -/
namespace Go.Proofs.YtbbllgpocjipjaaDoor.DD
set_option linter.unusedVariables false
open Go.RowKit Go.Sort
set_option linter.unusedVariables false

def IsBool (e : Ending) : Prop := ∃ b, e = .returned (.bool b)
set_option maxRecDepth 100000 in
set_option maxHeartbeats 2000000 in
theorem great_any (f : Fl) (ps : List Fl) (A1 A2 A3 : Option Addr) (c1 c2 c3 : Nat) (w : World) (hv : DVal w f ps A1 c1 A2 c2 A3 c3) (hlen : f.np = ps.length) (hl : f.np ≤ 9223372036854775807) :
    Calls Tryd.prog 13 #[.agg #[.int .i64 f.zxid, .int .u8 f.kind, .int .i64 f.session, .int .i64 f.turn, .int .i64 f.xid, .int .i64 f.time, .string (mkS f.path), .slice A1 f.data.length c1, .int .i64 f.owner, .int .i64 f.version, .int .i64 f.cversion, .int .i64 f.timeout, .int .i64 f.err, .int .i64 f.cver, .slice A2 f.mems.length c2, .slice A3 f.np c3]] w fun e w' => IsBool e ∧ Below w.heap.size w w' := by
  obtain ⟨n, hn⟩ : ∃ n, n = f.np := ⟨_, rfl⟩
  have HP : Hid (Prts w w.heap.size (.slice A3 n c3) ps) := by rw [hn]; exact hv.pr
  rw [← hn] at hlen hl ⊢
  have HN : Hid (n = ps.length) := hlen
  clear hv hn hlen
  go_enter Tryd.func13, Tryd.ntmps13
  go_wp2_with fail
  go_loopw [3, 4] (fun v c wr => ∃ (k : Nat) (m : Int), v = .int .i64 m ∧ c = .int .i64 k ∧ k ≤ n ∧ Below w.heap.size w wr ∧ wr.heap[w.heap.size]? = some (.cells #[.int .i64 f.zxid, .int .u8 f.kind, .int .i64 f.session, .int .i64 f.turn, .int .i64 f.xid, .int .i64 f.time, .string (mkS f.path), .slice A1 f.data.length c1, .int .i64 f.owner, .int .i64 f.version, .int .i64 f.cversion, .int .i64 f.timeout, .int .i64 f.err, .int .i64 f.cver, .slice A2 f.mems.length c2, .slice A3 n c3] 35 (0, 0))) (fun _ c _ => n - (intOf c).toNat)
  case atStart => exact ⟨0, _, rfl, rfl, by omega, (Below.refl _ _).alloc (Nat.le_refl _) _, heap_alloc_new w _⟩
  case round =>
    obtain ⟨k, m, rfl, rfl, hk, hB, hc⟩ := hrel
    have HB : Hid (Below w.heap.size w wr) := hB
    have HC : Hid (wr.heap[w.heap.size]? = some (.cells #[.int .i64 f.zxid, .int .u8 f.kind, .int .i64 f.session, .int .i64 f.turn, .int .i64 f.xid, .int .i64 f.time, .string (mkS f.path), .slice A1 f.data.length c1, .int .i64 f.owner, .int .i64 f.version, .int .i64 f.cversion, .int .i64 f.timeout, .int .i64 f.err, .int .i64 f.cver, .slice A2 f.mems.length c2, .slice A3 n c3] 35 (0, 0))) := hc
    obtain ⟨-, -, -, -, -, -, -, -, -, -, -, -, -, -, x14, x15⟩ := cells16 hc
    clear hB hc
    by_cases hlt : k < n
    · by_cases hm : m < 200000
      · have hkl : k < ps.length := by have := HN.out; omega
        obtain ⟨b, o, rfl, -, -, B1, d1, B2, d2, B3, d3, hcl, -⟩ := (HP.out.below HB.out).at' k hkl
        generalize (ps[k]'hkl) = g at hcl
        obtain ⟨-, -, -, -, -, -, z6, z7, -, -, -, -, -, -, -, z15⟩ := hcl
        have z6 := fun d os => cell_regrown z6 d os
        have z7 := fun d os => cell_regrown z7 d os
        have z15 := fun d os => cell_regrown z15 d os
        have y14 := fun d os => cell_regrown x14 d os
        have y15 := fun d os => cell_regrown x15 d os
        go_wp2_with fail
        refine wp_region_quiet_below (by kernel_rfl) (by kernel_rfl) ?_
        repeat (go_big_quiet_step (fail))
        refine wpQuiet_nil ?_
        intro _ hw'
        obtain ⟨⟨dq, osq⟩, hw''⟩ := hw'
        subst hw''
        have HB3 : Hid (Below w.heap.size w (grow (redrawn wr dq) osq)) := below_rg' HB.out dq osq
        have HC3 : Hid ((grow (redrawn wr dq) osq).heap[w.heap.size]? = some (.cells #[.int .i64 f.zxid, .int .u8 f.kind, .int .i64 f.session, .int .i64 f.turn, .int .i64 f.xid, .int .i64 f.time, .string (mkS f.path), .slice A1 f.data.length c1, .int .i64 f.owner, .int .i64 f.version, .int .i64 f.cversion, .int .i64 f.timeout, .int .i64 f.err, .int .i64 f.cver, .slice A2 f.mems.length c2, .slice (some ⟨b, o, none⟩) n c3] 35 (0, 0))) := by
          show _ = _
          rw [(below_regrown wr dq osq).block _ (heap_lt HC.out)]
          exact HC.out
        clear z6 z7 z15 y14 y15 x14 x15
        go_wp2_with fail
        exact ⟨⟨k + 1, _, rfl, by go_num, by omega, HB3.out, HC3.out⟩, by simp [intOf]; omega⟩
      · go_wp2_with fail
        all_goals (go_ret; exact ⟨⟨_, rfl⟩, HB.out⟩)
    · go_wp2_with fail
      all_goals (go_ret; exact ⟨⟨_, rfl⟩, HB.out⟩)
end Go.Proofs.YtbbllgpocjipjaaDoor.DD
