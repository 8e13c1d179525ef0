/- The walk of the document's own answer on numbers, and of the statement that a path is numbered, or refused, as the document says. -/
import Derived.Test.YtjgknjlinmcapaaDoorRefA
import Derived.Test.YtjgknjlinmcapaaDoorRisesWalk
namespace Go.Proofs.YtjgknjlinmcapaaDoor
open Go.RowKit Go.Shelf

theorem dg_ten (m : Nat) : dg 10 m = [UInt8.ofNat (48 + m / 10 / 10 / 10 / 10 / 10 / 10 / 10 / 10 / 10 % 10), UInt8.ofNat (48 + m / 10 / 10 / 10 / 10 / 10 / 10 / 10 / 10 % 10), UInt8.ofNat (48 + m / 10 / 10 / 10 / 10 / 10 / 10 / 10 % 10), UInt8.ofNat (48 + m / 10 / 10 / 10 / 10 / 10 / 10 % 10), UInt8.ofNat (48 + m / 10 / 10 / 10 / 10 / 10 % 10), UInt8.ofNat (48 + m / 10 / 10 / 10 / 10 % 10), UInt8.ofNat (48 + m / 10 / 10 / 10 % 10), UInt8.ofNat (48 + m / 10 / 10 % 10), UInt8.ofNat (48 + m / 10 % 10), UInt8.ofNat (48 + m % 10)] := rfl
def tens (m : Nat) : List Int := [(48 + (m : Int) / 10 / 10 / 10 / 10 / 10 / 10 / 10 / 10 / 10 % 10), (48 + (m : Int) / 10 / 10 / 10 / 10 / 10 / 10 / 10 / 10 % 10), (48 + (m : Int) / 10 / 10 / 10 / 10 / 10 / 10 / 10 % 10), (48 + (m : Int) / 10 / 10 / 10 / 10 / 10 / 10 % 10), (48 + (m : Int) / 10 / 10 / 10 / 10 / 10 % 10), (48 + (m : Int) / 10 / 10 / 10 / 10 % 10), (48 + (m : Int) / 10 / 10 / 10 % 10), (48 + (m : Int) / 10 / 10 % 10), (48 + (m : Int) / 10 % 10), (48 + (m : Int) % 10)]
theorem tens_dg (m : Nat) : (tens m).map (fun z => UInt8.ofNat z.toNat) = dg 10 m := by
  rw [dg_ten]
  simp only [tens, List.map_cons, List.map_nil, List.cons.injEq, and_true]
  refine ⟨?_, ?_, ?_, ?_, ?_, ?_, ?_, ?_, ?_, ?_⟩ <;> congr 1
theorem conv_ten (m : Nat) (w : World) :
    (convert 31 9 (.slice (some ⟨w.heap.size, 0, none⟩) 10 10)).run Tryd.prog (w.alloc (.cells #[Value.int .u8 (48 + (m : Int) / 10 / 10 / 10 / 10 / 10 / 10 / 10 / 10 / 10 % 10), Value.int .u8 (48 + (m : Int) / 10 / 10 / 10 / 10 / 10 / 10 / 10 / 10 % 10), Value.int .u8 (48 + (m : Int) / 10 / 10 / 10 / 10 / 10 / 10 / 10 % 10), Value.int .u8 (48 + (m : Int) / 10 / 10 / 10 / 10 / 10 / 10 % 10), Value.int .u8 (48 + (m : Int) / 10 / 10 / 10 / 10 / 10 % 10), Value.int .u8 (48 + (m : Int) / 10 / 10 / 10 / 10 % 10), Value.int .u8 (48 + (m : Int) / 10 / 10 / 10 % 10), Value.int .u8 (48 + (m : Int) / 10 / 10 % 10), Value.int .u8 (48 + (m : Int) / 10 % 10), Value.int .u8 (48 + (m : Int) % 10)] 43)) = .ok (.string (mkS (dg 10 m))) (w.alloc (.cells #[Value.int .u8 (48 + (m : Int) / 10 / 10 / 10 / 10 / 10 / 10 / 10 / 10 / 10 % 10), Value.int .u8 (48 + (m : Int) / 10 / 10 / 10 / 10 / 10 / 10 / 10 / 10 % 10), Value.int .u8 (48 + (m : Int) / 10 / 10 / 10 / 10 / 10 / 10 / 10 % 10), Value.int .u8 (48 + (m : Int) / 10 / 10 / 10 / 10 / 10 / 10 % 10), Value.int .u8 (48 + (m : Int) / 10 / 10 / 10 / 10 / 10 % 10), Value.int .u8 (48 + (m : Int) / 10 / 10 / 10 / 10 % 10), Value.int .u8 (48 + (m : Int) / 10 / 10 / 10 % 10), Value.int .u8 (48 + (m : Int) / 10 / 10 % 10), Value.int .u8 (48 + (m : Int) / 10 % 10), Value.int .u8 (48 + (m : Int) % 10)] 43)) := by
  have h := run_convert_bytes_arg (P := Tryd.prog) (w.alloc (.cells #[Value.int .u8 (48 + (m : Int) / 10 / 10 / 10 / 10 / 10 / 10 / 10 / 10 / 10 % 10), Value.int .u8 (48 + (m : Int) / 10 / 10 / 10 / 10 / 10 / 10 / 10 / 10 % 10), Value.int .u8 (48 + (m : Int) / 10 / 10 / 10 / 10 / 10 / 10 / 10 % 10), Value.int .u8 (48 + (m : Int) / 10 / 10 / 10 / 10 / 10 / 10 % 10), Value.int .u8 (48 + (m : Int) / 10 / 10 / 10 / 10 / 10 % 10), Value.int .u8 (48 + (m : Int) / 10 / 10 / 10 / 10 % 10), Value.int .u8 (48 + (m : Int) / 10 / 10 / 10 % 10), Value.int .u8 (48 + (m : Int) / 10 / 10 % 10), Value.int .u8 (48 + (m : Int) / 10 % 10), Value.int .u8 (48 + (m : Int) % 10)] 43)) 31 5 Tryd.underlying31 Tryd.underlying5 w.heap.size 0 10 10 (tens m) rfl (by
    intro i hi
    have : i = 0 ∨ i = 1 ∨ i = 2 ∨ i = 3 ∨ i = 4 ∨ i = 5 ∨ i = 6 ∨ i = 7 ∨ i = 8 ∨ i = 9 := by omega
    rcases this with rfl | rfl | rfl | rfl | rfl | rfl | rfl | rfl | rfl | rfl <;> simp [go_sem, tens]) 9 Tryd.underlying9
  rw [h]
  have e : strOfNums (tens m) = mkS (dg 10 m) := by
    rw [← tens_dg]; simp [strOfNums, mkS]
  rw [e]

set_option maxRecDepth 100000 in
set_option maxHeartbeats 2000000 in
theorem refNum_k (p : List UInt8) (n : Int) (w0 w : World) (hk : Kept w0 w) :
    Calls Tryd.prog 21 #[.string (mkS p), .int .i64 n] w fun e w' => e = .returned (.tuple #[.string (mkS (numS p n).1), .bool (numS p n).2]) ∧ Kept w0 w' := by
  have hs := mkS_size p
  by_cases hl : p.length ≤ 200
  · by_cases h0 : 0 ≤ n
    · by_cases h1 : n ≤ 2147483647
      · have t1 : ¬ (200 : Int) < ((p.length : Nat) : Int) := by omega
        have t2 : ¬ n < 0 := by omega
        have t3 : ¬ 2147483647 < n := by omega
        obtain ⟨m, rfl⟩ : ∃ m : Nat, n = m := ⟨n.toNat, by omega⟩
        have hz : (mkS (dg 10 m)).size = 10 := by rw [mkS_size, dg_length]
        have hu : ¬ 9223372036854775807 < (mkS p).size + (mkS (dg 10 m)).size := by rw [hz, mkS_size]; omega
        cases hr : right (p ++ dg 10 m) with
        | false =>
          have hf : numS p (m : Int) = ([], false) := by rw [numS, if_neg (by rw [Int.toNat_natCast, hr]; simp)]
          rw [hf]
          clear hf
          go_enter Tryd.func21, Tryd.ntmps21
          go_wp2
          refine wp_loop_rounds 11 ?_
          rw [rounds_succ]
          go_wp2
          rw [rounds_succ]
          go_wp2
          rw [rounds_succ]
          go_wp2
          rw [rounds_succ]
          go_wp2
          rw [rounds_succ]
          go_wp2
          rw [rounds_succ]
          go_wp2
          rw [rounds_succ]
          go_wp2
          rw [rounds_succ]
          go_wp2
          rw [rounds_succ]
          go_wp2
          rw [rounds_succ]
          go_wp2
          rw [rounds_succ]
          go_wp2_with fail
          rw [conv_ten]
          go_wp2_with fail
          rw [mkS_append]
          refine (refCheck_k _ false hr w0 _ (hk.go (newBelow w _))).mono ?_
          rintro e w1 ⟨rfl, hk1⟩
          go_wp2
          go_ret2
          exact ⟨rfl, hk1⟩
        | true =>
          have hf : numS p (m : Int) = (p ++ dg 10 m, true) := by rw [numS, if_pos (by rw [Int.toNat_natCast]; exact ⟨hl, h0, h1, hr⟩), Int.toNat_natCast]
          rw [hf]
          clear hf
          go_enter Tryd.func21, Tryd.ntmps21
          go_wp2
          refine wp_loop_rounds 11 ?_
          rw [rounds_succ]
          go_wp2
          rw [rounds_succ]
          go_wp2
          rw [rounds_succ]
          go_wp2
          rw [rounds_succ]
          go_wp2
          rw [rounds_succ]
          go_wp2
          rw [rounds_succ]
          go_wp2
          rw [rounds_succ]
          go_wp2
          rw [rounds_succ]
          go_wp2
          rw [rounds_succ]
          go_wp2
          rw [rounds_succ]
          go_wp2
          rw [rounds_succ]
          go_wp2_with fail
          rw [conv_ten]
          go_wp2_with fail
          rw [mkS_append]
          refine (refCheck_k _ true hr w0 _ (hk.go (newBelow w _))).mono ?_
          rintro e w1 ⟨rfl, hk1⟩
          go_wp2
          go_ret2
          exact ⟨rfl, hk1⟩
      · have hf : numS p n = ([], false) := by rw [numS, if_neg (by omega)]
        rw [hf]
        clear hf
        have t1 : ¬ (200 : Int) < ((p.length : Nat) : Int) := by omega
        have t2 : ¬ n < 0 := by omega
        have t3 : 2147483647 < n := by omega
        go_enter Tryd.func21, Tryd.ntmps21
        go_wp2
        go_ret2
        exact ⟨rfl, hk⟩
    · have hf : numS p n = ([], false) := by rw [numS, if_neg (by omega)]
      rw [hf]
      clear hf
      have t1 : ¬ (200 : Int) < ((p.length : Nat) : Int) := by omega
      have t2 : n < 0 := by omega
      go_enter Tryd.func21, Tryd.ntmps21
      go_wp2
      go_ret2
      exact ⟨rfl, hk⟩
  · have hf : numS p n = ([], false) := by rw [numS, if_neg (by omega)]
    rw [hf]
    clear hf
    have t1 : (200 : Int) < ((p.length : Nat) : Int) := by omega
    go_enter Tryd.func21, Tryd.ntmps21
    go_wp2
    go_ret2
    exact ⟨rfl, hk⟩
set_option maxRecDepth 100000 in
set_option maxHeartbeats 2000000 in
theorem numbers_any (p : List UInt8) (hpl : p.length ≤ 9223372036854775807) (n : Int) (w0 w : World) (hT : Tab w0) (hk : Kept w0 w) :
    Calls Tryd.prog 4 #[.string (mkS p), .int .i64 n] w fun e w' => e = .returned (.bool true) ∧ Kept w0 w' := by
  have hs := mkS_size p
  by_cases hl : p.length ≤ 500
  · have t1 : ¬ (500 : Int) < ((p.length : Nat) : Int) := by omega
    have n1 := fun w hk => number_k p n w0 w hT hk
    have n2 := fun w hk => refNum_k p n w0 w hk
    generalize numS p n = r at n1 n2
    go_enter Tryd.func4, Tryd.ntmps4
    go_wp2_with fail
    refine (n1 _ hk).mono ?_
    rintro e w1 ⟨rfl, hk1⟩
    go_wp2_with fail
    refine (n2 _ hk1).mono ?_
    rintro e w2 ⟨rfl, hk2⟩
    go_wp2_with fail
    refine (awake_k w0 _ hT hk2).mono ?_
    rintro e w3 ⟨rfl, hk3⟩
    go_wp2
    go_ret
    exact ⟨rfl, hk3⟩
  · have t1 : (500 : Int) < ((p.length : Nat) : Int) := by omega
    go_enter Tryd.func4, Tryd.ntmps4
    go_wp2_with fail
    refine (awake_k w0 _ hT hk).mono ?_
    rintro e w3 ⟨rfl, hk3⟩
    go_wp2
    go_ret
    exact ⟨rfl, hk3⟩
end Go.Proofs.YtjgknjlinmcapaaDoor
