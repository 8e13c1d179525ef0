/- The walks of package path's Number and of the statements' own fixed answers. -/
import Derived.Test.YtjgknjlinmcapaaDoorWalksB
import Derived.Test.YtjgknjlinmcapaaDoorDigits
namespace Go.Proofs.YtjgknjlinmcapaaDoor
open Go.RowKit Go.Shelf

def Tab (w : World) : Prop := Lib.TabIs Tryd.prog w "internal/strconv.uint64pow10" .u64 Lib.pow10Tab
theorem Tab.kept {w0 w : World} (h : Tab w0) (hk : Kept w0 w) : Tab w := by
  unfold Tab Lib.TabIs World.var? at *
  cases hg : Tryd.prog.globalNamed "internal/strconv.uint64pow10" with
  | none => simp [hg] at h
  | some g =>
    simp only [hg, Option.bind_some] at h ⊢
    have hlt : g < w0.heap.size := by
      rcases Nat.lt_or_ge g w0.heap.size with h' | h'
      · exact h'
      · rw [Array.getElem?_eq_none h'] at h; simp at h
    rw [hk.below.block g hlt]; exact h
theorem below_grow (w : World) (k : Nat) (os : Array Obj) : Below w.heap.size w (Sort.grow (w.drewN k) os) :=
  ⟨rfl, rfl, rfl, by simp [Sort.grow], fun b hb => by simp [Sort.grow, Array.getElem?_append, hb]⟩

theorem itoa_k (n : Int) (h0 : 0 ≤ n) (h1 : n ≤ 2147483647) (w0 w : World) (hT : Tab w0) (hk : Kept w0 w) :
    Calls Tryd.prog 34 #[.int .i64 n] w fun e w' => e = .returned (.string (mkS (Lib.itoa n))) ∧ Kept w0 w' := by
  refine (Tryd.strconv_Itoa n (by omega) (by omega) w (hT.kept hk)).mono ?_
  rintro e w' ⟨rfl, k, os, rfl⟩
  exact ⟨rfl, hk.go (below_grow w k _)⟩
theorem zeros_k (c : Nat) (hc : c ≤ 10) (i : Int) (hi : i = c) (w0 w : World) (hk : Kept w0 w) :
    Calls Tryd.prog 22 #[.string ⟨#[48]⟩, .int .i64 i] w fun e w' => e = .returned (.string (mkS (Lib.repeatL [48] c))) ∧ Kept w0 w' := by
  subst hi
  refine (Tryd.strings_Repeat ⟨#[48]⟩ c w (by omega) (by rw [show (ByteArray.mk #[48]).size = 1 from rfl]; omega)).mono ?_
  rintro e w' ⟨rfl, hB⟩
  exact ⟨rfl, hk.go hB⟩

set_option maxRecDepth 100000 in
set_option maxHeartbeats 2000000 in
theorem number_k (p : List UInt8) (n : Int) (w0 w : World) (hT : Tab w0) (hk : Kept w0 w) :
    Calls Tryd.prog 20 #[.string (mkS p), .int .i64 n] w fun e w' => e = .returned (.tuple #[.string (mkS (numS p n).1), .bool (numS p n).2]) ∧ Kept w0 w' := by
  have hs := mkS_size p
  by_cases hl : p.length ≤ 200
  · by_cases h0 : 0 ≤ n
    · by_cases h1 : n ≤ 2147483647
      · obtain ⟨g1, g2⟩ := itoa_ten n h0 h1
        have hst := mkS_size (Lib.itoa n)
        have t1 : ¬ (200 : Int) < ((p.length : Nat) : Int) := by omega
        have t2 : ¬ n < 0 := by omega
        have t3 : ¬ 2147483647 < n := by omega
        have u1 : ¬ 9223372036854775807 < (mkS p).size + (mkS (Lib.repeatL [48] (10 - (Lib.itoa n).length))).size := by rw [mkS_size, mkS_size, Lib.repeatL_length]; simp; omega
        have u2 : ¬ 9223372036854775807 < (mkS p ++ mkS (Lib.repeatL [48] (10 - (Lib.itoa n).length))).size + (mkS (Lib.itoa n)).size := by rw [mkS_append, mkS_size, mkS_size, List.length_append, Lib.repeatL_length]; simp; omega
        cases hr : right (p ++ dg 10 n.toNat) with
        | false =>
          have hf : numS p n = ([], false) := by rw [numS, if_neg (by rw [hr]; simp)]
          rw [hf]
          clear hf
          go_enter Tryd.func20, Tryd.ntmps20
          go_wp2_with fail
          refine (itoa_k n h0 h1 w0 _ hT hk).mono ?_
          rintro e w1 ⟨rfl, hk1⟩
          go_wp2_with fail
          refine (zeros_k (10 - (Lib.itoa n).length) (by omega) _ (by omega) w0 _ hk1).mono ?_
          rintro e w2 ⟨rfl, hk2⟩
          go_wp2_with fail
          rw [mkS_append, mkS_append, List.append_assoc, g2]
          refine (check_k (p ++ dg 10 n.toNat) false hr w0 _ hk2).mono ?_
          rintro e w3 ⟨rfl, hk3⟩
          go_wp2
          go_ret2
          exact ⟨rfl, hk3⟩
        | true =>
          have hf : numS p n = (p ++ dg 10 n.toNat, true) := by rw [numS, if_pos ⟨hl, h0, h1, hr⟩]
          rw [hf]
          clear hf
          go_enter Tryd.func20, Tryd.ntmps20
          go_wp2_with fail
          refine (itoa_k n h0 h1 w0 _ hT hk).mono ?_
          rintro e w1 ⟨rfl, hk1⟩
          go_wp2_with fail
          refine (zeros_k (10 - (Lib.itoa n).length) (by omega) _ (by omega) w0 _ hk1).mono ?_
          rintro e w2 ⟨rfl, hk2⟩
          go_wp2_with fail
          rw [mkS_append, mkS_append, List.append_assoc, g2]
          refine (check_k (p ++ dg 10 n.toNat) true hr w0 _ hk2).mono ?_
          rintro e w3 ⟨rfl, hk3⟩
          go_wp2
          go_ret2
          exact ⟨rfl, hk3⟩
      · have hf : numS p n = ([], false) := by rw [numS, if_neg (by omega)]
        rw [hf]
        clear hf
        have t1 : ¬ (200 : Int) < ((p.length : Nat) : Int) := by omega
        have t2 : ¬ n < 0 := by omega
        have t3 : 2147483647 < n := by omega
        go_enter Tryd.func20, Tryd.ntmps20
        go_wp2
        go_ret2
        exact ⟨rfl, hk⟩
    · have hf : numS p n = ([], false) := by rw [numS, if_neg (by omega)]
      rw [hf]
      clear hf
      have t1 : ¬ (200 : Int) < ((p.length : Nat) : Int) := by omega
      have t2 : n < 0 := by omega
      go_enter Tryd.func20, Tryd.ntmps20
      go_wp2
      go_ret2
      exact ⟨rfl, hk⟩
  · have hf : numS p n = ([], false) := by rw [numS, if_neg (by omega)]
    rw [hf]
    clear hf
    have t1 : (200 : Int) < ((p.length : Nat) : Int) := by omega
    go_enter Tryd.func20, Tryd.ntmps20
    go_wp2
    go_ret2
    exact ⟨rfl, hk⟩

set_option maxRecDepth 100000 in
theorem awake_k (w0 w : World) (hT : Tab w0) (hk : Kept w0 w) :
    Calls Tryd.prog 9 #[] w fun e w' => e = .returned (.bool true) ∧ Kept w0 w' := by
  have e1 : numS [47, 97, 45] 7 = ([47, 97, 45, 48, 48, 48, 48, 48, 48, 48, 48, 48, 55], true) := by decide
  have n1 := fun w hk => number_k [47, 97, 45] 7 w0 w hT hk
  rw [e1] at n1
  have c1 := fun w hk => check_k [47, 97, 47, 98] true (by decide) w0 w hk
  have c2 := fun w hk => check_k [47, 97, 47] false (by decide) w0 w hk
  have p1 := fun w hk => parent_k [47, 97, 47, 98] w0 w hk
  rw [show parentS [47, 97, 47, 98] = [47, 97] by decide] at p1
  have b1 := fun w hk => base_k [47, 97, 47, 98] w0 w hk
  rw [show lastS [47, 97, 47, 98] = [98] by decide] at b1
  have j1 := fun w hk => join_k [47, 97] [98] (by decide) w0 w hk
  rw [show joinS [47, 97] [98] = [47, 97, 47, 98] by decide] at j1
  have u1 := fun w hk => under_k [47, 97] [47, 97, 47, 98] w0 w hk
  rw [show underS [47, 97] [47, 97, 47, 98] = true by decide] at u1
  have u2 := fun w hk => under_k [47, 97] [47, 97, 98] w0 w hk
  rw [show underS [47, 97] [47, 97, 98] = false by decide] at u2
  clear e1
  have k1 := mkS_toList [47, 97]
  have k2 := mkS_toList [98]
  have k3 := mkS_toList [47, 97, 47, 98]
  have k4 := mkS_toList [47, 97, 45, 48, 48, 48, 48, 48, 48, 48, 48, 48, 55]
  go_enter Tryd.func9, Tryd.ntmps9
  go_wp2_with fail
  refine (n1 _ hk).mono ?_
  rintro e w1 ⟨rfl, hk1⟩
  go_wp2_with fail
  refine (c1 _ hk1).mono ?_
  rintro e w2 ⟨rfl, hk2⟩
  go_wp2_with fail
  refine (c2 _ hk2).mono ?_
  rintro e w3 ⟨rfl, hk3⟩
  go_wp2_with fail
  refine (p1 _ hk3).mono ?_
  rintro e w4 ⟨rfl, hk4⟩
  go_wp2_with fail
  refine (b1 _ hk4).mono ?_
  rintro e w5 ⟨rfl, hk5⟩
  go_wp2_with fail
  refine (j1 _ hk5).mono ?_
  rintro e w6 ⟨rfl, hk6⟩
  go_wp2_with fail
  refine (u1 _ hk6).mono ?_
  rintro e w7 ⟨rfl, hk7⟩
  go_wp2_with fail
  refine (u2 _ hk7).mono ?_
  rintro e w8 ⟨rfl, hk8⟩
  go_wp2
  go_ret
  exact ⟨rfl, hk8⟩

end Go.Proofs.YtjgknjlinmcapaaDoor
