/- The walk of the statement on numbers that rise, for every text and any two numbers. -/
import Derived.Test.YtjgknjlinmcapaaDoorWalksC
namespace Go.Proofs.YtjgknjlinmcapaaDoor
open Go.RowKit Go.Shelf

theorem bytesLess_iff : ∀ (u v : List UInt8), Op.bytesLess u v = decide (u < v)
  | _, [] => by simp [Op.bytesLess]
  | [], _ :: _ => by simp [Op.bytesLess]
  | a :: x, b :: y => by
    rw [Op.bytesLess, bytesLess_iff x y, Bool.eq_iff_iff]
    simp [List.cons_lt_cons_iff]
theorem num_cases (p : List UInt8) (n : Int) : numS p n = ([], false) ∨ (p.length ≤ 200 ∧ 0 ≤ n ∧ n ≤ 2147483647 ∧ right (p ++ dg 10 n.toNat) = true ∧ numS p n = (p ++ dg 10 n.toNat, true)) := by
  unfold numS
  split
  · rename_i h; exact .inr ⟨h.1, h.2.1, h.2.2.1, h.2.2.2, rfl⟩
  · exact .inl rfl

set_option maxRecDepth 100000 in
set_option maxHeartbeats 2000000 in
theorem rises_any (p : List UInt8) (a b : Int) (w0 w : World) (hT : Tab w0) (hk : Kept w0 w) :
    Calls Tryd.prog 8 #[.string (mkS p), .int .i64 a, .int .i64 b] w fun e w' => e = .returned (.bool true) ∧ Kept w0 w' := by
  have n1 := fun w hk => number_k p a w0 w hT hk
  have n2 := fun w hk => number_k p b w0 w hT hk
  have z0 := mkS_toList []
  rcases num_cases p a with ea | ⟨hl, a0, a1, ra, ea⟩ <;> rcases num_cases p b with eb | ⟨_, b0, b1, rb, eb⟩
  · rw [ea] at n1; rw [eb] at n2
    clear ea eb
    go_enter Tryd.func8, Tryd.ntmps8
    go_wp2_with fail
    refine (awake_k w0 _ hT hk).mono ?_
    rintro e w1 ⟨rfl, hk1⟩
    go_wp2_with fail
    refine (n1 _ hk1).mono ?_
    rintro e w2 ⟨rfl, hk2⟩
    go_wp2_with fail
    refine (n2 _ hk2).mono ?_
    rintro e w3 ⟨rfl, hk3⟩
    go_wp2
    go_ret
    exact ⟨rfl, hk3⟩
  · rw [ea] at n1; rw [eb] at n2
    clear ea eb
    go_enter Tryd.func8, Tryd.ntmps8
    go_wp2_with fail
    refine (awake_k w0 _ hT hk).mono ?_
    rintro e w1 ⟨rfl, hk1⟩
    go_wp2_with fail
    refine (n1 _ hk1).mono ?_
    rintro e w2 ⟨rfl, hk2⟩
    go_wp2_with fail
    refine (n2 _ hk2).mono ?_
    rintro e w3 ⟨rfl, hk3⟩
    go_wp2
    go_ret
    exact ⟨rfl, hk3⟩
  · rw [ea] at n1; rw [eb] at n2
    clear ea eb
    go_enter Tryd.func8, Tryd.ntmps8
    go_wp2_with fail
    refine (awake_k w0 _ hT hk).mono ?_
    rintro e w1 ⟨rfl, hk1⟩
    go_wp2_with fail
    refine (n1 _ hk1).mono ?_
    rintro e w2 ⟨rfl, hk2⟩
    go_wp2_with fail
    refine (n2 _ hk2).mono ?_
    rintro e w3 ⟨rfl, hk3⟩
    go_wp2
    go_ret
    exact ⟨rfl, hk3⟩
  · rw [ea] at n1; rw [eb] at n2
    clear ea eb
    have s1 : (mkS (p ++ dg 10 a.toNat)).size = p.length + 10 := by rw [mkS_size, List.length_append, dg_length]
    have s2 : (mkS (p ++ dg 10 b.toNat)).size = p.length + 10 := by rw [mkS_size, List.length_append, dg_length]
    have s3 := mkS_size p
    have hlt : Op.bytesLess (mkS (p ++ dg 10 a.toNat)).toList (mkS (p ++ dg 10 b.toNat)).toList = decide (a < b) := by
      rw [mkS_toList, mkS_toList, bytesLess_iff]
      have : p ++ dg 10 a.toNat < p ++ dg 10 b.toNat ↔ a < b := by rw [lt_front, dg_lt 10 (by omega) (by omega)]; omega
      simp only [this]
    have heq : ((mkS (p ++ dg 10 a.toNat)).toList == (mkS (p ++ dg 10 b.toNat)).toList) = (a == b) := by
      rw [mkS_toList, mkS_toList, Bool.eq_iff_iff, beq_iff_eq, beq_iff_eq]
      exact ⟨fun h => by have := dg_inj 10 (by omega) (by omega) (List.append_cancel_left h); omega, fun h => by rw [h]⟩
    have hpre : p.isPrefixOf (p ++ dg 10 a.toNat) = true := by simp
    go_enter Tryd.func8, Tryd.ntmps8
    go_wp2_with fail
    refine (awake_k w0 _ hT hk).mono ?_
    rintro e w1 ⟨rfl, hk1⟩
    go_wp2_with fail
    refine (n1 _ hk1).mono ?_
    rintro e w2 ⟨rfl, hk2⟩
    go_wp2_with fail
    refine (n2 _ hk2).mono ?_
    rintro e w3 ⟨rfl, hk3⟩
    go_wp2_with fail
    refine (hasPrefix_any _ p true hpre _).mono ?_
    rintro e w4 ⟨rfl, rfl⟩
    go_wp2_with fail
    refine (check_k _ true ra w0 _ hk3).mono ?_
    rintro e w5 ⟨rfl, hk5⟩
    go_wp2
    go_ret
    exact ⟨rfl, hk5⟩
end Go.Proofs.YtjgknjlinmcapaaDoor
