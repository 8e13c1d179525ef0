/- The walk of the statement that each call says of any texts what the document says. -/
import Derived.Test.YtjgknjlinmcapaaDoorRefJoin
namespace Go.Proofs.YtjgknjlinmcapaaDoor
open Go.RowKit Go.Shelf

set_option maxRecDepth 100000 in
set_option maxHeartbeats 2000000 in
theorem tells_any (a b : List UInt8) (w0 w : World) (hT : Tab w0) (hk : Kept w0 w) :
    Calls Tryd.prog 3 #[.string (mkS a), .string (mkS b)] w fun e w' => e = .returned (.bool true) ∧ Kept w0 w' := by
  have hs := mkS_size a
  have hs' := mkS_size b
  by_cases hl : a.length ≤ 500
  · by_cases hl' : b.length ≤ 500
    · have t1 : ¬ (500 : Int) < ((a.length : Nat) : Int) := by omega
      have t2 : ¬ (500 : Int) < ((b.length : Nat) : Int) := by omega
      have c1 := fun w hk => check_k a _ rfl w0 w hk
      have c2 := fun w hk => refCheck_k a _ rfl w0 w hk
      have p1 := fun w hk => parent_k a w0 w hk
      have p2 := fun w hk => refParent_k a w0 w hk
      have b1 := fun w hk => base_k a w0 w hk
      have b2 := fun w hk => refBase_k a w0 w hk
      have j1 := fun w hk => join_k a b (by omega) w0 w hk
      have j2 := fun w hk => refJoin_k a b hl' w0 w hk
      have u1 := fun w hk => under_k a b w0 w hk
      have u2 := fun w hk => refUnder_k a b w0 w hk
      have v1 := fun w hk => under_k b a w0 w hk
      have v2 := fun w hk => refUnder_k b a w0 w hk
      generalize right a = r at c1 c2
      generalize parentS a = pa at p1 p2
      generalize lastS a = la at b1 b2
      generalize joinS a b = ja at j1 j2
      generalize underS a b = ua at u1 u2
      generalize underS b a = ub at v1 v2
      go_enter Tryd.func3, Tryd.ntmps3
      go_wp2_with fail
      refine (c1 _ hk).mono ?_
      rintro e w1 ⟨rfl, hk1⟩
      go_wp2_with fail
      refine (c2 _ hk1).mono ?_
      rintro e w2 ⟨rfl, hk2⟩
      go_wp2_with fail
      refine (p1 _ hk2).mono ?_
      rintro e w3 ⟨rfl, hk3⟩
      go_wp2_with fail
      refine (p2 _ hk3).mono ?_
      rintro e w4 ⟨rfl, hk4⟩
      go_wp2_with fail
      refine (b1 _ hk4).mono ?_
      rintro e w5 ⟨rfl, hk5⟩
      go_wp2_with fail
      refine (b2 _ hk5).mono ?_
      rintro e w6 ⟨rfl, hk6⟩
      go_wp2_with fail
      refine (j1 _ hk6).mono ?_
      rintro e w7 ⟨rfl, hk7⟩
      go_wp2_with fail
      refine (j2 _ hk7).mono ?_
      rintro e w8 ⟨rfl, hk8⟩
      go_wp2_with fail
      refine (u1 _ hk8).mono ?_
      rintro e w9 ⟨rfl, hk9⟩
      go_wp2_with fail
      refine (u2 _ hk9).mono ?_
      rintro e w10 ⟨rfl, hk10⟩
      go_wp2_with fail
      refine (v1 _ hk10).mono ?_
      rintro e w11 ⟨rfl, hk11⟩
      go_wp2_with fail
      refine (v2 _ hk11).mono ?_
      rintro e w12 ⟨rfl, hk12⟩
      go_wp2_with fail
      refine (awake_k w0 _ hT hk12).mono ?_
      rintro e w13 ⟨rfl, hk13⟩
      go_wp2
      go_ret
      exact ⟨rfl, hk13⟩
    · have t1 : ¬ (500 : Int) < ((a.length : Nat) : Int) := by omega
      have t2 : (500 : Int) < ((b.length : Nat) : Int) := by omega
      go_enter Tryd.func3, Tryd.ntmps3
      go_wp2_with fail
      refine (awake_k w0 _ hT hk).mono ?_
      rintro e w1 ⟨rfl, hk1⟩
      go_wp2
      go_ret
      exact ⟨rfl, hk1⟩
  · have t1 : (500 : Int) < ((a.length : Nat) : Int) := by omega
    go_enter Tryd.func3, Tryd.ntmps3
    go_wp2_with fail
    refine (awake_k w0 _ hT hk).mono ?_
    rintro e w1 ⟨rfl, hk1⟩
    go_wp2
    go_ret
    exact ⟨rfl, hk1⟩
end Go.Proofs.YtjgknjlinmcapaaDoor
