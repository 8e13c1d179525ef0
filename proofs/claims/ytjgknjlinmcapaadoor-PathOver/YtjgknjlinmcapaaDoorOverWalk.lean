/- The walk of the statement that being under is an order, for every four texts; the name that is joined is no longer than any text may be. -/
import Derived.Test.YtjgknjlinmcapaaDoorWalksC
namespace Go.Proofs.YtjgknjlinmcapaaDoor
open Go.RowKit Go.Shelf

theorem under_iff {a b : List UInt8} : underS a b = true ↔ right a = true ∧ right b = true ∧ parts a <+: parts b := by
  simp [underS, and_assoc]
theorem under_trans {a b c : List UInt8} (h : underS a b = true) (g : underS b c = true) : underS a c = true := by
  rw [under_iff] at *
  exact ⟨h.1, g.2.1, h.2.2.trans g.2.2⟩
theorem under_anti {a b : List UInt8} (h : underS a b = true) (g : underS b a = true) : a = b := by
  rw [under_iff] at *
  have e : parts a = parts b := h.2.2.eq_of_length (Nat.le_antisymm h.2.2.length_le g.2.2.length_le)
  rw [right_eq h.1, right_eq h.2.1, e]
theorem under_chain {a b c : List UInt8} (h : underS a c = true) (g : underS b c = true) : underS a b = true ∨ underS b a = true := by
  rw [under_iff] at h g
  rw [under_iff, under_iff]
  rcases Nat.le_total (parts a).length (parts b).length with e | e
  · exact .inl ⟨h.1, g.1, List.prefix_of_prefix_length_le h.2.2 g.2.2 e⟩
  · exact .inr ⟨g.1, h.1, List.prefix_of_prefix_length_le g.2.2 h.2.2 e⟩
theorem join_facts {a n : List UInt8} (h : joinS a n ≠ []) : right a = true ∧ underS a (joinS a n) = true ∧ parentS (joinS a n) = a ∧ lastS (joinS a n) = n ∧ underS (joinS a n) a = false := by
  unfold joinS at h ⊢
  split at h
  · rename_i hj
    rw [if_pos hj]
    obtain ⟨ha, hn, hr⟩ := hj
    have hp := right_parts ha
    have hall : (parts a ++ [n]).all isPart = true := by rw [List.all_append, hp]; simp [hn]
    have hlen : (pathOf (parts a ++ [n])).length ≤ 200 := right_len hr
    have hlast := lastS_of hall hlen
    refine ⟨ha, ?_, ?_, hlast, ?_⟩
    · rw [under_iff, parts_pathOf hall]
      exact ⟨ha, hr, List.prefix_append _ _⟩
    · rw [parentS, if_neg (by rw [hlast]; exact isPart_ne hn), parts_pathOf hall, List.dropLast_concat, ← right_eq ha]
    · rw [← Bool.not_eq_true, under_iff, parts_pathOf hall]
      rintro ⟨_, _, g⟩
      have := g.length_le
      simp at this
      omega
  · exact absurd rfl h

set_option maxRecDepth 100000 in
set_option maxHeartbeats 4000000 in
theorem over_1 (a b c n : List UInt8) (hn : n.length ≤ 1000000000000000) (w0 w : World) (hT : Tab w0) (hk : Kept w0 w)
    (hab : underS a b = false) (hac : underS a c = false) :
    Calls Tryd.prog 7 #[.string (mkS a), .string (mkS b), .string (mkS c), .string (mkS n)] w fun e w' => e = .returned (.bool true) ∧ Kept w0 w' := by
  by_cases hj : joinS a n = []
  · have hj' : (mkS (joinS a n)).toList.isEmpty = true := by rw [mkS_toList, hj]; rfl
    clear hj
    go_enter Tryd.func7, Tryd.ntmps7
    go_wp2_with (first | (go_at_call 18; refine (under_k _ _ w0 _ (by assumption)).mono ?_; rintro e w' ⟨rfl, hk'⟩) | (go_at_call 9; refine (awake_k w0 _ hT (by assumption)).mono ?_; rintro e w' ⟨rfl, hk'⟩) | (go_at_call 16; refine (join_k _ _ hn w0 _ (by assumption)).mono ?_; rintro e w' ⟨rfl, hk'⟩))
    go_ret
    exact ⟨rfl, by assumption⟩
  · obtain ⟨ha, j1, j2, j3, j4⟩ := join_facts hj
    have hj' : (mkS (joinS a n)).toList.isEmpty = false := by rw [mkS_toList]; simp [hj]
    clear hj
    go_enter Tryd.func7, Tryd.ntmps7
    go_wp2_with (first | (go_at_call 18; refine (under_k _ _ w0 _ (by assumption)).mono ?_; rintro e w' ⟨rfl, hk'⟩) | (go_at_call 9; refine (awake_k w0 _ hT (by assumption)).mono ?_; rintro e w' ⟨rfl, hk'⟩) | (go_at_call 16; refine (join_k _ _ hn w0 _ (by assumption)).mono ?_; rintro e w' ⟨rfl, hk'⟩) | (go_at_call 10; refine (check_k _ true ha w0 _ (by assumption)).mono ?_; rintro e w' ⟨rfl, hk'⟩) | (go_at_call 12; refine (parent_k _ w0 _ (by assumption)).mono ?_; rintro e w' ⟨rfl, hk'⟩) | (go_at_call 14; refine (base_k _ w0 _ (by assumption)).mono ?_; rintro e w' ⟨rfl, hk'⟩))
    go_ret
    exact ⟨rfl, by assumption⟩
set_option maxRecDepth 100000 in
set_option maxHeartbeats 4000000 in
theorem over_2 (a b c n : List UInt8) (hn : n.length ≤ 1000000000000000) (w0 w : World) (hT : Tab w0) (hk : Kept w0 w)
    (hab : underS a b = false) (hac : underS a c = true) (hbc : underS b c = false) :
    Calls Tryd.prog 7 #[.string (mkS a), .string (mkS b), .string (mkS c), .string (mkS n)] w fun e w' => e = .returned (.bool true) ∧ Kept w0 w' := by
  by_cases hj : joinS a n = []
  · have hj' : (mkS (joinS a n)).toList.isEmpty = true := by rw [mkS_toList, hj]; rfl
    clear hj
    go_enter Tryd.func7, Tryd.ntmps7
    go_wp2_with (first | (go_at_call 18; refine (under_k _ _ w0 _ (by assumption)).mono ?_; rintro e w' ⟨rfl, hk'⟩) | (go_at_call 9; refine (awake_k w0 _ hT (by assumption)).mono ?_; rintro e w' ⟨rfl, hk'⟩) | (go_at_call 16; refine (join_k _ _ hn w0 _ (by assumption)).mono ?_; rintro e w' ⟨rfl, hk'⟩))
    go_ret
    exact ⟨rfl, by assumption⟩
  · obtain ⟨ha, j1, j2, j3, j4⟩ := join_facts hj
    have hj' : (mkS (joinS a n)).toList.isEmpty = false := by rw [mkS_toList]; simp [hj]
    clear hj
    go_enter Tryd.func7, Tryd.ntmps7
    go_wp2_with (first | (go_at_call 18; refine (under_k _ _ w0 _ (by assumption)).mono ?_; rintro e w' ⟨rfl, hk'⟩) | (go_at_call 9; refine (awake_k w0 _ hT (by assumption)).mono ?_; rintro e w' ⟨rfl, hk'⟩) | (go_at_call 16; refine (join_k _ _ hn w0 _ (by assumption)).mono ?_; rintro e w' ⟨rfl, hk'⟩) | (go_at_call 10; refine (check_k _ true ha w0 _ (by assumption)).mono ?_; rintro e w' ⟨rfl, hk'⟩) | (go_at_call 12; refine (parent_k _ w0 _ (by assumption)).mono ?_; rintro e w' ⟨rfl, hk'⟩) | (go_at_call 14; refine (base_k _ w0 _ (by assumption)).mono ?_; rintro e w' ⟨rfl, hk'⟩))
    go_ret
    exact ⟨rfl, by assumption⟩
set_option maxRecDepth 100000 in
set_option maxHeartbeats 4000000 in
theorem over_3 (a b c n : List UInt8) (hn : n.length ≤ 1000000000000000) (w0 w : World) (hT : Tab w0) (hk : Kept w0 w)
    (hab : underS a b = false) (hac : underS a c = true) (hbc : underS b c = true) (hba : underS b a = true) :
    Calls Tryd.prog 7 #[.string (mkS a), .string (mkS b), .string (mkS c), .string (mkS n)] w fun e w' => e = .returned (.bool true) ∧ Kept w0 w' := by
  by_cases hj : joinS a n = []
  · have hj' : (mkS (joinS a n)).toList.isEmpty = true := by rw [mkS_toList, hj]; rfl
    clear hj
    go_enter Tryd.func7, Tryd.ntmps7
    go_wp2_with (first | (go_at_call 18; refine (under_k _ _ w0 _ (by assumption)).mono ?_; rintro e w' ⟨rfl, hk'⟩) | (go_at_call 9; refine (awake_k w0 _ hT (by assumption)).mono ?_; rintro e w' ⟨rfl, hk'⟩) | (go_at_call 16; refine (join_k _ _ hn w0 _ (by assumption)).mono ?_; rintro e w' ⟨rfl, hk'⟩))
    go_ret
    exact ⟨rfl, by assumption⟩
  · obtain ⟨ha, j1, j2, j3, j4⟩ := join_facts hj
    have hj' : (mkS (joinS a n)).toList.isEmpty = false := by rw [mkS_toList]; simp [hj]
    clear hj
    go_enter Tryd.func7, Tryd.ntmps7
    go_wp2_with (first | (go_at_call 18; refine (under_k _ _ w0 _ (by assumption)).mono ?_; rintro e w' ⟨rfl, hk'⟩) | (go_at_call 9; refine (awake_k w0 _ hT (by assumption)).mono ?_; rintro e w' ⟨rfl, hk'⟩) | (go_at_call 16; refine (join_k _ _ hn w0 _ (by assumption)).mono ?_; rintro e w' ⟨rfl, hk'⟩) | (go_at_call 10; refine (check_k _ true ha w0 _ (by assumption)).mono ?_; rintro e w' ⟨rfl, hk'⟩) | (go_at_call 12; refine (parent_k _ w0 _ (by assumption)).mono ?_; rintro e w' ⟨rfl, hk'⟩) | (go_at_call 14; refine (base_k _ w0 _ (by assumption)).mono ?_; rintro e w' ⟨rfl, hk'⟩))
    go_ret
    exact ⟨rfl, by assumption⟩
set_option maxRecDepth 100000 in
set_option maxHeartbeats 4000000 in
theorem over_4 (a b c n : List UInt8) (hn : n.length ≤ 1000000000000000) (w0 w : World) (hT : Tab w0) (hk : Kept w0 w)
    (hab : underS a b = true) (hbc : underS b c = false) (hba : underS b a = false) (hac : underS a c = false) :
    Calls Tryd.prog 7 #[.string (mkS a), .string (mkS b), .string (mkS c), .string (mkS n)] w fun e w' => e = .returned (.bool true) ∧ Kept w0 w' := by
  by_cases hj : joinS a n = []
  · have hj' : (mkS (joinS a n)).toList.isEmpty = true := by rw [mkS_toList, hj]; rfl
    clear hj
    go_enter Tryd.func7, Tryd.ntmps7
    go_wp2_with (first | (go_at_call 18; refine (under_k _ _ w0 _ (by assumption)).mono ?_; rintro e w' ⟨rfl, hk'⟩) | (go_at_call 9; refine (awake_k w0 _ hT (by assumption)).mono ?_; rintro e w' ⟨rfl, hk'⟩) | (go_at_call 16; refine (join_k _ _ hn w0 _ (by assumption)).mono ?_; rintro e w' ⟨rfl, hk'⟩))
    go_ret
    exact ⟨rfl, by assumption⟩
  · obtain ⟨ha, j1, j2, j3, j4⟩ := join_facts hj
    have hj' : (mkS (joinS a n)).toList.isEmpty = false := by rw [mkS_toList]; simp [hj]
    clear hj
    go_enter Tryd.func7, Tryd.ntmps7
    go_wp2_with (first | (go_at_call 18; refine (under_k _ _ w0 _ (by assumption)).mono ?_; rintro e w' ⟨rfl, hk'⟩) | (go_at_call 9; refine (awake_k w0 _ hT (by assumption)).mono ?_; rintro e w' ⟨rfl, hk'⟩) | (go_at_call 16; refine (join_k _ _ hn w0 _ (by assumption)).mono ?_; rintro e w' ⟨rfl, hk'⟩) | (go_at_call 10; refine (check_k _ true ha w0 _ (by assumption)).mono ?_; rintro e w' ⟨rfl, hk'⟩) | (go_at_call 12; refine (parent_k _ w0 _ (by assumption)).mono ?_; rintro e w' ⟨rfl, hk'⟩) | (go_at_call 14; refine (base_k _ w0 _ (by assumption)).mono ?_; rintro e w' ⟨rfl, hk'⟩))
    go_ret
    exact ⟨rfl, by assumption⟩
set_option maxRecDepth 100000 in
set_option maxHeartbeats 4000000 in
theorem over_5 (a b c n : List UInt8) (hn : n.length ≤ 1000000000000000) (w0 w : World) (hT : Tab w0) (hk : Kept w0 w)
    (hab : underS a b = true) (hbc : underS b c = false) (hba : underS b a = false) (hac : underS a c = true) :
    Calls Tryd.prog 7 #[.string (mkS a), .string (mkS b), .string (mkS c), .string (mkS n)] w fun e w' => e = .returned (.bool true) ∧ Kept w0 w' := by
  by_cases hj : joinS a n = []
  · have hj' : (mkS (joinS a n)).toList.isEmpty = true := by rw [mkS_toList, hj]; rfl
    clear hj
    go_enter Tryd.func7, Tryd.ntmps7
    go_wp2_with (first | (go_at_call 18; refine (under_k _ _ w0 _ (by assumption)).mono ?_; rintro e w' ⟨rfl, hk'⟩) | (go_at_call 9; refine (awake_k w0 _ hT (by assumption)).mono ?_; rintro e w' ⟨rfl, hk'⟩) | (go_at_call 16; refine (join_k _ _ hn w0 _ (by assumption)).mono ?_; rintro e w' ⟨rfl, hk'⟩))
    go_ret
    exact ⟨rfl, by assumption⟩
  · obtain ⟨ha, j1, j2, j3, j4⟩ := join_facts hj
    have hj' : (mkS (joinS a n)).toList.isEmpty = false := by rw [mkS_toList]; simp [hj]
    clear hj
    go_enter Tryd.func7, Tryd.ntmps7
    go_wp2_with (first | (go_at_call 18; refine (under_k _ _ w0 _ (by assumption)).mono ?_; rintro e w' ⟨rfl, hk'⟩) | (go_at_call 9; refine (awake_k w0 _ hT (by assumption)).mono ?_; rintro e w' ⟨rfl, hk'⟩) | (go_at_call 16; refine (join_k _ _ hn w0 _ (by assumption)).mono ?_; rintro e w' ⟨rfl, hk'⟩) | (go_at_call 10; refine (check_k _ true ha w0 _ (by assumption)).mono ?_; rintro e w' ⟨rfl, hk'⟩) | (go_at_call 12; refine (parent_k _ w0 _ (by assumption)).mono ?_; rintro e w' ⟨rfl, hk'⟩) | (go_at_call 14; refine (base_k _ w0 _ (by assumption)).mono ?_; rintro e w' ⟨rfl, hk'⟩))
    go_ret
    exact ⟨rfl, by assumption⟩
set_option maxRecDepth 100000 in
set_option maxHeartbeats 4000000 in
theorem over_6 (a b c n : List UInt8) (hn : n.length ≤ 1000000000000000) (w0 w : World) (hT : Tab w0) (hk : Kept w0 w)
    (hab : underS a b = true) (hbc : underS b c = true) (hba : underS b a = false) (hac : underS a c = true) :
    Calls Tryd.prog 7 #[.string (mkS a), .string (mkS b), .string (mkS c), .string (mkS n)] w fun e w' => e = .returned (.bool true) ∧ Kept w0 w' := by
  by_cases hj : joinS a n = []
  · have hj' : (mkS (joinS a n)).toList.isEmpty = true := by rw [mkS_toList, hj]; rfl
    clear hj
    go_enter Tryd.func7, Tryd.ntmps7
    go_wp2_with (first | (go_at_call 18; refine (under_k _ _ w0 _ (by assumption)).mono ?_; rintro e w' ⟨rfl, hk'⟩) | (go_at_call 9; refine (awake_k w0 _ hT (by assumption)).mono ?_; rintro e w' ⟨rfl, hk'⟩) | (go_at_call 16; refine (join_k _ _ hn w0 _ (by assumption)).mono ?_; rintro e w' ⟨rfl, hk'⟩))
    go_ret
    exact ⟨rfl, by assumption⟩
  · obtain ⟨ha, j1, j2, j3, j4⟩ := join_facts hj
    have hj' : (mkS (joinS a n)).toList.isEmpty = false := by rw [mkS_toList]; simp [hj]
    clear hj
    go_enter Tryd.func7, Tryd.ntmps7
    go_wp2_with (first | (go_at_call 18; refine (under_k _ _ w0 _ (by assumption)).mono ?_; rintro e w' ⟨rfl, hk'⟩) | (go_at_call 9; refine (awake_k w0 _ hT (by assumption)).mono ?_; rintro e w' ⟨rfl, hk'⟩) | (go_at_call 16; refine (join_k _ _ hn w0 _ (by assumption)).mono ?_; rintro e w' ⟨rfl, hk'⟩) | (go_at_call 10; refine (check_k _ true ha w0 _ (by assumption)).mono ?_; rintro e w' ⟨rfl, hk'⟩) | (go_at_call 12; refine (parent_k _ w0 _ (by assumption)).mono ?_; rintro e w' ⟨rfl, hk'⟩) | (go_at_call 14; refine (base_k _ w0 _ (by assumption)).mono ?_; rintro e w' ⟨rfl, hk'⟩))
    go_ret
    exact ⟨rfl, by assumption⟩
set_option maxRecDepth 100000 in
set_option maxHeartbeats 4000000 in
theorem over_7 (a c n : List UInt8) (hn : n.length ≤ 1000000000000000) (w0 w : World) (hT : Tab w0) (hk : Kept w0 w)
    (haa : underS a a = true) (hac : underS a c = false) :
    Calls Tryd.prog 7 #[.string (mkS a), .string (mkS a), .string (mkS c), .string (mkS n)] w fun e w' => e = .returned (.bool true) ∧ Kept w0 w' := by
  by_cases hj : joinS a n = []
  · have hj' : (mkS (joinS a n)).toList.isEmpty = true := by rw [mkS_toList, hj]; rfl
    clear hj
    go_enter Tryd.func7, Tryd.ntmps7
    go_wp2_with (first | (go_at_call 18; refine (under_k _ _ w0 _ (by assumption)).mono ?_; rintro e w' ⟨rfl, hk'⟩) | (go_at_call 9; refine (awake_k w0 _ hT (by assumption)).mono ?_; rintro e w' ⟨rfl, hk'⟩) | (go_at_call 16; refine (join_k _ _ hn w0 _ (by assumption)).mono ?_; rintro e w' ⟨rfl, hk'⟩))
    go_ret
    exact ⟨rfl, by assumption⟩
  · obtain ⟨ha, j1, j2, j3, j4⟩ := join_facts hj
    have hj' : (mkS (joinS a n)).toList.isEmpty = false := by rw [mkS_toList]; simp [hj]
    clear hj
    go_enter Tryd.func7, Tryd.ntmps7
    go_wp2_with (first | (go_at_call 18; refine (under_k _ _ w0 _ (by assumption)).mono ?_; rintro e w' ⟨rfl, hk'⟩) | (go_at_call 9; refine (awake_k w0 _ hT (by assumption)).mono ?_; rintro e w' ⟨rfl, hk'⟩) | (go_at_call 16; refine (join_k _ _ hn w0 _ (by assumption)).mono ?_; rintro e w' ⟨rfl, hk'⟩) | (go_at_call 10; refine (check_k _ true ha w0 _ (by assumption)).mono ?_; rintro e w' ⟨rfl, hk'⟩) | (go_at_call 12; refine (parent_k _ w0 _ (by assumption)).mono ?_; rintro e w' ⟨rfl, hk'⟩) | (go_at_call 14; refine (base_k _ w0 _ (by assumption)).mono ?_; rintro e w' ⟨rfl, hk'⟩))
    go_ret
    exact ⟨rfl, by assumption⟩
set_option maxRecDepth 100000 in
set_option maxHeartbeats 4000000 in
theorem over_8 (a c n : List UInt8) (hn : n.length ≤ 1000000000000000) (w0 w : World) (hT : Tab w0) (hk : Kept w0 w)
    (haa : underS a a = true) (hac : underS a c = true) :
    Calls Tryd.prog 7 #[.string (mkS a), .string (mkS a), .string (mkS c), .string (mkS n)] w fun e w' => e = .returned (.bool true) ∧ Kept w0 w' := by
  by_cases hj : joinS a n = []
  · have hj' : (mkS (joinS a n)).toList.isEmpty = true := by rw [mkS_toList, hj]; rfl
    clear hj
    go_enter Tryd.func7, Tryd.ntmps7
    go_wp2_with (first | (go_at_call 18; refine (under_k _ _ w0 _ (by assumption)).mono ?_; rintro e w' ⟨rfl, hk'⟩) | (go_at_call 9; refine (awake_k w0 _ hT (by assumption)).mono ?_; rintro e w' ⟨rfl, hk'⟩) | (go_at_call 16; refine (join_k _ _ hn w0 _ (by assumption)).mono ?_; rintro e w' ⟨rfl, hk'⟩))
    go_ret
    exact ⟨rfl, by assumption⟩
  · obtain ⟨ha, j1, j2, j3, j4⟩ := join_facts hj
    have hj' : (mkS (joinS a n)).toList.isEmpty = false := by rw [mkS_toList]; simp [hj]
    clear hj
    go_enter Tryd.func7, Tryd.ntmps7
    go_wp2_with (first | (go_at_call 18; refine (under_k _ _ w0 _ (by assumption)).mono ?_; rintro e w' ⟨rfl, hk'⟩) | (go_at_call 9; refine (awake_k w0 _ hT (by assumption)).mono ?_; rintro e w' ⟨rfl, hk'⟩) | (go_at_call 16; refine (join_k _ _ hn w0 _ (by assumption)).mono ?_; rintro e w' ⟨rfl, hk'⟩) | (go_at_call 10; refine (check_k _ true ha w0 _ (by assumption)).mono ?_; rintro e w' ⟨rfl, hk'⟩) | (go_at_call 12; refine (parent_k _ w0 _ (by assumption)).mono ?_; rintro e w' ⟨rfl, hk'⟩) | (go_at_call 14; refine (base_k _ w0 _ (by assumption)).mono ?_; rintro e w' ⟨rfl, hk'⟩))
    go_ret
    exact ⟨rfl, by assumption⟩
theorem over_any (a b c n : List UInt8) (hn : n.length ≤ 1000000000000000) (w0 w : World) (hT : Tab w0) (hk : Kept w0 w) :
    Calls Tryd.prog 7 #[.string (mkS a), .string (mkS b), .string (mkS c), .string (mkS n)] w fun e w' => e = .returned (.bool true) ∧ Kept w0 w' := by
  cases hab : underS a b with
  | false =>
    cases hac : underS a c with
    | false => exact over_1 a b c n hn w0 w hT hk hab hac
    | true =>
      cases hbc : underS b c with
      | false => exact over_2 a b c n hn w0 w hT hk hab hac hbc
      | true =>
        have hba : underS b a = true := by
          rcases under_chain hac hbc with h | h
          · rw [hab] at h; cases h
          · exact h
        exact over_3 a b c n hn w0 w hT hk hab hac hbc hba
  | true =>
    cases hba : underS b a with
    | true =>
      obtain rfl := under_anti hab hba
      cases hac : underS a c with
      | false => exact over_7 a c n hn w0 w hT hk hab hac
      | true => exact over_8 a c n hn w0 w hT hk hab hac
    | false =>
      cases hbc : underS b c with
      | true => exact over_6 a b c n hn w0 w hT hk hab hbc hba (under_trans hab hbc)
      | false =>
        cases hac : underS a c with
        | false => exact over_4 a b c n hn w0 w hT hk hab hbc hba hac
        | true => exact over_5 a b c n hn w0 w hT hk hab hbc hba hac
end Go.Proofs.YtjgknjlinmcapaaDoor
