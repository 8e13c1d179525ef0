/- Trees: a place picked; a row of numbers; parts of a row of deeds; rows of rows of nodes. Trees: All and Sittings by what a tree has. -/
import Derived.Test.YtcdnfgibcochhaaGreatDoorTrSa
import Derived.Test.YtcdnfgibcochhaaGreatDoorTrNa
import Derived.Test.YtcdnfgibcochhaaGreatDoorTrAk
namespace Go.Proofs.YtcdnfgibcochhaaGreatDoor
set_option linter.unusedSimpArgs false
set_option linter.unusedVariables false
set_option linter.unusedSimpArgs false
set_option linter.unusedVariables false
open Go.RowKit Go.MapKept

set_option maxRecDepth 100000 in
theorem pick_any (x n : Int) (_hx : -9223372036854775808 ≤ x ∧ x < 9223372036854775808) (hn : n < 9223372036854775808) (h1 : 1 ≤ n) (w : World) : Calls Tryz.prog 25 #[.int .i64 x, .int .i64 n] w fun e w' => e = .returned (.int .i64 (x % n)) ∧ w' = w := by
  have hm : Int.tmod x n = if Int.tmod x n < 0 then x % n - n else x % n := by
    rw [Int.tmod_eq_emod]
    have := Int.emod_nonneg x (show n ≠ 0 by omega)
    have := Int.emod_lt_of_pos x (show 0 < n by omega)
    by_cases hx0 : 0 ≤ x ∨ n ∣ x
    · simp only [hx0, if_true]
      split <;> omega
    · simp only [hx0, if_false]
      have : (n.natAbs : Int) = n := by omega
      split <;> omega
  have hlo := Int.emod_nonneg x (show n ≠ 0 by omega)
  have hhi := Int.emod_lt_of_pos x (show 0 < n by omega)
  go_enter Tryz.func25, Tryz.ntmps25
  by_cases h : Int.tmod x n < 0
  · rw [if_pos h] at hm
    go_wp2
    go_ret
    exact ⟨by simp, rfl⟩
  · rw [if_neg h] at hm
    go_wp2
    go_ret
    exact ⟨by simp, rfl⟩
/- A number picked below n. -/
theorem pick_nat (x : Int) (n : Nat) (hx : I64 x) (hn : (n : Int) < 9223372036854775808) (h1 : 1 ≤ n) (w : World) : ∃ k : Nat, k < n ∧ Calls Tryz.prog 25 #[.int .i64 x, .int .i64 n] w fun e w' => e = .returned (.int .i64 (k : Int)) ∧ w' = w := by
  have hlo := Int.emod_nonneg x (show (n : Int) ≠ 0 by omega)
  have hhi := Int.emod_lt_of_pos x (show (0 : Int) < (n : Int) by omega)
  refine ⟨(x % (n : Int)).toNat, by omega, ?_⟩
  rw [show (((x % (n : Int)).toNat : Nat) : Int) = x % (n : Int) by omega]
  exact pick_any x n hx hn (by omega) w
structure NRow (w : World) (A : Option Addr) (xs : List Int) : Prop where
  fit : ∀ x ∈ xs, I64 x
  at_ : ∀ j (h : j < xs.length), ∃ b o, A = some ⟨b, o, none⟩ ∧ w.cell? ⟨b, o + j, none⟩ = some (.int .i64 (xs[j]'h))
theorem NRow.below {w w' : World} {A : Option Addr} {xs : List Int} (h : NRow w A xs) (hB : Below w.heap.size w w') : NRow w' A xs := by
  refine ⟨h.fit, fun j hj => ?_⟩
  obtain ⟨b, o, h1, h2⟩ := h.at_ j hj
  exact ⟨b, o, h1, by rw [hB.cell (p := ⟨b, o + j, none⟩) (World.block_lt_of_cell? w _ h2)]; exact h2⟩
theorem sliceD_run {A : Option Addr} {n C J : Nat} (h : J ≤ C) (w : World) : (Instr.sliceAt 29 (.slice A n C) none (some (.int .i64 (J : Int))) none).run Tryz.prog w = .ok (.slice A J C) w := by
  have hu := Tryz.underlying29
  have hs : ∀ w, (sizeOf 31).run Tryz.prog w = .ok 16 w := fun _ => by kernel_rfl
  cases A <;> simp [Instr.sliceAt, Instr.slice, Instr.sliceBounds, Instr.sliceBound, asIntOf, run_underlying hu, hs, Result.andThen, h, Addr.add]
theorem infoRow : (Tryz.prog.info? 58).map (fun i => (i.zero, i.size, i.bytes)) = some (some (.slice none 0 0), 1, 24) := by kernel_rfl
/- One of the states, as it lies in memory. -/
structure St1 (w : World) (base : Nat) (s : Sl) (N : List Fi) : Prop where
  own : w.ownsRow base 47 12 (slV s) s.Q.length (s.Q.flatMap alV)
  bs : ∀ x ∈ s.Q, w.ownsRow base 5 1 (.slice x.A x.q.b.length x.C) x.q.b.length (bv x.q.b)
  is : s.Q.map (·.q) = allF N
theorem St1.below {w w' : World} {base : Nat} {s : Sl} {N : List Fi} (h : St1 w base s N) (hB : Below w.heap.size w w') : St1 w' base s N :=
  ⟨towns_keep h.own (Chg.of_below hB) (fun _ _ => id), fun x hx => towns_keep (h.bs x hx) (Chg.of_below hB) (fun _ _ => id), h.is⟩
/- What is put behind a row of rows is no state. -/
theorem St1.keep {w w' : World} {base : Nat} {s : Sl} {N : List Fi} {v : Value} {n b2 : Nat} {xs : List Value} (h : St1 w base s N) (hv : w.ownsRow b2 58 1 v n xs) (hc : Chg (fun k => v.ownBlock = some k) w w') : St1 w' base s N := by
  refine ⟨towns_keep h.own hc (fun k hk e => ?_), fun x hx => towns_keep (h.bs x hx) hc (fun k hk e => ?_), h.is⟩
  · obtain ⟨cu, hcu, _⟩ := nblock hv e
    obtain ⟨cu', hcu', _⟩ := nblock h.own hk
    rw [hcu] at hcu'; simp at hcu'
  · obtain ⟨cu, hcu, _⟩ := nblock hv e
    obtain ⟨cu', hcu', _⟩ := nblock (h.bs x hx) hk
    rw [hcu] at hcu'; simp at hcu'
theorem St1.row {w : World} {base : Nat} {s : Sl} {N : List Fi} (h : St1 w base s N) : RowN w s.A s.Q s.C := row_of_owns h.own
theorem St1.low {w : World} {base b' : Nat} {s : Sl} {N : List Fi} (h : St1 w base s N) (hb : b' ≤ base) : St1 w b' s N := ⟨nbase h.own hb, fun x hx => nbase (h.bs x hx) hb, h.is⟩
theorem srow_of {w : World} {base : Nat} {A : Option Addr} {St : List Sl} {C : Nat} (h : w.ownsRow base 58 1 (.slice A St.length C) St.length (St.map slV)) (hr : ∀ s ∈ St, RowN w s.A s.Q s.C) : SRow w A St C := by
  refine ⟨?_, hr⟩
  rcases h.2 with ⟨hv, h0⟩ | ⟨g, cap, cur, hv, hb, hg, h1, h2, h3, h4⟩
  · exact .inl (List.length_eq_zero_iff.1 h0)
  · cases hv
    refine .inr ⟨g, 0, rfl, theap_lt hg, h1, fun i hi => ?_⟩
    have : (St.map slV)[i]? = some (slV (St[i]'hi)) := by rw [List.getElem?_map, List.getElem?_eq_getElem hi]; rfl
    rw [Nat.zero_add, cell_at hg, ← this, ← h4, List.getElem?_take_of_lt (by simpa using hi), Array.getElem?_toList]
theorem slV_one (l : List Sl) : ∀ u ∈ l.map slV, u.oneCell' = true := by
  intro u hu
  obtain ⟨y, _, rfl⟩ := List.mem_map.1 hu
  rfl
/- How many nodes deeds make. -/
theorem put_len (p : Fi) : ∀ N : List Fi, (putF p N).length ≤ N.length + 1
  | [] => by simp [putF]
  | q :: N => by
    unfold putF
    have := put_len p N
    split <;> simp <;> omega
theorem par_len (f : Fl) (N : List Fi) : (parN f N).length ≤ N.length := by
  unfold parN
  cases hq : lookF (PA.parentS f.path) N with
  | none => exact Nat.le_refl _
  | some q =>
    have : ∀ (M : List Fi) (p : Fi), p.nm ∈ M.map (·.nm) → (putF p M).length = M.length := by
      intro M p
      induction M with
      | nil => intro h; simp at h
      | cons x M ih =>
        intro h
        unfold putF
        split
        · rfl
        · next hx =>
          rw [List.length_cons, List.length_cons, ih]
          rw [List.map_cons] at h
          rcases List.mem_cons.1 h with h | h
          · exact absurd h.symm hx
          · exact h
    simp only
    rw [this]
    · exact Nat.le_refl _
    · exact List.mem_map.2 ⟨q, (look_nm hq).2, rfl⟩
theorem set_len (f : Fl) (N : List Fi) : (setN f N).length ≤ N.length + 1 := by
  unfold setN
  cases lookF f.path N with
  | none => simp
  | some q => exact put_len _ _
theorem do_len (f : Fl) (N : List Fi) : (doN f N).length ≤ N.length + 1 := by
  unfold doN
  split
  · exact Nat.le_trans (par_len f _) (put_len _ _)
  · split
    · exact Nat.le_trans (par_len f _) (Nat.le_trans ((sub_del _ N).length_le) (Nat.le_succ _))
    · split
      · exact set_len f N
      · omega
theorem doPs_len (f : Fl) : ∀ (ps : List Fl) (N : List Fi), (doPs f ps N).length ≤ N.length + ps.length
  | [], N => Nat.le_refl _
  | p :: ps, N => by
    have h1 := doPs_len f ps (doN (ptF f p) N)
    have h2 := do_len (ptF f p) N
    show (doPs f ps (doN (ptF f p) N)).length ≤ _
    rw [List.length_cons]
    omega
theorem ap_len (f : Fl) (ps : List Fl) (N : List Fi) (h : ps.length ≤ 60) : (apN f ps N).length ≤ N.length + 61 := by
  unfold apN
  cases hr : rightD f ps with
  | false => simp
  | true =>
    simp only [if_true]
    unfold deN
    split
    · have := doPs_len f ps N
      omega
    · have := do_len f N
      omega
theorem run_len : ∀ (P : List (Fl × List Fl)) (N : List Fi), (∀ p ∈ P, p.2.length ≤ 60) → (runN P N).length ≤ N.length + P.length * 61
  | [], N, _ => by simp [runN]
  | p :: P, N, h => by
    have h1 := run_len P (apN p.1 p.2 N) (fun q hq => h q (.tail _ hq))
    have h2 := ap_len p.1 p.2 N (h p (.head _))
    show (runN P (apN p.1 p.2 N)).length ≤ _
    rw [List.length_cons, Nat.add_mul]
    omega
theorem do_slen (f : Fl) (S : List Si.Fi) : (doS f S).length ≤ S.length + 1 := by
  have hp : ∀ (p : Si.Fi) (N : List Si.Fi), (Si.putF p N).length ≤ N.length + 1 := by
    intro p N
    induction N with
    | nil => simp [Si.putF]
    | cons q N ih =>
      unfold Si.putF
      split <;> simp <;> omega
  unfold doS
  split
  · exact hp _ _
  · split
    · exact Nat.le_trans ((Si.sub_del _ S).length_le) (Nat.le_succ _)
    · omega
theorem turn_slen (s k : Int) (S : List Si.Fi) : (turnS s k S).length ≤ S.length + 1 := by
  have hp : ∀ (p : Si.Fi) (N : List Si.Fi), (Si.putF p N).length ≤ N.length + 1 := by
    intro p N
    induction N with
    | nil => simp [Si.putF]
    | cons q N ih =>
      unfold Si.putF
      split <;> simp <;> omega
  unfold turnS
  cases Si.lookF s S with
  | none => simp
  | some q => exact hp _ _
theorem run_slen : ∀ (P : List (Fl × List Fl)) (S : List Si.Fi), (runS P S).length ≤ S.length + P.length * 2
  | [], S => by simp [runS]
  | p :: P, S => by
    have h1 := run_slen P (apS p.1 p.2 S)
    have h2 : (apS p.1 p.2 S).length ≤ S.length + 2 := by
      unfold apS
      split
      · have a := turn_slen p.1.session p.1.turn (doS p.1 S)
        have b := do_slen p.1 S
        omega
      · omega
    show (runS P (apS p.1 p.2 S)).length ≤ _
    rw [List.length_cons, Nat.add_mul]
    omega
theorem all_len (N : List Fi) : (allF N).length = N.length := by unfold allF; rw [List.length_map, sortP_len, List.length_map]
end Go.Proofs.YtcdnfgibcochhaaGreatDoor

namespace Go.Proofs.YtcdnfgibcochhaaGreatDoor
set_option linter.unusedSimpArgs false
set_option linter.unusedVariables false
set_option linter.unusedSimpArgs false
set_option linter.unusedVariables false
open Go.RowKit Go.MapKept

theorem Tr.all {w : World} {t m n : Nat} {N : List Fi} {S : List Si.Fi} (h : Tr w t m n N S) (hL : PA.Laid w) (hG : GoodT N) (hlen : N.length ≤ 1000000) :
    Calls Tryz.prog 23 #[.pointer (some ⟨t, 0, none⟩)] w fun e w' => ∃ s : Sl, e = .returned (slV s) ∧ St1 w' w.heap.size s N ∧ Below w.heap.size w w' := by
  obtain ⟨L, K, hT, rfl, rfl⟩ := h
  refine (all_any hT hL (by simpa using hlen) (fun p hp => ?_)).mono ?_
  · have := (hG.all p.1 (List.mem_map.2 ⟨p, hp, rfl⟩)).rt
    have := PA.right_len this
    omega
  · rintro e w' ⟨Q, A, C, rfl, hq, ho, hb, hB⟩
    exact ⟨⟨Q, A, C⟩, rfl, ⟨ho, hb, hq⟩, hB⟩
theorem flat_sit : ∀ (l : List Si.Fi) (i : Nat) (h : i < l.length) (j : Nat), j < 3 → (l.flatMap sitV)[i * 3 + j]? = (sitV (l[i]'h))[j]?
  | x :: l, 0, h, j, hj => by
    rw [List.flatMap_cons, List.getElem?_append_left (by simp [sitV]; omega)]
    simp
  | x :: l, i + 1, h, j, hj => by
    rw [List.flatMap_cons, List.getElem?_append_right (by simp [sitV]; omega), show (i + 1) * 3 + j - (sitV x).length = i * 3 + j by simp [sitV]; omega]
    exact flat_sit l i (by simpa using h) j hj
theorem rowS_of {w : World} {base : Nat} {T : TypeId} {A : Option Addr} {l : List Si.Fi} {C : Nat} (h : w.ownsRow base T 3 (.slice A l.length C) l.length (l.flatMap sitV)) : RowS w A l C := by
  rcases h.2 with ⟨hv, h0⟩ | ⟨g, cap, cur, hv, hb, hg, h1, h2, h3, h4⟩
  · exact .inl (List.length_eq_zero_iff.1 h0)
  · cases hv
    refine .inr ⟨g, 0, rfl, theap_lt hg, h1, fun i hi j hj => ?_⟩
    rw [Nat.zero_add, cell_at hg, ← flat_sit l i hi j hj, ← h4, List.getElem?_take_of_lt, Array.getElem?_toList]
    have : (i + 1) * 3 ≤ l.length * 3 := Nat.mul_le_mul_right 3 hi
    omega
theorem encS_is (K : List Si.Fv) (k : Int) : Si.encS K k = sitV ((Si.lookF k (K.map Prod.fst)).getD ⟨k, 0, 0⟩) := by
  unfold Si.encS
  rw [← Si.look_F]
  cases h : Si.look k K with
  | none => rfl
  | some q =>
    have hq : q.1.nm = k := by
      have h1 : Si.lookF k (K.map Prod.fst) = some q.1 := by rw [← Si.look_F, h]; rfl
      exact (Si.look_nm h1).1
    show [Value.int .i64 k, .int .i64 q.1.tmo, .int .i64 q.1.turn] = sitV q.1
    unfold sitV
    rw [hq]
theorem Tr.sits {w : World} {t m n : Nat} {N : List Fi} {S : List Si.Fi} (h : Tr w t m n N S) (hlen : S.length ≤ 1000000) :
    Calls Tryz.prog 18 #[.pointer (some ⟨t, 0, none⟩)] w fun e w' => ∃ A C, e = .returned (.slice A (Si.sitsF S).length C) ∧ w'.ownsRow w.heap.size 57 3 (.slice A (Si.sitsF S).length C) (Si.sitsF S).length ((Si.sitsF S).flatMap sitV) ∧ Below w.heap.size w w' := by
  obtain ⟨L, K, hT, rfl, rfl⟩ := h
  have hl : (Si.sitsF (K.map Prod.fst)).length = K.length := by
    unfold Si.sitsF Si.sortS
    rw [List.length_map, List.length_mergeSort, List.length_map, List.length_map]
  have hf : ((Si.sitsF (K.map Prod.fst)).flatMap sitV) = (Si.sortS (K.map fun p => p.1.nm)).flatMap (Si.encS K) := by
    have e : (K.map Prod.fst).map (·.nm) = K.map fun p => p.1.nm := by rw [List.map_map]; rfl
    unfold Si.sitsF
    rw [e, List.flatMap_map]
    congr 1
    funext k
    exact (encS_is K k).symm
  rw [hl, hf]
  refine (Si.sittings_any hT (by simpa using hlen)).mono ?_
  rintro e w' ⟨A, C, rfl, ho, hB⟩
  exact ⟨A, C, rfl, ho, hB⟩
theorem Tr.below_t {w w' : World} {t m n : Nat} {N : List Fi} {S : List Si.Fi} (h : Tr w t m n N S) (hB : Below w.heap.size w w') : Tr w' t m n N S := h.below hB
/- A tree is not touched by what is done to another one's own block. -/
theorem Tr.apart {w w' : World} {t m n t' m' n' : Nat} {N N' : List Fi} {S S' : List Si.Fi} (h : Tr w t m n N S) (h' : Tr w t' m' n' N' S') (hd : ∀ k, Wt t m n k → ¬ Wt t' m' n' k) (hc : Chg (fun k => k = t') w w') : Tr w' t m n N S := by
  obtain ⟨L, K, hT, h1, h2⟩ := h
  obtain ⟨L', K', hT', _, _⟩ := h'
  exact ⟨L, K, hT.keep hc (fun k hk e => hd k hk (.inl e)) (fun p hp k hk e => hT.bs_ne hT' hp hk (.inl e)), h1, h2⟩
end Go.Proofs.YtcdnfgibcochhaaGreatDoor
