/- Trees: the same node told twice; who is among some. -/
import Derived.Test.YtcdnfgibcochhaaGreatDoorTrWb
namespace Go.Proofs.YtcdnfgibcochhaaGreatDoor
set_option linter.unusedSimpArgs false
set_option linter.unusedVariables false
set_option linter.unusedSimpArgs false
set_option linter.unusedVariables false
open Go.RowKit Go.MapKept

theorem same_x {x y : Value} {la : List UInt8} {w : World} (hA : Bs w x la) (hB : Bs w y la) (hm : la.length ≤ 140737488355328) : Calls Tryz.prog 56 #[x, y] w fun e w' => e = .returned (.bool true) ∧ Below w.heap.size w w' := by
  refine (same_any hA hB hm).mono ?_
  rintro e w' ⟨rfl, q, rfl⟩
  exact ⟨by rw [decide_eq_true rfl], (Chg.drewN Non w q).below (fun _ h => h.elim) (Nat.le_refl _)⟩
set_option maxRecDepth 100000 in
theorem sameNode_told {w : World} (x : Al) (A : Option Addr) (C : Nat) (hA : Bs w (.slice A x.q.b.length C) x.q.b) (hB : Bs w (.slice x.A x.q.b.length x.C) x.q.b) (hm : x.q.b.length ≤ 1000000) :
    Calls Tryz.prog 31 #[.agg (alA ⟨x.q, A, C⟩), .agg (alA x)] w fun e w' => e = .returned (.bool true) ∧ Below w.heap.size w w' := by
  obtain ⟨⟨nm, b, ⟨cz, mz, pz, ct, mt, ver, cv, own, len, chd⟩⟩, A2, C2⟩ := x
  simp only at hA hB hm
  simp only [alA]
  have hs := same_x ((hA.alloc (.cells #[.string (mkS nm), .slice A b.length C, .int .i64 cz, .int .i64 mz, .int .i64 pz, .int .i64 ct, .int .i64 mt, .int .i64 ver, .int .i64 cv, .int .i64 own, .int .i64 len, .int .i64 chd] 47)).alloc (.cells #[.string (mkS nm), .slice A2 b.length C2, .int .i64 cz, .int .i64 mz, .int .i64 pz, .int .i64 ct, .int .i64 mt, .int .i64 ver, .int .i64 cv, .int .i64 own, .int .i64 len, .int .i64 chd] 47)) ((hB.alloc (.cells #[.string (mkS nm), .slice A b.length C, .int .i64 cz, .int .i64 mz, .int .i64 pz, .int .i64 ct, .int .i64 mt, .int .i64 ver, .int .i64 cv, .int .i64 own, .int .i64 len, .int .i64 chd] 47)).alloc (.cells #[.string (mkS nm), .slice A2 b.length C2, .int .i64 cz, .int .i64 mz, .int .i64 pz, .int .i64 ct, .int .i64 mt, .int .i64 ver, .int .i64 cv, .int .i64 own, .int .i64 len, .int .i64 chd] 47)) (by omega)
  have HB : Hid (Below w.heap.size w ((w.alloc (.cells #[.string (mkS nm), .slice A b.length C, .int .i64 cz, .int .i64 mz, .int .i64 pz, .int .i64 ct, .int .i64 mt, .int .i64 ver, .int .i64 cv, .int .i64 own, .int .i64 len, .int .i64 chd] 47)).alloc (.cells #[.string (mkS nm), .slice A2 b.length C2, .int .i64 cz, .int .i64 mz, .int .i64 pz, .int .i64 ct, .int .i64 mt, .int .i64 ver, .int .i64 cv, .int .i64 own, .int .i64 len, .int .i64 chd] 47))) := (lay1 _ _).trans ((lay1 _ _).mono (by simp))
  have heq : ((mkS nm).toList == (mkS nm).toList) = true := by simp
  go_enter Tryz.func31, Tryz.ntmps31
  go_wp2_with fail
  refine hs.mono ?_
  rintro e w2 ⟨rfl, hb2⟩
  have HB2 : Hid _ := HB.out.trans (hb2.mono HB.out.size)
  have h0 : Below w.heap.size w w2 := HB2.out
  have k1 : w2.heap[w.heap.size]? = some (.cells #[.string (mkS nm), .slice A b.length C, .int .i64 cz, .int .i64 mz, .int .i64 pz, .int .i64 ct, .int .i64 mt, .int .i64 ver, .int .i64 cv, .int .i64 own, .int .i64 len, .int .i64 chd] 47 (0, 0)) := by
    rw [hb2.block _ (by simp; omega), Below.heap_alloc _ _ _ (by simp)]
    exact heap_alloc_new w _
  have k2 : w2.heap[w.heap.size + 1]? = some (.cells #[.string (mkS nm), .slice A2 b.length C2, .int .i64 cz, .int .i64 mz, .int .i64 pz, .int .i64 ct, .int .i64 mt, .int .i64 ver, .int .i64 cv, .int .i64 own, .int .i64 len, .int .i64 chd] 47 (0, 0)) := by
    rw [hb2.block _ (by simp)]
    have := heap_alloc_new (w.alloc (.cells #[.string (mkS nm), .slice A b.length C, .int .i64 cz, .int .i64 mz, .int .i64 pz, .int .i64 ct, .int .i64 mt, .int .i64 ver, .int .i64 cv, .int .i64 own, .int .i64 len, .int .i64 chd] 47)) (.cells #[.string (mkS nm), .slice A2 b.length C2, .int .i64 cz, .int .i64 mz, .int .i64 pz, .int .i64 ct, .int .i64 mt, .int .i64 ver, .int .i64 cv, .int .i64 own, .int .i64 len, .int .i64 chd] 47)
    simpa using this
  have a2 := cell_at k1 2
  have a3 := cell_at k1 3
  have a4 := cell_at k1 4
  have a5 := cell_at k1 5
  have a6 := cell_at k1 6
  have a7 := cell_at k1 7
  have a8 := cell_at k1 8
  have a9 := cell_at k1 9
  have a10 := cell_at k1 10
  have a11 := cell_at k1 11
  have b2 := cell_at k2 2
  have b3 := cell_at k2 3
  have b4 := cell_at k2 4
  have b5 := cell_at k2 5
  have b6 := cell_at k2 6
  have b7 := cell_at k2 7
  have b8 := cell_at k2 8
  have b9 := cell_at k2 9
  have b10 := cell_at k2 10
  have b11 := cell_at k2 11
  simp at a2 a3 a4 a5 a6 a7 a8 a9 a10 a11 b2 b3 b4 b5 b6 b7 b8 b9 b10 b11
  clear hs hb2 k1 k2 hA hB h0
  go_wp2_with fail
  go_ret
  exact ⟨rfl, HB2.out⟩
/- Is a text among some? -/
set_option maxRecDepth 100000 in
set_option maxHeartbeats 4000000 in
theorem among_yes {w : World} {b0 : Nat} {A : Option Addr} {C : Nat} {ns : List (List UInt8)} (h : w.ownsRow b0 9 1 (.slice A ns.length C) ns.length (ns.map encStr)) (p : List UInt8) (hp : p ∈ ns) (hl : ns.length ≤ 1000000) :
    Calls Tryz.prog 32 #[.slice A ns.length C, .string (mkS p)] w fun e w' => e = .returned (.bool true) ∧ w' = w := by
  have HH : Hid (w.ownsRow b0 9 1 (.slice A ns.length C) ns.length (ns.map encStr)) := h
  have HP : Hid (p ∈ ns) := hp
  clear h hp
  go_enter Tryz.func32, Tryz.ntmps32
  go_wp2_with fail
  go_loopg [5] ns.length (fun g v5 wr => ∃ k : Nat, k ≤ ns.length ∧ g = ns.length - k ∧ v5 = .int .i64 (k : Int) ∧ (∀ i (hi : i < ns.length), i < k → ns[i]'hi ≠ p) ∧ wr = w)
  case atStart => exact ⟨0, Nat.zero_le _, rfl, rfl, fun i _ hi => absurd hi (Nat.not_lt_zero i), rfl⟩
  case round =>
    obtain ⟨k, hk, hg, rfl, hno, rfl⟩ := hrel
    have HG : Hid (gk = ns.length - k) := hg
    have HNO : Hid (∀ i (hi : i < ns.length), i < k → ns[i]'hi ≠ p) := hno
    clear hg hno
    by_cases hlt : k < ns.length
    case neg =>
      exfalso
      obtain ⟨i, hi, he⟩ := List.getElem_of_mem HP.out
      exact HNO.out i hi (by omega) he
    case pos =>
    obtain ⟨g, rfl, hgl, hcl⟩ := ttext_at HH.out k hlt
    have heq := mkS_eqb (ns[k]'hlt) p
    have i0 : ¬ (k : Int) < 0 := by omega
    have i1 : (k : Int) < (ns.length : Int) := by omega
    have i2 : (0 : Int) ≤ (k : Int) := by omega
    have i3 : (k : Int).toNat = k := by omega
    obtain ⟨x, hxx⟩ : ∃ x, x = ns[k]'hlt := ⟨_, rfl⟩
    rw [← hxx] at hcl heq
    have HXX : Hid (x = ns[k]'hlt) := hxx
    clear hxx hgl
    by_cases hx : x = p
    · rw [decide_eq_true hx] at heq
      clear hx
      go_wp2_with fail
      go_ret
      exact ⟨rfl, rfl⟩
    · rw [decide_eq_false hx] at heq
      have HX : Hid (x ≠ p) := hx
      clear hx
      go_wp2_with fail
      go_roundg (ns.length - (k + 1))
      case measure => have := HG.out; omega
      case rel =>
        refine ⟨k + 1, by omega, rfl, by go_num, fun i hi hik => ?_, rfl⟩
        rcases Nat.lt_or_ge i k with h | h
        · exact HNO.out i hi h
        · have : i = k := by omega
          subst this
          have h2 := HX.out
          rwa [HXX.out] at h2
/- The children of all are at most all but the root. -/
theorem two_filter {α : Type} (l : List α) (P Q : α → Bool) (h : ∀ x, P x = true → Q x = false) : (l.filter P).length + (l.filter Q).length = (l.filter fun x => P x || Q x).length := by
  induction l with
  | nil => rfl
  | cons x l ih =>
    have := h x
    cases hp : P x <;> cases hq : Q x <;> simp_all <;> omega
theorem kids_sum (names : List (List UInt8)) : ∀ ps : List (List UInt8), ps.Nodup → (ps.map (kids names)).sum = (names.filter fun c => decide (PA.parentS c ∈ ps)).length
  | [], _ => by
    rw [List.filter_eq_nil_iff.2 (by simp)]; rfl
  | p :: ps, hn => by
    obtain ⟨h1, h2⟩ := List.nodup_cons.1 hn
    rw [List.map_cons, List.sum_cons, kids_sum names ps h2]
    have hk : kids names p = (names.filter fun c => decide (PA.parentS c = p)).length := by
      unfold kids
      congr 1
      apply List.filter_congr
      intro c _
      exact kid_is p c
    rw [hk, two_filter]
    · congr 1
      apply List.filter_congr
      intro c _
      by_cases e : PA.parentS c = p
      · simp [e]
      · simp [e]
    · intro c hc
      simp only [decide_eq_true_eq] at hc
      simp only [decide_eq_false_iff_not]
      rw [hc]; exact h1
theorem kids_all {N : List Fi} (h : GoodT N) : ((sortP (N.map (·.nm))).map (kids (N.map (·.nm)))).sum + 1 ≤ N.length := by
  have hnd : (sortP (N.map (·.nm))).Nodup := (sortP_is _).nodup_iff.2 h.nm
  rw [kids_sum _ _ hnd]
  have : ((N.map (·.nm)).filter fun c => decide (PA.parentS c ∈ sortP (N.map (·.nm)))).length < (N.map (·.nm)).length := by
    rw [List.length_filter_lt_length_iff_exists]
    refine ⟨[47], h.root, ?_⟩
    have hp : PA.parentS [47] = [] := by decide
    simp only [decide_eq_true_eq, Bool.not_eq_true, decide_eq_false_iff_not, hp]
    intro e
    obtain ⟨q, hq, he⟩ := List.mem_map.1 ((sortP_is _).mem_iff.1 e)
    have := (h.all q hq).rt
    rw [he] at this
    exact absurd this (by decide)
  rw [List.length_map] at this
  omega
end Go.Proofs.YtcdnfgibcochhaaGreatDoor
