/- Trees: maps.Equal of the sittings of two trees that are not alike, though they have the same keys. -/
import Derived.Test.YtcdnfgibcochhaaGreatDoorTrEa
import Derived.Maps.RangeWalk
import Derived.Maps.OwnSet
namespace Go.Proofs.YtcdnfgibcochhaaGreatDoor.Si
set_option linter.unusedSimpArgs false
set_option linter.unusedVariables false
open Go.RowKit Go.MapKept
set_option linter.unusedVariables false
set_option linter.unusedSimpArgs false
theorem nodup_inj : ∀ {K : List Fv}, (K.map fun p => p.1.nm).Nodup → ∀ p ∈ K, ∀ p' ∈ K, p.1.nm = p'.1.nm → p = p'
  | [], _, p, hp, _, _, _ => (nomatch hp)
  | x :: K, h, p, hp, p', hp', he => by
    rw [List.map_cons, List.nodup_cons] at h
    rcases List.mem_cons.1 hp with rfl | h1 <;> rcases List.mem_cons.1 hp' with rfl | h2
    · rfl
    · exact absurd (List.mem_map.2 ⟨p', h2, he.symm⟩) h.1
    · exact absurd (List.mem_map.2 ⟨p, h1, he⟩) h.1
    · exact nodup_inj h.2 p h1 p' h2 he
set_option maxRecDepth 100000 in
set_option maxHeartbeats 4000000 in
theorem equal_no {w : World} {n n' : Nat} {K K' : List Fv} (h : MapIs w n K) (h' : MapIs w n' K') (hl : K.length = K'.length) (hs : ∀ p ∈ K, ∃ p', look p.1.nm K' = some p') (hb : ∃ p ∈ K, look p.1.nm K' ≠ some p) (hnd : (K.map fun p => p.1.nm).Nodup) : Calls Tryz.prog 36 #[.map (some n), .map (some n')] w fun e w' => e = .returned (.bool false) ∧ Below w.heap.size w w' := by
  have hn1 := fun ty => h.len ty
  have hn2 := fun ty => h'.len ty
  rw [← hl] at hn2
  go_enter Tryz.func36, Tryz.ntmps36
  go_wp2_with (first
    | (at_range; refine wpList_rng rfl _ rfl rfl h ?_; intro w2 hr2 hc2 hs2)
    | fail)
  go_frame
  have HR : Hid (Ranges w2 n w.heap.size K (K.map fun p => p.1.nm)) := hr2
  have HB2 : Hid (Below w.heap.size w w2) := hc2.below (fun _ e => e.elim) (Nat.le_refl _)
  have HS : Hid (∀ p ∈ K, ∃ p', look p.1.nm K' = some p') := hs
  have HND : Hid (∀ p ∈ K, ∀ p' ∈ K, p.1.nm = p'.1.nm → p = p') := nodup_inj hnd
  have HBAD : Hid (∃ p ∈ K, look p.1.nm K' ≠ some p) := hb
  have HM : Hid (MapIs w n' K') := h'
  clear hr2 hc2 hs2 h hn1 hn2 hs h' hl hb hnd
  go_loopw [5] (fun v wr => ∃ (left : List Int), Ranges wr n w.heap.size K left ∧ (∀ k ∈ left, ∃ p ∈ K, p.1.nm = k) ∧ (∀ p ∈ K, p.1.nm ∉ left → look p.1.nm K' = some p) ∧ Below w.heap.size w wr) (fun _ wr => wr.rangeLeft n w.heap.size)
  case atStart => exact ⟨_, HR.out, fun k hk => by obtain ⟨p, hp, rfl⟩ := List.mem_map.1 hk; exact ⟨p, hp, rfl⟩, fun p hp hn => absurd (List.mem_map.2 ⟨p, hp, rfl⟩) hn, HB2.out⟩
  case round =>
    obtain ⟨left, hrg, hmem, hvis, hB⟩ := hrel
    go_wp2_with (first
      | (at_next; refine wpList_nxt rfl _ rfl rfl hrg ?_ ?_)
      | fail)
    · intro hl0
      exfalso
      obtain ⟨p, hp, hb⟩ := HBAD.out
      exact hb (hvis p hp (by rw [hl0]; exact List.not_mem_nil))
    · intro l1 l2 q u w3 hl hlk hrg3 hc3 hs3 hen
      obtain ⟨p0, hp0, hpn⟩ := hmem q.nm (by rw [hl]; simp)
      have hq : (q, u) ∈ K := (look_some hlk).1
      have hB3 : Below w.heap.size w w3 := hB.trans (hc3.below (fun k e => by omega) hB.size)
      have HG3 : Hid (Ranges w3 n w.heap.size K (l1 ++ l2)) := hrg3
      have HG : Hid (Ranges wr n w.heap.size K left) := hrg
      have HL : Hid (left = l1 ++ q.nm :: l2) := hl
      have HMM : Hid (∀ k ∈ left, ∃ p ∈ K, p.1.nm = k) := hmem
      have HB3 : Hid (Below w.heap.size w w3) := hB3
      have hs3' : w.heap.size ≤ w3.heap.size := by rw [hs3]; exact hB.size
      obtain ⟨W, hW⟩ : ∃ W, W = w3.alloc (.cells #[.int .i64 q.nm, .int .i64 q.tmo, .int .i64 q.turn] 57) := ⟨_, rfl⟩
      have hBW : Below w.heap.size w W := by rw [hW]; exact hB3.alloc hs3' _
      have hlk2 := (HM.out.below hBW).lookup q.nm true
      obtain ⟨⟨q', u'⟩, hq'⟩ := HS.out _ hq
      rw [hq'] at hlk2
      simp only [if_true, valOf, Option.getD_some, Option.isSome_some] at hlk2
      have hval : valOf (q, u) = .agg #[.int .i64 q.nm, .int .i64 q.tmo, .int .i64 q.turn] := rfl
      rw [hval] at hen
      have HS3 : Hid _ := hs3
      have HQ' : Hid (look q.nm K' = some (q', u')) := hq'
      have HQ : Hid ((q, u) ∈ K) := hq
      have HV : Hid (∀ p ∈ K, p.1.nm ∉ left → look p.1.nm K' = some p) := hvis
      subst hW
      clear hrg3 hrg hl hmem hB3 hB hc3 hlk hval hq hp0 hpn hs3 hvis hq'
      by_cases hqq : q' = q
      · subst hqq
        go_wp2_with fail
        refine ⟨⟨l1 ++ l2, (HG3.out.alloc _).alloc _, fun k hk => HMM.out k ?_, fun p hp hn => ?_, (HB3.out.alloc hs3' _).alloc (by simp; omega) _⟩, ?_⟩
        · rw [HL.out]
          rcases List.mem_append.1 hk with h1 | h1
          · exact List.mem_append.2 (.inl h1)
          · exact List.mem_append.2 (.inr (List.mem_cons_of_mem _ h1))
        · by_cases he : p.1.nm = q'.nm
          · have := HND.out p hp _ HQ.out he
            rw [this]
            exact HQ'.out
          · refine HV.out p hp ?_
            rw [HL.out]
            intro h
            rcases List.mem_append.1 h with h | h
            · exact hn (List.mem_append.2 (.inl h))
            · rcases List.mem_cons.1 h with h | h
              · exact he h
              · exact hn (List.mem_append.2 (.inr h))
        · rw [((HG3.out.alloc _).alloc _).left_eq, HG.out.left_eq, HL.out]; simp
      · have hne : ¬ (q.nm = q'.nm ∧ q.tmo = q'.tmo ∧ q.turn = q'.turn) := fun h => hqq (by
          obtain ⟨a, b, c⟩ := q; obtain ⟨a', b', c'⟩ := q'; simp at h; simp [h])
        go_wp2_with fail
        all_goals
          go_ret
          exact ⟨rfl, (HB3.out.alloc hs3' _).alloc (by simp; omega) _⟩
end Go.Proofs.YtcdnfgibcochhaaGreatDoor.Si
