/- Trees: maps.Equal of the sittings of two trees that are alike. -/
import Derived.Test.YteaomigmamnobaaGreatDoorTrN
import Derived.Test.YteaomigmamnobaaGreatDoorTrB
import Derived.Maps.RangeWalk
import Derived.Maps.OwnSet
namespace Go.Proofs.YteaomigmamnobaaGreatDoor.Si
set_option linter.unusedSimpArgs false
set_option linter.unusedVariables false
open Go.RowKit Go.MapKept
set_option linter.unusedVariables false
set_option linter.unusedSimpArgs false
theorem MapIs.len {w : World} {m : Nat} {L : List Fv} (h : MapIs w m L) (ty : TypeId) : (Builtin.len_ #[36] ty #[.map (some m)]).run Tryz.prog w = .ok (.int .i64 L.length) w := by
  obtain ⟨es, clock, hb, he, hs⟩ := h
  have e1 : es.size = L.length := by
    have := congrArg List.length he
    simpa using this
  simp [Builtin.len_, run_underlying undM, Go.MapKept.run_getObj_map hb, Result.andThen, goInt, e1]
theorem MapIs.below {w w' : World} {m : Nat} {L : List Fv} (h : MapIs w m L) (hb : Below w.heap.size w w') : MapIs w' m L := by
  have hlt := h.lt
  obtain ⟨es, clock, h1, h2, h3⟩ := h
  exact ⟨es, clock, (hb.block m hlt).trans h1, h2, h3⟩
set_option maxRecDepth 100000 in
set_option maxHeartbeats 4000000 in
theorem equal_yes {w : World} {n n' : Nat} {K K' : List Fv} (h : MapIs w n K) (h' : MapIs w n' K') (hl : K.length = K'.length) (hs : ∀ p ∈ K, look p.1.nm K' = some p) : Calls Tryz.prog 36 #[.map (some n), .map (some n')] w fun e w' => e = .returned (.bool true) ∧ Below w.heap.size w w' := by
  have hn1 := fun ty => h.len ty
  have hn2 := fun ty => h'.len ty
  rw [← hl] at hn2
  go_enter Tryz.func36, Tryz.ntmps36
  go_wp2_with (first
    | (at_range; refine wpList_rng rfl _ rfl rfl h ?_; intro w2 hr2 hc2 hs2)
    | fail)
  go_frame
  have HR : Hid (Ranges w2 n w.heap.size K (K.map fun p => p.1.nm)) := hr2
  have HB2 : Hid (Below w.heap.size w w2) := hc2.below (fun _ e => e.elim) (Nat.le_refl _)
  have HS : Hid (∀ p ∈ K, look p.1.nm K' = some p) := hs
  have HM : Hid (MapIs w n' K') := h'
  clear hr2 hc2 hs2 h hn1 hn2 hs h' hl
  go_loopw [5] (fun v wr => ∃ (left : List Int), Ranges wr n w.heap.size K left ∧ (∀ k ∈ left, ∃ p ∈ K, p.1.nm = k) ∧ Below w.heap.size w wr) (fun _ wr => wr.rangeLeft n w.heap.size)
  case atStart => exact ⟨_, HR.out, fun k hk => by obtain ⟨p, hp, rfl⟩ := List.mem_map.1 hk; exact ⟨p, hp, rfl⟩, HB2.out⟩
  case round =>
    obtain ⟨left, hrg, hmem, hB⟩ := hrel
    go_wp2_with (first
      | (at_next; refine wpList_nxt rfl _ rfl rfl hrg ?_ ?_)
      | fail)
    · intro hl0
      have HB : Hid (Below w.heap.size w wr) := hB
      clear hrg hmem hB hl0
      go_wp2_with fail
      go_ret
      exact ⟨rfl, HB.out⟩
    · intro l1 l2 q u w3 hl hlk hrg3 hc3 hs3 hen
      obtain ⟨p0, hp0, hpn⟩ := hmem q.nm (by rw [hl]; simp)
      have hq : (q, u) ∈ K := (look_some hlk).1
      have hB3 : Below w.heap.size w w3 := hB.trans (hc3.below (fun k e => by omega) hB.size)
      have HG3 : Hid (Ranges w3 n w.heap.size K (l1 ++ l2)) := hrg3
      have HG : Hid (Ranges wr n w.heap.size K left) := hrg
      have HL : Hid (left = l1 ++ q.nm :: l2) := hl
      have HMM : Hid (∀ k ∈ left, ∃ p ∈ K, p.1.nm = k) := hmem
      have HB3 : Hid (Below w.heap.size w w3) := hB3
      have hs3' : w.heap.size ≤ w3.heap.size := by rw [hs3]; exact hB.size
      obtain ⟨W, hW⟩ : ∃ W, W = w3.alloc (.cells #[.int .i64 q.nm, .int .i64 q.tmo, .int .i64 q.turn] 57) := ⟨_, rfl⟩
      have hBW : Below w.heap.size w W := by rw [hW]; exact hB3.alloc hs3' _
      have hlk2 := (HM.out.below hBW).lookup q.nm true
      rw [HS.out _ hq] at hlk2
      simp only [if_true, valOf, Option.getD_some, Option.isSome_some] at hlk2
      have hval : valOf (q, u) = .agg #[.int .i64 q.nm, .int .i64 q.tmo, .int .i64 q.turn] := rfl
      rw [hval] at hen
      have HS3 : Hid _ := hs3
      subst hW
      clear hrg3 hrg hl hmem hB3 hB hc3 hlk hval hq hp0 hpn hs3
      go_wp2_with fail
      refine ⟨⟨l1 ++ l2, (HG3.out.alloc _).alloc _, fun k hk => HMM.out k ?_, (HB3.out.alloc hs3' _).alloc (by simp; omega) _⟩, ?_⟩
      · rw [HL.out]
        rcases List.mem_append.1 hk with h1 | h1
        · exact List.mem_append.2 (.inl h1)
        · exact List.mem_append.2 (.inr (List.mem_cons_of_mem _ h1))
      · rw [((HG3.out.alloc _).alloc _).left_eq, HG.out.left_eq, HL.out]; simp
end Go.Proofs.YteaomigmamnobaaGreatDoor.Si
