/- Trees: maps.EqualFunc of the nodes of two trees that are alike. -/
import Derived.Test.YteaomigmamnobaaGreatDoorTrSn
namespace Go.Proofs.YteaomigmamnobaaGreatDoor
set_option linter.unusedSimpArgs false
set_option linter.unusedVariables false
open Go.RowKit Go.MapKept
set_option linter.unusedVariables false
set_option linter.unusedSimpArgs false
theorem MapIs.len {w : World} {m : Nat} {L : List Fv} (h : MapIs w m L) (ty : TypeId) : (Builtin.len_ #[35] ty #[.map (some m)]).run Tryz.prog w = .ok (.int .i64 L.length) w := by
  obtain ⟨es, clock, hb, he, hs⟩ := h
  have e1 : es.size = L.length := by
    have := congrArg List.length he
    simpa using this
  simp [Builtin.len_, run_underlying undM, Go.MapKept.run_getObj_map hb, Result.andThen, goInt, e1]
theorem MapIs.belowE {w w' : World} {m : Nat} {L : List Fv} (h : MapIs w m L) (hb : Below w.heap.size w w') : MapIs w' m L := by
  have hlt := h.lt
  obtain ⟨es, clock, h1, h2, h3⟩ := h
  exact ⟨es, clock, (hb.block m hlt).trans h1, h2, h3⟩
set_option maxRecDepth 100000 in
set_option maxHeartbeats 4000000 in
theorem equalFunc_yes {w : World} {n n' : Nat} {K K' : List Fv} (h : MapIs w n K) (h' : MapIs w n' K') (hl : K.length = K'.length) (hs : ∀ p ∈ K, ∃ y, look p.1.nm K' = some (p.1, y)) (hb1 : ∀ p ∈ K, Bs w p.2 p.1.b) (hb2 : ∀ p ∈ K', Bs w p.2 p.1.b) : Calls Tryz.prog 34 #[.map (some n), .map (some n'), .func (.func 35) #[] #[]] w fun e w' => e = .returned (.bool true) ∧ Below w.heap.size w w' := by
  have hn1 := fun ty => h.len ty
  have hn2 := fun ty => h'.len ty
  rw [← hl] at hn2
  go_enter Tryz.func34, Tryz.ntmps34
  go_wp2_with (first
    | (at_range; refine wpList_rng rfl _ rfl rfl h ?_; intro w2 hr2 hc2 hs2)
    | fail)
  go_frame
  have HR : Hid (Ranges w2 n w.heap.size K (K.map fun p => p.1.nm)) := hr2
  have HB2 : Hid (Below w.heap.size w w2) := hc2.below (fun _ e => e.elim) (Nat.le_refl _)
  have HS : Hid (∀ p ∈ K, ∃ y, look p.1.nm K' = some (p.1, y)) := hs
  have HBA : Hid (∀ p ∈ K, Bs w p.2 p.1.b) := hb1
  have HBB : Hid (∀ p ∈ K', Bs w p.2 p.1.b) := hb2
  have HSL : Hid (∀ p ∈ K, ∃ A C, p.2 = .slice A p.1.b.length C) := fun p hp => bs_form (hb1 p hp)
  have HM : Hid (MapIs w n' K') := h'
  clear hr2 hc2 hs2 h hn1 hn2 hs h' hl hb1 hb2
  go_loopw [7] (fun v wr => ∃ (left : List (List UInt8)), Ranges wr n w.heap.size K left ∧ (∀ k ∈ left, ∃ p ∈ K, p.1.nm = k) ∧ Below w.heap.size w wr) (fun _ wr => wr.rangeLeft n w.heap.size)
  case atStart => exact ⟨_, HR.out, fun k hk => by obtain ⟨p, hp, rfl⟩ := List.mem_map.1 hk; exact ⟨p, hp, rfl⟩, HB2.out⟩
  case round =>
    obtain ⟨left, hrg, hmem, hB⟩ := hrel
    go_wp2_with (first
      | (at_next; refine wpList_nxt rfl _ rfl rfl hrg HSL.out ?_ ?_)
      | fail)
    · intro hl0
      have HB : Hid (Below w.heap.size w wr) := hB
      clear hrg hmem hB hl0
      go_wp2_with fail
      go_ret
      exact ⟨rfl, HB.out⟩
    · intro l1 l2 q A C w3 hl hlk hrg3 hc3 hs3 hen
      have hq : (q, Value.slice A q.b.length C) ∈ K := (look_some hlk).1
      obtain ⟨y, hy⟩ : ∃ y, look q.nm K' = some (q, y) := HS.out _ hq
      have hqy : (q, y) ∈ K' := (look_some hy).1
      obtain ⟨A2, C2, hyv⟩ : ∃ A2 C2, y = .slice A2 q.b.length C2 := bs_form (HBB.out _ hqy)
      have hB3 : Below w.heap.size w w3 := hB.trans (hc3.below (fun k e => by omega) hB.size)
      have HG3 : Hid (Ranges w3 n w.heap.size K (l1 ++ l2)) := hrg3
      have HG : Hid (Ranges wr n w.heap.size K left) := hrg
      have HL : Hid (left = l1 ++ q.nm :: l2) := hl
      have HMM : Hid (∀ k ∈ left, ∃ p ∈ K, p.1.nm = k) := hmem
      have HB3 : Hid (Below w.heap.size w w3) := hB3
      have hs3' : w.heap.size ≤ w3.heap.size := by rw [hs3]; exact hB.size
      have HB1 : Hid (Below w.heap.size w (w3.alloc (.cells (nodeA q A C) 77))) := hB3.alloc hs3' _
      have HB2' : Hid (Below w.heap.size w ((w3.alloc (.cells (nodeA q A C) 77)).alloc (.cells (nodeA q A2 C2) 77))) := HB1.out.alloc (by simp; omega) _
      have hlk2 := (HM.out.belowE HB1.out).lookup q.nm true
      rw [hy] at hlk2
      subst hyv
      simp only [if_true, valOf, Option.getD_some, Option.isSome_some, stV] at hlk2
      have hval : valOf (q, .slice A q.b.length C) = .agg (nodeA q A C) := rfl
      rw [hval] at hen ⊢
      have hsm := sameNode_yes (s := q.st) ((HBA.out _ hq).keep (Chg.of_below HB2'.out) (fun _ _ => id)) ((HBB.out _ hqy).keep (Chg.of_below HB2'.out) (fun _ _ => id))
      simp only [stV] at hsm
      have HS3 : Hid _ := hs3
      clear hrg3 hrg hl hmem hB3 hB hc3 hlk hval hq hqy hy hs3
      go_wp2_with fail
      refine hsm.mono ?_
      clear hsm hen hlk2
      rintro e w5 ⟨rfl, hB5⟩
      have hc5 := Chg.of_below hB5
      have HR5 : Hid (Ranges w5 n w.heap.size K (l1 ++ l2)) := ((HG3.out.alloc _).alloc _).keep hc5 id id
      have HBE : Hid (Below w.heap.size w w5) := HB2'.out.trans (hB5.mono HB2'.out.size)
      clear hB5 hc5
      go_wp2_with fail
      refine ⟨⟨l1 ++ l2, HR5.out, fun k hk => HMM.out k ?_, HBE.out⟩, ?_⟩
      · rw [HL.out]
        rcases List.mem_append.1 hk with h1 | h1
        · exact List.mem_append.2 (.inl h1)
        · exact List.mem_append.2 (.inr (List.mem_cons_of_mem _ h1))
      · rw [HR5.out.left_eq, HG.out.left_eq, HL.out]; simp
end Go.Proofs.YteaomigmamnobaaGreatDoor
