/- Trees: maps.Equal of the sittings of two trees that are alike. Trees: sameNode of nodes that are alike. Trees: maps.EqualFunc of the nodes of two trees that are alike. Trees: Same, where one of the two is none. Trees: Same of two trees that are alike. -/
import Derived.Test.YtcdnfgibcochhaaGreatDoorTrN
import Derived.Test.YtcdnfgibcochhaaGreatDoorTrB
import Derived.Maps.RangeWalk
import Derived.Maps.OwnSet
import Derived.Test.YtcdnfgibcochhaaGreatDoorTrMb
import Derived.Test.YtcdnfgibcochhaaGreatDoorTrC
namespace Go.Proofs.YtcdnfgibcochhaaGreatDoor.Si
set_option linter.unusedSimpArgs false
set_option linter.unusedVariables false
open Go.RowKit Go.MapKept
set_option linter.unusedVariables false
set_option linter.unusedSimpArgs false
theorem MapIs.len {w : World} {m : Nat} {L : List Fv} (h : MapIs w m L) (ty : TypeId) : (Builtin.len_ #[36] ty #[.map (some m)]).run Tryz.prog w = .ok (.int .i64 L.length) w := by
  obtain ⟨es, clock, hb, he, hs⟩ := h
  have e1 : es.size = L.length := by
    have := congrArg List.length he
    simpa using this
  simp [Builtin.len_, run_underlying undM, Go.MapKept.run_getObj_map hb, Result.andThen, goInt, e1]
theorem MapIs.below {w w' : World} {m : Nat} {L : List Fv} (h : MapIs w m L) (hb : Below w.heap.size w w') : MapIs w' m L := by
  have hlt := h.lt
  obtain ⟨es, clock, h1, h2, h3⟩ := h
  exact ⟨es, clock, (hb.block m hlt).trans h1, h2, h3⟩
set_option maxRecDepth 100000 in
set_option maxHeartbeats 4000000 in
theorem equal_yes {w : World} {n n' : Nat} {K K' : List Fv} (h : MapIs w n K) (h' : MapIs w n' K') (hl : K.length = K'.length) (hs : ∀ p ∈ K, look p.1.nm K' = some p) : Calls Tryz.prog 36 #[.map (some n), .map (some n')] w fun e w' => e = .returned (.bool true) ∧ Below w.heap.size w w' := by
  have hn1 := fun ty => h.len ty
  have hn2 := fun ty => h'.len ty
  rw [← hl] at hn2
  go_enter Tryz.func36, Tryz.ntmps36
  go_wp2_with (first
    | (at_range; refine wpList_rng rfl _ rfl rfl h ?_; intro w2 hr2 hc2 hs2)
    | fail)
  go_frame
  have HR : Hid (Ranges w2 n w.heap.size K (K.map fun p => p.1.nm)) := hr2
  have HB2 : Hid (Below w.heap.size w w2) := hc2.below (fun _ e => e.elim) (Nat.le_refl _)
  have HS : Hid (∀ p ∈ K, look p.1.nm K' = some p) := hs
  have HM : Hid (MapIs w n' K') := h'
  clear hr2 hc2 hs2 h hn1 hn2 hs h' hl
  go_loopw [5] (fun v wr => ∃ (left : List Int), Ranges wr n w.heap.size K left ∧ (∀ k ∈ left, ∃ p ∈ K, p.1.nm = k) ∧ Below w.heap.size w wr) (fun _ wr => wr.rangeLeft n w.heap.size)
  case atStart => exact ⟨_, HR.out, fun k hk => by obtain ⟨p, hp, rfl⟩ := List.mem_map.1 hk; exact ⟨p, hp, rfl⟩, HB2.out⟩
  case round =>
    obtain ⟨left, hrg, hmem, hB⟩ := hrel
    go_wp2_with (first
      | (at_next; refine wpList_nxt rfl _ rfl rfl hrg ?_ ?_)
      | fail)
    · intro hl0
      have HB : Hid (Below w.heap.size w wr) := hB
      clear hrg hmem hB hl0
      go_wp2_with fail
      go_ret
      exact ⟨rfl, HB.out⟩
    · intro l1 l2 q u w3 hl hlk hrg3 hc3 hs3 hen
      obtain ⟨p0, hp0, hpn⟩ := hmem q.nm (by rw [hl]; simp)
      have hq : (q, u) ∈ K := (look_some hlk).1
      have hB3 : Below w.heap.size w w3 := hB.trans (hc3.below (fun k e => by omega) hB.size)
      have HG3 : Hid (Ranges w3 n w.heap.size K (l1 ++ l2)) := hrg3
      have HG : Hid (Ranges wr n w.heap.size K left) := hrg
      have HL : Hid (left = l1 ++ q.nm :: l2) := hl
      have HMM : Hid (∀ k ∈ left, ∃ p ∈ K, p.1.nm = k) := hmem
      have HB3 : Hid (Below w.heap.size w w3) := hB3
      have hs3' : w.heap.size ≤ w3.heap.size := by rw [hs3]; exact hB.size
      obtain ⟨W, hW⟩ : ∃ W, W = w3.alloc (.cells #[.int .i64 q.nm, .int .i64 q.tmo, .int .i64 q.turn] 57) := ⟨_, rfl⟩
      have hBW : Below w.heap.size w W := by rw [hW]; exact hB3.alloc hs3' _
      have hlk2 := (HM.out.below hBW).lookup q.nm true
      rw [HS.out _ hq] at hlk2
      simp only [if_true, valOf, Option.getD_some, Option.isSome_some] at hlk2
      have hval : valOf (q, u) = .agg #[.int .i64 q.nm, .int .i64 q.tmo, .int .i64 q.turn] := rfl
      rw [hval] at hen
      have HS3 : Hid _ := hs3
      subst hW
      clear hrg3 hrg hl hmem hB3 hB hc3 hlk hval hq hp0 hpn hs3
      go_wp2_with fail
      refine ⟨⟨l1 ++ l2, (HG3.out.alloc _).alloc _, fun k hk => HMM.out k ?_, (HB3.out.alloc hs3' _).alloc (by simp; omega) _⟩, ?_⟩
      · rw [HL.out]
        rcases List.mem_append.1 hk with h1 | h1
        · exact List.mem_append.2 (.inl h1)
        · exact List.mem_append.2 (.inr (List.mem_cons_of_mem _ h1))
      · rw [((HG3.out.alloc _).alloc _).left_eq, HG.out.left_eq, HL.out]; simp
end Go.Proofs.YtcdnfgibcochhaaGreatDoor.Si

namespace Go.Proofs.YtcdnfgibcochhaaGreatDoor
set_option linter.unusedSimpArgs false
set_option linter.unusedVariables false
open Go.RowKit Go.MapKept
set_option linter.unusedVariables false
set_option linter.unusedSimpArgs false
set_option maxRecDepth 100000 in
theorem sbequal_any {w : World} {x y : Value} {la lb : List UInt8} (hA : Bs w x la) (hB : Bs w y lb) :
    Calls Tryz.prog 57 #[x, y] w fun e w' => e = .returned (.bool (decide (la = lb))) ∧ w' = w := by
  have h1 := convert_bytes hA
  have h2 := convert_bytes hB
  obtain ⟨A1, C1, rfl⟩ := bs_form hA
  obtain ⟨A2, C2, rfl⟩ := bs_form hB
  clear hA hB
  have he : ((mkS la).toList == (mkS lb).toList) = decide (la = lb) := by
    rw [show (mkS la).toList = la by rw [ByteArray.toList_eq]; simp [mkS], show (mkS lb).toList = lb by rw [ByteArray.toList_eq]; simp [mkS]]
    rw [Bool.eq_iff_iff]; simp
  go_enter Tryz.func57, Tryz.ntmps57
  go_wp2
  go_ret
  simp [he]
set_option maxRecDepth 100000 in
set_option maxHeartbeats 4000000 in
theorem sameNode_yes {w : World} {x y : Value} {b : List UInt8} {s : Stt} (hx : Bs w x b) (hy : Bs w y b) : Calls Tryz.prog 35 #[.agg (x :: stV s).toArray, .agg (y :: stV s).toArray] w fun e w' => e = .returned (.bool true) ∧ Below w.heap.size w w' := by
  have hAny : Hid (∀ {w' : World}, Below w.heap.size w w' → Calls Tryz.prog 57 #[x, y] w' fun e w'' => e = .returned (.bool true) ∧ w'' = w') := fun hb => by
    have := sbequal_any (hx.keep (Chg.of_below hb) (fun _ _ => id)) (hy.keep (Chg.of_below hb) (fun _ _ => id))
    simpa using this
  clear hx hy
  simp only [stV]
  go_enter Tryz.func35, Tryz.ntmps35
  go_wp2_with fail
  have hb2 : Below w.heap.size w _ := (lay1 w (.cells #[x, Value.int IntKind.i64 s.cz, Value.int IntKind.i64 s.mz, Value.int IntKind.i64 s.pz, Value.int IntKind.i64 s.ct, Value.int IntKind.i64 s.mt, Value.int IntKind.i64 s.ver, Value.int IntKind.i64 s.cv, Value.int IntKind.i64 s.own, Value.int IntKind.i64 s.len, Value.int IntKind.i64 s.chd] 77)).trans ((lay1 _ (.cells #[y, Value.int IntKind.i64 s.cz, Value.int IntKind.i64 s.mz, Value.int IntKind.i64 s.pz, Value.int IntKind.i64 s.ct, Value.int IntKind.i64 s.mt, Value.int IntKind.i64 s.ver, Value.int IntKind.i64 s.cv, Value.int IntKind.i64 s.own, Value.int IntKind.i64 s.len, Value.int IntKind.i64 s.chd] 77)).mono (by simp))
  have HB2 : Hid (Below w.heap.size w _) := hb2
  refine (hAny.out hb2).mono ?_
  clear hb2
  rintro e w1 ⟨rfl, hw1⟩
  subst hw1
  go_wp2_with fail
  go_ret
  exact ⟨rfl, HB2.out⟩
end Go.Proofs.YtcdnfgibcochhaaGreatDoor

namespace Go.Proofs.YtcdnfgibcochhaaGreatDoor
set_option linter.unusedSimpArgs false
set_option linter.unusedVariables false
open Go.RowKit Go.MapKept
set_option linter.unusedVariables false
set_option linter.unusedSimpArgs false
theorem MapIs.len {w : World} {m : Nat} {L : List Fv} (h : MapIs w m L) (ty : TypeId) : (Builtin.len_ #[35] ty #[.map (some m)]).run Tryz.prog w = .ok (.int .i64 L.length) w := by
  obtain ⟨es, clock, hb, he, hs⟩ := h
  have e1 : es.size = L.length := by
    have := congrArg List.length he
    simpa using this
  simp [Builtin.len_, run_underlying undM, Go.MapKept.run_getObj_map hb, Result.andThen, goInt, e1]
theorem MapIs.belowE {w w' : World} {m : Nat} {L : List Fv} (h : MapIs w m L) (hb : Below w.heap.size w w') : MapIs w' m L := by
  have hlt := h.lt
  obtain ⟨es, clock, h1, h2, h3⟩ := h
  exact ⟨es, clock, (hb.block m hlt).trans h1, h2, h3⟩
set_option maxRecDepth 100000 in
set_option maxHeartbeats 4000000 in
theorem equalFunc_yes {w : World} {n n' : Nat} {K K' : List Fv} (h : MapIs w n K) (h' : MapIs w n' K') (hl : K.length = K'.length) (hs : ∀ p ∈ K, ∃ y, look p.1.nm K' = some (p.1, y)) (hb1 : ∀ p ∈ K, Bs w p.2 p.1.b) (hb2 : ∀ p ∈ K', Bs w p.2 p.1.b) : Calls Tryz.prog 34 #[.map (some n), .map (some n'), .func (.func 35) #[] #[]] w fun e w' => e = .returned (.bool true) ∧ Below w.heap.size w w' := by
  have hn1 := fun ty => h.len ty
  have hn2 := fun ty => h'.len ty
  rw [← hl] at hn2
  go_enter Tryz.func34, Tryz.ntmps34
  go_wp2_with (first
    | (at_range; refine wpList_rng rfl _ rfl rfl h ?_; intro w2 hr2 hc2 hs2)
    | fail)
  go_frame
  have HR : Hid (Ranges w2 n w.heap.size K (K.map fun p => p.1.nm)) := hr2
  have HB2 : Hid (Below w.heap.size w w2) := hc2.below (fun _ e => e.elim) (Nat.le_refl _)
  have HS : Hid (∀ p ∈ K, ∃ y, look p.1.nm K' = some (p.1, y)) := hs
  have HBA : Hid (∀ p ∈ K, Bs w p.2 p.1.b) := hb1
  have HBB : Hid (∀ p ∈ K', Bs w p.2 p.1.b) := hb2
  have HSL : Hid (∀ p ∈ K, ∃ A C, p.2 = .slice A p.1.b.length C) := fun p hp => bs_form (hb1 p hp)
  have HM : Hid (MapIs w n' K') := h'
  clear hr2 hc2 hs2 h hn1 hn2 hs h' hl hb1 hb2
  go_loopw [7] (fun v wr => ∃ (left : List (List UInt8)), Ranges wr n w.heap.size K left ∧ (∀ k ∈ left, ∃ p ∈ K, p.1.nm = k) ∧ Below w.heap.size w wr) (fun _ wr => wr.rangeLeft n w.heap.size)
  case atStart => exact ⟨_, HR.out, fun k hk => by obtain ⟨p, hp, rfl⟩ := List.mem_map.1 hk; exact ⟨p, hp, rfl⟩, HB2.out⟩
  case round =>
    obtain ⟨left, hrg, hmem, hB⟩ := hrel
    go_wp2_with (first
      | (at_next; refine wpList_nxt rfl _ rfl rfl hrg HSL.out ?_ ?_)
      | fail)
    · intro hl0
      have HB : Hid (Below w.heap.size w wr) := hB
      clear hrg hmem hB hl0
      go_wp2_with fail
      go_ret
      exact ⟨rfl, HB.out⟩
    · intro l1 l2 q A C w3 hl hlk hrg3 hc3 hs3 hen
      have hq : (q, Value.slice A q.b.length C) ∈ K := (look_some hlk).1
      obtain ⟨y, hy⟩ : ∃ y, look q.nm K' = some (q, y) := HS.out _ hq
      have hqy : (q, y) ∈ K' := (look_some hy).1
      obtain ⟨A2, C2, hyv⟩ : ∃ A2 C2, y = .slice A2 q.b.length C2 := bs_form (HBB.out _ hqy)
      have hB3 : Below w.heap.size w w3 := hB.trans (hc3.below (fun k e => by omega) hB.size)
      have HG3 : Hid (Ranges w3 n w.heap.size K (l1 ++ l2)) := hrg3
      have HG : Hid (Ranges wr n w.heap.size K left) := hrg
      have HL : Hid (left = l1 ++ q.nm :: l2) := hl
      have HMM : Hid (∀ k ∈ left, ∃ p ∈ K, p.1.nm = k) := hmem
      have HB3 : Hid (Below w.heap.size w w3) := hB3
      have hs3' : w.heap.size ≤ w3.heap.size := by rw [hs3]; exact hB.size
      have HB1 : Hid (Below w.heap.size w (w3.alloc (.cells (nodeA q A C) 77))) := hB3.alloc hs3' _
      have HB2' : Hid (Below w.heap.size w ((w3.alloc (.cells (nodeA q A C) 77)).alloc (.cells (nodeA q A2 C2) 77))) := HB1.out.alloc (by simp; omega) _
      have hlk2 := (HM.out.belowE HB1.out).lookup q.nm true
      rw [hy] at hlk2
      subst hyv
      simp only [if_true, valOf, Option.getD_some, Option.isSome_some, stV] at hlk2
      have hval : valOf (q, .slice A q.b.length C) = .agg (nodeA q A C) := rfl
      rw [hval] at hen ⊢
      have hsm := sameNode_yes (s := q.st) ((HBA.out _ hq).keep (Chg.of_below HB2'.out) (fun _ _ => id)) ((HBB.out _ hqy).keep (Chg.of_below HB2'.out) (fun _ _ => id))
      simp only [stV] at hsm
      have HS3 : Hid _ := hs3
      clear hrg3 hrg hl hmem hB3 hB hc3 hlk hval hq hqy hy hs3
      go_wp2_with fail
      refine hsm.mono ?_
      clear hsm hen hlk2
      rintro e w5 ⟨rfl, hB5⟩
      have hc5 := Chg.of_below hB5
      have HR5 : Hid (Ranges w5 n w.heap.size K (l1 ++ l2)) := ((HG3.out.alloc _).alloc _).keep hc5 id id
      have HBE : Hid (Below w.heap.size w w5) := HB2'.out.trans (hB5.mono HB2'.out.size)
      clear hB5 hc5
      go_wp2_with fail
      refine ⟨⟨l1 ++ l2, HR5.out, fun k hk => HMM.out k ?_, HBE.out⟩, ?_⟩
      · rw [HL.out]
        rcases List.mem_append.1 hk with h1 | h1
        · exact List.mem_append.2 (.inl h1)
        · exact List.mem_append.2 (.inr (List.mem_cons_of_mem _ h1))
      · rw [HR5.out.left_eq, HG.out.left_eq, HL.out]; simp
end Go.Proofs.YtcdnfgibcochhaaGreatDoor

namespace Go.Proofs.YtcdnfgibcochhaaGreatDoor
set_option linter.unusedSimpArgs false
set_option linter.unusedVariables false
open Go.RowKit
set_option linter.unusedVariables false
set_option linter.unusedSimpArgs false
set_option maxRecDepth 100000 in
set_option maxHeartbeats 4000000 in
theorem same_no_no {w : World} {u v : Value} (h : NoTree w u) (h' : NoTree w v) : Calls Tryz.prog 10 #[u, v] w fun e w' => e = .returned (.bool true) ∧ w' = w := by
  have h1 := there_no h
  have h2 := there_no h'
  clear h h'
  go_enter Tryz.func10, Tryz.ntmps10
  go_wp2_with fail
  refine h1.mono ?_
  rintro e w1 ⟨rfl, hw1⟩
  obtain rfl : w = w1 := hw1.symm
  go_wp2_with fail
  refine h1.mono ?_
  rintro e w1 ⟨rfl, hw1⟩
  obtain rfl : w = w1 := hw1.symm
  go_wp2_with fail
  refine h2.mono ?_
  rintro e w1 ⟨rfl, hw1⟩
  obtain rfl : w = w1 := hw1.symm
  go_wp2_with fail
  go_ret
  exact ⟨rfl, rfl⟩
set_option maxRecDepth 100000 in
set_option maxHeartbeats 4000000 in
theorem same_no_yes {w : World} {u : Value} {d m : Nat} (h : NoTree w u) (h' : w.cell? ⟨d, 0, none⟩ = some (.map (some m))) : Calls Tryz.prog 10 #[u, .pointer (some ⟨d, 0, none⟩)] w fun e w' => e = .returned (.bool false) ∧ w' = w := by
  have h1 := there_no h
  have h2 := there_yes h'
  clear h h'
  go_enter Tryz.func10, Tryz.ntmps10
  go_wp2_with fail
  refine h1.mono ?_
  rintro e w1 ⟨rfl, hw1⟩
  obtain rfl : w = w1 := hw1.symm
  go_wp2_with fail
  refine h1.mono ?_
  rintro e w1 ⟨rfl, hw1⟩
  obtain rfl : w = w1 := hw1.symm
  go_wp2_with fail
  refine h2.mono ?_
  rintro e w1 ⟨rfl, hw1⟩
  obtain rfl : w = w1 := hw1.symm
  go_wp2_with fail
  go_ret
  exact ⟨rfl, rfl⟩
set_option maxRecDepth 100000 in
set_option maxHeartbeats 4000000 in
theorem same_yes_no {w : World} {v : Value} {d m : Nat} (h' : w.cell? ⟨d, 0, none⟩ = some (.map (some m))) (h : NoTree w v) : Calls Tryz.prog 10 #[.pointer (some ⟨d, 0, none⟩), v] w fun e w' => e = .returned (.bool false) ∧ w' = w := by
  have h1 := there_yes h'
  have h2 := there_no h
  clear h h'
  go_enter Tryz.func10, Tryz.ntmps10
  go_wp2_with fail
  refine h1.mono ?_
  rintro e w1 ⟨rfl, hw1⟩
  obtain rfl : w = w1 := hw1.symm
  go_wp2_with fail
  refine h2.mono ?_
  rintro e w1 ⟨rfl, hw1⟩
  obtain rfl : w = w1 := hw1.symm
  go_wp2_with fail
  refine h1.mono ?_
  rintro e w1 ⟨rfl, hw1⟩
  obtain rfl : w = w1 := hw1.symm
  go_wp2_with fail
  refine h2.mono ?_
  rintro e w1 ⟨rfl, hw1⟩
  obtain rfl : w = w1 := hw1.symm
  go_wp2_with fail
  go_ret
  exact ⟨rfl, rfl⟩
end Go.Proofs.YtcdnfgibcochhaaGreatDoor

namespace Go.Proofs.YtcdnfgibcochhaaGreatDoor
set_option linter.unusedSimpArgs false
set_option linter.unusedVariables false
open Go.RowKit Go.MapKept
set_option linter.unusedVariables false
set_option linter.unusedSimpArgs false
set_option maxRecDepth 100000 in
set_option maxHeartbeats 4000000 in
theorem same_yes {w : World} {t m n t' m' n' : Nat} {L L' : List Fv} {K K' : List Si.Fv} (h : Tk w t m n L K) (h' : Tk w t' m' n' L' K') (hl : L.length = L'.length) (hs : ∀ p ∈ L, ∃ y, look p.1.nm L' = some (p.1, y)) (hk : K.length = K'.length) (hs2 : ∀ p ∈ K, Si.look p.1.nm K' = some p) :
    Calls Tryz.prog 10 #[.pointer (some ⟨t, 0, none⟩), .pointer (some ⟨t', 0, none⟩)] w fun e w' => e = .returned (.bool true) ∧ Below w.heap.size w w' := by
  have hc0 := cell_at h.cell 0
  have hc1 := cell_at h.cell 1
  have hd0 := cell_at h'.cell 0
  have hd1 := cell_at h'.cell 1
  simp at hc0 hc1 hd0 hd1
  have h1 := there_yes hc0
  have h2 := there_yes hd0
  have hE : Hid (∀ {w' : World}, Below w.heap.size w w' → Calls Tryz.prog 34 #[.map (some m), .map (some m'), .func (.func 35) #[] #[]] w' fun e w'' => e = .returned (.bool true) ∧ Below w'.heap.size w' w'') := fun hb =>
    equalFunc_yes (h.below hb).nodes (h'.below hb).nodes hl hs (fun p hp => Bs.of_owns ((h.below hb).bs p hp)) (fun p hp => Bs.of_owns ((h'.below hb).bs p hp))
  have hF : Hid (∀ {w' : World}, Below w.heap.size w w' → Calls Tryz.prog 36 #[.map (some n), .map (some n')] w' fun e w'' => e = .returned (.bool true) ∧ Below w'.heap.size w' w'') := fun hb =>
    Si.equal_yes (h.below hb).seats (h'.below hb).seats hk hs2
  have HC : Hid (∀ {w' : World}, Below w.heap.size w w' → w'.cell? ⟨t, 0, none⟩ = some (.map (some m)) ∧ w'.cell? ⟨t', 0, none⟩ = some (.map (some m')) ∧ w'.cell? ⟨t, 1, none⟩ = some (.map (some n)) ∧ w'.cell? ⟨t', 1, none⟩ = some (.map (some n'))) := fun hb => by
    have e0 := cell_at (h.below hb).cell 0
    have e1 := cell_at (h.below hb).cell 1
    have e2 := cell_at (h'.below hb).cell 0
    have e3 := cell_at (h'.below hb).cell 1
    simp at e0 e1 e2 e3
    exact ⟨e0, e2, e1, e3⟩
  clear h h' hl hs hk hs2
  go_enter Tryz.func10, Tryz.ntmps10
  go_wp2_with fail
  refine h1.mono ?_
  rintro e w1 ⟨rfl, hw1⟩
  obtain rfl : w = w1 := hw1.symm
  go_wp2_with fail
  refine h2.mono ?_
  rintro e w1 ⟨rfl, hw1⟩
  obtain rfl : w = w1 := hw1.symm
  clear h1 h2
  go_wp2_with fail
  have HD : Hid (Below w.heap.size w w.drew) := (Below.refl _ _).drew
  have hEd := hE.out HD.out
  go_region_held3 (fun w' => w'.cell? ⟨t, 0, none⟩ = some (.map (some m)) ∧ w'.cell? ⟨t', 0, none⟩ = some (.map (some m')) ∧ w'.cell? ⟨t, 1, none⟩ = some (.map (some n)) ∧ w'.cell? ⟨t', 1, none⟩ = some (.map (some n')))
    (first | exact ⟨hc0, hd0, hc1, hd1⟩ | exact HC.out HB5.out | exact HC.out HB6.out | go_keep)
    (first
      | (go_at_call 34; refine hEd.mono ?_; rintro e w5 ⟨rfl, hB5⟩; have HB5 : Hid (Below w.heap.size w w5) := HD.out.trans hB5; have hFd := hF.out HB5.out)
      | (go_at_call 36; refine hFd.mono ?_; rintro e w6 ⟨rfl, hB6⟩; have HB6 : Hid (Below w.heap.size w w6) := HB5.out.trans (hB6.mono HB5.out.size)))
  clear hEd hFd
  go_wp2_with fail
  go_ret
  exact ⟨rfl, HB6.out⟩
end Go.Proofs.YtcdnfgibcochhaaGreatDoor
