/- Trees: what TreeNumbers needs besides: a deed that creates, of any numbers; a deed applied, of any kind; two sittings in each of two rows; Same of two trees whose sittings differ. -/
import Derived.Test.YtcdnfgibcochhaaGreatDoorTrWb
import Derived.Test.YtcdnfgibcochhaaGreatDoorTrNe
import Derived.Test.YtcdnfgibcochhaaGreatDoorTrOx
import Derived.Test.YtcdnfgibcochhaaGreatDoorTrSx
namespace Go.Proofs.YtcdnfgibcochhaaGreatDoor
set_option linter.unusedSimpArgs false
set_option linter.unusedVariables false
set_option linter.unusedSimpArgs false
set_option linter.unusedVariables false
open Go.RowKit Go.MapKept
def fK (z o v : Int) (p : List UInt8) : Fl := ⟨z, 1, 0, 0, 0, 7, p, [120], o, 0, v, 0, 0, 0, [], 0⟩
set_option maxRecDepth 100000 in
set_option maxHeartbeats 2000000 in
theorem mk_gen (w : World) (z o v : Int) (p : List UInt8) : Calls Tryz.prog 13 #[.int .i64 z, .string (mkS p), .int .i64 o, .int .i64 v] w fun e w' => e = .returned (.agg (dA (fK z o v p) (some ⟨w.heap.size + 1, 0, none⟩) none none 1 0 0)) ∧ Bs w' (.slice (some ⟨w.heap.size + 1, 0, none⟩) 1 1) [120] ∧ Below w.heap.size w w' := by
  have hth : ((w.alloc (.cells zeroD.toArray 31)).alloc (.cells #[.int .u8 120] 5 (1, 2))).there w.heap.size 0 16 := by
    refine there_of (cs := zeroD) (T := 31) ?_
    rw [(lay1 (w.alloc (.cells zeroD.toArray 31)) _).block w.heap.size (by simp)]
    exact heap_alloc_new w _
  have hbs0 : Bs ((w.alloc (.cells zeroD.toArray 31)).alloc (.cells #[.int .u8 120] 5 (1, 2))) (.slice (some ⟨w.heap.size + 1, 0, none⟩) 1 1) [120] := by
    refine .inr (.inr ⟨by simp, w.heap.size + 1, 0, 1, rfl, by simp, by simp, fun j hj => ?_⟩)
    have hh := heap_alloc_new (w.alloc (.cells zeroD.toArray 31)) (.cells #[.int .u8 120] 5 (1, 2))
    have e : (w.alloc (.cells zeroD.toArray 31)).heap.size = w.heap.size + 1 := by simp
    rw [e] at hh
    have : j = 0 := by simpa using hj
    subst this
    exact cell_at hh 0
  have hB0 : Below w.heap.size w ((w.alloc (.cells zeroD.toArray 31)).alloc (.cells #[.int .u8 120] 5 (1, 2))) := (lay1 w _).trans ((lay1 _ _).mono (by simp))
  have hone : (dA (fK z o v p) (some ⟨w.heap.size + 1, 0, none⟩) none none 1 0 0).all (·.oneCell') = true := by simp [fK, Value.oneCell']
  have hinf := infoD16
  have hcv : (convert 24 24 (.slice (some ⟨w.heap.size + 1, 0, none⟩) 1 1)).run Tryz.prog ((w.alloc (.cells zeroD.toArray 31)).alloc (.cells #[.int .u8 120] 5)) = .ok (.slice (some ⟨w.heap.size + 1, 0, none⟩) 1 1) ((w.alloc (.cells zeroD.toArray 31)).alloc (.cells #[.int .u8 120] 5 (1, 2))) := by
    have := Go.Lib.run_convert_bytes_const (P := Tryz.prog) (w.alloc (.cells zeroD.toArray 31)) 24 5 #[.int .u8 120] 1 1 Tryz.underlying24 Tryz.underlying5
    simpa using this
  have HF : Hid (((w.alloc (.cells zeroD.toArray 31)).alloc (.cells #[.int .u8 120] 5 (1, 2))).there w.heap.size 0 16 ∧ Bs ((w.alloc (.cells zeroD.toArray 31)).alloc (.cells #[.int .u8 120] 5 (1, 2))) (.slice (some ⟨w.heap.size + 1, 0, none⟩) 1 1) [120] ∧ Below w.heap.size w ((w.alloc (.cells zeroD.toArray 31)).alloc (.cells #[.int .u8 120] 5 (1, 2)))) := ⟨hth, hbs0, hB0⟩
  simp only [fK, zeroD, List.length_cons, List.length_nil] at hth hone
  simp only [zeroD] at hcv
  clear hbs0 hB0
  go_enter Tryz.func13, Tryz.ntmps13
  go_wp2_with (refine wpList_store_mid rfl 31 _ _ rfl w.heap.size 0 #[.int .i64 z, .int .u8 1, .int .i64 0, .int .i64 0, .int .i64 0, .int .i64 7, .string (mkS p), .slice (some ⟨w.heap.size + 1, 0, none⟩) 1 1, .int .i64 o, .int .i64 0, .int .i64 v, .int .i64 0, .int .i64 0, .int .i64 0, .slice none 0 0, .slice none 0 0] rfl rfl hth hinf hone ?_)
  refine bodyPost_ret (tresults_row _ _ Tryz.results13 w.heap.size rfl (dA (fK z o v p) (some ⟨w.heap.size + 1, 0, none⟩) none none 1 0 0).toList _ ?_ Tryz.underlying31 rfl (by kernel_rfl)) rfl ⟨rfl, ?_, ?_⟩
  · exact World.rangeAt_setCells_same _ _ _ (dA (fK z o v p) (some ⟨w.heap.size + 1, 0, none⟩) none none 1 0 0).toList HF.out.1
  · exact Bs.keep HF.out.2.1 (cells_chg w.heap.size (dA (fK z o v p) (some ⟨w.heap.size + 1, 0, none⟩) none none 1 0 0).toList 0 _) (fun k hk e => by simp [bk] at hk; omega)
  · exact below_cells (Nat.le_refl _) _ _ _ HF.out.2.2

set_option maxRecDepth 100000 in
theorem sits_two {w : World} {ga gb ca cb : Nat} {x y z x2 y2 z2 : Int} (a0 : w.cell? ⟨ga, 0, none⟩ = some (.int .i64 x)) (a1 : w.cell? ⟨ga, 1, none⟩ = some (.int .i64 y)) (a2 : w.cell? ⟨ga, 2, none⟩ = some (.int .i64 z)) (a3 : w.cell? ⟨ga, 3, none⟩ = some (.int .i64 x2)) (a4 : w.cell? ⟨ga, 4, none⟩ = some (.int .i64 y2)) (a5 : w.cell? ⟨ga, 5, none⟩ = some (.int .i64 z2)) (b0 : w.cell? ⟨gb, 0, none⟩ = some (.int .i64 x)) (b1 : w.cell? ⟨gb, 1, none⟩ = some (.int .i64 y)) (b2 : w.cell? ⟨gb, 2, none⟩ = some (.int .i64 z)) (b3 : w.cell? ⟨gb, 3, none⟩ = some (.int .i64 x2)) (b4 : w.cell? ⟨gb, 4, none⟩ = some (.int .i64 y2)) (b5 : w.cell? ⟨gb, 5, none⟩ = some (.int .i64 z2)) :
    Calls Tryz.prog 17 #[.slice (some ⟨ga, 0, none⟩) 2 ca, .slice (some ⟨gb, 0, none⟩) 2 cb] w fun e w' => e = .returned (.bool true) ∧ ∃ q, w' = w.drewN q := by
  go_enter Tryz.func17, Tryz.ntmps17
  go_wp2
  go_loopw [5] (fun i wr => ∃ (k q : Nat), k ≤ 2 ∧ i = .int .i64 k ∧ wr = w.drewN q) (fun i _ => 2 - (intOf i).toNat)
  case atStart => exact ⟨0, 0, Nat.zero_le _, rfl, rfl⟩
  case round =>
    obtain ⟨k, q, hk, rfl, rfl⟩ := hrel
    by_cases hlt : k < 2
    · have hk2 : k = 0 ∨ k = 1 := by omega
      rcases hk2 with rfl | rfl
      · go_wp2_with fail
        go_quiet (fail)
        go_wp2
        go_roundw
        case rel => exact ⟨1, q + nq, by omega, by go_num, rfl⟩
        case measure => simp [intOf]
      · go_wp2_with fail
        go_quiet (fail)
        go_wp2
        go_roundw
        case rel => exact ⟨2, q + nq, by omega, by go_num, rfl⟩
        case measure => simp [intOf]
    · obtain rfl : k = 2 := by omega
      go_wp2
      go_ret
      exact ⟨rfl, q, rfl⟩
set_option maxRecDepth 100000 in
set_option maxHeartbeats 4000000 in
theorem same_no {w : World} {t m n t' m' n' : Nat} {L L' : List Fv} {K K' : List Si.Fv} (h : Tk w t m n L K) (h' : Tk w t' m' n' L' K') (hl : L.length = L'.length) (hs : ∀ p ∈ L, ∃ y, look p.1.nm L' = some (p.1, y)) (hk : K.length = K'.length) (hs2 : ∀ p ∈ K, ∃ p', Si.look p.1.nm K' = some p') (hb2 : ∃ p ∈ K, Si.look p.1.nm K' ≠ some p) (hnd : (K.map fun p => p.1.nm).Nodup) :
    Calls Tryz.prog 10 #[.pointer (some ⟨t, 0, none⟩), .pointer (some ⟨t', 0, none⟩)] w fun e w' => e = .returned (.bool false) ∧ Below w.heap.size w w' := by
  have hc0 := cell_at h.cell 0
  have hc1 := cell_at h.cell 1
  have hd0 := cell_at h'.cell 0
  have hd1 := cell_at h'.cell 1
  simp at hc0 hc1 hd0 hd1
  have h1 := there_yes hc0
  have h2 := there_yes hd0
  have hE : Hid (∀ {w' : World}, Below w.heap.size w w' → Calls Tryz.prog 34 #[.map (some m), .map (some m'), .func (.func 35) #[] #[]] w' fun e w'' => e = .returned (.bool true) ∧ Below w'.heap.size w' w'') := fun hb =>
    equalFunc_yes (h.below hb).nodes (h'.below hb).nodes hl hs (fun p hp => Bs.of_owns ((h.below hb).bs p hp)) (fun p hp => Bs.of_owns ((h'.below hb).bs p hp))
  have hF : Hid (∀ {w' : World}, Below w.heap.size w w' → Calls Tryz.prog 36 #[.map (some n), .map (some n')] w' fun e w'' => e = .returned (.bool false) ∧ Below w'.heap.size w' w'') := fun hb =>
    Si.equal_no (h.below hb).seats (h'.below hb).seats hk hs2 hb2 hnd
  have HC : Hid (∀ {w' : World}, Below w.heap.size w w' → w'.cell? ⟨t, 0, none⟩ = some (.map (some m)) ∧ w'.cell? ⟨t', 0, none⟩ = some (.map (some m')) ∧ w'.cell? ⟨t, 1, none⟩ = some (.map (some n)) ∧ w'.cell? ⟨t', 1, none⟩ = some (.map (some n'))) := fun hb => by
    have e0 := cell_at (h.below hb).cell 0
    have e1 := cell_at (h.below hb).cell 1
    have e2 := cell_at (h'.below hb).cell 0
    have e3 := cell_at (h'.below hb).cell 1
    simp at e0 e1 e2 e3
    exact ⟨e0, e2, e1, e3⟩
  clear h h' hl hs hk hs2 hb2 hnd
  go_enter Tryz.func10, Tryz.ntmps10
  go_wp2_with fail
  refine h1.mono ?_
  rintro e w1 ⟨rfl, hw1⟩
  obtain rfl : w = w1 := hw1.symm
  go_wp2_with fail
  refine h2.mono ?_
  rintro e w1 ⟨rfl, hw1⟩
  obtain rfl : w = w1 := hw1.symm
  clear h1 h2
  go_wp2_with fail
  have HD : Hid (Below w.heap.size w w.drew) := (Below.refl _ _).drew
  have hEd := hE.out HD.out
  go_region_held3 (fun w' => w'.cell? ⟨t, 0, none⟩ = some (.map (some m)) ∧ w'.cell? ⟨t', 0, none⟩ = some (.map (some m')) ∧ w'.cell? ⟨t, 1, none⟩ = some (.map (some n)) ∧ w'.cell? ⟨t', 1, none⟩ = some (.map (some n')))
    (first | exact ⟨hc0, hd0, hc1, hd1⟩ | exact HC.out HB5.out | exact HC.out HB6.out | go_keep)
    (first
      | (go_at_call 34; refine hEd.mono ?_; rintro e w5 ⟨rfl, hB5⟩; have HB5 : Hid (Below w.heap.size w w5) := HD.out.trans hB5; have hFd := hF.out HB5.out)
      | (go_at_call 36; refine hFd.mono ?_; rintro e w6 ⟨rfl, hB6⟩; have HB6 : Hid (Below w.heap.size w w6) := HB5.out.trans (hB6.mono HB5.out.size)))
  clear hEd hFd
  go_wp2_with fail
  go_ret
  exact ⟨rfl, HB6.out⟩

theorem Tr.differ {w : World} {t m n t' m' n' : Nat} {N N' : List Fi} {S S' : List Si.Fi} (h : Tr w t m n N S) (h' : Tr w t' m' n' N' S') (hN : ∀ k, lookF k N = lookF k N') (hl : S.length = S'.length) (hS : ∀ q ∈ S, ∃ q', Si.lookF q.nm S' = some q') (hb : ∃ q ∈ S, Si.lookF q.nm S' ≠ some q) :
    Calls Tryz.prog 10 #[.pointer (some ⟨t, 0, none⟩), .pointer (some ⟨t', 0, none⟩)] w fun e w' => e = .returned (.bool false) ∧ Below w.heap.size w w' := by
  have n1 := h.nams
  have n2 := h'.nams
  have p1 := (alike_perm n1.1 n2.1 hN).length_eq
  obtain ⟨L, K, hT, rfl, rfl⟩ := h
  obtain ⟨L', K', hT', rfl, rfl⟩ := h'
  refine same_no hT hT' (by simpa using p1) (fun p hp => ?_) (by simpa using hl) (fun p hp => ?_) ?_ ?_
  · have e1 := look_in n1.1 (List.mem_map.2 ⟨p, hp, rfl⟩)
    rw [hN, ← look_F] at e1
    cases hl : look p.1.nm L' with
    | none => rw [hl] at e1; simp at e1
    | some v =>
      rw [hl] at e1
      obtain ⟨v1, v2⟩ := v
      simp only [Option.map_some, Option.some.injEq] at e1
      exact ⟨v2, by rw [e1]⟩
  · obtain ⟨q', e1⟩ := hS p.1 (List.mem_map.2 ⟨p, hp, rfl⟩)
    rw [← Si.look_F] at e1
    cases hl : Si.look p.1.nm K' with
    | none => rw [hl] at e1; simp at e1
    | some v => exact ⟨v, rfl⟩
  · obtain ⟨q, hq, h1⟩ := hb
    obtain ⟨p, hp, rfl⟩ := List.mem_map.1 hq
    refine ⟨p, hp, fun e => h1 ?_⟩
    rw [← Si.look_F, e]
    rfl
  · have := n1.2
    unfold Si.nam at this
    rw [List.map_map] at this
    exact this
theorem Tr.copy {w : World} {t m n : Nat} {N : List Fi} {S : List Si.Fi} (h : Tr w t m n N S) :
    Calls Tryz.prog 19 #[.pointer (some ⟨t, 0, none⟩)] w fun e w' => ∃ t' m' n', e = .returned (.pointer (some ⟨t', 0, none⟩)) ∧ Tr w' t' m' n' N S ∧ (∀ k, Wt t' m' n' k → w.heap.size ≤ k) ∧ Below w.heap.size w w' := by
  obtain ⟨L, K, hT, h1, h2⟩ := h
  refine (copy_yes hT).mono ?_
  rintro e w' ⟨t', m', n', rfl, hk, hw, hb⟩
  exact ⟨t', m', n', rfl, ⟨L, K, hk, h1, h2⟩, hw, hb⟩
theorem Tr.ownedIs {w : World} {t m n : Nat} {N : List Fi} {S : List Si.Fi} (h : Tr w t m n N S) (hlen : N.length ≤ 1000000) (s : Int) (hs : 1 ≤ s) :
    Calls Tryz.prog 16 #[.pointer (some ⟨t, 0, none⟩), .int .i64 s] w fun e w' => ∃ (ns : List (List UInt8)) (A : Option Addr) (C : Nat), e = .returned (.slice A ns.length C) ∧ OwnIs N s ns ∧ w'.ownsRow w.heap.size 9 1 (.slice A ns.length C) ns.length (ns.map encStr) ∧ ns.length ≤ N.length ∧ Below w.heap.size w w' := by
  obtain ⟨L, K, hT, rfl, rfl⟩ := h
  rw [List.length_map] at hlen ⊢
  exact owned_is hT hlen s hs
set_option maxRecDepth 100000 in
theorem Tr.owned0 {w : World} {t m n : Nat} {N : List Fi} {S : List Si.Fi} (h : Tr w t m n N S) :
    Calls Tryz.prog 16 #[.pointer (some ⟨t, 0, none⟩), .int .i64 0] w fun e w' => e = .returned (.slice none 0 0) ∧ w' = w := by
  obtain ⟨L, K, hT, rfl, rfl⟩ := h
  have hth := there_yes (cell_at hT.cell 0)
  clear hT
  go_enter Tryz.func16, Tryz.ntmps16
  go_wp2_with fail
  refine hth.mono ?_
  rintro e w1 ⟨rfl, hw1⟩
  obtain rfl : w = w1 := hw1.symm
  clear hth
  go_wp2_with fail
  go_ret
  exact ⟨rfl, rfl⟩
theorem Aw.any {w0 w : World} {t m n : Nat} {N : List Fi} {S : List Si.Fi} (h : Aw w0 w t m n N S) (f : Fl) (ps : List Fl) {A1 A2 A3 : Option Addr} {c1 c2 c3 : Nat} (hv : DD.DVal w f ps A1 c1 A2 c2 A3 c3) (hf : DedFit f ps) (hr : rightD f ps = true) :
    Calls Tryz.prog 12 #[.pointer (some ⟨t, 0, none⟩), .agg (dA f A1 A2 A3 c1 c2 c3)] w fun e w' => e = .returned (.tuple #[]) ∧ Aw w0 w' t m n (deN f ps N) (turnS f.session f.turn (doS f S)) ∧ Chg (Mn m n) w w' := by
  have := apply_any h.1 h.2.1 f ps hv hf
  rw [hr] at this
  simp only [if_true] at this
  refine this.mono ?_
  rintro e w' ⟨rfl, h1, c1⟩
  refine ⟨rfl, ⟨h1, laid_chg h.2.1 h.1 c1, h.2.2.1.trans (c1.below ?_ h.2.2.1.size), h.2.2.2⟩, c1⟩
  rintro k (rfl | rfl)
  · exact h.2.2.2 _ (.inr (.inl rfl))
  · exact h.2.2.2 _ (.inr (.inr rfl))
end Go.Proofs.YtcdnfgibcochhaaGreatDoor
