/- Trees: a deed applied. -/
import Derived.Test.YtcdnfgibcochhaaGreatDoorTrHa
namespace Go.Proofs.YtcdnfgibcochhaaGreatDoor
set_option linter.unusedSimpArgs false
set_option linter.unusedVariables false
open Go.RowKit Go.MapKept
set_option linter.unusedVariables false
set_option linter.unusedSimpArgs false

/- What is done to a tree by a deed that is right, and by one that isn't, if its doing makes N' and S' of it. -/
set_option maxRecDepth 100000 in
set_option maxHeartbeats 4000000 in
theorem apply_core {w : World} {t m n : Nat} {N N' : List Fi} {S S' : List Si.Fi} (h : Tr w t m n N S) (hL : PA.Laid w) (f : Fl) (ps : List Fl) {A1 A2 A3 : Option Addr} {c1 c2 c3 : Nat} (hv : DD.DVal w f ps A1 c1 A2 c2 A3 c3) (hf : DedFit f ps)
    (hdo : rightD f ps = true → ∀ w', Below w.heap.size w w' → Calls Tryz.prog 37 #[.pointer (some ⟨t, 0, none⟩), .agg (dA f A1 A2 A3 c1 c2 c3)] w' fun e w'' => e = .returned (.tuple #[]) ∧ Tr w'' t m n N' S' ∧ Chg (Mn m n) w' w'') :
    Calls Tryz.prog 12 #[.pointer (some ⟨t, 0, none⟩), .agg (dA f A1 A2 A3 c1 c2 c3)] w fun e w' => e = .returned (.tuple #[]) ∧ Tr w' t m n (if rightD f ps then N' else N) (if rightD f ps then turnS f.session f.turn S' else S) ∧ Chg (Mn m n) w w' := by
  obtain ⟨W, hW⟩ : ∃ W, W = w.alloc (.cells #[.int .i64 f.zxid, .int .u8 f.kind, .int .i64 f.session, .int .i64 f.turn, .int .i64 f.xid, .int .i64 f.time, .string (mkS f.path), .slice A1 f.data.length c1, .int .i64 f.owner, .int .i64 f.version, .int .i64 f.cversion, .int .i64 f.timeout, .int .i64 f.err, .int .i64 f.cver, .slice A2 f.mems.length c2, .slice A3 f.np c3] 31) := ⟨_, rfl⟩
  have hBW : Below w.heap.size w W := by rw [hW]; exact lay1 _ _
  have hth := there_yes (h.below hBW).cells.1
  have hri := DD.right_any f ps A1 A2 A3 c1 c2 c3 W (hL.below hBW) (hv.grow hBW) hf
  have HML : Hid (m < w.heap.size ∧ n < w.heap.size ∧ t < w.heap.size) := h.lt
  have HBX : Hid (W.heap[w.heap.size]? = some (.cells #[.int .i64 f.zxid, .int .u8 f.kind, .int .i64 f.session, .int .i64 f.turn, .int .i64 f.xid, .int .i64 f.time, .string (mkS f.path), .slice A1 f.data.length c1, .int .i64 f.owner, .int .i64 f.version, .int .i64 f.cversion, .int .i64 f.timeout, .int .i64 f.err, .int .i64 f.cver, .slice A2 f.mems.length c2, .slice A3 f.np c3] 31 (0, 0))) := by rw [Hid, hW]; exact heap_alloc_new w _
  have HB : Hid (∀ {w' : World}, Chg (Mn m n) W w' → w'.cell? ⟨w.heap.size, 0, none⟩ = some (.int .i64 f.zxid) ∧ w'.cell? ⟨w.heap.size, 1, none⟩ = some (.int .u8 f.kind) ∧ w'.cell? ⟨w.heap.size, 2, none⟩ = some (.int .i64 f.session) ∧ w'.cell? ⟨w.heap.size, 3, none⟩ = some (.int .i64 f.turn) ∧ w'.cell? ⟨w.heap.size, 4, none⟩ = some (.int .i64 f.xid) ∧ w'.cell? ⟨w.heap.size, 5, none⟩ = some (.int .i64 f.time) ∧ w'.cell? ⟨w.heap.size, 6, none⟩ = some (.string (mkS f.path)) ∧ w'.cell? ⟨w.heap.size, 7, none⟩ = some (.slice A1 f.data.length c1) ∧ w'.cell? ⟨w.heap.size, 8, none⟩ = some (.int .i64 f.owner) ∧ w'.cell? ⟨w.heap.size, 9, none⟩ = some (.int .i64 f.version) ∧ w'.cell? ⟨w.heap.size, 10, none⟩ = some (.int .i64 f.cversion) ∧ w'.cell? ⟨w.heap.size, 11, none⟩ = some (.int .i64 f.timeout) ∧ w'.cell? ⟨w.heap.size, 12, none⟩ = some (.int .i64 f.err) ∧ w'.cell? ⟨w.heap.size, 13, none⟩ = some (.int .i64 f.cver) ∧ w'.cell? ⟨w.heap.size, 14, none⟩ = some (.slice A2 f.mems.length c2) ∧ w'.cell? ⟨w.heap.size, 15, none⟩ = some (.slice A3 f.np c3)) := by
    intro w' hc
    have hb' : w'.heap[w.heap.size]? = some (.cells #[.int .i64 f.zxid, .int .u8 f.kind, .int .i64 f.session, .int .i64 f.turn, .int .i64 f.xid, .int .i64 f.time, .string (mkS f.path), .slice A1 f.data.length c1, .int .i64 f.owner, .int .i64 f.version, .int .i64 f.cversion, .int .i64 f.timeout, .int .i64 f.err, .int .i64 f.cver, .slice A2 f.mems.length c2, .slice A3 f.np c3] 31 (0, 0)) := by rw [hc.block _ (theap_lt HBX.out) (by have := HML.out; rintro (e | e) <;> omega)]; exact HBX.out
    exact ⟨cell_at hb' 0, cell_at hb' 1, cell_at hb' 2, cell_at hb' 3, cell_at hb' 4, cell_at hb' 5, cell_at hb' 6, cell_at hb' 7, cell_at hb' 8, cell_at hb' 9, cell_at hb' 10, cell_at hb' 11, cell_at hb' 12, cell_at hb' 13, cell_at hb' 14, cell_at hb' 15⟩
  have HBW : Hid (Below w.heap.size w W) := hBW
  have HT : Hid (Tr w t m n N S) := h
  have HWW : Hid (W = w.alloc (.cells #[.int .i64 f.zxid, .int .u8 f.kind, .int .i64 f.session, .int .i64 f.turn, .int .i64 f.xid, .int .i64 f.time, .string (mkS f.path), .slice A1 f.data.length c1, .int .i64 f.owner, .int .i64 f.version, .int .i64 f.cversion, .int .i64 f.timeout, .int .i64 f.err, .int .i64 f.cver, .slice A2 f.mems.length c2, .slice A3 f.np c3] 31)) := hW
  cases hr : rightD f ps with
  | false =>
    rw [hr] at hri
    simp only [Bool.false_eq_true, if_false]
    rw [hW] at hth hri
    simp only [dA]
    clear h hL hv hf hdo hBW hW hr HB
    go_enter Tryz.func12, Tryz.ntmps12
    go_wp2_with fail
    refine hth.mono ?_
    rintro e w1 ⟨rfl, rfl⟩
    clear hth
    go_wp2_with fail
    refine hri.mono ?_
    rintro e w2 ⟨rfl, hB2⟩
    rw [← HWW.out] at hB2
    have HF : Hid (Below w.heap.size w w2) := HBW.out.trans (hB2.mono HBW.out.size)
    clear hri hB2
    go_wp2_with fail
    exact bodyPost_ret (results_none Tryz.results12 _ _ _) rfl ⟨rfl, HT.out.below HF.out, (Chg.of_below HF.out).weak fun _ _ e => e.elim⟩
  | true =>
    rw [hr] at hri
    simp only [if_true]
    have HDO := hdo hr
    simp only [dA] at HDO ⊢
    have HDO' : Hid _ := HDO
    rw [hW] at hth hri
    clear h hL hv hf hdo hBW hW hr HDO
    go_enter Tryz.func12, Tryz.ntmps12
    go_wp2_with fail
    refine hth.mono ?_
    rintro e w1 ⟨rfl, rfl⟩
    clear hth
    go_wp2_with fail
    refine hri.mono ?_
    rintro e w2 ⟨rfl, hB2⟩
    rw [← HWW.out] at hB2
    have hBw2 : Below w.heap.size w w2 := HBW.out.trans (hB2.mono HBW.out.size)
    have hd := HDO'.out w2 hBw2
    have kW2 : Chg (Mn m n) W w2 := (Chg.of_below hB2).weak fun _ _ e => e.elim
    obtain ⟨z0, z1, z2, z3, z4, z5, z6, z7, z8, z9, z10, z11, z12, z13, z14, z15⟩ := HB.out kW2
    have HK2 : Hid (Chg (Mn m n) W w2 ∧ Below w.heap.size w w2) := ⟨kW2, hBw2⟩
    clear hri hB2 hBw2 kW2
    go_wp2_with fail
    refine hd.mono ?_
    rintro e w3 ⟨rfl, h3, k3⟩
    have kW3 : Chg (Mn m n) W w3 := HK2.out.1.trans k3
    obtain ⟨y0, y1, y2, y3, y4, y5, y6, y7, y8, y9, y10, y11, y12, y13, y14, y15⟩ := HB.out kW3
    have hc := turn_tr h3 f.session f.turn
    have HK3 : Hid (Chg (Mn m n) w w3) := ((Chg.of_below HK2.out.2).weak fun _ _ e => e.elim).trans k3
    clear hd h3 k3 kW3 z0 z1 z2 z3 z4 z5 z6 z7 z8 z9 z10 z11 z12 z13 z14 z15
    go_wp2_with fail
    refine hc.mono ?_
    rintro e w4 ⟨rfl, h4, k4⟩
    have HF : Hid _ := And.intro h4 (HK3.out.trans k4)
    clear hc h4 k4 y0 y1 y2 y3 y4 y5 y6 y7 y8 y9 y10 y11 y12 y13 y14 y15
    go_wp2_with fail
    go_end0
    exact ⟨rfl, HF.out⟩
end Go.Proofs.YtcdnfgibcochhaaGreatDoor
