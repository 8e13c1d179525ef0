/- Trees: Get of a node that is there. -/
import Derived.Test.YteaomigmamnobaaGreatDoorTrT
import Derived.Test.YteaomigmamnobaaGreatDoorTrR
namespace Go.Proofs.YteaomigmamnobaaGreatDoor
set_option linter.unusedSimpArgs false
set_option linter.unusedVariables false
open Go.RowKit Go.MapKept
set_option linter.unusedVariables false
set_option linter.unusedSimpArgs false

set_option maxRecDepth 100000 in
set_option maxHeartbeats 8000000 in
theorem get_yes {w : World} {t m n : Nat} {L : List Fv} {K : List Si.Fv} (h : Tk w t m n L K) (hL : PA.Laid w) (hlen : L.length ≤ 1000000) (p : List UInt8) (hp : p.length ≤ 1000000) {q : Fi} {A : Option Addr} {C : Nat} (hq : look p L = some (q, .slice A q.b.length C)) :
    Calls Tryz.prog 14 #[.pointer (some ⟨t, 0, none⟩), .string (mkS p)] w fun e w' => ∃ A' C', e = .returned (.tuple #[.agg (toldA p q A' C' ((L.map fun q => q.1.nm).filter (kid p)).length), .bool true]) ∧ w'.ownsRow w.heap.size 5 1 (.slice A' q.b.length C') q.b.length (bv q.b) ∧ Below w.heap.size w w' := by
  have hfit := h.fits _ (look_some hq).1
  have hbs := Bs.of_owns (h.bs _ (look_some hq).1)
  simp only at hfit hbs
  obtain ⟨kN, hkN⟩ : ∃ kN, kN = ((L.map fun q => q.1.nm).filter (kid p)).length := ⟨_, rfl⟩
  have hkl : kN ≤ 1000000 := by
    rw [hkN]
    have := List.length_filter_le (kid p) (L.map fun q => q.1.nm)
    rw [List.length_map] at this
    omega
  rw [← hkN]
  have hf := find_yes (h.alloc (.cells zeroA.toArray 47)) p hq
  go_enter Tryz.func14, Tryz.ntmps14
  go_wp2_with fail
  refine hf.mono ?_
  rintro e w1 ⟨rfl, hb1⟩
  have HB1 : Hid (Below (w.alloc (.cells zeroA.toArray 47)).heap.size (w.alloc (.cells zeroA.toArray 47)) w1) := hb1
  obtain ⟨W, hW⟩ : ∃ W, W = (w1.alloc (.cells #[.slice A q.b.length C, .int .i64 q.st.cz, .int .i64 q.st.mz, .int .i64 q.st.pz, .int .i64 q.st.ct, .int .i64 q.st.mt, .int .i64 q.st.ver, .int .i64 q.st.cv, .int .i64 q.st.own, .int .i64 q.st.len, .int .i64 q.st.chd] 77)).drew := ⟨_, rfl⟩
  have HW : Hid (W = (w1.alloc (.cells #[.slice A q.b.length C, .int .i64 q.st.cz, .int .i64 q.st.mz, .int .i64 q.st.pz, .int .i64 q.st.ct, .int .i64 q.st.mt, .int .i64 q.st.ver, .int .i64 q.st.cv, .int .i64 q.st.own, .int .i64 q.st.len, .int .i64 q.st.chd] 77)).drew) := hW
  have hBw1 : Below w.heap.size w w1 := (lay1 _ _).trans (hb1.mono (by simp))
  have hBW : Below w.heap.size w W := by rw [hW]; exact (hBw1.trans ((lay1 _ _).mono hBw1.size)).drew
  have hs1 : w.heap.size + 1 ≤ w1.heap.size := by have := hb1.size; simpa using this
  have hsz : W.heap.size = w1.heap.size + 1 := by rw [hW]; simp
  have hb0 : W.heap[w1.heap.size]? = some (.cells #[.slice A q.b.length C, .int .i64 q.st.cz, .int .i64 q.st.mz, .int .i64 q.st.pz, .int .i64 q.st.ct, .int .i64 q.st.mt, .int .i64 q.st.ver, .int .i64 q.st.cv, .int .i64 q.st.own, .int .i64 q.st.len, .int .i64 q.st.chd] 77 (0, 0)) := by rw [hW]; exact heap_alloc_new w1 _
  have hbz : W.heap[w.heap.size]? = some (.cells zeroA.toArray 47 (0, 0)) := by
    rw [hW]
    refine ((lay1 w1 _).block _ (by omega)).trans ?_
    rw [hb1.block _ (by simp)]
    exact heap_alloc_new w _
  have HS : Hid (∀ {w' : World}, Below W.heap.size W w' → w'.cell? ⟨w1.heap.size, 0, none⟩ = some (.slice A q.b.length C) ∧ w'.cell? ⟨w1.heap.size, 1, none⟩ = some (.int .i64 q.st.cz) ∧ w'.cell? ⟨w1.heap.size, 2, none⟩ = some (.int .i64 q.st.mz) ∧ w'.cell? ⟨w1.heap.size, 3, none⟩ = some (.int .i64 q.st.pz) ∧ w'.cell? ⟨w1.heap.size, 4, none⟩ = some (.int .i64 q.st.ct) ∧ w'.cell? ⟨w1.heap.size, 5, none⟩ = some (.int .i64 q.st.mt) ∧ w'.cell? ⟨w1.heap.size, 6, none⟩ = some (.int .i64 q.st.ver) ∧ w'.cell? ⟨w1.heap.size, 7, none⟩ = some (.int .i64 q.st.cv) ∧ w'.cell? ⟨w1.heap.size, 8, none⟩ = some (.int .i64 q.st.own) ∧ w'.cell? ⟨w1.heap.size, 9, none⟩ = some (.int .i64 q.st.len) ∧ w'.cell? ⟨w1.heap.size, 10, none⟩ = some (.int .i64 q.st.chd)) := by
    intro w' hb
    have hb' : w'.heap[w1.heap.size]? = some (.cells #[.slice A q.b.length C, .int .i64 q.st.cz, .int .i64 q.st.mz, .int .i64 q.st.pz, .int .i64 q.st.ct, .int .i64 q.st.mt, .int .i64 q.st.ver, .int .i64 q.st.cv, .int .i64 q.st.own, .int .i64 q.st.len, .int .i64 q.st.chd] 77 (0, 0)) := by rw [hb.block _ (by omega)]; exact hb0
    exact ⟨cell_at hb' 0, cell_at hb' 1, cell_at hb' 2, cell_at hb' 3, cell_at hb' 4, cell_at hb' 5, cell_at hb' 6, cell_at hb' 7, cell_at hb' 8, cell_at hb' 9, cell_at hb' 10⟩
  have HT : Hid (∀ {w' : World}, Below W.heap.size W w' → w'.there w.heap.size 0 12) := by
    intro w' hb
    have hb' : w'.heap[w.heap.size]? = some (.cells zeroA.toArray 47 (0, 0)) := by rw [hb.block _ (by omega)]; exact hbz
    exact there_of (cs := zeroA) hb'
  have HSS : Hid (∀ {w' : World}, (w'.cell? ⟨w1.heap.size, 0, none⟩ = some (.slice A q.b.length C) ∧ w'.cell? ⟨w1.heap.size, 1, none⟩ = some (.int .i64 q.st.cz) ∧ w'.cell? ⟨w1.heap.size, 2, none⟩ = some (.int .i64 q.st.mz) ∧ w'.cell? ⟨w1.heap.size, 3, none⟩ = some (.int .i64 q.st.pz) ∧ w'.cell? ⟨w1.heap.size, 4, none⟩ = some (.int .i64 q.st.ct) ∧ w'.cell? ⟨w1.heap.size, 5, none⟩ = some (.int .i64 q.st.mt) ∧ w'.cell? ⟨w1.heap.size, 6, none⟩ = some (.int .i64 q.st.ver) ∧ w'.cell? ⟨w1.heap.size, 7, none⟩ = some (.int .i64 q.st.cv) ∧ w'.cell? ⟨w1.heap.size, 8, none⟩ = some (.int .i64 q.st.own) ∧ w'.cell? ⟨w1.heap.size, 9, none⟩ = some (.int .i64 q.st.len) ∧ w'.cell? ⟨w1.heap.size, 10, none⟩ = some (.int .i64 q.st.chd)) → ∀ A2 C2, (fun w' : World => w'.cell? ⟨w1.heap.size, 0, none⟩ = some (.slice A q.b.length C) ∧ w'.cell? ⟨w1.heap.size, 1, none⟩ = some (.int .i64 q.st.cz) ∧ w'.cell? ⟨w1.heap.size, 2, none⟩ = some (.int .i64 q.st.mz) ∧ w'.cell? ⟨w1.heap.size, 3, none⟩ = some (.int .i64 q.st.pz) ∧ w'.cell? ⟨w1.heap.size, 4, none⟩ = some (.int .i64 q.st.ct) ∧ w'.cell? ⟨w1.heap.size, 5, none⟩ = some (.int .i64 q.st.mt) ∧ w'.cell? ⟨w1.heap.size, 6, none⟩ = some (.int .i64 q.st.ver) ∧ w'.cell? ⟨w1.heap.size, 7, none⟩ = some (.int .i64 q.st.cv) ∧ w'.cell? ⟨w1.heap.size, 8, none⟩ = some (.int .i64 q.st.own) ∧ w'.cell? ⟨w1.heap.size, 9, none⟩ = some (.int .i64 q.st.len) ∧ w'.cell? ⟨w1.heap.size, 10, none⟩ = some (.int .i64 q.st.chd)) (w'.setCells w.heap.size 0 (toldA p q A2 C2 kN).toList)) := by
    intro w' hc A2 C2
    have hx : ∀ j, (w'.setCells w.heap.size 0 (toldA p q A2 C2 kN).toList).cell? ⟨w1.heap.size, j, none⟩ = w'.cell? ⟨w1.heap.size, j, none⟩ := fun j => World.cell?_setCells_out w.heap.size _ 0 w' ⟨w1.heap.size, j, none⟩ (fun hb _ => by simp at hb; omega)
    simp only [hx]
    exact hc
  have HST : Hid (∀ {w' : World}, Below W.heap.size W w' → (w'.cell? ⟨w1.heap.size, 0, none⟩ = some (.slice A q.b.length C) ∧ w'.cell? ⟨w1.heap.size, 1, none⟩ = some (.int .i64 q.st.cz) ∧ w'.cell? ⟨w1.heap.size, 2, none⟩ = some (.int .i64 q.st.mz) ∧ w'.cell? ⟨w1.heap.size, 3, none⟩ = some (.int .i64 q.st.pz) ∧ w'.cell? ⟨w1.heap.size, 4, none⟩ = some (.int .i64 q.st.ct) ∧ w'.cell? ⟨w1.heap.size, 5, none⟩ = some (.int .i64 q.st.mt) ∧ w'.cell? ⟨w1.heap.size, 6, none⟩ = some (.int .i64 q.st.ver) ∧ w'.cell? ⟨w1.heap.size, 7, none⟩ = some (.int .i64 q.st.cv) ∧ w'.cell? ⟨w1.heap.size, 8, none⟩ = some (.int .i64 q.st.own) ∧ w'.cell? ⟨w1.heap.size, 9, none⟩ = some (.int .i64 q.st.len) ∧ w'.cell? ⟨w1.heap.size, 10, none⟩ = some (.int .i64 q.st.chd)) → ∀ A2 C2, ∃ w3, (storeVar 47 ⟨w.heap.size, 0, none⟩ (.agg (toldA p q A2 C2 kN))).run Tryz.prog w' = .ok () w3 ∧ w3 = w'.setCells w.heap.size 0 (toldA p q A2 C2 kN).toList ∧ (fun w' : World => w'.cell? ⟨w1.heap.size, 0, none⟩ = some (.slice A q.b.length C) ∧ w'.cell? ⟨w1.heap.size, 1, none⟩ = some (.int .i64 q.st.cz) ∧ w'.cell? ⟨w1.heap.size, 2, none⟩ = some (.int .i64 q.st.mz) ∧ w'.cell? ⟨w1.heap.size, 3, none⟩ = some (.int .i64 q.st.pz) ∧ w'.cell? ⟨w1.heap.size, 4, none⟩ = some (.int .i64 q.st.ct) ∧ w'.cell? ⟨w1.heap.size, 5, none⟩ = some (.int .i64 q.st.mt) ∧ w'.cell? ⟨w1.heap.size, 6, none⟩ = some (.int .i64 q.st.ver) ∧ w'.cell? ⟨w1.heap.size, 7, none⟩ = some (.int .i64 q.st.cv) ∧ w'.cell? ⟨w1.heap.size, 8, none⟩ = some (.int .i64 q.st.own) ∧ w'.cell? ⟨w1.heap.size, 9, none⟩ = some (.int .i64 q.st.len) ∧ w'.cell? ⟨w1.heap.size, 10, none⟩ = some (.int .i64 q.st.chd)) w3) := by
    intro w' hb hc A2 C2
    exact ⟨_, run_storeVar_mid (P := Tryz.prog) w' w.heap.size 0 47 (toldA p q A2 C2 kN) (HT.out hb) infoN (oneT p q A2 C2 kN), rfl, HSS.out hc A2 C2⟩
  have hc1 : Calls Tryz.prog 41 #[.pointer (some ⟨t, 0, none⟩), .string (mkS p)] W fun e w' => ∃ A5 C5, e = .returned (.slice A5 kN C5) ∧ Below W.heap.size W w' := by
    refine (children_any (h.below hBW) (hL.below hBW) hlen p).mono ?_
    rintro e w2 ⟨ns, A5, C5, rfl, hpm, ho5, hb2⟩
    exact ⟨A5, C5, by rw [hkN, hpm.length_eq], hb2⟩
  have HC2 : Hid (∀ {w2 : World}, Below W.heap.size W w2 → Calls Tryz.prog 40 #[.agg (nodeA q A C), .string (mkS p), .int .i64 kN] w2 fun e w3 => ∃ A' C', e = .returned (.agg (toldA p q A' C' kN)) ∧ Below W.heap.size W w3 ∧ w3.ownsRow w.heap.size 5 1 (.slice A' q.b.length C') q.b.length (bv q.b) ∧ ∀ b, Value.ownBlock (.slice A' q.b.length C') = some b → w.heap.size + 1 ≤ b) := by
    intro w2 hb2
    refine (tell_any ((hbs.keep (Chg.of_below hBW) (fun _ _ => id)).keep (Chg.of_below hb2) (fun _ _ => id)) hfit.1 p hp kN hkl).mono ?_
    rintro e w3 ⟨A', C', rfl, ho, hb⟩
    have := hb2.size
    refine ⟨A', C', rfl, hb2.trans (hb.mono hb2.size), owns_base ho (by omega), fun b hb' => ?_⟩
    obtain ⟨_, _, hle⟩ := towns_block ho hb'
    omega
  have hS0 := HS.out (Below.refl _ W)
  rw [hW] at hc1 hS0
  have HBW : Hid (Below w.heap.size w W) := hBW
  clear hf hb1 hW hBW hBw1 hb0 hbz h hsz hq hp hkl hkN hbs hfit hL hlen hs1 HB1
  go_wp2_with fail
  go_region_held3 (fun w' => w'.cell? ⟨w1.heap.size, 0, none⟩ = some (.slice A q.b.length C) ∧ w'.cell? ⟨w1.heap.size, 1, none⟩ = some (.int .i64 q.st.cz) ∧ w'.cell? ⟨w1.heap.size, 2, none⟩ = some (.int .i64 q.st.mz) ∧ w'.cell? ⟨w1.heap.size, 3, none⟩ = some (.int .i64 q.st.pz) ∧ w'.cell? ⟨w1.heap.size, 4, none⟩ = some (.int .i64 q.st.ct) ∧ w'.cell? ⟨w1.heap.size, 5, none⟩ = some (.int .i64 q.st.mt) ∧ w'.cell? ⟨w1.heap.size, 6, none⟩ = some (.int .i64 q.st.ver) ∧ w'.cell? ⟨w1.heap.size, 7, none⟩ = some (.int .i64 q.st.cv) ∧ w'.cell? ⟨w1.heap.size, 8, none⟩ = some (.int .i64 q.st.own) ∧ w'.cell? ⟨w1.heap.size, 9, none⟩ = some (.int .i64 q.st.len) ∧ w'.cell? ⟨w1.heap.size, 10, none⟩ = some (.int .i64 q.st.chd))
    (first | exact hS0 | exact hS1 | exact hS2 | exact hS3 | go_keep)
    (first
      | (go_at_call 41; refine hc1.mono ?_; rintro e w2 ⟨A5, C5, rfl, hb1⟩; rw [← HW.out] at hb1; have hS1 := HS.out hb1; have hc2 := HC2.out hb1; clear hc1 hb1)
      | (go_at_call 40; refine hc2.mono ?_; rintro e w3 ⟨A2, C2, rfl, hb2, ho2, hn2⟩; have hS2 := HS.out hb2; obtain ⟨w4, hst, hw3, hS3⟩ := HST.out hb2 hS2 A2 C2; have HW3 : Hid _ := hw3; clear hw3; simp [go_sem, toldA] at hst; have HF : Hid _ := And.intro hb2 (And.intro ho2 hn2); clear hc2 hb2 ho2 hn2))
  clear hst hS0 hS1 hS2 hS3
  go_wp2_with fail
  obtain ⟨hb2, ho2, hn2⟩ := HF.out
  have hthr := HT.out hb2
  refine bodyPost_ret (results_row2 _ _ _ Tryz.results14 w.heap.size rfl (.bool true) rfl (toldA p q A2 C2 kN).toList _ ?_ Tryz.underlying47 rfl (by kernel_rfl)) rfl ⟨A2, C2, rfl, ?_, ?_⟩
  · rw [HW3.out]
    exact World.rangeAt_setCells_same _ _ _ (toldA p q A2 C2 kN).toList hthr
  · rw [HW3.out]
    exact tset_owns ho2 (fun b hb => by have := hn2 b hb; omega)
  · rw [HW3.out]
    exact below_cells (Nat.le_refl _) _ _ _ (HBW.out.trans (hb2.mono HBW.out.size))
end Go.Proofs.YteaomigmamnobaaGreatDoor
