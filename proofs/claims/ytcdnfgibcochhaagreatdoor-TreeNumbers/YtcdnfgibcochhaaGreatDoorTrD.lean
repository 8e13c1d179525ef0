/- Trees: a node put. -/
import Derived.Test.YtcdnfgibcochhaaGreatDoorTrC
import Derived.Deep.MidRow
import Derived.Deep.RegionHeld3
namespace Go.Proofs.YtcdnfgibcochhaaGreatDoor
set_option linter.unusedVariables false
open Go.RowKit Go.MapKept
set_option linter.unusedVariables false

abbrev stA (s : Stt) : Array Value := #[.int .i64 s.cz, .int .i64 s.mz, .int .i64 s.pz, .int .i64 s.ct, .int .i64 s.mt, .int .i64 s.ver, .int .i64 s.cv, .int .i64 s.own, .int .i64 s.len, .int .i64 s.chd]
def bare (s : Stt) : Stt := { s with len := 0, chd := 0 }
set_option maxRecDepth 100000 in
set_option maxHeartbeats 2000000 in
theorem put_any {w : World} {t m n : Nat} {L : List Fv} {K : List Si.Fv} (h : Tk w t m n L K) (p : List UInt8) (hp : p.length ≤ 281474976710656) {A : Option Addr} {N c : Nat} {l : List UInt8} (hx : Bs w (.slice A N c) l) (hN : N = l.length) (hl : l.length ≤ 1000) (s : Stt) :
    Calls Tryz.prog 48 #[.pointer (some ⟨t, 0, none⟩), .string (mkS p), .slice A N c, .agg (stA s)] w fun e w' => e = .returned (.tuple #[]) ∧ ∃ v, Tk w' t m n (putL (⟨p, l, bare s⟩, v) L) K ∧ Chg (fun k => k = m) w w' := by
  obtain ⟨cz, mz, pz, ct, mt, ver, cv, own, len, chd⟩ := s
  simp only [stA]
  subst hN
  obtain ⟨W, hW⟩ : ∃ W, W = (w.alloc (.cells #[.int .i64 cz, .int .i64 mz, .int .i64 pz, .int .i64 ct, .int .i64 mt, .int .i64 ver, .int .i64 cv, .int .i64 own, .int .i64 0, .int .i64 0] 45)).drew := ⟨_, rfl⟩
  have HW : Hid (W = (w.alloc (.cells #[.int .i64 cz, .int .i64 mz, .int .i64 pz, .int .i64 ct, .int .i64 mt, .int .i64 ver, .int .i64 cv, .int .i64 own, .int .i64 0, .int .i64 0] 45)).drew) := hW
  have hBW : Below w.heap.size w W := by rw [hW]; exact (lay1 _ _).drew
  have hbx : W.heap[w.heap.size]? = some (.cells #[.int .i64 cz, .int .i64 mz, .int .i64 pz, .int .i64 ct, .int .i64 mt, .int .i64 ver, .int .i64 cv, .int .i64 own, .int .i64 0, .int .i64 0] 45 (0, 0)) := by rw [hW]; exact heap_alloc_new w _
  have hc1 := sclone_any p hp W
  have HT : Hid (∀ {w' : World}, Below W.heap.size W w' → Tk w' t m n L K ∧ Bs w' (.slice A l.length c) l) := fun hb => ⟨(h.below hBW).below hb, (hx.keep (Chg.of_below hBW) (fun _ _ => id)).keep (Chg.of_below hb) (fun _ _ => id)⟩
  have HS : Hid (∀ {w' : World}, (Chg (fun k => k = m) W w') → w'.cell? ⟨t, 0, none⟩ = some (.map (some m)) ∧ w'.cell? ⟨w.heap.size, 0, none⟩ = some (.int .i64 cz) ∧ w'.cell? ⟨w.heap.size, 1, none⟩ = some (.int .i64 mz) ∧ w'.cell? ⟨w.heap.size, 2, none⟩ = some (.int .i64 pz) ∧ w'.cell? ⟨w.heap.size, 3, none⟩ = some (.int .i64 ct) ∧ w'.cell? ⟨w.heap.size, 4, none⟩ = some (.int .i64 mt) ∧ w'.cell? ⟨w.heap.size, 5, none⟩ = some (.int .i64 ver) ∧ w'.cell? ⟨w.heap.size, 6, none⟩ = some (.int .i64 cv) ∧ w'.cell? ⟨w.heap.size, 7, none⟩ = some (.int .i64 own) ∧ w'.cell? ⟨w.heap.size, 8, none⟩ = some (.int .i64 0) ∧ w'.cell? ⟨w.heap.size, 9, none⟩ = some (.int .i64 0)) := by
    intro w' hc
    have htm : t ≠ m := by
      intro e
      obtain ⟨es, c, hb, _⟩ := h.nodes
      have := h.cell
      rw [e, hb] at this; cases this
    have hml := h.nodes.lt
    have htl := theap_lt h.cell
    have ht : w'.heap[t]? = some (.cells #[.map (some m), .map (some n)] 38 (0, 0)) := by
      rw [hc.block t (Nat.lt_of_lt_of_le htl hBW.size) htm]; exact (h.below hBW).cell
    have hb' : w'.heap[w.heap.size]? = some (.cells #[.int .i64 cz, .int .i64 mz, .int .i64 pz, .int .i64 ct, .int .i64 mt, .int .i64 ver, .int .i64 cv, .int .i64 own, .int .i64 0, .int .i64 0] 45 (0, 0)) := by rw [hc.block _ (theap_lt hbx) (by omega)]; exact hbx
    exact ⟨cell_at ht 0, cell_at hb' 0, cell_at hb' 1, cell_at hb' 2, cell_at hb' 3, cell_at hb' 4, cell_at hb' 5, cell_at hb' 6, cell_at hb' 7, cell_at hb' 8, cell_at hb' 9⟩
  have HC2 : Hid (∀ {w1 : World}, Below W.heap.size W w1 → Calls Tryz.prog 62 #[.slice A l.length c] w1 fun e w2 => ∃ A' C', e = .returned (.slice A' l.length C') ∧ Below W.heap.size W w2 ∧ w2.ownsRow w1.heap.size 5 1 (.slice A' l.length C') l.length (bv l)) := by
    intro w1 hb1
    refine (bclone_any (HT.out hb1).2 rfl (by omega)).mono ?_
    rintro e w2 ⟨A', C', rfl, ho, hb⟩
    exact ⟨A', C', rfl, hb1.trans (hb.mono hb1.size), ho⟩
  /- the node put -/
  have HP : Hid (∀ {w2 : World} {v : Value} {b1 : Nat}, W.heap.size ≤ b1 → Below W.heap.size W w2 → w2.ownsRow b1 5 1 v l.length (bv l) → ∃ w3, (Instr.mapUpdate 35 (.map (some m)) (.string (mkS p)) (.agg #[v, .int .i64 cz, .int .i64 mz, .int .i64 pz, .int .i64 ct, .int .i64 mt, .int .i64 ver, .int .i64 cv, .int .i64 own, .int .i64 0, .int .i64 0])).run Tryz.prog w2 = .ok () w3 ∧ Tk w3 t m n (putL (⟨p, l, bare ⟨cz, mz, pz, ct, mt, ver, cv, own, len, chd⟩⟩, v) L) K ∧ Chg (fun k => k = m) W w3) := by
    intro w2 v b1 hb1 hb ho
    have h2 := (HT.out hb).1
    obtain ⟨w3, hrun, h3, c3, s3⟩ := h2.nodes.update (⟨p, l, bare ⟨cz, mz, pz, ct, mt, ver, cv, own, len, chd⟩⟩, v)
    refine ⟨w3, hrun, h2.put _ (Below.refl _ _) (owns_base ho (Nat.zero_le _)) (fun k hk e => ?_) h3 c3 ⟨hl, rfl, rfl⟩, ((Chg.of_below hb).weak fun _ _ e => e.elim).trans c3⟩
    obtain ⟨cur, hc, hle⟩ := towns_block ho hk
    have := (h.below hBW).nodes.lt
    omega
  have hS0 := HS.out (Chg.refl _ W)
  rw [hW] at hc1 hS0
  have HBW : Hid (Below w.heap.size w W) := hBW
  clear hW hBW hbx h hx
  go_enter Tryz.func48, Tryz.ntmps48
  go_wp2_with fail
  go_region_held3 (fun w' => w'.cell? ⟨t, 0, none⟩ = some (.map (some m)) ∧ w'.cell? ⟨w.heap.size, 0, none⟩ = some (.int .i64 cz) ∧ w'.cell? ⟨w.heap.size, 1, none⟩ = some (.int .i64 mz) ∧ w'.cell? ⟨w.heap.size, 2, none⟩ = some (.int .i64 pz) ∧ w'.cell? ⟨w.heap.size, 3, none⟩ = some (.int .i64 ct) ∧ w'.cell? ⟨w.heap.size, 4, none⟩ = some (.int .i64 mt) ∧ w'.cell? ⟨w.heap.size, 5, none⟩ = some (.int .i64 ver) ∧ w'.cell? ⟨w.heap.size, 6, none⟩ = some (.int .i64 cv) ∧ w'.cell? ⟨w.heap.size, 7, none⟩ = some (.int .i64 own) ∧ w'.cell? ⟨w.heap.size, 8, none⟩ = some (.int .i64 0) ∧ w'.cell? ⟨w.heap.size, 9, none⟩ = some (.int .i64 0))
    (first | exact hS0 | exact hS1 | exact hS2 | exact hS3 | go_keep)
    (first
      | (go_at_call 61; refine hc1.mono ?_; rintro e w1 ⟨rfl, hb1⟩; rw [← HW.out] at hb1; have hS1 := HS.out ((Chg.of_below hb1).weak fun _ _ e => e.elim); have hc2 := HC2.out hb1; have HB1 : Hid (Below W.heap.size W w1) := hb1; clear hc1 hb1)
      | (go_at_call 62; refine hc2.mono ?_; rintro e w2 ⟨A2, C2, rfl, hb2, ho2⟩; have hS2 := HS.out ((Chg.of_below hb2).weak fun _ _ e => e.elim); obtain ⟨w3, hrun, hT3, hC3⟩ := HP.out HB1.out.size hb2 ho2; have hS3 := HS.out hC3; have HF : Hid _ := And.intro hT3 hC3; clear hc2 hb2 ho2 hT3 hC3))
  go_end0
  obtain ⟨hT3, hC3⟩ := HF.out
  exact ⟨rfl, _, hT3, ((Chg.of_below HBW.out).weak fun _ _ e => e.elim).trans hC3⟩
end Go.Proofs.YtcdnfgibcochhaaGreatDoor
