/- The walk of Get: way 1. The walk of Get: way 2. -/
import Derived.Test.YtaeoafedfgbcaaaGreatDoorDdJa
namespace Go.Proofs.YtaeoafedfgbcaaaGreatDoor.DD
set_option linter.unusedVariables false
open Go.RowKit
set_option linter.unusedVariables false

set_option maxRecDepth 100000 in
set_option maxHeartbeats 8000000 in
theorem get_1 {w : World} {AX : Option Addr} {CX : Nat} {b : List UInt8} (hx : Bs w (.slice AX b.length CX) b) (hb : b.length ≤ 140737488355328) (hL : PA.Laid w) (hpp : hasParts ((rdByte (some b)).1.toNat : Int) = false) (hw : (rdAll b).2.2 ≠ some []) :
    Calls Tryz.prog 13 #[.slice AX b.length CX] w fun e w' => e = .returned (.tuple #[.agg #[.int .i64 0, .int .u8 0, .int .i64 0, .int .i64 0, .int .i64 0, .int .i64 0, .string ⟨#[]⟩, .slice none 0 0, .int .i64 0, .int .i64 0, .int .i64 0, .int .i64 0, .int .i64 0, .int .i64 0, .slice none 0 0, .slice none 0 0], .int .i64 4]) ∧ Below w.heap.size w w' := by
  have HF : Hid (DedFit (rdAll b).1 (rdAll b).2.1) := rdAll_fit b
  have HL : Hid (PA.Laid w) := hL
  have hgl := hL.gt
  obtain ⟨w1, hw1⟩ : ∃ X, X = w.alloc (.cells #[.int .i64 0, .int .u8 0, .int .i64 0, .int .i64 0, .int .i64 0, .int .i64 0, .string ⟨#[]⟩, .slice none 0 0, .int .i64 0, .int .i64 0, .int .i64 0, .int .i64 0, .int .i64 0, .int .i64 0, .slice none 0 0, .slice none 0 0] 41) := ⟨_, rfl⟩
  have hB1 : Below w.heap.size w w1 := by rw [hw1]; exact (Below.refl _ _).alloc (Nat.le_refl _) _
  have hsz1 : w1.heap.size = w.heap.size + 1 := by rw [hw1]; simp
  have HX1 : Hid (Bs w1 (.slice AX b.length CX) b) := by rw [hw1]; exact hx.alloc _
  have HC1 : Hid (w1.heap[w.heap.size]? = some (.cells #[.int .i64 0, .int .u8 0, .int .i64 0, .int .i64 0, .int .i64 0, .int .i64 0, .string ⟨#[]⟩, .slice none 0 0, .int .i64 0, .int .i64 0, .int .i64 0, .int .i64 0, .int .i64 0, .int .i64 0, .slice none 0 0, .slice none 0 0] 41 (0, 0))) := by rw [hw1]; exact heap_alloc_new w _
  have HB1 : Hid (Below w.heap.size w w1) := hB1
  have hnr := newReader_any HX1.out hb
  rw [hw1] at hnr
  have hRA : rdAll b = (withHead (rdHead (rdByte (some b)).2).1 (rdBody ((rdByte (some b)).1.toNat : Int) (rdHead (rdByte (some b)).2).2).1 (rdTail ((rdByte (some b)).1.toNat : Int) (rdBody ((rdByte (some b)).1.toNat : Int) (rdHead (rdByte (some b)).2).2).2).1.length, (rdTail ((rdByte (some b)).1.toNat : Int) (rdBody ((rdByte (some b)).1.toNat : Int) (rdHead (rdByte (some b)).2).2).2).1, (rdTail ((rdByte (some b)).1.toNat : Int) (rdBody ((rdByte (some b)).1.toNat : Int) (rdHead (rdByte (some b)).2).2).2).2) := rfl
  unfold rdTail at hRA
  rw [hpp] at hRA
  have hkb := byte_kind (rdByte (some b)).1
  clear hx hB1 hL
  go_enter Tryz.func13, Tryz.ntmps13
  go_wp2_with fail
  refine hnr.mono ?_
  rintro e w2 ⟨g, q, rfl, hR2, hB2, hg2, hq2⟩
  rw [← hw1] at hB2 hg2 hq2
  have HG2 : Hid (GT w w2 g q (some b)) := ⟨hR2, by rw [hB2.block _ (heap_lt HC1.out)]; exact HC1.out, HB1.out.trans (hB2.mono HB1.out.size), by omega, fun k hk => ⟨by have := (hq2 k hk).1; omega, (hq2 k hk).2⟩⟩
  have hrb := rByte_any HG2.out.rd
  generalize ((rdByte (some b)).1.toNat : Int) = kb at hrb hRA hkb hpp
  generalize (rdByte (some b)).2 = r1 at hrb hRA
  clear hnr hR2 hB2 hg2 hq2 hw1 HC1 HB1 HX1 hsz1 w1
  go_wp2_with fail
  refine hrb.mono ?_
  rintro e w3 ⟨rfl, hR3, hC3⟩
  have HG3 : Hid (GT w w3 g q r1) := HG2.out.read hR3 hC3
  clear hrb hR3 hC3 HG2 w2
  obtain ⟨wL, hwL⟩ : ∃ X, X = w3.alloc (.cells #[.int .i64 0, .int .i64 0, .int .i64 0, .int .i64 0, .int .i64 0] 59) := ⟨_, rfl⟩
  have hBL : Below w3.heap.size w3 wL := by rw [hwL]; exact (Below.refl _ _).alloc (Nat.le_refl _) _
  have HGL : Hid (GT w wL g q r1) := HG3.out.below hBL
  have HNL : Hid (wL.heap[w3.heap.size]? = some (.cells (arrUp bT r1 0) 59 (0, 0))) := by rw [hwL]; exact heap_alloc_new w3 _
  have HPL : Hid (w.heap.size < w3.heap.size ∧ g < w3.heap.size ∧ ∀ k, q = some k → k < w3.heap.size) := ⟨heap_lt HG3.out.res, HG3.out.rd.lt, fun k hk => (HG3.out.q k hk).2⟩
  clear hBL HG3
  go_wp2_with fail
  rw [← hwL]
  clear hwL
  generalize w3.heap.size = ph at HNL HPL ⊢
  clear w3
  go_loopw [13] (fun c wr => ∃ (i : Nat), i ≤ 5 ∧ c = .int .i64 i ∧ GT w wr g q (rdSt bT r1 i) ∧ wr.heap[ph]? = some (.cells (arrUp bT r1 i) 59 (0, 0))) (fun c _ => 5 - (intOf c).toNat)
  case atStart => exact ⟨0, by omega, rfl, HGL.out, HNL.out⟩
  case round =>
    obtain ⟨i, hi5, rfl, hGr, hNr⟩ := hrel
    have HGr : Hid (GT w wr g q (rdSt bT r1 i)) := hGr
    have HNr : Hid (wr.heap[ph]? = some (.cells (arrUp bT r1 i) 59 (0, 0))) := hNr
    clear hGr hNr HGL HNL
    by_cases h5 : i < 5
    · have hri := rInt_any HGr.out.rd
      have e2 : rdSt bT r1 (i + 1) = (rdInt (rdSt bT r1 i)).2 := rfl
      have e3 : numAt bT r1 i = (rdInt (rdSt bT r1 i)).1 := rfl
      have HS : Hid (∀ w6, Rdr w6 g q (rdInt (rdSt bT r1 i)).2 → Chg (One g) wr w6 → GT w (w6.setCell ⟨ph, i, none⟩ (.int .i64 (rdInt (rdSt bT r1 i)).1)) g q (rdSt bT r1 (i + 1)) ∧ (w6.setCell ⟨ph, i, none⟩ (.int .i64 (rdInt (rdSt bT r1 i)).1)).heap[ph]? = some (.cells (arrUp bT r1 (i + 1)) 59 (0, 0)) ∧ w6.cell? ⟨ph, i, none⟩ = some (.int .i64 0) ∧ w6.frozen? ⟨ph, i, none⟩ = false) := by
        intro w6 hr hc
        have hg6 := HGr.out.read hr hc
        have hn6 : w6.heap[ph]? = some (.cells (arrUp bT r1 i) 59 (0, 0)) := by
          rw [hc.block ph (heap_lt HNr.out) (fun e => by have := HPL.out.2.1; unfold One at e; omega)]; exact HNr.out
        refine ⟨?_, ?_, ?_, frozen_at hn6 _⟩
        · rw [e2]
          exact hg6.turn (Chg.setCell (S := fun k => k = ph) w6 ⟨ph, i, none⟩ _ rfl) (fun k hk => by subst hk; exact ⟨HPL.out.1, by have := HPL.out.2.1; omega, fun e => by have := HPL.out.2.2 _ e; omega⟩)
        · rw [heap_set hn6 i, ← e3, arrUp_set _ _ _ h5]
        · rw [cell_at hn6, arrUp_cell _ _ _ h5]
      clear e2 e3
      generalize (rdInt (rdSt bT r1 i)).1 = nn at hri HS
      generalize (rdInt (rdSt bT r1 i)).2 = rr at hri HS
      go_wp2_with fail
      refine hri.mono ?_
      rintro e w6 ⟨rfl, hR6, hC6⟩
      obtain ⟨s1, s2, s3, s4⟩ := HS.out w6 hR6 hC6
      have HS1 : Hid _ := s1
      have HS2 : Hid _ := s2
      clear hri hR6 hC6 s1 s2 HS
      go_wp2
      exact ⟨⟨i + 1, by omega, by go_num, HS1.out, HS2.out⟩, by simp [intOf]; omega⟩
    · obtain rfl : i = 5 := by omega
      rw [rdSt5] at HGr
      have hbh := body_head (k := kb) (r := (rdHead r1).2)
      have hgf := getFields_any HGr.out.rd (fun k hk => (HGr.out.q k hk).2) kb hkb (HGr.out.laid HL.out)
      obtain ⟨n0, n1, n2, n3, n4⟩ := cells5 HNr.out
      simp only [numUp, Nat.reduceLT, if_true, numAt0, numAt1, numAt2, numAt3, numAt4] at n0 n1 n2 n3 n4
      generalize (rdBody kb (rdHead r1).2).1 = f at hgf hRA hbh
      generalize (rdBody kb (rdHead r1).2).2 = r3 at hgf hRA
      generalize (rdHead r1).1 = H5 at hRA n0 n1 n2 n3 n4
      obtain ⟨a0, a1, a2, a3, a4⟩ := H5
      dsimp only at n0 n1 n2 n3 n4
      obtain ⟨hz0, hz1, hz2, hz3, hz4, hfk⟩ := hbh
      have HRA : Hid _ := hRA
      clear hRA hi5 h5
      go_wp2_with fail
      refine hgf.mono ?_
      rintro e w4 ⟨A1, c1, A2, c2, rfl, hR4, hC4, hb4, hbB4, hm4, hmB4⟩
      have HG4 : Hid (GT w w4 g q r3) := HGr.out.read hR4 hC4
      have HN4 : Hid (w4.heap[ph]? = some (.cells (arrUp bT r1 5) 59 (0, 0))) := by show _ = _; rw [hC4.block ph (heap_lt HNr.out) (fun e => by have := HPL.out.2.1; unfold One at e; omega)]; exact HNr.out
      have HD4 : Hid (Bs w4 (.slice A1 f.data.length c1) f.data ∧ (∀ k, bk (.slice A1 f.data.length c1) = some k → ph < k ∧ k < w4.heap.size) ∧ Mems w4 (.slice A2 f.mems.length c2) f.mems ∧ (∀ k, bk (.slice A2 f.mems.length c2) = some k → ph < k ∧ k < w4.heap.size)) := ⟨hb4, fun k hk => ⟨by have := hbB4 k hk; have := heap_lt HNr.out; omega, hb4.lt hk⟩, hm4, fun k hk => ⟨by have := hmB4 k hk; have := heap_lt HNr.out; omega, hm4.lt hk⟩⟩
      have hph4 : ph < w4.heap.size := heap_lt HN4.out
      have HP4 : Hid (w.heap.size < w4.heap.size ∧ g < w4.heap.size ∧ ∀ k, q = some k → k < w4.heap.size) := ⟨heap_lt HG4.out.res, HG4.out.rd.lt, fun k hk => (HG4.out.q k hk).2⟩
      have m0 : w4.cell? ⟨ph, 0, none⟩ = some (.int .i64 a0) := by rw [hC4.cell (a := ⟨ph, 0, none⟩) (heap_lt HNr.out) (fun e => by have e' : ph = g := e; have := HPL.out.2.1; omega)]; exact n0
      have m1 : w4.cell? ⟨ph, 1, none⟩ = some (.int .i64 a1) := by rw [hC4.cell (a := ⟨ph, 1, none⟩) (heap_lt HNr.out) (fun e => by have e' : ph = g := e; have := HPL.out.2.1; omega)]; exact n1
      have m2 : w4.cell? ⟨ph, 2, none⟩ = some (.int .i64 a2) := by rw [hC4.cell (a := ⟨ph, 2, none⟩) (heap_lt HNr.out) (fun e => by have e' : ph = g := e; have := HPL.out.2.1; omega)]; exact n2
      have m3 : w4.cell? ⟨ph, 3, none⟩ = some (.int .i64 a3) := by rw [hC4.cell (a := ⟨ph, 3, none⟩) (heap_lt HNr.out) (fun e => by have e' : ph = g := e; have := HPL.out.2.1; omega)]; exact n3
      have m4 : w4.cell? ⟨ph, 4, none⟩ = some (.int .i64 a4) := by rw [hC4.cell (a := ⟨ph, 4, none⟩) (heap_lt HNr.out) (fun e => by have e' : ph = g := e; have := HPL.out.2.1; omega)]; exact n4
      clear hgf hR4 hC4 hb4 hbB4 hm4 hmB4 n0 n1 n2 n3 n4 HGr HNr HN4
      obtain ⟨w5, hw5⟩ : ∃ X, X = w4.alloc (.cells #[.int .i64 0, .int .u8 kb, .int .i64 0, .int .i64 0, .int .i64 0, .int .i64 0, .string (mkS f.path), .slice A1 f.data.length c1, .int .i64 f.owner, .int .i64 f.version, .int .i64 f.cversion, .int .i64 f.timeout, .int .i64 f.err, .int .i64 f.cver, .slice A2 f.mems.length c2, .slice none 0 0] 41) := ⟨_, rfl⟩
      have hB5 : Below w4.heap.size w4 w5 := by rw [hw5]; exact (Below.refl _ _).alloc (Nat.le_refl _) _
      have hd5 : w5.heap[w4.heap.size]? = some (.cells #[.int .i64 0, .int .u8 kb, .int .i64 0, .int .i64 0, .int .i64 0, .int .i64 0, .string (mkS f.path), .slice A1 f.data.length c1, .int .i64 f.owner, .int .i64 f.version, .int .i64 f.cversion, .int .i64 f.timeout, .int .i64 f.err, .int .i64 f.cver, .slice A2 f.mems.length c2, .slice none 0 0] 41 (0, 0)) := by rw [hw5]; exact heap_alloc_new w4 _
      have l0 : w5.cell? ⟨ph, 0, none⟩ = some (.int .i64 a0) := by rw [hB5.cell (p := ⟨ph, 0, none⟩) hph4]; exact m0
      have l1 : w5.cell? ⟨ph, 1, none⟩ = some (.int .i64 a1) := by rw [hB5.cell (p := ⟨ph, 1, none⟩) hph4]; exact m1
      have l2 : w5.cell? ⟨ph, 2, none⟩ = some (.int .i64 a2) := by rw [hB5.cell (p := ⟨ph, 2, none⟩) hph4]; exact m2
      have l3 : w5.cell? ⟨ph, 3, none⟩ = some (.int .i64 a3) := by rw [hB5.cell (p := ⟨ph, 3, none⟩) hph4]; exact m3
      have l4 : w5.cell? ⟨ph, 4, none⟩ = some (.int .i64 a4) := by rw [hB5.cell (p := ⟨ph, 4, none⟩) hph4]; exact m4
      have HG5 : Hid (GT w w5 g q r3) := HG4.out.below hB5
      have HD5 : Hid ((∀ k, bk (.slice A1 f.data.length c1) = some k → ph < k ∧ k < w4.heap.size) ∧ (∀ k, bk (.slice A2 f.mems.length c2) = some k → ph < k ∧ k < w4.heap.size)) := ⟨HD4.out.2.1, HD4.out.2.2.2⟩
      have HM5 : Hid (Bs w5 (.slice A1 f.data.length c1) f.data ∧ Mems w5 (.slice A2 f.mems.length c2) f.mems) := ⟨Bs.below' HD4.out.1 hB5, HD4.out.2.2.1.below' hB5⟩
      have HDD : Hid (w5.heap[w4.heap.size]? = some (.cells #[.int .i64 0, .int .u8 kb, .int .i64 0, .int .i64 0, .int .i64 0, .int .i64 0, .string (mkS f.path), .slice A1 f.data.length c1, .int .i64 f.owner, .int .i64 f.version, .int .i64 f.cversion, .int .i64 f.timeout, .int .i64 f.err, .int .i64 f.cver, .slice A2 f.mems.length c2, .slice none 0 0] 41 (0, 0))) := hd5
      obtain ⟨z0, z1, z2, z3, z4, z5, z6, z7, z8, z9, z10, z11, z12, z13, z14, z15⟩ := cells16 hd5
      obtain ⟨f0, f1, f2, f3, f4, f5, f6, f7, f8, f9, f10, f11, f12, f13, f14, f15⟩ := frozen16 hd5
      have hfar : ∀ (X : World) (i j : Nat) (v : Value), (X.setCell ⟨w4.heap.size, i, none⟩ v).cell? ⟨ph, j, none⟩ = X.cell? ⟨ph, j, none⟩ := fun X i j v => World.cell?_of_block (a := ⟨ph, j, none⟩) (Below.heap_setCell X ⟨w4.heap.size, i, none⟩ v ph (by show ph ≠ w4.heap.size; omega))
      have hdr : ∀ (X : World) (a : Addr), X.drew.cell? a = X.cell? a := fun _ _ => rfl
      have hltd : w4.heap.size < w5.heap.size := heap_lt hd5
      have hlth : ph < w5.heap.size := by omega
      clear hB5 HG4 HD4 m0 m1 m2 m3 m4 hd5
      go_wp2_with fail
      rw [← hw5]
      clear hw5
      generalize w4.heap.size = pd at HDD HP4 HD5 z0 z1 z2 z3 z4 z5 z6 z7 z8 z9 z10 z11 z12 z13 z14 z15 f0 f1 f2 f3 f4 f5 f6 f7 f8 f9 f10 f11 f12 f13 f14 f15 hfar hltd hph4 ⊢
      clear w4
      go_region_held3 (fun w' => w'.cell? ⟨ph, 0, none⟩ = some (.int .i64 a0) ∧ w'.cell? ⟨ph, 1, none⟩ = some (.int .i64 a1) ∧ w'.cell? ⟨ph, 2, none⟩ = some (.int .i64 a2) ∧ w'.cell? ⟨ph, 3, none⟩ = some (.int .i64 a3) ∧ w'.cell? ⟨ph, 4, none⟩ = some (.int .i64 a4)) (first | (simp only [hdr, hfar]; exact ⟨l0, l1, l2, l3, l4⟩) | go_keep) (fail)
      obtain ⟨w6, hw6⟩ : ∃ X, X = (((((w5.setCell ⟨pd, 0, none⟩ (.int .i64 a0)).setCell ⟨pd, 2, none⟩ (.int .i64 a1)).setCell ⟨pd, 3, none⟩ (.int .i64 a2)).setCell ⟨pd, 4, none⟩ (.int .i64 a3)).setCell ⟨pd, 5, none⟩ (.int .i64 a4)).drew := ⟨_, rfl⟩
      have hc6 : Chg (fun k => k = pd) w5 w6 := by
        have hc : ∀ (X : World) (j : Nat) (v : Value), Chg (fun k => k = pd) X (X.setCell ⟨pd, j, none⟩ v) := fun X j v => Chg.setCell X ⟨pd, j, none⟩ v rfl
        rw [hw6]
        exact (((((hc _ 0 _).trans (hc _ 2 _)).trans (hc _ 3 _)).trans (hc _ 4 _)).trans (hc _ 5 _)).trans (Chg.drew _ _)
      have HDD6 : Hid (w6.heap[pd]? = some (.cells #[.int .i64 a0, .int .u8 kb, .int .i64 a1, .int .i64 a2, .int .i64 a3, .int .i64 a4, .string (mkS f.path), .slice A1 f.data.length c1, .int .i64 f.owner, .int .i64 f.version, .int .i64 f.cversion, .int .i64 f.timeout, .int .i64 f.err, .int .i64 f.cver, .slice A2 f.mems.length c2, .slice none 0 0] 41 (0, 0))) := by
        have h0 := heap_set HDD.out 0 (.int .i64 a0)
        have h1 := heap_set h0 2 (.int .i64 a1)
        have h2 := heap_set h1 3 (.int .i64 a2)
        have h3 := heap_set h2 4 (.int .i64 a3)
        have h4 := heap_set h3 5 (.int .i64 a4)
        rw [hw6]
        exact h4
      have HG6 : Hid (GT w w6 g q r3) := HG5.out.turn hc6 (fun k hk => by subst hk; exact ⟨HP4.out.1, by have := HP4.out.2.1; omega, fun e => by have := HP4.out.2.2 _ e; omega⟩)
      have HM6 : Hid (Bs w6 (.slice A1 f.data.length c1) f.data ∧ Mems w6 (.slice A2 f.mems.length c2) f.mems) := ⟨HM5.out.1.keep hc6 (fun k hk e => by have := (HD5.out.1 k hk).2; omega), HM5.out.2.keep hc6 (fun k hk e => by have := (HD5.out.2 k hk).2; omega)⟩
      rw [← hw6]
      clear hw6 hc6 hfar hdr l0 l1 l2 l3 l4 z0 z1 z2 z3 z4 z5 z6 z7 z8 z9 z10 z11 z12 z13 z14 z15 f0 f1 f2 f3 f4 f5 f6 f7 f8 f9 f10 f11 f12 f13 f14 f15 HG5 HM5 HDD hltd hlth hph4
      generalize Value.agg #[.int .i64 0, .int .u8 kb, .int .i64 0, .int .i64 0, .int .i64 0, .int .i64 0, .string (mkS f.path), .slice A1 f.data.length c1, .int .i64 f.owner, .int .i64 f.version, .int .i64 f.cversion, .int .i64 f.timeout, .int .i64 f.err, .int .i64 f.cver, .slice A2 f.mems.length c2, .slice none 0 0] = G0
      have ho := of_any kb hkb w6 (HG6.out.laid HL.out)
      have hap := and_partsG hkb
      rw [hpp] at hap
      generalize PA.kTab kb.toNat = T at ho hap
      go_wp2_with fail
      refine ho.mono ?_
      rintro e w7 ⟨rfl, hw7⟩
      subst hw7
      clear ho
      simp only [Bool.false_eq_true, if_false, List.length_nil] at HRA
      have HPR : Hid (Prts w7 w7.heap.size (.slice none 0 0) ([] : List Fl)) := .inl ⟨rfl, rfl⟩
      have HM7 : Hid _ := HM6.out
      have HRA2 : Hid (rdAll b = ((withHead ⟨a0, a1, a2, a3, a4⟩ f 0), [], r3)) := HRA.out
      rw [HRA2.out] at HF hw
      dsimp only at hw
      have hwl := whole_any HG6.out.rd
      have hdw : decide (r3 = some []) = false := by simp [hw]
      rw [hdw] at hwl
      clear hdw
      go_wp2_with fail
      refine hwl.mono ?_
      rintro e w10 ⟨rfl, hw10⟩
      subst hw10
      clear hwl
      obtain ⟨w8x, hw8x⟩ : ∃ X, X = w10.setCells w.heap.size 0 [.int .i64 0, .int .u8 0, .int .i64 0, .int .i64 0, .int .i64 0, .int .i64 0, .string ⟨#[]⟩, .slice none 0 0, .int .i64 0, .int .i64 0, .int .i64 0, .int .i64 0, .int .i64 0, .int .i64 0, .slice none 0 0, .slice none 0 0] := ⟨_, rfl⟩
      obtain ⟨h8, hcc⟩ := set16L HG6.out.res (.int .i64 0) (.int .u8 0) (.int .i64 0) (.int .i64 0) (.int .i64 0) (.int .i64 0) (.string ⟨#[]⟩) (.slice none 0 0) (.int .i64 0) (.int .i64 0) (.int .i64 0) (.int .i64 0) (.int .i64 0) (.int .i64 0) (.slice none 0 0) (.slice none 0 0)
      rw [← hw8x] at h8 hcc
      have hth := there16 HG6.out.res
      have hon : (#[.int .i64 0, .int .u8 0, .int .i64 0, .int .i64 0, .int .i64 0, .int .i64 0, .string ⟨#[]⟩, .slice none 0 0, .int .i64 0, .int .i64 0, .int .i64 0, .int .i64 0, .int .i64 0, .int .i64 0, .slice none 0 0, .slice none 0 0] : Array Value).all (·.oneCell') = true := all_oneCell_toArray (by intro v hv; simp only [List.mem_cons, List.not_mem_nil, or_false] at hv; rcases hv with rfl | rfl | rfl | rfl | rfl | rfl | rfl | rfl | rfl | rfl | rfl | rfl | rfl | rfl | rfl | rfl <;> rfl)
      have HCC : Hid _ := hcc
      have HH8 : Hid _ := h8
      clear hcc h8
      go_wp2_with (refine wpList_store_mid rfl 41 _ _ rfl w.heap.size 0 #[.int .i64 0, .int .u8 0, .int .i64 0, .int .i64 0, .int .i64 0, .int .i64 0, .string ⟨#[]⟩, .slice none 0 0, .int .i64 0, .int .i64 0, .int .i64 0, .int .i64 0, .int .i64 0, .int .i64 0, .slice none 0 0, .slice none 0 0] rfl rfl hth infoDs hon ?_)
      rw [← hw8x]
      obtain ⟨x0, x1, x2, x3, x4, x5, x6, x7, x8, x9, x10, x11, x12, x13, x14, x15⟩ := cells16 HH8.out
      refine bodyPost_ret (v := .tuple #[.agg #[.int .i64 0, .int .u8 0, .int .i64 0, .int .i64 0, .int .i64 0, .int .i64 0, .string ⟨#[]⟩, .slice none 0 0, .int .i64 0, .int .i64 0, .int .i64 0, .int .i64 0, .int .i64 0, .int .i64 0, .slice none 0 0, .slice none 0 0], .int .i64 4]) (by simp [results, Tryz.results13, go_sem, x0, x1, x2, x3, x4, x5, x6, x7, x8, x9, x10, x11, x12, x13, x14, x15]) rfl ?_
      exact ⟨rfl, HG6.out.bel.trans (HCC.out.below (fun k hk => by omega) HG6.out.bel.size)⟩
end Go.Proofs.YtaeoafedfgbcaaaGreatDoor.DD

namespace Go.Proofs.YtaeoafedfgbcaaaGreatDoor.DD
set_option linter.unusedVariables false
open Go.RowKit
set_option linter.unusedVariables false

set_option maxRecDepth 100000 in
set_option maxHeartbeats 8000000 in
theorem get_2 {w : World} {AX : Option Addr} {CX : Nat} {b : List UInt8} (hx : Bs w (.slice AX b.length CX) b) (hb : b.length ≤ 140737488355328) (hL : PA.Laid w) (hpp : hasParts ((rdByte (some b)).1.toNat : Int) = false) (hw : (rdAll b).2.2 = some []) (hr : rightD (rdAll b).1 (rdAll b).2.1 = false) :
    Calls Tryz.prog 13 #[.slice AX b.length CX] w fun e w' => e = .returned (.tuple #[.agg #[.int .i64 0, .int .u8 0, .int .i64 0, .int .i64 0, .int .i64 0, .int .i64 0, .string ⟨#[]⟩, .slice none 0 0, .int .i64 0, .int .i64 0, .int .i64 0, .int .i64 0, .int .i64 0, .int .i64 0, .slice none 0 0, .slice none 0 0], .int .i64 4]) ∧ Below w.heap.size w w' := by
  have HF : Hid (DedFit (rdAll b).1 (rdAll b).2.1) := rdAll_fit b
  have HL : Hid (PA.Laid w) := hL
  have hgl := hL.gt
  obtain ⟨w1, hw1⟩ : ∃ X, X = w.alloc (.cells #[.int .i64 0, .int .u8 0, .int .i64 0, .int .i64 0, .int .i64 0, .int .i64 0, .string ⟨#[]⟩, .slice none 0 0, .int .i64 0, .int .i64 0, .int .i64 0, .int .i64 0, .int .i64 0, .int .i64 0, .slice none 0 0, .slice none 0 0] 41) := ⟨_, rfl⟩
  have hB1 : Below w.heap.size w w1 := by rw [hw1]; exact (Below.refl _ _).alloc (Nat.le_refl _) _
  have hsz1 : w1.heap.size = w.heap.size + 1 := by rw [hw1]; simp
  have HX1 : Hid (Bs w1 (.slice AX b.length CX) b) := by rw [hw1]; exact hx.alloc _
  have HC1 : Hid (w1.heap[w.heap.size]? = some (.cells #[.int .i64 0, .int .u8 0, .int .i64 0, .int .i64 0, .int .i64 0, .int .i64 0, .string ⟨#[]⟩, .slice none 0 0, .int .i64 0, .int .i64 0, .int .i64 0, .int .i64 0, .int .i64 0, .int .i64 0, .slice none 0 0, .slice none 0 0] 41 (0, 0))) := by rw [hw1]; exact heap_alloc_new w _
  have HB1 : Hid (Below w.heap.size w w1) := hB1
  have hnr := newReader_any HX1.out hb
  rw [hw1] at hnr
  have hRA : rdAll b = (withHead (rdHead (rdByte (some b)).2).1 (rdBody ((rdByte (some b)).1.toNat : Int) (rdHead (rdByte (some b)).2).2).1 (rdTail ((rdByte (some b)).1.toNat : Int) (rdBody ((rdByte (some b)).1.toNat : Int) (rdHead (rdByte (some b)).2).2).2).1.length, (rdTail ((rdByte (some b)).1.toNat : Int) (rdBody ((rdByte (some b)).1.toNat : Int) (rdHead (rdByte (some b)).2).2).2).1, (rdTail ((rdByte (some b)).1.toNat : Int) (rdBody ((rdByte (some b)).1.toNat : Int) (rdHead (rdByte (some b)).2).2).2).2) := rfl
  unfold rdTail at hRA
  rw [hpp] at hRA
  have hkb := byte_kind (rdByte (some b)).1
  clear hx hB1 hL
  go_enter Tryz.func13, Tryz.ntmps13
  go_wp2_with fail
  refine hnr.mono ?_
  rintro e w2 ⟨g, q, rfl, hR2, hB2, hg2, hq2⟩
  rw [← hw1] at hB2 hg2 hq2
  have HG2 : Hid (GT w w2 g q (some b)) := ⟨hR2, by rw [hB2.block _ (heap_lt HC1.out)]; exact HC1.out, HB1.out.trans (hB2.mono HB1.out.size), by omega, fun k hk => ⟨by have := (hq2 k hk).1; omega, (hq2 k hk).2⟩⟩
  have hrb := rByte_any HG2.out.rd
  generalize ((rdByte (some b)).1.toNat : Int) = kb at hrb hRA hkb hpp
  generalize (rdByte (some b)).2 = r1 at hrb hRA
  clear hnr hR2 hB2 hg2 hq2 hw1 HC1 HB1 HX1 hsz1 w1
  go_wp2_with fail
  refine hrb.mono ?_
  rintro e w3 ⟨rfl, hR3, hC3⟩
  have HG3 : Hid (GT w w3 g q r1) := HG2.out.read hR3 hC3
  clear hrb hR3 hC3 HG2 w2
  obtain ⟨wL, hwL⟩ : ∃ X, X = w3.alloc (.cells #[.int .i64 0, .int .i64 0, .int .i64 0, .int .i64 0, .int .i64 0] 59) := ⟨_, rfl⟩
  have hBL : Below w3.heap.size w3 wL := by rw [hwL]; exact (Below.refl _ _).alloc (Nat.le_refl _) _
  have HGL : Hid (GT w wL g q r1) := HG3.out.below hBL
  have HNL : Hid (wL.heap[w3.heap.size]? = some (.cells (arrUp bT r1 0) 59 (0, 0))) := by rw [hwL]; exact heap_alloc_new w3 _
  have HPL : Hid (w.heap.size < w3.heap.size ∧ g < w3.heap.size ∧ ∀ k, q = some k → k < w3.heap.size) := ⟨heap_lt HG3.out.res, HG3.out.rd.lt, fun k hk => (HG3.out.q k hk).2⟩
  clear hBL HG3
  go_wp2_with fail
  rw [← hwL]
  clear hwL
  generalize w3.heap.size = ph at HNL HPL ⊢
  clear w3
  go_loopw [13] (fun c wr => ∃ (i : Nat), i ≤ 5 ∧ c = .int .i64 i ∧ GT w wr g q (rdSt bT r1 i) ∧ wr.heap[ph]? = some (.cells (arrUp bT r1 i) 59 (0, 0))) (fun c _ => 5 - (intOf c).toNat)
  case atStart => exact ⟨0, by omega, rfl, HGL.out, HNL.out⟩
  case round =>
    obtain ⟨i, hi5, rfl, hGr, hNr⟩ := hrel
    have HGr : Hid (GT w wr g q (rdSt bT r1 i)) := hGr
    have HNr : Hid (wr.heap[ph]? = some (.cells (arrUp bT r1 i) 59 (0, 0))) := hNr
    clear hGr hNr HGL HNL
    by_cases h5 : i < 5
    · have hri := rInt_any HGr.out.rd
      have e2 : rdSt bT r1 (i + 1) = (rdInt (rdSt bT r1 i)).2 := rfl
      have e3 : numAt bT r1 i = (rdInt (rdSt bT r1 i)).1 := rfl
      have HS : Hid (∀ w6, Rdr w6 g q (rdInt (rdSt bT r1 i)).2 → Chg (One g) wr w6 → GT w (w6.setCell ⟨ph, i, none⟩ (.int .i64 (rdInt (rdSt bT r1 i)).1)) g q (rdSt bT r1 (i + 1)) ∧ (w6.setCell ⟨ph, i, none⟩ (.int .i64 (rdInt (rdSt bT r1 i)).1)).heap[ph]? = some (.cells (arrUp bT r1 (i + 1)) 59 (0, 0)) ∧ w6.cell? ⟨ph, i, none⟩ = some (.int .i64 0) ∧ w6.frozen? ⟨ph, i, none⟩ = false) := by
        intro w6 hr hc
        have hg6 := HGr.out.read hr hc
        have hn6 : w6.heap[ph]? = some (.cells (arrUp bT r1 i) 59 (0, 0)) := by
          rw [hc.block ph (heap_lt HNr.out) (fun e => by have := HPL.out.2.1; unfold One at e; omega)]; exact HNr.out
        refine ⟨?_, ?_, ?_, frozen_at hn6 _⟩
        · rw [e2]
          exact hg6.turn (Chg.setCell (S := fun k => k = ph) w6 ⟨ph, i, none⟩ _ rfl) (fun k hk => by subst hk; exact ⟨HPL.out.1, by have := HPL.out.2.1; omega, fun e => by have := HPL.out.2.2 _ e; omega⟩)
        · rw [heap_set hn6 i, ← e3, arrUp_set _ _ _ h5]
        · rw [cell_at hn6, arrUp_cell _ _ _ h5]
      clear e2 e3
      generalize (rdInt (rdSt bT r1 i)).1 = nn at hri HS
      generalize (rdInt (rdSt bT r1 i)).2 = rr at hri HS
      go_wp2_with fail
      refine hri.mono ?_
      rintro e w6 ⟨rfl, hR6, hC6⟩
      obtain ⟨s1, s2, s3, s4⟩ := HS.out w6 hR6 hC6
      have HS1 : Hid _ := s1
      have HS2 : Hid _ := s2
      clear hri hR6 hC6 s1 s2 HS
      go_wp2
      exact ⟨⟨i + 1, by omega, by go_num, HS1.out, HS2.out⟩, by simp [intOf]; omega⟩
    · obtain rfl : i = 5 := by omega
      rw [rdSt5] at HGr
      have hbh := body_head (k := kb) (r := (rdHead r1).2)
      have hgf := getFields_any HGr.out.rd (fun k hk => (HGr.out.q k hk).2) kb hkb (HGr.out.laid HL.out)
      obtain ⟨n0, n1, n2, n3, n4⟩ := cells5 HNr.out
      simp only [numUp, Nat.reduceLT, if_true, numAt0, numAt1, numAt2, numAt3, numAt4] at n0 n1 n2 n3 n4
      generalize (rdBody kb (rdHead r1).2).1 = f at hgf hRA hbh
      generalize (rdBody kb (rdHead r1).2).2 = r3 at hgf hRA
      generalize (rdHead r1).1 = H5 at hRA n0 n1 n2 n3 n4
      obtain ⟨a0, a1, a2, a3, a4⟩ := H5
      dsimp only at n0 n1 n2 n3 n4
      obtain ⟨hz0, hz1, hz2, hz3, hz4, hfk⟩ := hbh
      have HRA : Hid _ := hRA
      clear hRA hi5 h5
      go_wp2_with fail
      refine hgf.mono ?_
      rintro e w4 ⟨A1, c1, A2, c2, rfl, hR4, hC4, hb4, hbB4, hm4, hmB4⟩
      have HG4 : Hid (GT w w4 g q r3) := HGr.out.read hR4 hC4
      have HN4 : Hid (w4.heap[ph]? = some (.cells (arrUp bT r1 5) 59 (0, 0))) := by show _ = _; rw [hC4.block ph (heap_lt HNr.out) (fun e => by have := HPL.out.2.1; unfold One at e; omega)]; exact HNr.out
      have HD4 : Hid (Bs w4 (.slice A1 f.data.length c1) f.data ∧ (∀ k, bk (.slice A1 f.data.length c1) = some k → ph < k ∧ k < w4.heap.size) ∧ Mems w4 (.slice A2 f.mems.length c2) f.mems ∧ (∀ k, bk (.slice A2 f.mems.length c2) = some k → ph < k ∧ k < w4.heap.size)) := ⟨hb4, fun k hk => ⟨by have := hbB4 k hk; have := heap_lt HNr.out; omega, hb4.lt hk⟩, hm4, fun k hk => ⟨by have := hmB4 k hk; have := heap_lt HNr.out; omega, hm4.lt hk⟩⟩
      have hph4 : ph < w4.heap.size := heap_lt HN4.out
      have HP4 : Hid (w.heap.size < w4.heap.size ∧ g < w4.heap.size ∧ ∀ k, q = some k → k < w4.heap.size) := ⟨heap_lt HG4.out.res, HG4.out.rd.lt, fun k hk => (HG4.out.q k hk).2⟩
      have m0 : w4.cell? ⟨ph, 0, none⟩ = some (.int .i64 a0) := by rw [hC4.cell (a := ⟨ph, 0, none⟩) (heap_lt HNr.out) (fun e => by have e' : ph = g := e; have := HPL.out.2.1; omega)]; exact n0
      have m1 : w4.cell? ⟨ph, 1, none⟩ = some (.int .i64 a1) := by rw [hC4.cell (a := ⟨ph, 1, none⟩) (heap_lt HNr.out) (fun e => by have e' : ph = g := e; have := HPL.out.2.1; omega)]; exact n1
      have m2 : w4.cell? ⟨ph, 2, none⟩ = some (.int .i64 a2) := by rw [hC4.cell (a := ⟨ph, 2, none⟩) (heap_lt HNr.out) (fun e => by have e' : ph = g := e; have := HPL.out.2.1; omega)]; exact n2
      have m3 : w4.cell? ⟨ph, 3, none⟩ = some (.int .i64 a3) := by rw [hC4.cell (a := ⟨ph, 3, none⟩) (heap_lt HNr.out) (fun e => by have e' : ph = g := e; have := HPL.out.2.1; omega)]; exact n3
      have m4 : w4.cell? ⟨ph, 4, none⟩ = some (.int .i64 a4) := by rw [hC4.cell (a := ⟨ph, 4, none⟩) (heap_lt HNr.out) (fun e => by have e' : ph = g := e; have := HPL.out.2.1; omega)]; exact n4
      clear hgf hR4 hC4 hb4 hbB4 hm4 hmB4 n0 n1 n2 n3 n4 HGr HNr HN4
      obtain ⟨w5, hw5⟩ : ∃ X, X = w4.alloc (.cells #[.int .i64 0, .int .u8 kb, .int .i64 0, .int .i64 0, .int .i64 0, .int .i64 0, .string (mkS f.path), .slice A1 f.data.length c1, .int .i64 f.owner, .int .i64 f.version, .int .i64 f.cversion, .int .i64 f.timeout, .int .i64 f.err, .int .i64 f.cver, .slice A2 f.mems.length c2, .slice none 0 0] 41) := ⟨_, rfl⟩
      have hB5 : Below w4.heap.size w4 w5 := by rw [hw5]; exact (Below.refl _ _).alloc (Nat.le_refl _) _
      have hd5 : w5.heap[w4.heap.size]? = some (.cells #[.int .i64 0, .int .u8 kb, .int .i64 0, .int .i64 0, .int .i64 0, .int .i64 0, .string (mkS f.path), .slice A1 f.data.length c1, .int .i64 f.owner, .int .i64 f.version, .int .i64 f.cversion, .int .i64 f.timeout, .int .i64 f.err, .int .i64 f.cver, .slice A2 f.mems.length c2, .slice none 0 0] 41 (0, 0)) := by rw [hw5]; exact heap_alloc_new w4 _
      have l0 : w5.cell? ⟨ph, 0, none⟩ = some (.int .i64 a0) := by rw [hB5.cell (p := ⟨ph, 0, none⟩) hph4]; exact m0
      have l1 : w5.cell? ⟨ph, 1, none⟩ = some (.int .i64 a1) := by rw [hB5.cell (p := ⟨ph, 1, none⟩) hph4]; exact m1
      have l2 : w5.cell? ⟨ph, 2, none⟩ = some (.int .i64 a2) := by rw [hB5.cell (p := ⟨ph, 2, none⟩) hph4]; exact m2
      have l3 : w5.cell? ⟨ph, 3, none⟩ = some (.int .i64 a3) := by rw [hB5.cell (p := ⟨ph, 3, none⟩) hph4]; exact m3
      have l4 : w5.cell? ⟨ph, 4, none⟩ = some (.int .i64 a4) := by rw [hB5.cell (p := ⟨ph, 4, none⟩) hph4]; exact m4
      have HG5 : Hid (GT w w5 g q r3) := HG4.out.below hB5
      have HD5 : Hid ((∀ k, bk (.slice A1 f.data.length c1) = some k → ph < k ∧ k < w4.heap.size) ∧ (∀ k, bk (.slice A2 f.mems.length c2) = some k → ph < k ∧ k < w4.heap.size)) := ⟨HD4.out.2.1, HD4.out.2.2.2⟩
      have HM5 : Hid (Bs w5 (.slice A1 f.data.length c1) f.data ∧ Mems w5 (.slice A2 f.mems.length c2) f.mems) := ⟨Bs.below' HD4.out.1 hB5, HD4.out.2.2.1.below' hB5⟩
      have HDD : Hid (w5.heap[w4.heap.size]? = some (.cells #[.int .i64 0, .int .u8 kb, .int .i64 0, .int .i64 0, .int .i64 0, .int .i64 0, .string (mkS f.path), .slice A1 f.data.length c1, .int .i64 f.owner, .int .i64 f.version, .int .i64 f.cversion, .int .i64 f.timeout, .int .i64 f.err, .int .i64 f.cver, .slice A2 f.mems.length c2, .slice none 0 0] 41 (0, 0))) := hd5
      obtain ⟨z0, z1, z2, z3, z4, z5, z6, z7, z8, z9, z10, z11, z12, z13, z14, z15⟩ := cells16 hd5
      obtain ⟨f0, f1, f2, f3, f4, f5, f6, f7, f8, f9, f10, f11, f12, f13, f14, f15⟩ := frozen16 hd5
      have hfar : ∀ (X : World) (i j : Nat) (v : Value), (X.setCell ⟨w4.heap.size, i, none⟩ v).cell? ⟨ph, j, none⟩ = X.cell? ⟨ph, j, none⟩ := fun X i j v => World.cell?_of_block (a := ⟨ph, j, none⟩) (Below.heap_setCell X ⟨w4.heap.size, i, none⟩ v ph (by show ph ≠ w4.heap.size; omega))
      have hdr : ∀ (X : World) (a : Addr), X.drew.cell? a = X.cell? a := fun _ _ => rfl
      have hltd : w4.heap.size < w5.heap.size := heap_lt hd5
      have hlth : ph < w5.heap.size := by omega
      clear hB5 HG4 HD4 m0 m1 m2 m3 m4 hd5
      go_wp2_with fail
      rw [← hw5]
      clear hw5
      generalize w4.heap.size = pd at HDD HP4 HD5 z0 z1 z2 z3 z4 z5 z6 z7 z8 z9 z10 z11 z12 z13 z14 z15 f0 f1 f2 f3 f4 f5 f6 f7 f8 f9 f10 f11 f12 f13 f14 f15 hfar hltd hph4 ⊢
      clear w4
      go_region_held3 (fun w' => w'.cell? ⟨ph, 0, none⟩ = some (.int .i64 a0) ∧ w'.cell? ⟨ph, 1, none⟩ = some (.int .i64 a1) ∧ w'.cell? ⟨ph, 2, none⟩ = some (.int .i64 a2) ∧ w'.cell? ⟨ph, 3, none⟩ = some (.int .i64 a3) ∧ w'.cell? ⟨ph, 4, none⟩ = some (.int .i64 a4)) (first | (simp only [hdr, hfar]; exact ⟨l0, l1, l2, l3, l4⟩) | go_keep) (fail)
      obtain ⟨w6, hw6⟩ : ∃ X, X = (((((w5.setCell ⟨pd, 0, none⟩ (.int .i64 a0)).setCell ⟨pd, 2, none⟩ (.int .i64 a1)).setCell ⟨pd, 3, none⟩ (.int .i64 a2)).setCell ⟨pd, 4, none⟩ (.int .i64 a3)).setCell ⟨pd, 5, none⟩ (.int .i64 a4)).drew := ⟨_, rfl⟩
      have hc6 : Chg (fun k => k = pd) w5 w6 := by
        have hc : ∀ (X : World) (j : Nat) (v : Value), Chg (fun k => k = pd) X (X.setCell ⟨pd, j, none⟩ v) := fun X j v => Chg.setCell X ⟨pd, j, none⟩ v rfl
        rw [hw6]
        exact (((((hc _ 0 _).trans (hc _ 2 _)).trans (hc _ 3 _)).trans (hc _ 4 _)).trans (hc _ 5 _)).trans (Chg.drew _ _)
      have HDD6 : Hid (w6.heap[pd]? = some (.cells #[.int .i64 a0, .int .u8 kb, .int .i64 a1, .int .i64 a2, .int .i64 a3, .int .i64 a4, .string (mkS f.path), .slice A1 f.data.length c1, .int .i64 f.owner, .int .i64 f.version, .int .i64 f.cversion, .int .i64 f.timeout, .int .i64 f.err, .int .i64 f.cver, .slice A2 f.mems.length c2, .slice none 0 0] 41 (0, 0))) := by
        have h0 := heap_set HDD.out 0 (.int .i64 a0)
        have h1 := heap_set h0 2 (.int .i64 a1)
        have h2 := heap_set h1 3 (.int .i64 a2)
        have h3 := heap_set h2 4 (.int .i64 a3)
        have h4 := heap_set h3 5 (.int .i64 a4)
        rw [hw6]
        exact h4
      have HG6 : Hid (GT w w6 g q r3) := HG5.out.turn hc6 (fun k hk => by subst hk; exact ⟨HP4.out.1, by have := HP4.out.2.1; omega, fun e => by have := HP4.out.2.2 _ e; omega⟩)
      have HM6 : Hid (Bs w6 (.slice A1 f.data.length c1) f.data ∧ Mems w6 (.slice A2 f.mems.length c2) f.mems) := ⟨HM5.out.1.keep hc6 (fun k hk e => by have := (HD5.out.1 k hk).2; omega), HM5.out.2.keep hc6 (fun k hk e => by have := (HD5.out.2 k hk).2; omega)⟩
      rw [← hw6]
      clear hw6 hc6 hfar hdr l0 l1 l2 l3 l4 z0 z1 z2 z3 z4 z5 z6 z7 z8 z9 z10 z11 z12 z13 z14 z15 f0 f1 f2 f3 f4 f5 f6 f7 f8 f9 f10 f11 f12 f13 f14 f15 HG5 HM5 HDD hltd hlth hph4
      generalize Value.agg #[.int .i64 0, .int .u8 kb, .int .i64 0, .int .i64 0, .int .i64 0, .int .i64 0, .string (mkS f.path), .slice A1 f.data.length c1, .int .i64 f.owner, .int .i64 f.version, .int .i64 f.cversion, .int .i64 f.timeout, .int .i64 f.err, .int .i64 f.cver, .slice A2 f.mems.length c2, .slice none 0 0] = G0
      have ho := of_any kb hkb w6 (HG6.out.laid HL.out)
      have hap := and_partsG hkb
      rw [hpp] at hap
      generalize PA.kTab kb.toNat = T at ho hap
      go_wp2_with fail
      refine ho.mono ?_
      rintro e w7 ⟨rfl, hw7⟩
      subst hw7
      clear ho
      simp only [Bool.false_eq_true, if_false, List.length_nil] at HRA
      have HPR : Hid (Prts w7 w7.heap.size (.slice none 0 0) ([] : List Fl)) := .inl ⟨rfl, rfl⟩
      have HM7 : Hid _ := HM6.out
      have HRA2 : Hid (rdAll b = ((withHead ⟨a0, a1, a2, a3, a4⟩ f 0), [], r3)) := HRA.out
      rw [HRA2.out] at HF hw hr
      dsimp only at hw hr
      have hwl := whole_any HG6.out.rd
      have hdw : decide (r3 = some []) = true := by simp [hw]
      rw [hdw] at hwl
      clear hdw
      go_wp2_with fail
      refine hwl.mono ?_
      rintro e w10 ⟨rfl, hw10⟩
      subst hw10
      clear hwl
      obtain ⟨z0, z1, z2, z3, z4, z5, z6, z7, z8, z9, z10, z11, z12, z13, z14, z15⟩ := cells16 HDD6.out
      have hri := right_any (withHead ⟨a0, a1, a2, a3, a4⟩ f 0) [] A1 A2 none c1 c2 0 w10 (HG6.out.laid HL.out) ⟨HM7.out.1, HM7.out.2, HPR.out⟩ HF.out
      rw [hr] at hri
      have hri2 : Calls Tryz.prog 29 #[.agg #[.int .i64 a0, .int .u8 kb, .int .i64 a1, .int .i64 a2, .int .i64 a3, .int .i64 a4, .string (mkS f.path), .slice A1 f.data.length c1, .int .i64 f.owner, .int .i64 f.version, .int .i64 f.cversion, .int .i64 f.timeout, .int .i64 f.err, .int .i64 f.cver, .slice A2 f.mems.length c2, .slice none 0 0]] w10 fun e w' => e = .returned (.bool false) ∧ Below w10.heap.size w10 w' := by
        have h := hri
        simp only [withHead, hfk] at h
        exact h
      clear hri
      go_wp2_with fail
      refine hri2.mono ?_
      rintro e w11 ⟨rfl, hB11⟩
      have HG11 : Hid _ := HG6.out.below hB11
      have HDD11 : Hid (w11.heap[pd]? = some (.cells #[.int .i64 a0, .int .u8 kb, .int .i64 a1, .int .i64 a2, .int .i64 a3, .int .i64 a4, .string (mkS f.path), .slice A1 f.data.length c1, .int .i64 f.owner, .int .i64 f.version, .int .i64 f.cversion, .int .i64 f.timeout, .int .i64 f.err, .int .i64 f.cver, .slice A2 f.mems.length c2, .slice none 0 0] 41 (0, 0))) := by show _ = _; rw [hB11.block pd (heap_lt HDD6.out)]; exact HDD6.out
      have HM11 : Hid (DVal w11 (withHead ⟨a0, a1, a2, a3, a4⟩ f 0) [] A1 c1 A2 c2 none 0) := (show DVal w10 (withHead ⟨a0, a1, a2, a3, a4⟩ f 0) [] A1 c1 A2 c2 none 0 from ⟨HM7.out.1, HM7.out.2, HPR.out⟩).grow hB11
      generalize Value.agg #[.int .i64 a0, .int .u8 kb, .int .i64 a1, .int .i64 a2, .int .i64 a3, .int .i64 a4, .string (mkS f.path), .slice A1 f.data.length c1, .int .i64 f.owner, .int .i64 f.version, .int .i64 f.cversion, .int .i64 f.timeout, .int .i64 f.err, .int .i64 f.cver, .slice A2 f.mems.length c2, .slice none 0 0] = G1
      clear hri2 hB11 z0 z1 z2 z3 z4 z5 z6 z7 z8 z9 z10 z11 z12 z13 z14 z15
      obtain ⟨w8x, hw8x⟩ : ∃ X, X = w11.setCells w.heap.size 0 [.int .i64 0, .int .u8 0, .int .i64 0, .int .i64 0, .int .i64 0, .int .i64 0, .string ⟨#[]⟩, .slice none 0 0, .int .i64 0, .int .i64 0, .int .i64 0, .int .i64 0, .int .i64 0, .int .i64 0, .slice none 0 0, .slice none 0 0] := ⟨_, rfl⟩
      obtain ⟨h8, hcc⟩ := set16L HG11.out.res (.int .i64 0) (.int .u8 0) (.int .i64 0) (.int .i64 0) (.int .i64 0) (.int .i64 0) (.string ⟨#[]⟩) (.slice none 0 0) (.int .i64 0) (.int .i64 0) (.int .i64 0) (.int .i64 0) (.int .i64 0) (.int .i64 0) (.slice none 0 0) (.slice none 0 0)
      rw [← hw8x] at h8 hcc
      have hth := there16 HG11.out.res
      have hon : (#[.int .i64 0, .int .u8 0, .int .i64 0, .int .i64 0, .int .i64 0, .int .i64 0, .string ⟨#[]⟩, .slice none 0 0, .int .i64 0, .int .i64 0, .int .i64 0, .int .i64 0, .int .i64 0, .int .i64 0, .slice none 0 0, .slice none 0 0] : Array Value).all (·.oneCell') = true := all_oneCell_toArray (by intro v hv; simp only [List.mem_cons, List.not_mem_nil, or_false] at hv; rcases hv with rfl | rfl | rfl | rfl | rfl | rfl | rfl | rfl | rfl | rfl | rfl | rfl | rfl | rfl | rfl | rfl <;> rfl)
      have HCC : Hid _ := hcc
      have HH8 : Hid _ := h8
      clear hcc h8
      go_wp2_with (refine wpList_store_mid rfl 41 _ _ rfl w.heap.size 0 #[.int .i64 0, .int .u8 0, .int .i64 0, .int .i64 0, .int .i64 0, .int .i64 0, .string ⟨#[]⟩, .slice none 0 0, .int .i64 0, .int .i64 0, .int .i64 0, .int .i64 0, .int .i64 0, .int .i64 0, .slice none 0 0, .slice none 0 0] rfl rfl hth infoDs hon ?_)
      rw [← hw8x]
      obtain ⟨x0, x1, x2, x3, x4, x5, x6, x7, x8, x9, x10, x11, x12, x13, x14, x15⟩ := cells16 HH8.out
      refine bodyPost_ret (v := .tuple #[.agg #[.int .i64 0, .int .u8 0, .int .i64 0, .int .i64 0, .int .i64 0, .int .i64 0, .string ⟨#[]⟩, .slice none 0 0, .int .i64 0, .int .i64 0, .int .i64 0, .int .i64 0, .int .i64 0, .int .i64 0, .slice none 0 0, .slice none 0 0], .int .i64 4]) (by simp [results, Tryz.results13, go_sem, x0, x1, x2, x3, x4, x5, x6, x7, x8, x9, x10, x11, x12, x13, x14, x15]) rfl ?_
      exact ⟨rfl, HG11.out.bel.trans (HCC.out.below (fun k hk => by omega) HG11.out.bel.size)⟩
end Go.Proofs.YtaeoafedfgbcaaaGreatDoor.DD
