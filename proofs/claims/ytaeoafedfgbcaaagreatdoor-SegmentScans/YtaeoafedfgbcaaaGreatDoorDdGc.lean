/- The walk of getFields: path. -/
import Derived.Test.YtaeoafedfgbcaaaGreatDoorDdGa
namespace Go.Proofs.YtaeoafedfgbcaaaGreatDoor.DD
set_option linter.unusedVariables false
open Go.RowKit
set_option linter.unusedVariables false

set_option maxRecDepth 100000 in
set_option maxHeartbeats 8000000 in
theorem getF_path {w : World} {g : Nat} {q : Option Nat} {r : Rd} (h : Rdr w g q r) (hq : ∀ k, q = some k → k < w.heap.size) (k : Int) (hk : 0 ≤ k ∧ k < 256) (hL : PA.Laid w) (T : Int) (bt : Nat → Bool)
    (hT : PA.kTab k.toNat = T) (hp : (bits BinOp.and IntKind.u16 T 1 != 0) = true) (hd : (bits BinOp.and IntKind.u16 T 2 != 0) = false) (hc : (bits BinOp.and IntKind.u16 T 128 != 0) = false)
    (hbt : ∀ k, k < 5 → (bits BinOp.and IntKind.u16 T (4 * 2 ^ k) != 0) = bt k) :
    Calls Tryz.prog 25 #[.pointer (some ⟨g, 0, none⟩), .int .u8 k] w fun e w' => GotF w w' g q e (⟨0, k, 0, 0, 0, 0, (rdText r 200).1, [], numAt bt ((rdText r 200).2) 0, numAt bt ((rdText r 200).2) 1, numAt bt ((rdText r 200).2) 2, numAt bt ((rdText r 200).2) 3, numAt bt ((rdText r 200).2) 4, 0, [], 0⟩ : Fl) ((rdSt bt ((rdText r 200).2) 5)) := by
  have hgl : g < w.heap.size := h.lt
  have HBT : Hid _ := hbt
  obtain ⟨w1, hw1⟩ : ∃ X, X = (w.alloc (.cells #[.int .i64 0, .int .u8 0, .int .i64 0, .int .i64 0, .int .i64 0, .int .i64 0, .string ⟨#[]⟩, .slice none 0 0, .int .i64 0, .int .i64 0, .int .i64 0, .int .i64 0, .int .i64 0, .int .i64 0, .slice none 0 0, .slice none 0 0] 41)).alloc (.cells #[.int .i64 0, .int .u8 k, .int .i64 0, .int .i64 0, .int .i64 0, .int .i64 0, .string ⟨#[]⟩, .slice none 0 0, .int .i64 0, .int .i64 0, .int .i64 0, .int .i64 0, .int .i64 0, .int .i64 0, .slice none 0 0, .slice none 0 0] 41) := ⟨_, rfl⟩
  have hB1 : Below w.heap.size w w1 := by rw [hw1]; exact below2 _ _ _
  have hsz1 : w1.heap.size = w.heap.size + 2 := by rw [hw1]; simp
  have ho1 := of_any k hk w1 (hL.below hB1)
  rw [hT, hw1] at ho1
  have HG1 : Hid (GS w w1 g q r #[.int .i64 0, .int .u8 k, .int .i64 0, .int .i64 0, .int .i64 0, .int .i64 0, .string ⟨#[]⟩, .slice none 0 0, .int .i64 0, .int .i64 0, .int .i64 0, .int .i64 0, .int .i64 0, .int .i64 0, .slice none 0 0, .slice none 0 0]) := by
    refine ⟨h.keep (Chg.of_below hB1) (fun e => e) (fun _ _ e => e), ?_, ?_, (Chg.of_below hB1).weak fun _ _ e => e.elim, hgl, hq⟩
    · rw [hw1]
      have := heap_alloc_new (w.alloc (.cells #[.int .i64 0, .int .u8 0, .int .i64 0, .int .i64 0, .int .i64 0, .int .i64 0, .string ⟨#[]⟩, .slice none 0 0, .int .i64 0, .int .i64 0, .int .i64 0, .int .i64 0, .int .i64 0, .int .i64 0, .slice none 0 0, .slice none 0 0] 41)) (.cells #[.int .i64 0, .int .u8 k, .int .i64 0, .int .i64 0, .int .i64 0, .int .i64 0, .string ⟨#[]⟩, .slice none 0 0, .int .i64 0, .int .i64 0, .int .i64 0, .int .i64 0, .int .i64 0, .int .i64 0, .slice none 0 0, .slice none 0 0] 41)
      rwa [World.size_alloc] at this
    · rw [hw1, Below.heap_alloc _ _ _ (by simp)]
      exact heap_alloc_new w _
  clear h hbt hT hL hB1
  go_enter Tryz.func25, Tryz.ntmps25
  go_wp2_with fail
  refine ho1.mono ?_
  rintro e w2 ⟨rfl, hw2⟩
  rw [← hw1] at hw2
  subst hw2
  clear ho1 hw1
  have HSZ : Hid (w.heap.size + 2 ≤ w2.heap.size) := by show _ ≤ _; omega
  clear hsz1
  have ht := rText_any HG1.out.rd 200
  go_wp2_with fail
  refine ht.mono ?_
  rintro e w3 ⟨rfl, hR3, hC3⟩
  have hg3 := HG1.out.read hR3 hC3
  have x6 : w3.cell? ⟨w.heap.size + 1, 6, none⟩ = some (.string ⟨#[]⟩) := by rw [cell_at hg3.d]; rfl
  have k6 : w3.frozen? ⟨w.heap.size + 1, 6, none⟩ = false := frozen_at hg3.d 6
  obtain ⟨w4, hw4⟩ : ∃ X, X = w3.setCell ⟨w.heap.size + 1, 6, none⟩ (.string (mkS (rdText r 200).1)) := ⟨_, rfl⟩
  have hg4 : GS w w4 g q (rdText r 200).2 #[.int .i64 0, .int .u8 k, .int .i64 0, .int .i64 0, .int .i64 0, .int .i64 0, .string (mkS (rdText r 200).1), .slice none 0 0, .int .i64 0, .int .i64 0, .int .i64 0, .int .i64 0, .int .i64 0, .int .i64 0, .slice none 0 0, .slice none 0 0] := by rw [hw4]; exact hg3.set 6 (.string (mkS (rdText r 200).1))
  have HG4 : Hid (GS w w4 g q (rdText r 200).2 #[.int .i64 0, .int .u8 k, .int .i64 0, .int .i64 0, .int .i64 0, .int .i64 0, .string (mkS (rdText r 200).1), .slice none 0 0, .int .i64 0, .int .i64 0, .int .i64 0, .int .i64 0, .int .i64 0, .int .i64 0, .slice none 0 0, .slice none 0 0]) := hg4
  have HSZ4 : Hid (w.heap.size + 2 ≤ w4.heap.size) := by show _ ≤ _; have := heap_lt hg4.d; omega
  clear ht hR3 hC3 hg3 hg4 HG1 HSZ
  obtain ⟨wL, hwL⟩ : ∃ X, X = w4.alloc (.cells #[.int .i64 0, .int .i64 0, .int .i64 0, .int .i64 0, .int .i64 0] 96) := ⟨_, rfl⟩
  have hBL : Below w4.heap.size w4 wL := by rw [hwL]; exact (Below.refl _ _).alloc (Nat.le_refl _) _
  have HGL : Hid (GS w wL g q ((rdText r 200).2) #[.int .i64 0, .int .u8 k, .int .i64 0, .int .i64 0, .int .i64 0, .int .i64 0, .string (mkS (rdText r 200).1), .slice none 0 0, .int .i64 0, .int .i64 0, .int .i64 0, .int .i64 0, .int .i64 0, .int .i64 0, .slice none 0 0, .slice none 0 0]) := HG4.out.below hBL
  have HNL : Hid (wL.heap[w4.heap.size]? = some (.cells (arrUp bt ((rdText r 200).2) 0) 96 (0, 0))) := by rw [hwL]; exact heap_alloc_new w4 _
  have HPL : Hid (w.heap.size + 1 < w4.heap.size) := by show _ < _; have := HSZ4.out; omega
  have hsW : w4.heap.size = w3.heap.size := by rw [hw4]; simp [World.setCell]
  rw [hw4] at hwL
  clear hBL HG4 HSZ4
  go_wp2_with fail
  rw [← hwL, ← hsW]
  clear hwL
  generalize w4.heap.size = pl at HNL HPL hsW ⊢
  clear hsW hw4 x6 k6
  go_loopw [25] (fun c wr => ∃ (i : Nat), i ≤ 5 ∧ c = .int .i64 i ∧ GS w wr g q (rdSt bt ((rdText r 200).2) i) #[.int .i64 0, .int .u8 k, .int .i64 0, .int .i64 0, .int .i64 0, .int .i64 0, .string (mkS (rdText r 200).1), .slice none 0 0, .int .i64 0, .int .i64 0, .int .i64 0, .int .i64 0, .int .i64 0, .int .i64 0, .slice none 0 0, .slice none 0 0] ∧ wr.heap[pl]? = some (.cells (arrUp bt ((rdText r 200).2) i) 96 (0, 0))) (fun c _ => 5 - (intOf c).toNat)
  case atStart => exact ⟨0, by omega, rfl, HGL.out, HNL.out⟩
  case round =>
    obtain ⟨i, hi5, rfl, hGr, hNr⟩ := hrel
    have HGr : Hid (GS w wr g q (rdSt bt ((rdText r 200).2) i) #[.int .i64 0, .int .u8 k, .int .i64 0, .int .i64 0, .int .i64 0, .int .i64 0, .string (mkS (rdText r 200).1), .slice none 0 0, .int .i64 0, .int .i64 0, .int .i64 0, .int .i64 0, .int .i64 0, .int .i64 0, .slice none 0 0, .slice none 0 0]) := hGr
    have HNr : Hid (wr.heap[pl]? = some (.cells (arrUp bt ((rdText r 200).2) i) 96 (0, 0))) := hNr
    clear hGr hNr HGL HNL
    by_cases h5 : i < 5
    · have hbk := HBT.out i h5
      rw [← shl_k i h5] at hbk
      cases hbb : bt i with
      | false =>
        rw [hbb] at hbk
        have e1 : arrUp bt ((rdText r 200).2) (i + 1) = arrUp bt ((rdText r 200).2) i := arrUp_same _ _ _ hbb
        have e2 : rdSt bt ((rdText r 200).2) (i + 1) = rdSt bt ((rdText r 200).2) i := by rw [rdSt, hbb]; rfl
        have HE : Hid (GS w wr g q (rdSt bt ((rdText r 200).2) (i + 1)) #[.int .i64 0, .int .u8 k, .int .i64 0, .int .i64 0, .int .i64 0, .int .i64 0, .string (mkS (rdText r 200).1), .slice none 0 0, .int .i64 0, .int .i64 0, .int .i64 0, .int .i64 0, .int .i64 0, .int .i64 0, .slice none 0 0, .slice none 0 0] ∧ wr.heap[pl]? = some (.cells (arrUp bt ((rdText r 200).2) (i + 1)) 96 (0, 0))) := by rw [e1, e2]; exact ⟨HGr.out, HNr.out⟩
        clear e1 e2 hbb
        go_wp2
        exact ⟨⟨i + 1, by omega, by go_num, HE.out.1, HE.out.2⟩, by simp [intOf]; omega⟩
      | true =>
        rw [hbb] at hbk
        have hri := rInt_any HGr.out.rd
        have e2 : rdSt bt ((rdText r 200).2) (i + 1) = (rdInt (rdSt bt ((rdText r 200).2) i)).2 := by rw [rdSt, hbb]; rfl
        have e3 : numAt bt ((rdText r 200).2) i = (rdInt (rdSt bt ((rdText r 200).2) i)).1 := by unfold numAt; rw [hbb]; rfl
        have HS : Hid (∀ w6, Rdr w6 g q (rdInt (rdSt bt ((rdText r 200).2) i)).2 → Chg (One g) wr w6 → GS w (w6.setCell ⟨pl, i, none⟩ (.int .i64 (rdInt (rdSt bt ((rdText r 200).2) i)).1)) g q (rdSt bt ((rdText r 200).2) (i + 1)) #[.int .i64 0, .int .u8 k, .int .i64 0, .int .i64 0, .int .i64 0, .int .i64 0, .string (mkS (rdText r 200).1), .slice none 0 0, .int .i64 0, .int .i64 0, .int .i64 0, .int .i64 0, .int .i64 0, .int .i64 0, .slice none 0 0, .slice none 0 0] ∧ (w6.setCell ⟨pl, i, none⟩ (.int .i64 (rdInt (rdSt bt ((rdText r 200).2) i)).1)).heap[pl]? = some (.cells (arrUp bt ((rdText r 200).2) (i + 1)) 96 (0, 0)) ∧ w6.cell? ⟨pl, i, none⟩ = some (.int .i64 0) ∧ w6.frozen? ⟨pl, i, none⟩ = false) := by
          intro w6 hr hc
          have hg6 := HGr.out.read hr hc
          have hn6 : w6.heap[pl]? = some (.cells (arrUp bt ((rdText r 200).2) i) 96 (0, 0)) := by
            rw [hc.block pl (heap_lt HNr.out) (fun e => by have := HPL.out; have := HGr.out.g; unfold One at e; omega)]; exact HNr.out
          refine ⟨?_, ?_, ?_, frozen_at hn6 _⟩
          · rw [e2]
            exact hg6.turn (Chg.setCell (S := fun k => k = pl) w6 ⟨pl, i, none⟩ _ rfl) (fun k hk => by have := HPL.out; omega)
          · rw [heap_set hn6 i, ← e3, arrUp_set _ _ _ h5]
          · rw [cell_at hn6, arrUp_cell _ _ _ h5]
        clear e2 e3 hbb
        generalize (rdInt (rdSt bt ((rdText r 200).2) i)).1 = nn at hri HS
        generalize (rdInt (rdSt bt ((rdText r 200).2) i)).2 = rr at hri HS
        go_wp2_with fail
        refine hri.mono ?_
        rintro e w6 ⟨rfl, hR6, hC6⟩
        obtain ⟨s1, s2, s3, s4⟩ := HS.out w6 hR6 hC6
        have HS1 : Hid _ := s1
        have HS2 : Hid _ := s2
        clear hri hR6 hC6 s1 s2 HS
        go_wp2
        exact ⟨⟨i + 1, by omega, by go_num, HS1.out, HS2.out⟩, by simp [intOf]; omega⟩
    · obtain rfl : i = 5 := by omega
      obtain ⟨n0, n1, n2, n3, n4⟩ := cells5 HNr.out
      obtain ⟨z0, z1, z2, z3, z4, z5, z6, z7, z8, z9, z10, z11, z12, z13, z14, z15⟩ := cells16 HGr.out.d
      obtain ⟨f0, f1, f2, f3, f4, f5, f6, f7, f8, f9, f10, f11, f12, f13, f14, f15⟩ := frozen16 HGr.out.d
      simp only [numUp, Nat.reduceLT, if_true] at n0 n1 n2 n3 n4
      have hpl0 : pl ≠ w.heap.size + 1 := by have := HPL.out; omega
      have hlt1 : w.heap.size + 1 < wr.heap.size := heap_lt HGr.out.d
      have hlt2 : pl < wr.heap.size := heap_lt HNr.out
      generalize hA0 : numAt bt ((rdText r 200).2) 0 = a0 at n0
      have HA0 : Hid (numAt bt ((rdText r 200).2) 0 = a0) := hA0
      clear hA0
      generalize hA1 : numAt bt ((rdText r 200).2) 1 = a1 at n1
      have HA1 : Hid (numAt bt ((rdText r 200).2) 1 = a1) := hA1
      clear hA1
      generalize hA2 : numAt bt ((rdText r 200).2) 2 = a2 at n2
      have HA2 : Hid (numAt bt ((rdText r 200).2) 2 = a2) := hA2
      clear hA2
      generalize hA3 : numAt bt ((rdText r 200).2) 3 = a3 at n3
      have HA3 : Hid (numAt bt ((rdText r 200).2) 3 = a3) := hA3
      clear hA3
      generalize hA4 : numAt bt ((rdText r 200).2) 4 = a4 at n4
      have HA4 : Hid (numAt bt ((rdText r 200).2) 4 = a4) := hA4
      clear hA4
      have hfar : ∀ (X : World) (i j : Nat) (v : Value), (X.setCell ⟨w.heap.size + 1, i, none⟩ v).cell? ⟨pl, j, none⟩ = X.cell? ⟨pl, j, none⟩ := fun X i j v => World.cell?_of_block (a := ⟨pl, j, none⟩) (Below.heap_setCell X ⟨w.heap.size + 1, i, none⟩ v pl hpl0)
      have hdr : ∀ (X : World) (a : Addr), X.drew.cell? a = X.cell? a := fun _ _ => rfl
      go_wp2_with fail
      go_region_held3 (fun w' => w'.cell? ⟨pl, 0, none⟩ = some (.int .i64 a0) ∧ w'.cell? ⟨pl, 1, none⟩ = some (.int .i64 a1) ∧ w'.cell? ⟨pl, 2, none⟩ = some (.int .i64 a2) ∧ w'.cell? ⟨pl, 3, none⟩ = some (.int .i64 a3) ∧ w'.cell? ⟨pl, 4, none⟩ = some (.int .i64 a4)) (first | (simp only [hdr, hfar]; exact ⟨n0, n1, n2, n3, n4⟩) | go_keep) (fail)
      obtain ⟨w7, hw7⟩ : ∃ X, X = (((((wr.setCell ⟨w.heap.size + 1, 8, none⟩ (.int .i64 a0)).setCell ⟨w.heap.size + 1, 9, none⟩ (.int .i64 a1)).setCell ⟨w.heap.size + 1, 10, none⟩ (.int .i64 a2)).setCell ⟨w.heap.size + 1, 11, none⟩ (.int .i64 a3)).setCell ⟨w.heap.size + 1, 12, none⟩ (.int .i64 a4)).drew := ⟨_, rfl⟩
      have hg7 : GS w w7 g q (rdSt bt ((rdText r 200).2) 5) #[.int .i64 0, .int .u8 k, .int .i64 0, .int .i64 0, .int .i64 0, .int .i64 0, .string (mkS (rdText r 200).1), .slice none 0 0, .int .i64 a0, .int .i64 a1, .int .i64 a2, .int .i64 a3, .int .i64 a4, .int .i64 0, .slice none 0 0, .slice none 0 0] := by
        have := (((((HGr.out.set 8 (.int .i64 a0)).set 9 (.int .i64 a1)).set 10 (.int .i64 a2)).set 11 (.int .i64 a3)).set 12 (.int .i64 a4)).below ((Below.refl _ _).drew)
        rw [← hw7] at this
        exact this
      have HG7 : Hid _ := hg7
      rw [← hw7]
      clear hw7 hfar hdr n0 n1 n2 n3 n4 z0 z1 z2 z3 z4 z5 z6 z7 z8 z9 z10 z11 z12 z13 z14 z15 f0 f1 f2 f3 f4 f5 f6 f7 f8 f9 f10 f11 f12 f13 f14 f15 HGr HNr hlt1 hlt2 hpl0
      obtain ⟨z0, z1, z2, z3, z4, z5, z6, z7, z8, z9, z10, z11, z12, z13, z14, z15⟩ := cells16 HG7.out.d
      obtain ⟨y0, y1, y2, y3, y4, y5, y6, y7, y8, y9, y10, y11, y12, y13, y14, y15⟩ := cells16 HG7.out.res
      obtain ⟨g0, g1, g2, g3, g4, g5, g6, g7, g8, g9, g10, g11, g12, g13, g14, g15⟩ := frozen16 HG7.out.res
      have hltr : w.heap.size < w7.heap.size := heap_lt HG7.out.res
      obtain ⟨w8, hw8⟩ : ∃ X, X = ((((((((((((((((w7.setCell ⟨w.heap.size, 0, none⟩ (.int .i64 0)).setCell ⟨w.heap.size, 1, none⟩ (.int .u8 k)).setCell ⟨w.heap.size, 2, none⟩ (.int .i64 0)).setCell ⟨w.heap.size, 3, none⟩ (.int .i64 0)).setCell ⟨w.heap.size, 4, none⟩ (.int .i64 0)).setCell ⟨w.heap.size, 5, none⟩ (.int .i64 0)).setCell ⟨w.heap.size, 6, none⟩ (.string (mkS (rdText r 200).1))).setCell ⟨w.heap.size, 7, none⟩ (.slice none 0 0)).setCell ⟨w.heap.size, 8, none⟩ (.int .i64 a0)).setCell ⟨w.heap.size, 9, none⟩ (.int .i64 a1)).setCell ⟨w.heap.size, 10, none⟩ (.int .i64 a2)).setCell ⟨w.heap.size, 11, none⟩ (.int .i64 a3)).setCell ⟨w.heap.size, 12, none⟩ (.int .i64 a4)).setCell ⟨w.heap.size, 13, none⟩ (.int .i64 0)).setCell ⟨w.heap.size, 14, none⟩ (.slice none 0 0)).setCell ⟨w.heap.size, 15, none⟩ (.slice none 0 0)) := ⟨_, rfl⟩
      have h8 := set16 HG7.out.res (.int .i64 0) (.int .u8 k) (.int .i64 0) (.int .i64 0) (.int .i64 0) (.int .i64 0) (.string (mkS (rdText r 200).1)) (.slice none 0 0) (.int .i64 a0) (.int .i64 a1) (.int .i64 a2) (.int .i64 a3) (.int .i64 a4) (.int .i64 0) (.slice none 0 0) (.slice none 0 0)
      rw [← hw8] at h8
      have HR8 : Hid _ := sixteen HG7.out (chg16 w7 w.heap.size (.int .i64 0) (.int .u8 k) (.int .i64 0) (.int .i64 0) (.int .i64 0) (.int .i64 0) (.string (mkS (rdText r 200).1)) (.slice none 0 0) (.int .i64 a0) (.int .i64 a1) (.int .i64 a2) (.int .i64 a3) (.int .i64 a4) (.int .i64 0) (.slice none 0 0) (.slice none 0 0))
      have hcc := chg16 w7 w.heap.size (.int .i64 0) (.int .u8 k) (.int .i64 0) (.int .i64 0) (.int .i64 0) (.int .i64 0) (.string (mkS (rdText r 200).1)) (.slice none 0 0) (.int .i64 a0) (.int .i64 a1) (.int .i64 a2) (.int .i64 a3) (.int .i64 a4) (.int .i64 0) (.slice none 0 0) (.slice none 0 0)
      rw [← hw8] at HR8 hcc
      have HCC : Hid _ := hcc
      clear hcc
      go_wp2
      rw [← hw8]
      obtain ⟨x0, x1, x2, x3, x4, x5, x6, x7, x8, x9, x10, x11, x12, x13, x14, x15⟩ := cells16 h8
      refine bodyPost_ret (v := .agg #[.int .i64 0, .int .u8 k, .int .i64 0, .int .i64 0, .int .i64 0, .int .i64 0, .string (mkS (rdText r 200).1), .slice none 0 0, .int .i64 a0, .int .i64 a1, .int .i64 a2, .int .i64 a3, .int .i64 a4, .int .i64 0, .slice none 0 0, .slice none 0 0]) (by simp [results, Tryz.results25, go_sem, x0, x1, x2, x3, x4, x5, x6, x7, x8, x9, x10, x11, x12, x13, x14, x15]) rfl ?_
      unfold GotF
      dsimp only
      rw [HA0.out, HA1.out, HA2.out, HA3.out, HA4.out]
      exact ⟨none, 0, none, 0, rfl, HR8.out.1, HR8.out.2, .inl ⟨rfl, rfl⟩, (fun k hk => absurd hk (bk_zero _ _ _)), .inl ⟨rfl, rfl⟩, (fun k hk => absurd hk (bk_zero _ _ _))⟩
end Go.Proofs.YtaeoafedfgbcaaaGreatDoor.DD
