/- The walk of the document's own read of a body: kind 5. The walk of the document's own read of a body: kind 7x. The walk of the document's own read of a body: kind 9. The walk of the document's own read of a body: kind 8. -/
import Derived.Test.YtaeoafedfgbcaaaGreatDoorRhA
namespace Go.Proofs.YtaeoafedfgbcaaaGreatDoor.DD
set_option linter.unusedVariables false
open Go.RowKit
set_option linter.unusedVariables false

set_option maxRecDepth 100000 in
set_option maxHeartbeats 8000000 in
theorem rread5 {w : World} {g : Nat} {q : Option Nat} {r : Rd} (h : Rdf w g q r) (hq : ∀ k, q = some k → k < w.heap.size) (zx se tu xi ti : Int) :
    Calls Tryz.prog 35 #[.pointer (some ⟨g, 0, none⟩), .agg #[.int .i64 zx, .int .u8 5, .int .i64 se, .int .i64 tu, .int .i64 xi, .int .i64 ti, .string ⟨#[]⟩, .slice none 0 0, .int .i64 0, .int .i64 0, .int .i64 0, .int .i64 0, .int .i64 0, .int .i64 0, .slice none 0 0, .slice none 0 0], .bool false] w fun e w' => GotG w w' g q e (hd5 (rdBody 5 r).1 zx se tu xi ti) ((rdBody 5 r).2) := by
  have hgl : g < w.heap.size := RdAt.lt h
  obtain ⟨w1, hw1⟩ : ∃ X, X = (w.alloc (.cells #[.int .i64 zx, .int .u8 5, .int .i64 se, .int .i64 tu, .int .i64 xi, .int .i64 ti, .string ⟨#[]⟩, .slice none 0 0, .int .i64 0, .int .i64 0, .int .i64 0, .int .i64 0, .int .i64 0, .int .i64 0, .slice none 0 0, .slice none 0 0] 41)).alloc (.cells #[.int .i64 0, .int .u8 0, .int .i64 0, .int .i64 0, .int .i64 0, .int .i64 0, .string ⟨#[]⟩, .slice none 0 0, .int .i64 0, .int .i64 0, .int .i64 0, .int .i64 0, .int .i64 0, .int .i64 0, .slice none 0 0, .slice none 0 0] 41) := ⟨_, rfl⟩
  have hB1 : Below w.heap.size w w1 := by rw [hw1]; exact below2 _ _ _
  have HG1 : Hid (GR w w1 g q r #[.int .i64 zx, .int .u8 5, .int .i64 se, .int .i64 tu, .int .i64 xi, .int .i64 ti, .string ⟨#[]⟩, .slice none 0 0, .int .i64 0, .int .i64 0, .int .i64 0, .int .i64 0, .int .i64 0, .int .i64 0, .slice none 0 0, .slice none 0 0]) := by
    refine ⟨RdAt.keep h (Chg.of_below hB1) (fun e => e) (fun _ _ e => e), ?_, ?_, (Chg.of_below hB1).weak fun _ _ e => e.elim, hgl, hq⟩
    · rw [hw1, Below.heap_alloc _ _ _ (by simp)]
      exact heap_alloc_new w _
    · rw [hw1]
      have := heap_alloc_new (w.alloc (.cells #[.int .i64 zx, .int .u8 5, .int .i64 se, .int .i64 tu, .int .i64 xi, .int .i64 ti, .string ⟨#[]⟩, .slice none 0 0, .int .i64 0, .int .i64 0, .int .i64 0, .int .i64 0, .int .i64 0, .int .i64 0, .slice none 0 0, .slice none 0 0] 41)) (.cells #[.int .i64 0, .int .u8 0, .int .i64 0, .int .i64 0, .int .i64 0, .int .i64 0, .string ⟨#[]⟩, .slice none 0 0, .int .i64 0, .int .i64 0, .int .i64 0, .int .i64 0, .int .i64 0, .int .i64 0, .slice none 0 0, .slice none 0 0] 41)
      rwa [World.size_alloc] at this
  clear h hB1
  have ht := rfInt_any HG1.out.rd
  obtain ⟨x1, r1, hX1⟩ : ∃ a b, rdInt (r) = (a, b) := ⟨_, _, rfl⟩
  have HX1 : Hid (rdInt (r) = (x1, r1)) := hX1
  rw [hX1] at ht
  dsimp only at ht
  clear hX1
  rw [hw1] at ht
  go_enter Tryz.func35, Tryz.ntmps35
  go_wp2_with fail
  refine ht.mono ?_
  rintro e v2 ⟨rfl, hR, hC⟩
  rw [← hw1] at hC
  have HV : Hid (GR w v2 g q r1 #[.int .i64 zx, .int .u8 5, .int .i64 se, .int .i64 tu, .int .i64 xi, .int .i64 ti, .string ⟨#[]⟩, .slice none 0 0, .int .i64 0, .int .i64 0, .int .i64 0, .int .i64 0, .int .i64 0, .int .i64 0, .slice none 0 0, .slice none 0 0]) := HG1.out.read hR hC
  obtain ⟨w2, hw2⟩ : ∃ X, X = v2.setCell ⟨w.heap.size, 8, none⟩ (.int .i64 x1) := ⟨_, rfl⟩
  have HG2 : Hid (GR w w2 g q r1 #[.int .i64 zx, .int .u8 5, .int .i64 se, .int .i64 tu, .int .i64 xi, .int .i64 ti, .string ⟨#[]⟩, .slice none 0 0, .int .i64 x1, .int .i64 0, .int .i64 0, .int .i64 0, .int .i64 0, .int .i64 0, .slice none 0 0, .slice none 0 0]) := by rw [hw2]; exact HV.out.set 8 _
  obtain ⟨z0, z1, z2, z3, z4, z5, z6, z7, z8, z9, z10, z11, z12, z13, z14, z15⟩ := cells16 HV.out.d
  obtain ⟨f0, f1, f2, f3, f4, f5, f6, f7, f8, f9, f10, f11, f12, f13, f14, f15⟩ := frozen16 HV.out.d
  clear ht hR hC HG1 hw1 z0 z1 z2 z3 z4 z5 z6 z7 z9 z10 z11 z12 z13 z14 z15 f0 f1 f2 f3 f4 f5 f6 f7 f9 f10 f11 f12 f13 f14 f15
  as_aux_lemma =>
  have hrg := range16 HG2.out.d
  have hth := there16 HG2.out.res
  have hon : (#[.int .i64 zx, .int .u8 5, .int .i64 se, .int .i64 tu, .int .i64 xi, .int .i64 ti, .string ⟨#[]⟩, .slice none 0 0, .int .i64 x1, .int .i64 0, .int .i64 0, .int .i64 0, .int .i64 0, .int .i64 0, .slice none 0 0, .slice none 0 0] : Array Value).all (·.oneCell') = true := all_oneCell_toArray (by intro v hv; simp only [List.mem_cons, List.not_mem_nil, or_false] at hv; rcases hv with rfl | rfl | rfl | rfl | rfl | rfl | rfl | rfl | rfl | rfl | rfl | rfl | rfl | rfl | rfl | rfl <;> rfl)
  obtain ⟨w8, hw8⟩ : ∃ X, X = w2.setCells (w.heap.size + 1) 0 [.int .i64 zx, .int .u8 5, .int .i64 se, .int .i64 tu, .int .i64 xi, .int .i64 ti, .string ⟨#[]⟩, .slice none 0 0, .int .i64 x1, .int .i64 0, .int .i64 0, .int .i64 0, .int .i64 0, .int .i64 0, .slice none 0 0, .slice none 0 0] := ⟨_, rfl⟩
  obtain ⟨h8, hcc⟩ := set16L HG2.out.res (.int .i64 zx) (.int .u8 5) (.int .i64 se) (.int .i64 tu) (.int .i64 xi) (.int .i64 ti) (.string ⟨#[]⟩) (.slice none 0 0) (.int .i64 x1) (.int .i64 0) (.int .i64 0) (.int .i64 0) (.int .i64 0) (.int .i64 0) (.slice none 0 0) (.slice none 0 0)
  rw [← hw8] at h8 hcc
  have HR8 : Hid _ := sixteenR HG2.out hcc
  have HCC : Hid _ := hcc
  have HH8 : Hid _ := h8
  rw [hw2] at hrg hth
  clear h8 hcc
  go_wp2_with (first | (refine wpList_load_mid rfl 41 _ rfl w.heap.size 0 rfl [.int .i64 zx, .int .u8 5, .int .i64 se, .int .i64 tu, .int .i64 xi, .int .i64 ti, .string ⟨#[]⟩, .slice none 0 0, .int .i64 x1, .int .i64 0, .int .i64 0, .int .i64 0, .int .i64 0, .int .i64 0, .slice none 0 0, .slice none 0 0] _ hrg Tryz.underlying41 rfl infoDs ?_) | (refine wpList_store_mid rfl 41 _ _ rfl (w.heap.size + 1) 0 #[.int .i64 zx, .int .u8 5, .int .i64 se, .int .i64 tu, .int .i64 xi, .int .i64 ti, .string ⟨#[]⟩, .slice none 0 0, .int .i64 x1, .int .i64 0, .int .i64 0, .int .i64 0, .int .i64 0, .int .i64 0, .slice none 0 0, .slice none 0 0] rfl rfl hth infoDs hon ?_))
  rw [← hw2, ← hw8]
  obtain ⟨x0_, x1_, x2_, x3_, x4_, x5_, x6_, x7_, x8_, x9_, x10_, x11_, x12_, x13_, x14_, x15_⟩ := cells16 HH8.out
  refine bodyPost_ret (v := .agg #[.int .i64 zx, .int .u8 5, .int .i64 se, .int .i64 tu, .int .i64 xi, .int .i64 ti, .string ⟨#[]⟩, .slice none 0 0, .int .i64 x1, .int .i64 0, .int .i64 0, .int .i64 0, .int .i64 0, .int .i64 0, .slice none 0 0, .slice none 0 0]) (by simp [results, Tryz.results35, go_sem, x0_, x1_, x2_, x3_, x4_, x5_, x6_, x7_, x8_, x9_, x10_, x11_, x12_, x13_, x14_, x15_]) rfl ?_
  unfold GotG
  simp only [rdBody, fl0, hd5, Int.reduceEq, if_true, if_false, HX1.out]
  exact ⟨none, 0, none, 0, rfl, HR8.out.1, HR8.out.2, .inl ⟨rfl, rfl⟩, (fun k hk => absurd hk (bk_zero _ _ _)), .inl ⟨rfl, rfl⟩, (fun k hk => absurd hk (bk_zero _ _ _))⟩
end Go.Proofs.YtaeoafedfgbcaaaGreatDoor.DD

namespace Go.Proofs.YtaeoafedfgbcaaaGreatDoor.DD
set_option linter.unusedVariables false
open Go.RowKit
set_option linter.unusedVariables false

set_option maxRecDepth 100000 in
set_option maxHeartbeats 8000000 in
theorem rread7 {w : World} {g : Nat} {q : Option Nat} {r : Rd} (h : Rdf w g q r) (hq : ∀ k, q = some k → k < w.heap.size) (zx se tu xi ti : Int) (deep : Bool) :
    Calls Tryz.prog 35 #[.pointer (some ⟨g, 0, none⟩), .agg #[.int .i64 zx, .int .u8 7, .int .i64 se, .int .i64 tu, .int .i64 xi, .int .i64 ti, .string ⟨#[]⟩, .slice none 0 0, .int .i64 0, .int .i64 0, .int .i64 0, .int .i64 0, .int .i64 0, .int .i64 0, .slice none 0 0, .slice none 0 0], .bool deep] w fun e w' => GotG w w' g q e (hd5 (rdBody 7 r).1 zx se tu xi ti) ((rdBody 7 r).2) := by
  have hgl : g < w.heap.size := RdAt.lt h
  obtain ⟨w1, hw1⟩ : ∃ X, X = (w.alloc (.cells #[.int .i64 zx, .int .u8 7, .int .i64 se, .int .i64 tu, .int .i64 xi, .int .i64 ti, .string ⟨#[]⟩, .slice none 0 0, .int .i64 0, .int .i64 0, .int .i64 0, .int .i64 0, .int .i64 0, .int .i64 0, .slice none 0 0, .slice none 0 0] 41)).alloc (.cells #[.int .i64 0, .int .u8 0, .int .i64 0, .int .i64 0, .int .i64 0, .int .i64 0, .string ⟨#[]⟩, .slice none 0 0, .int .i64 0, .int .i64 0, .int .i64 0, .int .i64 0, .int .i64 0, .int .i64 0, .slice none 0 0, .slice none 0 0] 41) := ⟨_, rfl⟩
  have hB1 : Below w.heap.size w w1 := by rw [hw1]; exact below2 _ _ _
  have HG1 : Hid (GR w w1 g q r #[.int .i64 zx, .int .u8 7, .int .i64 se, .int .i64 tu, .int .i64 xi, .int .i64 ti, .string ⟨#[]⟩, .slice none 0 0, .int .i64 0, .int .i64 0, .int .i64 0, .int .i64 0, .int .i64 0, .int .i64 0, .slice none 0 0, .slice none 0 0]) := by
    refine ⟨RdAt.keep h (Chg.of_below hB1) (fun e => e) (fun _ _ e => e), ?_, ?_, (Chg.of_below hB1).weak fun _ _ e => e.elim, hgl, hq⟩
    · rw [hw1, Below.heap_alloc _ _ _ (by simp)]
      exact heap_alloc_new w _
    · rw [hw1]
      have := heap_alloc_new (w.alloc (.cells #[.int .i64 zx, .int .u8 7, .int .i64 se, .int .i64 tu, .int .i64 xi, .int .i64 ti, .string ⟨#[]⟩, .slice none 0 0, .int .i64 0, .int .i64 0, .int .i64 0, .int .i64 0, .int .i64 0, .int .i64 0, .slice none 0 0, .slice none 0 0] 41)) (.cells #[.int .i64 0, .int .u8 0, .int .i64 0, .int .i64 0, .int .i64 0, .int .i64 0, .string ⟨#[]⟩, .slice none 0 0, .int .i64 0, .int .i64 0, .int .i64 0, .int .i64 0, .int .i64 0, .int .i64 0, .slice none 0 0, .slice none 0 0] 41)
      rwa [World.size_alloc] at this
  clear h hB1
  have hle := rdText_le r 1048576 (by decide)
  have ht := rfBytes_any HG1.out.rd 1048576 (by omega)
  obtain ⟨x1, r1, hX1⟩ : ∃ a b, rdText r 1048576 = (a, b) := ⟨_, _, rfl⟩
  have HX1 : Hid (rdText r 1048576 = (x1, r1)) := hX1
  rw [hX1] at ht hle
  dsimp only at ht hle
  clear hX1
  rw [hw1] at ht
  go_enter Tryz.func35, Tryz.ntmps35
  go_wp2_with fail
  refine ht.mono ?_
  rintro e v2 ⟨vb, rfl, hBs, hR, hC, hNew⟩
  rw [← hw1] at hC hNew
  have HV : Hid (GR w v2 g q r1 #[.int .i64 zx, .int .u8 7, .int .i64 se, .int .i64 tu, .int .i64 xi, .int .i64 ti, .string ⟨#[]⟩, .slice none 0 0, .int .i64 0, .int .i64 0, .int .i64 0, .int .i64 0, .int .i64 0, .int .i64 0, .slice none 0 0, .slice none 0 0]) := HG1.out.read hR hC
  have hgt := rf4Get_or hBs (by omega)
  clear ht hBs hR hC hNew HG1 hw1 hle
  go_wp2_with fail
  refine hgt.mono ?_
  rintro e v3 (⟨hno, rfl, hB3⟩ | ⟨ver, ml, AM, CM, hyes, rfl, hM3, hMn, hB3⟩)
  · have HNO : Hid (cfgOf x1 = none) := hno
    obtain ⟨w1, hw1⟩ : ∃ X, X = v3.alloc (.cells #[.int .i64 0, .slice none 0 0] 39) := ⟨_, rfl⟩
    have HG1 : Hid (GR w w1 g q r1 #[.int .i64 zx, .int .u8 7, .int .i64 se, .int .i64 tu, .int .i64 xi, .int .i64 ti, .string ⟨#[]⟩, .slice none 0 0, .int .i64 0, .int .i64 0, .int .i64 0, .int .i64 0, .int .i64 0, .int .i64 0, .slice none 0 0, .slice none 0 0]) := by rw [hw1]; exact (HV.out.below hB3).below ((Below.refl _ _).alloc (Nat.le_refl _) _)
    clear hgt hno hB3 HV
    as_aux_lemma =>
    have hrg := range16 HG1.out.d
    have hth := there16 HG1.out.res
    have hon : (#[.int .i64 zx, .int .u8 7, .int .i64 se, .int .i64 tu, .int .i64 xi, .int .i64 ti, .string ⟨#[]⟩, .slice none 0 0, .int .i64 0, .int .i64 0, .int .i64 0, .int .i64 0, .int .i64 0, .int .i64 0, .slice none 0 0, .slice none 0 0] : Array Value).all (·.oneCell') = true := all_oneCell_toArray (by intro v hv; simp only [List.mem_cons, List.not_mem_nil, or_false] at hv; rcases hv with rfl | rfl | rfl | rfl | rfl | rfl | rfl | rfl | rfl | rfl | rfl | rfl | rfl | rfl | rfl | rfl <;> rfl)
    obtain ⟨w8, hw8⟩ : ∃ X, X = w1.setCells (w.heap.size + 1) 0 [.int .i64 zx, .int .u8 7, .int .i64 se, .int .i64 tu, .int .i64 xi, .int .i64 ti, .string ⟨#[]⟩, .slice none 0 0, .int .i64 0, .int .i64 0, .int .i64 0, .int .i64 0, .int .i64 0, .int .i64 0, .slice none 0 0, .slice none 0 0] := ⟨_, rfl⟩
    obtain ⟨h8, hcc⟩ := set16L HG1.out.res (.int .i64 zx) (.int .u8 7) (.int .i64 se) (.int .i64 tu) (.int .i64 xi) (.int .i64 ti) (.string ⟨#[]⟩) (.slice none 0 0) (.int .i64 0) (.int .i64 0) (.int .i64 0) (.int .i64 0) (.int .i64 0) (.int .i64 0) (.slice none 0 0) (.slice none 0 0)
    rw [← hw8] at h8 hcc
    have HR8 : Hid _ := sixteenR HG1.out hcc
    have HCC : Hid _ := hcc
    have HH8 : Hid _ := h8
    rw [hw1] at hrg hth
    clear h8 hcc
    go_wp2_with (first | (refine wpList_load_mid rfl 41 _ rfl w.heap.size 0 rfl [.int .i64 zx, .int .u8 7, .int .i64 se, .int .i64 tu, .int .i64 xi, .int .i64 ti, .string ⟨#[]⟩, .slice none 0 0, .int .i64 0, .int .i64 0, .int .i64 0, .int .i64 0, .int .i64 0, .int .i64 0, .slice none 0 0, .slice none 0 0] _ hrg Tryz.underlying41 rfl infoDs ?_) | (refine wpList_store_mid rfl 41 _ _ rfl (w.heap.size + 1) 0 #[.int .i64 zx, .int .u8 7, .int .i64 se, .int .i64 tu, .int .i64 xi, .int .i64 ti, .string ⟨#[]⟩, .slice none 0 0, .int .i64 0, .int .i64 0, .int .i64 0, .int .i64 0, .int .i64 0, .int .i64 0, .slice none 0 0, .slice none 0 0] rfl rfl hth infoDs hon ?_))
    rw [← hw1, ← hw8]
    obtain ⟨x0_, x1_, x2_, x3_, x4_, x5_, x6_, x7_, x8_, x9_, x10_, x11_, x12_, x13_, x14_, x15_⟩ := cells16 HH8.out
    refine bodyPost_ret (v := .agg #[.int .i64 zx, .int .u8 7, .int .i64 se, .int .i64 tu, .int .i64 xi, .int .i64 ti, .string ⟨#[]⟩, .slice none 0 0, .int .i64 0, .int .i64 0, .int .i64 0, .int .i64 0, .int .i64 0, .int .i64 0, .slice none 0 0, .slice none 0 0]) (by simp [results, Tryz.results35, go_sem, x0_, x1_, x2_, x3_, x4_, x5_, x6_, x7_, x8_, x9_, x10_, x11_, x12_, x13_, x14_, x15_]) rfl ?_
    unfold GotG
    have hcx : (cfgOr (cfgOf (rdText r 1048576).1)) = (0, []) := by rw [HX1.out]; dsimp only; rw [HNO.out]; rfl
    have hrx : (rdText r 1048576).2 = r1 := by rw [HX1.out]
    simp only [rdBody, fl0, hd5, Int.reduceEq, if_true, if_false, hcx, hrx]
    exact ⟨none, 0, none, 0, rfl, HR8.out.1, HR8.out.2, .inl ⟨rfl, rfl⟩, (fun k hk => absurd hk (bk_zero _ _ _)), .inl ⟨rfl, rfl⟩, (fun k hk => absurd hk (bk_zero _ _ _))⟩
  · have HYES : Hid (cfgOf x1 = some (ver, ml)) := hyes
    obtain ⟨v4, hv4⟩ : ∃ X, X = v3.alloc (.cells #[.int .i64 ver, .slice AM ml.length CM] 39) := ⟨_, rfl⟩
    have hB4 : Below v3.heap.size v3 v4 := by rw [hv4]; exact (Below.refl _ _).alloc (Nat.le_refl _) _
    have HG4 : Hid (GR w v4 g q r1 #[.int .i64 zx, .int .u8 7, .int .i64 se, .int .i64 tu, .int .i64 xi, .int .i64 ti, .string ⟨#[]⟩, .slice none 0 0, .int .i64 0, .int .i64 0, .int .i64 0, .int .i64 0, .int .i64 0, .int .i64 0, .slice none 0 0, .slice none 0 0]) := (HV.out.below hB3).below hB4
    obtain ⟨w1, hw1⟩ : ∃ X, X = (v4.setCell ⟨w.heap.size, 13, none⟩ (.int .i64 ver)).setCell ⟨w.heap.size, 14, none⟩ (.slice AM ml.length CM) := ⟨_, rfl⟩
    have HG1 : Hid (GR w w1 g q r1 #[.int .i64 zx, .int .u8 7, .int .i64 se, .int .i64 tu, .int .i64 xi, .int .i64 ti, .string ⟨#[]⟩, .slice none 0 0, .int .i64 0, .int .i64 0, .int .i64 0, .int .i64 0, .int .i64 0, .int .i64 ver, .slice AM ml.length CM, .slice none 0 0]) := by rw [hw1]; exact (HG4.out.set 13 _).set 14 _
    have hs2 : w.heap.size + 1 < v2.heap.size := heap_lt HV.out.res
    have HMN : Hid (∀ k, bk (.slice AM ml.length CM) = some k → w.heap.size + 2 ≤ k) := fun k hk => by have := (hMn k hk).1; omega
    have HM : Hid (Mems w1 (.slice AM ml.length CM) ml) := by
      rw [hw1]
      exact ((hM3.below' hB4).keep (Chg.setCell (S := fun k => k = w.heap.size) v4 ⟨w.heap.size, 13, none⟩ _ rfl) (fun k hk e => by have := HMN.out k hk; omega)).keep (Chg.setCell (S := fun k => k = w.heap.size) _ ⟨w.heap.size, 14, none⟩ _ rfl) (fun k hk e => by have := HMN.out k hk; omega)
    obtain ⟨-, -, -, -, -, -, -, -, -, -, -, -, -, z13, z14, -⟩ := cells16 HG4.out.d
    obtain ⟨-, -, -, -, -, -, -, -, -, -, -, -, -, f13, f14, -⟩ := frozen16 HG4.out.d
    have hlt4 : w.heap.size < v4.heap.size := heap_lt HG4.out.d
    rw [hv4] at z13 z14 f13 f14 hlt4 hw1
    clear hgt hyes hM3 hMn hB3 HV hB4 HG4 hv4 hs2
    as_aux_lemma =>
    have hrg := range16 HG1.out.d
    have hth := there16 HG1.out.res
    have hon : (#[.int .i64 zx, .int .u8 7, .int .i64 se, .int .i64 tu, .int .i64 xi, .int .i64 ti, .string ⟨#[]⟩, .slice none 0 0, .int .i64 0, .int .i64 0, .int .i64 0, .int .i64 0, .int .i64 0, .int .i64 ver, .slice AM ml.length CM, .slice none 0 0] : Array Value).all (·.oneCell') = true := all_oneCell_toArray (by intro v hv; simp only [List.mem_cons, List.not_mem_nil, or_false] at hv; rcases hv with rfl | rfl | rfl | rfl | rfl | rfl | rfl | rfl | rfl | rfl | rfl | rfl | rfl | rfl | rfl | rfl <;> rfl)
    obtain ⟨w8, hw8⟩ : ∃ X, X = w1.setCells (w.heap.size + 1) 0 [.int .i64 zx, .int .u8 7, .int .i64 se, .int .i64 tu, .int .i64 xi, .int .i64 ti, .string ⟨#[]⟩, .slice none 0 0, .int .i64 0, .int .i64 0, .int .i64 0, .int .i64 0, .int .i64 0, .int .i64 ver, .slice AM ml.length CM, .slice none 0 0] := ⟨_, rfl⟩
    obtain ⟨h8, hcc⟩ := set16L HG1.out.res (.int .i64 zx) (.int .u8 7) (.int .i64 se) (.int .i64 tu) (.int .i64 xi) (.int .i64 ti) (.string ⟨#[]⟩) (.slice none 0 0) (.int .i64 0) (.int .i64 0) (.int .i64 0) (.int .i64 0) (.int .i64 0) (.int .i64 ver) (.slice AM ml.length CM) (.slice none 0 0)
    rw [← hw8] at h8 hcc
    have HR8 : Hid _ := sixteenR HG1.out hcc
    have HCC : Hid _ := hcc
    have HH8 : Hid _ := h8
    rw [hw1] at hrg hth
    clear h8 hcc
    go_wp2_with (first | (refine wpList_load_mid rfl 41 _ rfl w.heap.size 0 rfl [.int .i64 zx, .int .u8 7, .int .i64 se, .int .i64 tu, .int .i64 xi, .int .i64 ti, .string ⟨#[]⟩, .slice none 0 0, .int .i64 0, .int .i64 0, .int .i64 0, .int .i64 0, .int .i64 0, .int .i64 ver, .slice AM ml.length CM, .slice none 0 0] _ hrg Tryz.underlying41 rfl infoDs ?_) | (refine wpList_store_mid rfl 41 _ _ rfl (w.heap.size + 1) 0 #[.int .i64 zx, .int .u8 7, .int .i64 se, .int .i64 tu, .int .i64 xi, .int .i64 ti, .string ⟨#[]⟩, .slice none 0 0, .int .i64 0, .int .i64 0, .int .i64 0, .int .i64 0, .int .i64 0, .int .i64 ver, .slice AM ml.length CM, .slice none 0 0] rfl rfl hth infoDs hon ?_))
    rw [← hw1, ← hw8]
    obtain ⟨x0_, x1_, x2_, x3_, x4_, x5_, x6_, x7_, x8_, x9_, x10_, x11_, x12_, x13_, x14_, x15_⟩ := cells16 HH8.out
    refine bodyPost_ret (v := .agg #[.int .i64 zx, .int .u8 7, .int .i64 se, .int .i64 tu, .int .i64 xi, .int .i64 ti, .string ⟨#[]⟩, .slice none 0 0, .int .i64 0, .int .i64 0, .int .i64 0, .int .i64 0, .int .i64 0, .int .i64 ver, .slice AM ml.length CM, .slice none 0 0]) (by simp [results, Tryz.results35, go_sem, x0_, x1_, x2_, x3_, x4_, x5_, x6_, x7_, x8_, x9_, x10_, x11_, x12_, x13_, x14_, x15_]) rfl ?_
    unfold GotG
    have hcx : (cfgOr (cfgOf (rdText r 1048576).1)) = (ver, ml) := by rw [HX1.out]; dsimp only; rw [HYES.out]; rfl
    have hrx : (rdText r 1048576).2 = r1 := by rw [HX1.out]
    simp only [rdBody, fl0, hd5, Int.reduceEq, if_true, if_false, hcx, hrx]
    exact ⟨none, 0, AM, CM, rfl, HR8.out.1, HR8.out.2, .inl ⟨rfl, rfl⟩, (fun k hk => absurd hk (bk_zero _ _ _)), HM.out.keep HCC.out (fun k hk e => by have := HMN.out k hk; omega), (fun k hk => by have := HMN.out k hk; omega)⟩
end Go.Proofs.YtaeoafedfgbcaaaGreatDoor.DD

namespace Go.Proofs.YtaeoafedfgbcaaaGreatDoor.DD
set_option linter.unusedVariables false
open Go.RowKit
set_option linter.unusedVariables false

set_option maxRecDepth 100000 in
set_option maxHeartbeats 8000000 in
theorem rread9 {w : World} {g : Nat} {q : Option Nat} {r : Rd} (h : Rdf w g q r) (hq : ∀ k, q = some k → k < w.heap.size) (zx se tu xi ti : Int) (deep : Bool) :
    Calls Tryz.prog 35 #[.pointer (some ⟨g, 0, none⟩), .agg #[.int .i64 zx, .int .u8 9, .int .i64 se, .int .i64 tu, .int .i64 xi, .int .i64 ti, .string ⟨#[]⟩, .slice none 0 0, .int .i64 0, .int .i64 0, .int .i64 0, .int .i64 0, .int .i64 0, .int .i64 0, .slice none 0 0, .slice none 0 0], .bool deep] w fun e w' => GotG w w' g q e (hd5 (rdBody 9 r).1 zx se tu xi ti) ((rdBody 9 r).2) := by
  have hgl : g < w.heap.size := RdAt.lt h
  obtain ⟨w1, hw1⟩ : ∃ X, X = (w.alloc (.cells #[.int .i64 zx, .int .u8 9, .int .i64 se, .int .i64 tu, .int .i64 xi, .int .i64 ti, .string ⟨#[]⟩, .slice none 0 0, .int .i64 0, .int .i64 0, .int .i64 0, .int .i64 0, .int .i64 0, .int .i64 0, .slice none 0 0, .slice none 0 0] 41)).alloc (.cells #[.int .i64 0, .int .u8 0, .int .i64 0, .int .i64 0, .int .i64 0, .int .i64 0, .string ⟨#[]⟩, .slice none 0 0, .int .i64 0, .int .i64 0, .int .i64 0, .int .i64 0, .int .i64 0, .int .i64 0, .slice none 0 0, .slice none 0 0] 41) := ⟨_, rfl⟩
  have hB1 : Below w.heap.size w w1 := by rw [hw1]; exact below2 _ _ _
  have HG1 : Hid (GR w w1 g q r #[.int .i64 zx, .int .u8 9, .int .i64 se, .int .i64 tu, .int .i64 xi, .int .i64 ti, .string ⟨#[]⟩, .slice none 0 0, .int .i64 0, .int .i64 0, .int .i64 0, .int .i64 0, .int .i64 0, .int .i64 0, .slice none 0 0, .slice none 0 0]) := by
    refine ⟨RdAt.keep h (Chg.of_below hB1) (fun e => e) (fun _ _ e => e), ?_, ?_, (Chg.of_below hB1).weak fun _ _ e => e.elim, hgl, hq⟩
    · rw [hw1, Below.heap_alloc _ _ _ (by simp)]
      exact heap_alloc_new w _
    · rw [hw1]
      have := heap_alloc_new (w.alloc (.cells #[.int .i64 zx, .int .u8 9, .int .i64 se, .int .i64 tu, .int .i64 xi, .int .i64 ti, .string ⟨#[]⟩, .slice none 0 0, .int .i64 0, .int .i64 0, .int .i64 0, .int .i64 0, .int .i64 0, .int .i64 0, .slice none 0 0, .slice none 0 0] 41)) (.cells #[.int .i64 0, .int .u8 0, .int .i64 0, .int .i64 0, .int .i64 0, .int .i64 0, .string ⟨#[]⟩, .slice none 0 0, .int .i64 0, .int .i64 0, .int .i64 0, .int .i64 0, .int .i64 0, .int .i64 0, .slice none 0 0, .slice none 0 0] 41)
      rwa [World.size_alloc] at this
  clear h hB1
  have ht := rfInt_any HG1.out.rd
  obtain ⟨x1, r1, hX1⟩ : ∃ a b, rdInt (r) = (a, b) := ⟨_, _, rfl⟩
  have HX1 : Hid (rdInt (r) = (x1, r1)) := hX1
  rw [hX1] at ht
  dsimp only at ht
  clear hX1
  rw [hw1] at ht
  go_enter Tryz.func35, Tryz.ntmps35
  go_wp2_with fail
  refine ht.mono ?_
  rintro e v2 ⟨rfl, hR, hC⟩
  rw [← hw1] at hC
  have HV : Hid (GR w v2 g q r1 #[.int .i64 zx, .int .u8 9, .int .i64 se, .int .i64 tu, .int .i64 xi, .int .i64 ti, .string ⟨#[]⟩, .slice none 0 0, .int .i64 0, .int .i64 0, .int .i64 0, .int .i64 0, .int .i64 0, .int .i64 0, .slice none 0 0, .slice none 0 0]) := HG1.out.read hR hC
  obtain ⟨w2, hw2⟩ : ∃ X, X = v2.setCell ⟨w.heap.size, 12, none⟩ (.int .i64 x1) := ⟨_, rfl⟩
  have HG2 : Hid (GR w w2 g q r1 #[.int .i64 zx, .int .u8 9, .int .i64 se, .int .i64 tu, .int .i64 xi, .int .i64 ti, .string ⟨#[]⟩, .slice none 0 0, .int .i64 0, .int .i64 0, .int .i64 0, .int .i64 0, .int .i64 x1, .int .i64 0, .slice none 0 0, .slice none 0 0]) := by rw [hw2]; exact HV.out.set 12 _
  obtain ⟨z0, z1, z2, z3, z4, z5, z6, z7, z8, z9, z10, z11, z12, z13, z14, z15⟩ := cells16 HV.out.d
  obtain ⟨f0, f1, f2, f3, f4, f5, f6, f7, f8, f9, f10, f11, f12, f13, f14, f15⟩ := frozen16 HV.out.d
  clear ht hR hC HG1 hw1 z0 z1 z2 z3 z4 z5 z6 z7 z8 z9 z10 z11 z13 z14 z15 f0 f1 f2 f3 f4 f5 f6 f7 f8 f9 f10 f11 f13 f14 f15
  as_aux_lemma =>
  have hrg := range16 HG2.out.d
  have hth := there16 HG2.out.res
  have hon : (#[.int .i64 zx, .int .u8 9, .int .i64 se, .int .i64 tu, .int .i64 xi, .int .i64 ti, .string ⟨#[]⟩, .slice none 0 0, .int .i64 0, .int .i64 0, .int .i64 0, .int .i64 0, .int .i64 x1, .int .i64 0, .slice none 0 0, .slice none 0 0] : Array Value).all (·.oneCell') = true := all_oneCell_toArray (by intro v hv; simp only [List.mem_cons, List.not_mem_nil, or_false] at hv; rcases hv with rfl | rfl | rfl | rfl | rfl | rfl | rfl | rfl | rfl | rfl | rfl | rfl | rfl | rfl | rfl | rfl <;> rfl)
  obtain ⟨w8, hw8⟩ : ∃ X, X = w2.setCells (w.heap.size + 1) 0 [.int .i64 zx, .int .u8 9, .int .i64 se, .int .i64 tu, .int .i64 xi, .int .i64 ti, .string ⟨#[]⟩, .slice none 0 0, .int .i64 0, .int .i64 0, .int .i64 0, .int .i64 0, .int .i64 x1, .int .i64 0, .slice none 0 0, .slice none 0 0] := ⟨_, rfl⟩
  obtain ⟨h8, hcc⟩ := set16L HG2.out.res (.int .i64 zx) (.int .u8 9) (.int .i64 se) (.int .i64 tu) (.int .i64 xi) (.int .i64 ti) (.string ⟨#[]⟩) (.slice none 0 0) (.int .i64 0) (.int .i64 0) (.int .i64 0) (.int .i64 0) (.int .i64 x1) (.int .i64 0) (.slice none 0 0) (.slice none 0 0)
  rw [← hw8] at h8 hcc
  have HR8 : Hid _ := sixteenR HG2.out hcc
  have HCC : Hid _ := hcc
  have HH8 : Hid _ := h8
  rw [hw2] at hrg hth
  clear h8 hcc
  go_wp2_with (first | (refine wpList_load_mid rfl 41 _ rfl w.heap.size 0 rfl [.int .i64 zx, .int .u8 9, .int .i64 se, .int .i64 tu, .int .i64 xi, .int .i64 ti, .string ⟨#[]⟩, .slice none 0 0, .int .i64 0, .int .i64 0, .int .i64 0, .int .i64 0, .int .i64 x1, .int .i64 0, .slice none 0 0, .slice none 0 0] _ hrg Tryz.underlying41 rfl infoDs ?_) | (refine wpList_store_mid rfl 41 _ _ rfl (w.heap.size + 1) 0 #[.int .i64 zx, .int .u8 9, .int .i64 se, .int .i64 tu, .int .i64 xi, .int .i64 ti, .string ⟨#[]⟩, .slice none 0 0, .int .i64 0, .int .i64 0, .int .i64 0, .int .i64 0, .int .i64 x1, .int .i64 0, .slice none 0 0, .slice none 0 0] rfl rfl hth infoDs hon ?_))
  rw [← hw2, ← hw8]
  obtain ⟨x0_, x1_, x2_, x3_, x4_, x5_, x6_, x7_, x8_, x9_, x10_, x11_, x12_, x13_, x14_, x15_⟩ := cells16 HH8.out
  refine bodyPost_ret (v := .agg #[.int .i64 zx, .int .u8 9, .int .i64 se, .int .i64 tu, .int .i64 xi, .int .i64 ti, .string ⟨#[]⟩, .slice none 0 0, .int .i64 0, .int .i64 0, .int .i64 0, .int .i64 0, .int .i64 x1, .int .i64 0, .slice none 0 0, .slice none 0 0]) (by simp [results, Tryz.results35, go_sem, x0_, x1_, x2_, x3_, x4_, x5_, x6_, x7_, x8_, x9_, x10_, x11_, x12_, x13_, x14_, x15_]) rfl ?_
  unfold GotG
  simp only [rdBody, fl0, hd5, Int.reduceEq, if_true, if_false, HX1.out]
  exact ⟨none, 0, none, 0, rfl, HR8.out.1, HR8.out.2, .inl ⟨rfl, rfl⟩, (fun k hk => absurd hk (bk_zero _ _ _)), .inl ⟨rfl, rfl⟩, (fun k hk => absurd hk (bk_zero _ _ _))⟩
end Go.Proofs.YtaeoafedfgbcaaaGreatDoor.DD

namespace Go.Proofs.YtaeoafedfgbcaaaGreatDoor.DD
set_option linter.unusedVariables false
open Go.RowKit
set_option linter.unusedVariables false

set_option maxRecDepth 100000 in
set_option maxHeartbeats 8000000 in
theorem rread8 {w : World} {g : Nat} {q : Option Nat} {r : Rd} (h : Rdf w g q r) (hq : ∀ k, q = some k → k < w.heap.size) (zx se tu xi ti : Int) :
    Calls Tryz.prog 35 #[.pointer (some ⟨g, 0, none⟩), .agg #[.int .i64 zx, .int .u8 8, .int .i64 se, .int .i64 tu, .int .i64 xi, .int .i64 ti, .string ⟨#[]⟩, .slice none 0 0, .int .i64 0, .int .i64 0, .int .i64 0, .int .i64 0, .int .i64 0, .int .i64 0, .slice none 0 0, .slice none 0 0], .bool false] w fun e w' => GotG w w' g q e (hd5 (fl0 8) zx se tu xi ti) (r) := by
  have hgl : g < w.heap.size := RdAt.lt h
  obtain ⟨w1, hw1⟩ : ∃ X, X = (w.alloc (.cells #[.int .i64 zx, .int .u8 8, .int .i64 se, .int .i64 tu, .int .i64 xi, .int .i64 ti, .string ⟨#[]⟩, .slice none 0 0, .int .i64 0, .int .i64 0, .int .i64 0, .int .i64 0, .int .i64 0, .int .i64 0, .slice none 0 0, .slice none 0 0] 41)).alloc (.cells #[.int .i64 0, .int .u8 0, .int .i64 0, .int .i64 0, .int .i64 0, .int .i64 0, .string ⟨#[]⟩, .slice none 0 0, .int .i64 0, .int .i64 0, .int .i64 0, .int .i64 0, .int .i64 0, .int .i64 0, .slice none 0 0, .slice none 0 0] 41) := ⟨_, rfl⟩
  have hB1 : Below w.heap.size w w1 := by rw [hw1]; exact below2 _ _ _
  have HG1 : Hid (GR w w1 g q r #[.int .i64 zx, .int .u8 8, .int .i64 se, .int .i64 tu, .int .i64 xi, .int .i64 ti, .string ⟨#[]⟩, .slice none 0 0, .int .i64 0, .int .i64 0, .int .i64 0, .int .i64 0, .int .i64 0, .int .i64 0, .slice none 0 0, .slice none 0 0]) := by
    refine ⟨RdAt.keep h (Chg.of_below hB1) (fun e => e) (fun _ _ e => e), ?_, ?_, (Chg.of_below hB1).weak fun _ _ e => e.elim, hgl, hq⟩
    · rw [hw1, Below.heap_alloc _ _ _ (by simp)]
      exact heap_alloc_new w _
    · rw [hw1]
      have := heap_alloc_new (w.alloc (.cells #[.int .i64 zx, .int .u8 8, .int .i64 se, .int .i64 tu, .int .i64 xi, .int .i64 ti, .string ⟨#[]⟩, .slice none 0 0, .int .i64 0, .int .i64 0, .int .i64 0, .int .i64 0, .int .i64 0, .int .i64 0, .slice none 0 0, .slice none 0 0] 41)) (.cells #[.int .i64 0, .int .u8 0, .int .i64 0, .int .i64 0, .int .i64 0, .int .i64 0, .string ⟨#[]⟩, .slice none 0 0, .int .i64 0, .int .i64 0, .int .i64 0, .int .i64 0, .int .i64 0, .int .i64 0, .slice none 0 0, .slice none 0 0] 41)
      rwa [World.size_alloc] at this
  clear h hB1
  go_enter Tryz.func35, Tryz.ntmps35
  as_aux_lemma =>
  have hrg := range16 HG1.out.d
  have hth := there16 HG1.out.res
  have hon : (#[.int .i64 zx, .int .u8 8, .int .i64 se, .int .i64 tu, .int .i64 xi, .int .i64 ti, .string ⟨#[]⟩, .slice none 0 0, .int .i64 0, .int .i64 0, .int .i64 0, .int .i64 0, .int .i64 0, .int .i64 0, .slice none 0 0, .slice none 0 0] : Array Value).all (·.oneCell') = true := all_oneCell_toArray (by intro v hv; simp only [List.mem_cons, List.not_mem_nil, or_false] at hv; rcases hv with rfl | rfl | rfl | rfl | rfl | rfl | rfl | rfl | rfl | rfl | rfl | rfl | rfl | rfl | rfl | rfl <;> rfl)
  obtain ⟨w8, hw8⟩ : ∃ X, X = w1.setCells (w.heap.size + 1) 0 [.int .i64 zx, .int .u8 8, .int .i64 se, .int .i64 tu, .int .i64 xi, .int .i64 ti, .string ⟨#[]⟩, .slice none 0 0, .int .i64 0, .int .i64 0, .int .i64 0, .int .i64 0, .int .i64 0, .int .i64 0, .slice none 0 0, .slice none 0 0] := ⟨_, rfl⟩
  obtain ⟨h8, hcc⟩ := set16L HG1.out.res (.int .i64 zx) (.int .u8 8) (.int .i64 se) (.int .i64 tu) (.int .i64 xi) (.int .i64 ti) (.string ⟨#[]⟩) (.slice none 0 0) (.int .i64 0) (.int .i64 0) (.int .i64 0) (.int .i64 0) (.int .i64 0) (.int .i64 0) (.slice none 0 0) (.slice none 0 0)
  rw [← hw8] at h8 hcc
  have HR8 : Hid _ := sixteenR HG1.out hcc
  have HCC : Hid _ := hcc
  have HH8 : Hid _ := h8
  rw [hw1] at hrg hth
  clear h8 hcc
  go_wp2_with (first | (refine wpList_load_mid rfl 41 _ rfl w.heap.size 0 rfl [.int .i64 zx, .int .u8 8, .int .i64 se, .int .i64 tu, .int .i64 xi, .int .i64 ti, .string ⟨#[]⟩, .slice none 0 0, .int .i64 0, .int .i64 0, .int .i64 0, .int .i64 0, .int .i64 0, .int .i64 0, .slice none 0 0, .slice none 0 0] _ hrg Tryz.underlying41 rfl infoDs ?_) | (refine wpList_store_mid rfl 41 _ _ rfl (w.heap.size + 1) 0 #[.int .i64 zx, .int .u8 8, .int .i64 se, .int .i64 tu, .int .i64 xi, .int .i64 ti, .string ⟨#[]⟩, .slice none 0 0, .int .i64 0, .int .i64 0, .int .i64 0, .int .i64 0, .int .i64 0, .int .i64 0, .slice none 0 0, .slice none 0 0] rfl rfl hth infoDs hon ?_))
  rw [← hw1, ← hw8]
  obtain ⟨x0_, x1_, x2_, x3_, x4_, x5_, x6_, x7_, x8_, x9_, x10_, x11_, x12_, x13_, x14_, x15_⟩ := cells16 HH8.out
  refine bodyPost_ret (v := .agg #[.int .i64 zx, .int .u8 8, .int .i64 se, .int .i64 tu, .int .i64 xi, .int .i64 ti, .string ⟨#[]⟩, .slice none 0 0, .int .i64 0, .int .i64 0, .int .i64 0, .int .i64 0, .int .i64 0, .int .i64 0, .slice none 0 0, .slice none 0 0]) (by simp [results, Tryz.results35, go_sem, x0_, x1_, x2_, x3_, x4_, x5_, x6_, x7_, x8_, x9_, x10_, x11_, x12_, x13_, x14_, x15_]) rfl ?_
  unfold GotG
  simp only [fl0, hd5]
  exact ⟨none, 0, none, 0, rfl, HR8.out.1, HR8.out.2, .inl ⟨rfl, rfl⟩, (fun k hk => absurd hk (bk_zero _ _ _)), .inl ⟨rfl, rfl⟩, (fun k hk => absurd hk (bk_zero _ _ _))⟩
set_option maxRecDepth 100000 in
set_option maxHeartbeats 8000000 in
theorem rreadO {w : World} {g : Nat} {q : Option Nat} {r : Rd} (h : Rdf w g q r) (hq : ∀ k, q = some k → k < w.heap.size) (kd : Int) (k1 : (kd == 1) = false) (k2 : (kd == 2) = false) (k3 : (kd == 3) = false) (k4 : (kd == 4) = false) (k5 : (kd == 5) = false) (k7 : (kd == 7) = false) (k8 : (kd == 8) = false) (k9 : (kd == 9) = false) (zx se tu xi ti : Int) (deep : Bool) :
    Calls Tryz.prog 35 #[.pointer (some ⟨g, 0, none⟩), .agg #[.int .i64 zx, .int .u8 kd, .int .i64 se, .int .i64 tu, .int .i64 xi, .int .i64 ti, .string ⟨#[]⟩, .slice none 0 0, .int .i64 0, .int .i64 0, .int .i64 0, .int .i64 0, .int .i64 0, .int .i64 0, .slice none 0 0, .slice none 0 0], .bool deep] w fun e w' => GotG w w' g q e (hd5 (fl0 kd) zx se tu xi ti) (r) := by
  have hgl : g < w.heap.size := RdAt.lt h
  obtain ⟨w1, hw1⟩ : ∃ X, X = (w.alloc (.cells #[.int .i64 zx, .int .u8 kd, .int .i64 se, .int .i64 tu, .int .i64 xi, .int .i64 ti, .string ⟨#[]⟩, .slice none 0 0, .int .i64 0, .int .i64 0, .int .i64 0, .int .i64 0, .int .i64 0, .int .i64 0, .slice none 0 0, .slice none 0 0] 41)).alloc (.cells #[.int .i64 0, .int .u8 0, .int .i64 0, .int .i64 0, .int .i64 0, .int .i64 0, .string ⟨#[]⟩, .slice none 0 0, .int .i64 0, .int .i64 0, .int .i64 0, .int .i64 0, .int .i64 0, .int .i64 0, .slice none 0 0, .slice none 0 0] 41) := ⟨_, rfl⟩
  have hB1 : Below w.heap.size w w1 := by rw [hw1]; exact below2 _ _ _
  have HG1 : Hid (GR w w1 g q r #[.int .i64 zx, .int .u8 kd, .int .i64 se, .int .i64 tu, .int .i64 xi, .int .i64 ti, .string ⟨#[]⟩, .slice none 0 0, .int .i64 0, .int .i64 0, .int .i64 0, .int .i64 0, .int .i64 0, .int .i64 0, .slice none 0 0, .slice none 0 0]) := by
    refine ⟨RdAt.keep h (Chg.of_below hB1) (fun e => e) (fun _ _ e => e), ?_, ?_, (Chg.of_below hB1).weak fun _ _ e => e.elim, hgl, hq⟩
    · rw [hw1, Below.heap_alloc _ _ _ (by simp)]
      exact heap_alloc_new w _
    · rw [hw1]
      have := heap_alloc_new (w.alloc (.cells #[.int .i64 zx, .int .u8 kd, .int .i64 se, .int .i64 tu, .int .i64 xi, .int .i64 ti, .string ⟨#[]⟩, .slice none 0 0, .int .i64 0, .int .i64 0, .int .i64 0, .int .i64 0, .int .i64 0, .int .i64 0, .slice none 0 0, .slice none 0 0] 41)) (.cells #[.int .i64 0, .int .u8 0, .int .i64 0, .int .i64 0, .int .i64 0, .int .i64 0, .string ⟨#[]⟩, .slice none 0 0, .int .i64 0, .int .i64 0, .int .i64 0, .int .i64 0, .int .i64 0, .int .i64 0, .slice none 0 0, .slice none 0 0] 41)
      rwa [World.size_alloc] at this
  clear h hB1
  go_enter Tryz.func35, Tryz.ntmps35
  as_aux_lemma =>
  have hrg := range16 HG1.out.d
  have hth := there16 HG1.out.res
  have hon : (#[.int .i64 zx, .int .u8 kd, .int .i64 se, .int .i64 tu, .int .i64 xi, .int .i64 ti, .string ⟨#[]⟩, .slice none 0 0, .int .i64 0, .int .i64 0, .int .i64 0, .int .i64 0, .int .i64 0, .int .i64 0, .slice none 0 0, .slice none 0 0] : Array Value).all (·.oneCell') = true := all_oneCell_toArray (by intro v hv; simp only [List.mem_cons, List.not_mem_nil, or_false] at hv; rcases hv with rfl | rfl | rfl | rfl | rfl | rfl | rfl | rfl | rfl | rfl | rfl | rfl | rfl | rfl | rfl | rfl <;> rfl)
  obtain ⟨w8, hw8⟩ : ∃ X, X = w1.setCells (w.heap.size + 1) 0 [.int .i64 zx, .int .u8 kd, .int .i64 se, .int .i64 tu, .int .i64 xi, .int .i64 ti, .string ⟨#[]⟩, .slice none 0 0, .int .i64 0, .int .i64 0, .int .i64 0, .int .i64 0, .int .i64 0, .int .i64 0, .slice none 0 0, .slice none 0 0] := ⟨_, rfl⟩
  obtain ⟨h8, hcc⟩ := set16L HG1.out.res (.int .i64 zx) (.int .u8 kd) (.int .i64 se) (.int .i64 tu) (.int .i64 xi) (.int .i64 ti) (.string ⟨#[]⟩) (.slice none 0 0) (.int .i64 0) (.int .i64 0) (.int .i64 0) (.int .i64 0) (.int .i64 0) (.int .i64 0) (.slice none 0 0) (.slice none 0 0)
  rw [← hw8] at h8 hcc
  have HR8 : Hid _ := sixteenR HG1.out hcc
  have HCC : Hid _ := hcc
  have HH8 : Hid _ := h8
  rw [hw1] at hrg hth
  clear h8 hcc
  go_wp2_with (first | (refine wpList_load_mid rfl 41 _ rfl w.heap.size 0 rfl [.int .i64 zx, .int .u8 kd, .int .i64 se, .int .i64 tu, .int .i64 xi, .int .i64 ti, .string ⟨#[]⟩, .slice none 0 0, .int .i64 0, .int .i64 0, .int .i64 0, .int .i64 0, .int .i64 0, .int .i64 0, .slice none 0 0, .slice none 0 0] _ hrg Tryz.underlying41 rfl infoDs ?_) | (refine wpList_store_mid rfl 41 _ _ rfl (w.heap.size + 1) 0 #[.int .i64 zx, .int .u8 kd, .int .i64 se, .int .i64 tu, .int .i64 xi, .int .i64 ti, .string ⟨#[]⟩, .slice none 0 0, .int .i64 0, .int .i64 0, .int .i64 0, .int .i64 0, .int .i64 0, .int .i64 0, .slice none 0 0, .slice none 0 0] rfl rfl hth infoDs hon ?_))
  rw [← hw1, ← hw8]
  obtain ⟨x0_, x1_, x2_, x3_, x4_, x5_, x6_, x7_, x8_, x9_, x10_, x11_, x12_, x13_, x14_, x15_⟩ := cells16 HH8.out
  refine bodyPost_ret (v := .agg #[.int .i64 zx, .int .u8 kd, .int .i64 se, .int .i64 tu, .int .i64 xi, .int .i64 ti, .string ⟨#[]⟩, .slice none 0 0, .int .i64 0, .int .i64 0, .int .i64 0, .int .i64 0, .int .i64 0, .int .i64 0, .slice none 0 0, .slice none 0 0]) (by simp [results, Tryz.results35, go_sem, x0_, x1_, x2_, x3_, x4_, x5_, x6_, x7_, x8_, x9_, x10_, x11_, x12_, x13_, x14_, x15_]) rfl ?_
  unfold GotG
  simp only [fl0, hd5]
  exact ⟨none, 0, none, 0, rfl, HR8.out.1, HR8.out.2, .inl ⟨rfl, rfl⟩, (fun k hk => absurd hk (bk_zero _ _ _)), .inl ⟨rfl, rfl⟩, (fun k hk => absurd hk (bk_zero _ _ _))⟩
end Go.Proofs.YtaeoafedfgbcaaaGreatDoor.DD
