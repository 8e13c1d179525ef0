/- The walk of the document's own Get. -/
import Derived.Test.YtaeoafedfgbcaaaGreatDoorRhp
import Derived.Test.YtaeoafedfgbcaaaGreatDoorRf5d
import Derived.Test.YtaeoafedfgbcaaaGreatDoorSgT3
namespace Go.Proofs.YtaeoafedfgbcaaaGreatDoor.DD
set_option linter.unusedVariables false
open Go.RowKit
set_option linter.unusedVariables false

structure GH (w0 w : World) (g : Nat) (q : Option Nat) (r : Rd) (pd : Nat) (cs : Array Value) : Prop where
  rd : Rdf w g q r
  d : w.heap[pd]? = some (.cells cs 41 (0, 0))
  res : w.heap[w0.heap.size]? = some (.cells #[.int .i64 0, .int .u8 0, .int .i64 0, .int .i64 0, .int .i64 0, .int .i64 0, .string ⟨#[]⟩, .slice none 0 0, .int .i64 0, .int .i64 0, .int .i64 0, .int .i64 0, .int .i64 0, .int .i64 0, .slice none 0 0, .slice none 0 0] 41 (0, 0))
  bel : Below w0.heap.size w0 w
  gg : w0.heap.size < g
  pp : w0.heap.size < pd ∧ pd ≠ g ∧ q ≠ some pd
  qq : ∀ k, q = some k → w0.heap.size < k ∧ k < w.heap.size
theorem GH.read {w0 w w' : World} {g pd : Nat} {q : Option Nat} {r r' : Rd} {cs : Array Value} (h : GH w0 w g q r pd cs) (hr : Rdf w' g q r') (hc : Chg (One g) w w') : GH w0 w' g q r' pd cs :=
  ⟨hr, by rw [hc.block _ (heap_lt h.d) (fun e => h.pp.2.1 (by unfold One at e; exact e))]; exact h.d, by rw [hc.block _ (heap_lt h.res) (fun e => by have := h.gg; unfold One at e; omega)]; exact h.res, h.bel.trans (hc.below (fun k e => by have := h.gg; unfold One at e; omega) h.bel.size), h.gg, h.pp, fun k hk => ⟨(h.qq k hk).1, Nat.lt_of_lt_of_le (h.qq k hk).2 hc.size⟩⟩
theorem GH.below {w0 w w' : World} {g pd : Nat} {q : Option Nat} {r : Rd} {cs : Array Value} (h : GH w0 w g q r pd cs) (hb : Below w.heap.size w w') : GH w0 w' g q r pd cs :=
  h.read (RdAt.keep h.rd (Chg.of_below hb) (fun e => e) (fun _ _ e => e)) ((Chg.of_below hb).weak fun _ _ e => e.elim)
theorem GH.turn {w0 w w' : World} {g pd : Nat} {q : Option Nat} {r : Rd} {cs cs' : Array Value} (h : GH w0 w g q r pd cs) (hc : Chg (fun k => k = pd) w w') (hd : w'.heap[pd]? = some (.cells cs' 41 (0, 0))) : GH w0 w' g q r pd cs' :=
  ⟨RdAt.keep h.rd hc (fun e => h.pp.2.1 e.symm) (fun k hk e => h.pp.2.2 (by rw [hk, e])), hd, by rw [hc.block _ (heap_lt h.res) (fun e => by have := h.pp.1; omega)]; exact h.res, h.bel.trans (hc.below (fun k e => by have := h.pp.1; omega) h.bel.size), h.gg, h.pp, fun k hk => ⟨(h.qq k hk).1, Nat.lt_of_lt_of_le (h.qq k hk).2 hc.size⟩⟩
theorem GH.set {w0 w : World} {g pd : Nat} {q : Option Nat} {r : Rd} {cs : Array Value} (h : GH w0 w g q r pd cs) (j : Nat) (v : Value) : GH w0 (w.setCell ⟨pd, j, none⟩ v) g q r pd (cs.setIfInBounds j v) :=
  h.turn (Chg.setCell w ⟨pd, j, none⟩ v rfl) (heap_set h.d j v)
theorem rfParts_fit : ∀ n r, ∀ p ∈ (rfParts n r).1, FlFit p
  | 0, r, p, h => by simp [rfParts] at h
  | _ + 1, none, p, h => by simp [rfParts] at h
  | n + 1, some s, p, h => by
    rw [rfParts] at h
    rcases List.mem_cons.1 h with rfl | h
    · exact rdBody_fit _ _ (byte_kind _)
    · exact rfParts_fit n _ p h
theorem rfParts_len : ∀ n r, (rfParts n r).1.length ≤ n
  | 0, r => by simp [rfParts]
  | _ + 1, none => by simp [rfParts]
  | n + 1, some s => by rw [rfParts]; have := rfParts_len n (rdPart (some s)).2; simp only [List.length_cons]; omega
theorem withHead_hd5 (f : Fl) (h : Hd) (n : Nat) : withHead h f n = { hd5 f h.zxid h.session h.turn h.xid h.time with np := n } := rfl
set_option maxRecDepth 100000 in
set_option maxHeartbeats 8000000 in
theorem rgetf_any {w : World} {x : Value} {b : List UInt8} (hx : Bs w x b) (hb : b.length ≤ 140737488355328) (hL : PA.Laid w) :
    Calls Tryz.prog 15 #[x] w fun e w' => GotF' w w' e (deedRf b) := by
  obtain ⟨AX, CX, rfl⟩ := bs_form hx
  have HL : Hid (PA.Laid w) := hL
  obtain ⟨w1, hw1⟩ : ∃ X, X = w.alloc (.cells #[.int .i64 0, .int .u8 0, .int .i64 0, .int .i64 0, .int .i64 0, .int .i64 0, .string ⟨#[]⟩, .slice none 0 0, .int .i64 0, .int .i64 0, .int .i64 0, .int .i64 0, .int .i64 0, .int .i64 0, .slice none 0 0, .slice none 0 0] 41) := ⟨_, rfl⟩
  have hB1 : Below w.heap.size w w1 := by rw [hw1]; exact (Below.refl _ _).alloc (Nat.le_refl _) _
  have HC1 : Hid (w1.heap[w.heap.size]? = some (.cells #[.int .i64 0, .int .u8 0, .int .i64 0, .int .i64 0, .int .i64 0, .int .i64 0, .string ⟨#[]⟩, .slice none 0 0, .int .i64 0, .int .i64 0, .int .i64 0, .int .i64 0, .int .i64 0, .int .i64 0, .slice none 0 0, .slice none 0 0] 41 (0, 0))) := by rw [hw1]; exact heap_alloc_new w _
  have HB1 : Hid (Below w.heap.size w w1) := hB1
  have hnr := rfNew_any (Bs.below' hx hB1) hb
  have hs1 : w1.heap.size = w.heap.size + 1 := by rw [hw1]; simp
  rw [hw1] at hnr
  clear hB1 hL hx
  go_enter Tryz.func15, Tryz.ntmps15
  go_wp2_with fail
  refine hnr.mono ?_
  rintro e w2 ⟨g, q, rfl, hR2, hB2, hg2, hq2⟩
  rw [← hw1] at hB2 hg2 hq2
  have HR2 : Hid (Rdf w2 g q (some b)) := hR2
  have HC2 : Hid (w2.heap[w.heap.size]? = some (.cells #[.int .i64 0, .int .u8 0, .int .i64 0, .int .i64 0, .int .i64 0, .int .i64 0, .string ⟨#[]⟩, .slice none 0 0, .int .i64 0, .int .i64 0, .int .i64 0, .int .i64 0, .int .i64 0, .int .i64 0, .slice none 0 0, .slice none 0 0] 41 (0, 0))) := by show _ = _; rw [hB2.block _ (heap_lt HC1.out)]; exact HC1.out
  have HB2 : Hid (Below w.heap.size w w2) := HB1.out.trans (hB2.mono HB1.out.size)
  have HGQ : Hid (w.heap.size < g ∧ g < w2.heap.size ∧ ∀ k, q = some k → w.heap.size < k ∧ k < w2.heap.size) := ⟨by omega, RdAt.lt hR2, fun k hk => by have := hq2 k hk; omega⟩
  clear hnr hw1 hR2 hB2 hg2 hq2 hs1 HB1 HC1
  have hrb := rfByte_any HR2.out
  have hkb := byte_kind (rdByte (some b)).1
  obtain ⟨kb, hkbE⟩ : ∃ k : Int, ((rdByte (some b)).1.toNat : Int) = k := ⟨_, rfl⟩
  obtain ⟨r1, hr1⟩ : ∃ k, (rdByte (some b)).2 = k := ⟨_, rfl⟩
  have HKB : Hid (((rdByte (some b)).1.toNat : Int) = kb ∧ (rdByte (some b)).2 = r1) := ⟨hkbE, hr1⟩
  rw [hkbE, hr1] at hrb
  rw [hkbE] at hkb
  clear hkbE hr1
  go_wp2_with fail
  refine hrb.mono ?_
  rintro e w3 ⟨rfl, hR3, hC3⟩
  obtain ⟨w4, hw4⟩ : ∃ X, X = w3.alloc (.cells #[.int .i64 0, .int .u8 kb, .int .i64 0, .int .i64 0, .int .i64 0, .int .i64 0, .string ⟨#[]⟩, .slice none 0 0, .int .i64 0, .int .i64 0, .int .i64 0, .int .i64 0, .int .i64 0, .int .i64 0, .slice none 0 0, .slice none 0 0] 41) := ⟨_, rfl⟩
  have hB4 : Below w3.heap.size w3 w4 := by rw [hw4]; exact (Below.refl _ _).alloc (Nat.le_refl _) _
  have HG4 : Hid (GH w w4 g q r1 w3.heap.size #[.int .i64 0, .int .u8 kb, .int .i64 0, .int .i64 0, .int .i64 0, .int .i64 0, .string ⟨#[]⟩, .slice none 0 0, .int .i64 0, .int .i64 0, .int .i64 0, .int .i64 0, .int .i64 0, .int .i64 0, .slice none 0 0, .slice none 0 0]) := by
    have hs := hC3.size
    have hsr : w.heap.size < w2.heap.size := heap_lt HC2.out
    refine ⟨RdAt.keep hR3 (Chg.of_below hB4) (fun e => e) (fun _ _ e => e), by rw [hw4]; exact heap_alloc_new w3 _, ?_, ?_, HGQ.out.1, ⟨by omega, by have := HGQ.out.2.1; omega, fun e => by have := (HGQ.out.2.2 _ e).2; omega⟩, fun k hk => ⟨(HGQ.out.2.2 k hk).1, by have := (HGQ.out.2.2 k hk).2; have := hB4.size; omega⟩⟩
    · rw [hB4.block _ (by omega), hC3.block _ (heap_lt HC2.out) (fun e => by have := HGQ.out.1; unfold One at e; omega)]; exact HC2.out
    · exact (HB2.out.trans (hC3.below (fun k e => by have := HGQ.out.1; unfold One at e; omega) HB2.out.size)).trans (hB4.mono (by have := HB2.out.size; omega))
  clear hrb hR3 hC3 hB4 HR2 HC2 HB2 HGQ
  have ht := rfInt_any HG4.out.rd
  obtain ⟨a0, s0, hX⟩ : ∃ a b, rdInt r1 = (a, b) := ⟨_, _, rfl⟩
  have HX0 : Hid (rdInt r1 = (a0, s0)) := hX
  have HI0 : Hid (I64 a0) := by have := rdInt_I64 r1; rw [hX] at this; exact this
  rw [hX, hw4] at ht
  dsimp only at ht
  clear hX
  go_wp2_with fail
  refine ht.mono ?_
  rintro e v5 ⟨rfl, hR, hC⟩
  rw [← hw4] at hC
  have HV : Hid (GH w v5 g q s0 w3.heap.size #[.int .i64 0, .int .u8 kb, .int .i64 0, .int .i64 0, .int .i64 0, .int .i64 0, .string ⟨#[]⟩, .slice none 0 0, .int .i64 0, .int .i64 0, .int .i64 0, .int .i64 0, .int .i64 0, .int .i64 0, .slice none 0 0, .slice none 0 0]) := HG4.out.read hR hC
  obtain ⟨w5, hw5⟩ : ∃ X, X = v5.setCell ⟨w3.heap.size, 0, none⟩ (.int .i64 a0) := ⟨_, rfl⟩
  have HG5 : Hid (GH w w5 g q s0 w3.heap.size #[.int .i64 a0, .int .u8 kb, .int .i64 0, .int .i64 0, .int .i64 0, .int .i64 0, .string ⟨#[]⟩, .slice none 0 0, .int .i64 0, .int .i64 0, .int .i64 0, .int .i64 0, .int .i64 0, .int .i64 0, .slice none 0 0, .slice none 0 0]) := by rw [hw5]; exact HV.out.set 0 _
  obtain ⟨pd, hpd⟩ : ∃ p, p = w3.heap.size := ⟨_, rfl⟩
  rw [← hpd] at HV HG5 hw5 ⊢
  clear ht hR hC hw4 HG4
  clear hpd w4
  obtain ⟨z0, z1, z2, z3, z4, z5, z6, z7, z8, z9, z10, z11, z12, z13, z14, z15⟩ := cells16 HV.out.d
  obtain ⟨f0, f1, f2, f3, f4, f5, f6, f7, f8, f9, f10, f11, f12, f13, f14, f15⟩ := frozen16 HV.out.d
  clear z1 z2 z3 z4 z5 z6 z7 z8 z9 z10 z11 z12 z13 z14 z15 f1 f2 f3 f4 f5 f6 f7 f8 f9 f10 f11 f12 f13 f14 f15
  have ht := rfInt_any HG5.out.rd
  obtain ⟨a1, s1, hX⟩ : ∃ a b, rdInt s0 = (a, b) := ⟨_, _, rfl⟩
  have HX1 : Hid (rdInt s0 = (a1, s1)) := hX
  have HI1 : Hid (I64 a1) := by have := rdInt_I64 s0; rw [hX] at this; exact this
  rw [hX, hw5] at ht
  dsimp only at ht
  clear hX
  go_wp2_with fail
  refine ht.mono ?_
  rintro e v6 ⟨rfl, hR, hC⟩
  rw [← hw5] at hC
  have HV : Hid (GH w v6 g q s1 pd #[.int .i64 a0, .int .u8 kb, .int .i64 0, .int .i64 0, .int .i64 0, .int .i64 0, .string ⟨#[]⟩, .slice none 0 0, .int .i64 0, .int .i64 0, .int .i64 0, .int .i64 0, .int .i64 0, .int .i64 0, .slice none 0 0, .slice none 0 0]) := HG5.out.read hR hC
  obtain ⟨w6, hw6⟩ : ∃ X, X = v6.setCell ⟨pd, 2, none⟩ (.int .i64 a1) := ⟨_, rfl⟩
  have HG6 : Hid (GH w w6 g q s1 pd #[.int .i64 a0, .int .u8 kb, .int .i64 a1, .int .i64 0, .int .i64 0, .int .i64 0, .string ⟨#[]⟩, .slice none 0 0, .int .i64 0, .int .i64 0, .int .i64 0, .int .i64 0, .int .i64 0, .int .i64 0, .slice none 0 0, .slice none 0 0]) := by rw [hw6]; exact HV.out.set 2 _
  obtain ⟨z0, z1, z2, z3, z4, z5, z6, z7, z8, z9, z10, z11, z12, z13, z14, z15⟩ := cells16 HV.out.d
  obtain ⟨f0, f1, f2, f3, f4, f5, f6, f7, f8, f9, f10, f11, f12, f13, f14, f15⟩ := frozen16 HV.out.d
  clear ht hR hC HG5 hw5 z0 z1 z3 z4 z5 z6 z7 z8 z9 z10 z11 z12 z13 z14 z15 f0 f1 f3 f4 f5 f6 f7 f8 f9 f10 f11 f12 f13 f14 f15
  as_aux_lemma =>
  have ht := rfInt_any HG6.out.rd
  obtain ⟨a2, s2, hX⟩ : ∃ a b, rdInt s1 = (a, b) := ⟨_, _, rfl⟩
  have HX2 : Hid (rdInt s1 = (a2, s2)) := hX
  have HI2 : Hid (I64 a2) := by have := rdInt_I64 s1; rw [hX] at this; exact this
  rw [hX, hw6] at ht
  dsimp only at ht
  clear hX
  go_wp2_with fail
  refine ht.mono ?_
  rintro e v7 ⟨rfl, hR, hC⟩
  rw [← hw6] at hC
  have HV : Hid (GH w v7 g q s2 pd #[.int .i64 a0, .int .u8 kb, .int .i64 a1, .int .i64 0, .int .i64 0, .int .i64 0, .string ⟨#[]⟩, .slice none 0 0, .int .i64 0, .int .i64 0, .int .i64 0, .int .i64 0, .int .i64 0, .int .i64 0, .slice none 0 0, .slice none 0 0]) := HG6.out.read hR hC
  obtain ⟨w7, hw7⟩ : ∃ X, X = v7.setCell ⟨pd, 3, none⟩ (.int .i64 a2) := ⟨_, rfl⟩
  have HG7 : Hid (GH w w7 g q s2 pd #[.int .i64 a0, .int .u8 kb, .int .i64 a1, .int .i64 a2, .int .i64 0, .int .i64 0, .string ⟨#[]⟩, .slice none 0 0, .int .i64 0, .int .i64 0, .int .i64 0, .int .i64 0, .int .i64 0, .int .i64 0, .slice none 0 0, .slice none 0 0]) := by rw [hw7]; exact HV.out.set 3 _
  obtain ⟨z0, z1, z2, z3, z4, z5, z6, z7, z8, z9, z10, z11, z12, z13, z14, z15⟩ := cells16 HV.out.d
  obtain ⟨f0, f1, f2, f3, f4, f5, f6, f7, f8, f9, f10, f11, f12, f13, f14, f15⟩ := frozen16 HV.out.d
  clear ht hR hC HG6 hw6 z0 z1 z2 z4 z5 z6 z7 z8 z9 z10 z11 z12 z13 z14 z15 f0 f1 f2 f4 f5 f6 f7 f8 f9 f10 f11 f12 f13 f14 f15
  have ht := rfInt_any HG7.out.rd
  obtain ⟨a3, s3, hX⟩ : ∃ a b, rdInt s2 = (a, b) := ⟨_, _, rfl⟩
  have HX3 : Hid (rdInt s2 = (a3, s3)) := hX
  have HI3 : Hid (I64 a3) := by have := rdInt_I64 s2; rw [hX] at this; exact this
  rw [hX, hw7] at ht
  dsimp only at ht
  clear hX
  go_wp2_with fail
  refine ht.mono ?_
  rintro e v8 ⟨rfl, hR, hC⟩
  rw [← hw7] at hC
  have HV : Hid (GH w v8 g q s3 pd #[.int .i64 a0, .int .u8 kb, .int .i64 a1, .int .i64 a2, .int .i64 0, .int .i64 0, .string ⟨#[]⟩, .slice none 0 0, .int .i64 0, .int .i64 0, .int .i64 0, .int .i64 0, .int .i64 0, .int .i64 0, .slice none 0 0, .slice none 0 0]) := HG7.out.read hR hC
  obtain ⟨w8, hw8⟩ : ∃ X, X = v8.setCell ⟨pd, 4, none⟩ (.int .i64 a3) := ⟨_, rfl⟩
  have HG8 : Hid (GH w w8 g q s3 pd #[.int .i64 a0, .int .u8 kb, .int .i64 a1, .int .i64 a2, .int .i64 a3, .int .i64 0, .string ⟨#[]⟩, .slice none 0 0, .int .i64 0, .int .i64 0, .int .i64 0, .int .i64 0, .int .i64 0, .int .i64 0, .slice none 0 0, .slice none 0 0]) := by rw [hw8]; exact HV.out.set 4 _
  obtain ⟨z0, z1, z2, z3, z4, z5, z6, z7, z8, z9, z10, z11, z12, z13, z14, z15⟩ := cells16 HV.out.d
  obtain ⟨f0, f1, f2, f3, f4, f5, f6, f7, f8, f9, f10, f11, f12, f13, f14, f15⟩ := frozen16 HV.out.d
  clear ht hR hC HG7 hw7 z0 z1 z2 z3 z5 z6 z7 z8 z9 z10 z11 z12 z13 z14 z15 f0 f1 f2 f3 f5 f6 f7 f8 f9 f10 f11 f12 f13 f14 f15
  as_aux_lemma =>
  have ht := rfInt_any HG8.out.rd
  obtain ⟨a4, s4, hX⟩ : ∃ a b, rdInt s3 = (a, b) := ⟨_, _, rfl⟩
  have HX4 : Hid (rdInt s3 = (a4, s4)) := hX
  have HI4 : Hid (I64 a4) := by have := rdInt_I64 s3; rw [hX] at this; exact this
  rw [hX, hw8] at ht
  dsimp only at ht
  clear hX
  go_wp2_with fail
  refine ht.mono ?_
  rintro e v9 ⟨rfl, hR, hC⟩
  rw [← hw8] at hC
  have HV : Hid (GH w v9 g q s4 pd #[.int .i64 a0, .int .u8 kb, .int .i64 a1, .int .i64 a2, .int .i64 a3, .int .i64 0, .string ⟨#[]⟩, .slice none 0 0, .int .i64 0, .int .i64 0, .int .i64 0, .int .i64 0, .int .i64 0, .int .i64 0, .slice none 0 0, .slice none 0 0]) := HG8.out.read hR hC
  obtain ⟨w9, hw9⟩ : ∃ X, X = v9.setCell ⟨pd, 5, none⟩ (.int .i64 a4) := ⟨_, rfl⟩
  have HG9 : Hid (GH w w9 g q s4 pd #[.int .i64 a0, .int .u8 kb, .int .i64 a1, .int .i64 a2, .int .i64 a3, .int .i64 a4, .string ⟨#[]⟩, .slice none 0 0, .int .i64 0, .int .i64 0, .int .i64 0, .int .i64 0, .int .i64 0, .int .i64 0, .slice none 0 0, .slice none 0 0]) := by rw [hw9]; exact HV.out.set 5 _
  obtain ⟨z0, z1, z2, z3, z4, z5, z6, z7, z8, z9, z10, z11, z12, z13, z14, z15⟩ := cells16 HV.out.d
  obtain ⟨f0, f1, f2, f3, f4, f5, f6, f7, f8, f9, f10, f11, f12, f13, f14, f15⟩ := frozen16 HV.out.d
  clear ht hR hC HG8 hw8 z0 z1 z2 z3 z4 z6 z7 z8 z9 z10 z11 z12 z13 z14 z15 f0 f1 f2 f3 f4 f6 f7 f8 f9 f10 f11 f12 f13 f14 f15
  have ht := rread_any HG9.out.rd (fun k hk => (HG9.out.qq k hk).2) kb a0 a1 a2 a3 a4
  have hra := range16 HG9.out.d
  have hsz := HG9.out.bel.size
  obtain ⟨F, rF, hF⟩ : ∃ a b, rdBody kb s4 = (a, b) := ⟨_, _, rfl⟩
  have HF : Hid (rdBody kb s4 = (F, rF)) := hF
  rw [hF] at ht
  clear hF
  dsimp only at ht
  obtain ⟨PS, rP, hP⟩ : ∃ a b, rfTail kb rF = (a, b) := ⟨_, _, rfl⟩
  have HP : Hid (rfTail kb rF = (PS, rP)) := hP
  rw [hP] at ht
  clear hP
  dsimp only at ht
  rw [hw9] at ht hra
  go_wp2_with (refine wpList_load_mid rfl 41 _ rfl pd 0 rfl [.int .i64 a0, .int .u8 kb, .int .i64 a1, .int .i64 a2, .int .i64 a3, .int .i64 a4, .string ⟨#[]⟩, .slice none 0 0, .int .i64 0, .int .i64 0, .int .i64 0, .int .i64 0, .int .i64 0, .int .i64 0, .slice none 0 0, .slice none 0 0] _ hra Tryz.underlying41 rfl infoDs ?_)
  refine ht.mono ?_
  rintro e w10 ⟨A1, c1, A2, c2, A3, c3, he, hR, hC, hBs, hBn, hMs, hMn, hfar⟩
  rw [← hw9] at hC hBn hMn hfar
  have hkF : F.kind = kb := by have := rdBody_kind kb s4; rw [HF.out] at this; exact this
  simp only [hd5, hkF] at he hBs hBn hMs hMn
  subst he
  have HV : Hid (GH w w10 g q rP pd #[.int .i64 a0, .int .u8 kb, .int .i64 a1, .int .i64 a2, .int .i64 a3, .int .i64 a4, .string ⟨#[]⟩, .slice none 0 0, .int .i64 0, .int .i64 0, .int .i64 0, .int .i64 0, .int .i64 0, .int .i64 0, .slice none 0 0, .slice none 0 0]) := HG9.out.read hR hC
  have HPD : Hid (pd < w9.heap.size ∧ w.heap.size < w9.heap.size) := ⟨heap_lt HG9.out.d, heap_lt HG9.out.res⟩
  have HBN : Hid ((∀ k, bk (.slice A1 F.data.length c1) = some k → w9.heap.size ≤ k) ∧ (∀ k, bk (.slice A2 F.mems.length c2) = some k → w9.heap.size ≤ k)) := ⟨hBn, hMn⟩
  obtain ⟨w11, hw11⟩ : ∃ X, X = w10.setCells pd 0 [.int .i64 a0, .int .u8 kb, .int .i64 a1, .int .i64 a2, .int .i64 a3, .int .i64 a4, .string (mkS F.path), .slice A1 F.data.length c1, .int .i64 F.owner, .int .i64 F.version, .int .i64 F.cversion, .int .i64 F.timeout, .int .i64 F.err, .int .i64 F.cver, .slice A2 F.mems.length c2, .slice A3 PS.length c3] := ⟨_, rfl⟩
  obtain ⟨h11, hc11⟩ := set16L HV.out.d (.int .i64 a0) (.int .u8 kb) (.int .i64 a1) (.int .i64 a2) (.int .i64 a3) (.int .i64 a4) (.string (mkS F.path)) (.slice A1 F.data.length c1) (.int .i64 F.owner) (.int .i64 F.version) (.int .i64 F.cversion) (.int .i64 F.timeout) (.int .i64 F.err) (.int .i64 F.cver) (.slice A2 F.mems.length c2) (.slice A3 PS.length c3)
  rw [← hw11] at h11 hc11
  have HG11 : Hid (GH w w11 g q rP pd #[.int .i64 a0, .int .u8 kb, .int .i64 a1, .int .i64 a2, .int .i64 a3, .int .i64 a4, .string (mkS F.path), .slice A1 F.data.length c1, .int .i64 F.owner, .int .i64 F.version, .int .i64 F.cversion, .int .i64 F.timeout, .int .i64 F.err, .int .i64 F.cver, .slice A2 F.mems.length c2, .slice A3 PS.length c3]) := HV.out.turn hc11 h11
  have hth := there16 HV.out.d
  have hon : (#[.int .i64 a0, .int .u8 kb, .int .i64 a1, .int .i64 a2, .int .i64 a3, .int .i64 a4, .string (mkS F.path), .slice A1 F.data.length c1, .int .i64 F.owner, .int .i64 F.version, .int .i64 F.cversion, .int .i64 F.timeout, .int .i64 F.err, .int .i64 F.cver, .slice A2 F.mems.length c2, .slice A3 PS.length c3] : Array Value).all (·.oneCell') = true := all_oneCell_toArray (by intro v hv; simp only [List.mem_cons, List.not_mem_nil, or_false] at hv; rcases hv with rfl | rfl | rfl | rfl | rfl | rfl | rfl | rfl | rfl | rfl | rfl | rfl | rfl | rfl | rfl | rfl <;> rfl)
  have HM11 : Hid (Bs w11 (.slice A1 F.data.length c1) F.data ∧ Mems w11 (.slice A2 F.mems.length c2) F.mems) := ⟨Bs.keep hBs hc11 (fun k hk e => by have := hBn k hk; have := HPD.out.1; omega), Mems.keep hMs hc11 (fun k hk e => by have := hMn k hk; have := HPD.out.1; omega)⟩
  have HFAR : Hid (∀ (w'' : World) (S : Nat → Prop), Chg S w11 w'' → (∀ k, w9.heap.size ≤ k → ¬ S k) → Prts w'' w''.heap.size (.slice A3 PS.length c3) PS) := fun w'' S hc hs => hfar w'' (fun k => k = pd ∨ S k) ((hc11.weak fun _ _ e => .inl e).trans (hc.weak fun _ _ e => .inr e)) (fun k hk e => by
    rcases e with e | e
    · have := HPD.out.1; omega
    · exact hs k hk e)
  have HRF : Hid (rfAll b = (withHead ⟨a0, a1, a2, a3, a4⟩ F PS.length, PS, rP)) := by
    show _ = _
    unfold rfAll rdHead
    rw [HKB.out.1, HKB.out.2]
    dsimp only
    rw [HX0.out]
    dsimp only
    rw [HX1.out]
    dsimp only
    rw [HX2.out]
    dsimp only
    rw [HX3.out]
    dsimp only
    rw [HX4.out]
    dsimp only
    rw [HF.out]
    dsimp only
    rw [HP.out]
  have HFIT : Hid (DedFit (withHead ⟨a0, a1, a2, a3, a4⟩ F PS.length) PS) := by
    have hb5 := rdBody_fit kb s4 hkb
    rw [HF.out] at hb5
    refine ⟨withHead_fit _ _ _ HI0.out HI1.out HI2.out HI3.out HI4.out hb5, fun p hp => ?_, rfl⟩
    have hp2 : p ∈ (rfTail kb rF).1 := by rw [HP.out]; exact hp
    unfold rfTail at hp2
    split at hp2
    · exact rfParts_fit _ _ p hp2
    · simp at hp2
  have HLEN : Hid (PS.length ≤ 500) := by
    have e : PS = (rfTail kb rF).1 := by rw [HP.out]
    show _ ≤ _
    rw [e]
    unfold rfTail
    split
    · have h1 := rfParts_len (rdCount rF (mostOf kb)).1.toNat (rdCount rF (mostOf kb)).2
      have h2 : (rdCount rF (mostOf kb)).1 ≤ 500 := by
        have hm : mostOf kb ≤ 500 := by unfold mostOf; split <;> omega
        unfold rdCount
        split
        · show (0 : Int) ≤ 500
          decide
        · omega
      omega
    · simp
  clear ht hra hR hC hBs hBn hMs hMn hfar hc11 h11 HG9 HX0 HX1 HX2 HX3 HX4 HI0 HI1 HI2 HI3 HI4 HF HP HKB hkb
  generalize w9.heap.size = bs at HPD HBN HFAR hw9
  clear hw9 HV
  as_aux_lemma =>
  have hwl := rfWhole_any HG11.out.rd
  have hE : w10.setCells pd 0 (#[.int .i64 a0, .int .u8 kb, .int .i64 a1, .int .i64 a2, .int .i64 a3, .int .i64 a4, .string (mkS F.path), .slice A1 F.data.length c1, .int .i64 F.owner, .int .i64 F.version, .int .i64 F.cversion, .int .i64 F.timeout, .int .i64 F.err, .int .i64 F.cver, .slice A2 F.mems.length c2, .slice A3 PS.length c3] : Array Value).toList = w11 := hw11.symm
  have HE : Hid _ := hE
  clear hw11 hE
  go_wp2_with (refine wpList_store_mid rfl 41 _ _ rfl pd 0 #[.int .i64 a0, .int .u8 kb, .int .i64 a1, .int .i64 a2, .int .i64 a3, .int .i64 a4, .string (mkS F.path), .slice A1 F.data.length c1, .int .i64 F.owner, .int .i64 F.version, .int .i64 F.cversion, .int .i64 F.timeout, .int .i64 F.err, .int .i64 F.cver, .slice A2 F.mems.length c2, .slice A3 PS.length c3] rfl rfl hth infoDs hon ?_; rw [HE.out])
  refine hwl.mono ?_
  rintro e w12 ⟨rfl, hw12⟩
  subst hw12
  clear hwl HE hth hon
  by_cases hwh : rP = some []
  · rw [decide_eq_true hwh]
    as_aux_lemma =>
    obtain ⟨z0, z1, z2, z3, z4, z5, z6, z7, z8, z9, z10, z11, z12, z13, z14, z15⟩ := cells16 HG11.out.d
    have HPR : Hid (Prts w12 w12.heap.size (.slice A3 PS.length c3) PS) := HFAR.out w12 Non (Chg.refl _ _) (fun _ _ e => e)
    cases hri0 : rightD (withHead ⟨a0, a1, a2, a3, a4⟩ F PS.length) PS with
    | false =>
      have HNONE : Hid (deedRf b = none) := by
        show _ = _
        unfold deedRf
        rw [HRF.out, if_neg]
        rintro ⟨_, h⟩
        dsimp only at h
        rw [hri0] at h
        cases h
      have hri := rright_any (withHead ⟨a0, a1, a2, a3, a4⟩ F PS.length) PS A1 A2 A3 c1 c2 c3 w12 (HL.out.below HG11.out.bel) ⟨HM11.out.1, HM11.out.2, HPR.out⟩ HFIT.out (by show PS.length ≤ _; have := HLEN.out; omega)
      rw [hri0] at hri
      have hri2 : Calls Tryz.prog 37 #[.agg #[.int .i64 a0, .int .u8 kb, .int .i64 a1, .int .i64 a2, .int .i64 a3, .int .i64 a4, .string (mkS F.path), .slice A1 F.data.length c1, .int .i64 F.owner, .int .i64 F.version, .int .i64 F.cversion, .int .i64 F.timeout, .int .i64 F.err, .int .i64 F.cver, .slice A2 F.mems.length c2, .slice A3 PS.length c3]] w12 fun e w' => e = .returned (.bool false) ∧ Below w12.heap.size w12 w' := by
        have h := hri
        simp only [withHead, hkF] at h
        exact h
      clear hri hri0
      as_aux_lemma =>
      go_wp2_with fail
      refine hri2.mono ?_
      rintro e w13 ⟨rfl, hB13⟩
      have HG13 : Hid _ := HG11.out.below hB13
      clear hri2 hB13 z0 z1 z2 z3 z4 z5 z6 z7 z8 z9 z10 z11 z12 z13 z14 z15
      obtain ⟨wz, hwz⟩ : ∃ X, X = w13.setCells w.heap.size 0 [.int .i64 0, .int .u8 0, .int .i64 0, .int .i64 0, .int .i64 0, .int .i64 0, .string ⟨#[]⟩, .slice none 0 0, .int .i64 0, .int .i64 0, .int .i64 0, .int .i64 0, .int .i64 0, .int .i64 0, .slice none 0 0, .slice none 0 0] := ⟨_, rfl⟩
      obtain ⟨h8, hcc⟩ := set16L HG13.out.res (.int .i64 0) (.int .u8 0) (.int .i64 0) (.int .i64 0) (.int .i64 0) (.int .i64 0) (.string ⟨#[]⟩) (.slice none 0 0) (.int .i64 0) (.int .i64 0) (.int .i64 0) (.int .i64 0) (.int .i64 0) (.int .i64 0) (.slice none 0 0) (.slice none 0 0)
      rw [← hwz] at h8 hcc
      have hth := there16 HG13.out.res
      have hon : (#[.int .i64 0, .int .u8 0, .int .i64 0, .int .i64 0, .int .i64 0, .int .i64 0, .string ⟨#[]⟩, .slice none 0 0, .int .i64 0, .int .i64 0, .int .i64 0, .int .i64 0, .int .i64 0, .int .i64 0, .slice none 0 0, .slice none 0 0] : Array Value).all (·.oneCell') = true := all_oneCell_toArray (by intro v hv; simp only [List.mem_cons, List.not_mem_nil, or_false] at hv; rcases hv with rfl | rfl | rfl | rfl | rfl | rfl | rfl | rfl | rfl | rfl | rfl | rfl | rfl | rfl | rfl | rfl <;> rfl)
      have HCC : Hid _ := hcc
      have HH8 : Hid _ := h8
      clear hcc h8
      go_wp2_with (refine wpList_store_mid rfl 41 _ _ rfl w.heap.size 0 #[.int .i64 0, .int .u8 0, .int .i64 0, .int .i64 0, .int .i64 0, .int .i64 0, .string ⟨#[]⟩, .slice none 0 0, .int .i64 0, .int .i64 0, .int .i64 0, .int .i64 0, .int .i64 0, .int .i64 0, .slice none 0 0, .slice none 0 0] rfl rfl hth infoDs hon ?_)
      rw [← hwz]
      obtain ⟨x0, x1, x2, x3, x4, x5, x6, x7, x8, x9, x10, x11, x12, x13, x14, x15⟩ := cells16 HH8.out
      refine bodyPost_ret (v := .tuple #[.agg #[.int .i64 0, .int .u8 0, .int .i64 0, .int .i64 0, .int .i64 0, .int .i64 0, .string ⟨#[]⟩, .slice none 0 0, .int .i64 0, .int .i64 0, .int .i64 0, .int .i64 0, .int .i64 0, .int .i64 0, .slice none 0 0, .slice none 0 0], .int .i64 4]) (by simp [results, Tryz.results15, go_sem, x0, x1, x2, x3, x4, x5, x6, x7, x8, x9, x10, x11, x12, x13, x14, x15]) rfl ?_
      rw [HNONE.out]
      exact ⟨rfl, HG13.out.bel.trans (HCC.out.below (fun k hk => by omega) HG13.out.bel.size)⟩
    | true =>
      have HSOME : Hid (deedRf b = some (withHead ⟨a0, a1, a2, a3, a4⟩ F PS.length, PS)) := by
        show _ = _
        unfold deedRf
        rw [HRF.out, if_pos ⟨hwh, hri0⟩]
      have hri := rright_any (withHead ⟨a0, a1, a2, a3, a4⟩ F PS.length) PS A1 A2 A3 c1 c2 c3 w12 (HL.out.below HG11.out.bel) ⟨HM11.out.1, HM11.out.2, HPR.out⟩ HFIT.out (by show PS.length ≤ _; have := HLEN.out; omega)
      rw [hri0] at hri
      have hri2 : Calls Tryz.prog 37 #[.agg #[.int .i64 a0, .int .u8 kb, .int .i64 a1, .int .i64 a2, .int .i64 a3, .int .i64 a4, .string (mkS F.path), .slice A1 F.data.length c1, .int .i64 F.owner, .int .i64 F.version, .int .i64 F.cversion, .int .i64 F.timeout, .int .i64 F.err, .int .i64 F.cver, .slice A2 F.mems.length c2, .slice A3 PS.length c3]] w12 fun e w' => e = .returned (.bool true) ∧ Below w12.heap.size w12 w' := by
        have h := hri
        simp only [withHead, hkF] at h
        exact h
      clear hri hri0
      as_aux_lemma =>
      go_wp2_with fail
      refine hri2.mono ?_
      rintro e w13 ⟨rfl, hB13⟩
      have HG13 : Hid (GH w w13 g q rP pd #[.int .i64 a0, .int .u8 kb, .int .i64 a1, .int .i64 a2, .int .i64 a3, .int .i64 a4, .string (mkS F.path), .slice A1 F.data.length c1, .int .i64 F.owner, .int .i64 F.version, .int .i64 F.cversion, .int .i64 F.timeout, .int .i64 F.err, .int .i64 F.cver, .slice A2 F.mems.length c2, .slice A3 PS.length c3]) := HG11.out.below hB13
      have HM13 : Hid (Bs w13 (.slice A1 F.data.length c1) F.data ∧ Mems w13 (.slice A2 F.mems.length c2) F.mems) := ⟨Bs.below' HM11.out.1 hB13, HM11.out.2.below' hB13⟩
      have HF13 : Hid (∀ (w'' : World) (S : Nat → Prop), Chg S w13 w'' → (∀ k, bs ≤ k → ¬ S k) → Prts w'' w''.heap.size (.slice A3 PS.length c3) PS) := fun w'' S hc hs => HFAR.out w'' S (((Chg.of_below hB13).weak (fun _ _ e => e.elim)).trans hc) hs
      clear hri2 hB13 z0 z1 z2 z3 z4 z5 z6 z7 z8 z9 z10 z11 z12 z13 z14 z15
      obtain ⟨wz, hwz⟩ : ∃ X, X = w13.setCells w.heap.size 0 [.int .i64 a0, .int .u8 kb, .int .i64 a1, .int .i64 a2, .int .i64 a3, .int .i64 a4, .string (mkS F.path), .slice A1 F.data.length c1, .int .i64 F.owner, .int .i64 F.version, .int .i64 F.cversion, .int .i64 F.timeout, .int .i64 F.err, .int .i64 F.cver, .slice A2 F.mems.length c2, .slice A3 PS.length c3] := ⟨_, rfl⟩
      obtain ⟨h8, hcc⟩ := set16L HG13.out.res (.int .i64 a0) (.int .u8 kb) (.int .i64 a1) (.int .i64 a2) (.int .i64 a3) (.int .i64 a4) (.string (mkS F.path)) (.slice A1 F.data.length c1) (.int .i64 F.owner) (.int .i64 F.version) (.int .i64 F.cversion) (.int .i64 F.timeout) (.int .i64 F.err) (.int .i64 F.cver) (.slice A2 F.mems.length c2) (.slice A3 PS.length c3)
      rw [← hwz] at h8 hcc
      have hth := there16 HG13.out.res
      have hon : (#[.int .i64 a0, .int .u8 kb, .int .i64 a1, .int .i64 a2, .int .i64 a3, .int .i64 a4, .string (mkS F.path), .slice A1 F.data.length c1, .int .i64 F.owner, .int .i64 F.version, .int .i64 F.cversion, .int .i64 F.timeout, .int .i64 F.err, .int .i64 F.cver, .slice A2 F.mems.length c2, .slice A3 PS.length c3] : Array Value).all (·.oneCell') = true := all_oneCell_toArray (by intro v hv; simp only [List.mem_cons, List.not_mem_nil, or_false] at hv; rcases hv with rfl | rfl | rfl | rfl | rfl | rfl | rfl | rfl | rfl | rfl | rfl | rfl | rfl | rfl | rfl | rfl <;> rfl)
      have HCC : Hid _ := hcc
      have HH8 : Hid _ := h8
      clear hcc h8
      have hra := range16 HG13.out.d
      go_wp2_with (first | (refine wpList_load_mid rfl 41 _ rfl pd 0 rfl [.int .i64 a0, .int .u8 kb, .int .i64 a1, .int .i64 a2, .int .i64 a3, .int .i64 a4, .string (mkS F.path), .slice A1 F.data.length c1, .int .i64 F.owner, .int .i64 F.version, .int .i64 F.cversion, .int .i64 F.timeout, .int .i64 F.err, .int .i64 F.cver, .slice A2 F.mems.length c2, .slice A3 PS.length c3] _ hra Tryz.underlying41 rfl infoDs ?_) | (refine wpList_store_mid rfl 41 _ _ rfl w.heap.size 0 #[.int .i64 a0, .int .u8 kb, .int .i64 a1, .int .i64 a2, .int .i64 a3, .int .i64 a4, .string (mkS F.path), .slice A1 F.data.length c1, .int .i64 F.owner, .int .i64 F.version, .int .i64 F.cversion, .int .i64 F.timeout, .int .i64 F.err, .int .i64 F.cver, .slice A2 F.mems.length c2, .slice A3 PS.length c3] rfl rfl hth infoDs hon ?_))
      rw [← hwz]
      obtain ⟨x0, x1, x2, x3, x4, x5, x6, x7, x8, x9, x10, x11, x12, x13, x14, x15⟩ := cells16 HH8.out
      refine bodyPost_ret (v := .tuple #[.agg #[.int .i64 a0, .int .u8 kb, .int .i64 a1, .int .i64 a2, .int .i64 a3, .int .i64 a4, .string (mkS F.path), .slice A1 F.data.length c1, .int .i64 F.owner, .int .i64 F.version, .int .i64 F.cversion, .int .i64 F.timeout, .int .i64 F.err, .int .i64 F.cver, .slice A2 F.mems.length c2, .slice A3 PS.length c3], .int .i64 0]) (by simp [results, Tryz.results15, go_sem, x0, x1, x2, x3, x4, x5, x6, x7, x8, x9, x10, x11, x12, x13, x14, x15]) rfl ?_
      rw [HSOME.out]
      refine ⟨A1, c1, A2, c2, A3, c3, by simp only [withHead, hkF], ⟨Bs.keep HM13.out.1 HCC.out (fun k hk e => by have := HBN.out.1 k hk; have := HPD.out.2; omega), Mems.keep HM13.out.2 HCC.out (fun k hk e => by have := HBN.out.2 k hk; have := HPD.out.2; omega), HF13.out _ _ HCC.out (fun k hk e => by have := HPD.out.2; omega)⟩, HG13.out.bel.trans (HCC.out.below (fun k hk => by omega) HG13.out.bel.size), fun w'' S hc hs => ⟨(Bs.keep HM13.out.1 HCC.out (fun k hk e => by have := HBN.out.1 k hk; have := HPD.out.2; omega)).keep hc (fun k hk e => hs k (by have := HBN.out.1 k hk; have := HPD.out.2; omega) e), (Mems.keep HM13.out.2 HCC.out (fun k hk e => by have := HBN.out.2 k hk; have := HPD.out.2; omega)).keep hc (fun k hk e => hs k (by have := HBN.out.2 k hk; have := HPD.out.2; omega) e), HF13.out w'' (fun k => k = w.heap.size ∨ S k) ((HCC.out.weak (fun _ _ e => .inl e)).trans (hc.weak (fun _ _ e => .inr e))) (fun k hk e => by
        rcases e with e | e
        · have := HPD.out.2; omega
        · exact hs k (by have := HPD.out.2; omega) e)⟩⟩
  · rw [decide_eq_false hwh]
    have HNONE : Hid (deedRf b = none) := by
      show _ = _
      unfold deedRf
      rw [HRF.out, if_neg]
      rintro ⟨h, _⟩
      exact hwh h
    as_aux_lemma =>
    obtain ⟨wz, hwz⟩ : ∃ X, X = w12.setCells w.heap.size 0 [.int .i64 0, .int .u8 0, .int .i64 0, .int .i64 0, .int .i64 0, .int .i64 0, .string ⟨#[]⟩, .slice none 0 0, .int .i64 0, .int .i64 0, .int .i64 0, .int .i64 0, .int .i64 0, .int .i64 0, .slice none 0 0, .slice none 0 0] := ⟨_, rfl⟩
    obtain ⟨h8, hcc⟩ := set16L HG11.out.res (.int .i64 0) (.int .u8 0) (.int .i64 0) (.int .i64 0) (.int .i64 0) (.int .i64 0) (.string ⟨#[]⟩) (.slice none 0 0) (.int .i64 0) (.int .i64 0) (.int .i64 0) (.int .i64 0) (.int .i64 0) (.int .i64 0) (.slice none 0 0) (.slice none 0 0)
    rw [← hwz] at h8 hcc
    have hth := there16 HG11.out.res
    have hon : (#[.int .i64 0, .int .u8 0, .int .i64 0, .int .i64 0, .int .i64 0, .int .i64 0, .string ⟨#[]⟩, .slice none 0 0, .int .i64 0, .int .i64 0, .int .i64 0, .int .i64 0, .int .i64 0, .int .i64 0, .slice none 0 0, .slice none 0 0] : Array Value).all (·.oneCell') = true := all_oneCell_toArray (by intro v hv; simp only [List.mem_cons, List.not_mem_nil, or_false] at hv; rcases hv with rfl | rfl | rfl | rfl | rfl | rfl | rfl | rfl | rfl | rfl | rfl | rfl | rfl | rfl | rfl | rfl <;> rfl)
    have HCC : Hid _ := hcc
    have HH8 : Hid _ := h8
    clear hcc h8
    go_wp2_with (refine wpList_store_mid rfl 41 _ _ rfl w.heap.size 0 #[.int .i64 0, .int .u8 0, .int .i64 0, .int .i64 0, .int .i64 0, .int .i64 0, .string ⟨#[]⟩, .slice none 0 0, .int .i64 0, .int .i64 0, .int .i64 0, .int .i64 0, .int .i64 0, .int .i64 0, .slice none 0 0, .slice none 0 0] rfl rfl hth infoDs hon ?_)
    rw [← hwz]
    obtain ⟨x0, x1, x2, x3, x4, x5, x6, x7, x8, x9, x10, x11, x12, x13, x14, x15⟩ := cells16 HH8.out
    refine bodyPost_ret (v := .tuple #[.agg #[.int .i64 0, .int .u8 0, .int .i64 0, .int .i64 0, .int .i64 0, .int .i64 0, .string ⟨#[]⟩, .slice none 0 0, .int .i64 0, .int .i64 0, .int .i64 0, .int .i64 0, .int .i64 0, .int .i64 0, .slice none 0 0, .slice none 0 0], .int .i64 4]) (by simp [results, Tryz.results15, go_sem, x0, x1, x2, x3, x4, x5, x6, x7, x8, x9, x10, x11, x12, x13, x14, x15]) rfl ?_
    rw [HNONE.out]
    exact ⟨rfl, HG11.out.bel.trans (HCC.out.below (fun k hk => by omega) HG11.out.bel.size)⟩
end Go.Proofs.YtaeoafedfgbcaaaGreatDoor.DD
