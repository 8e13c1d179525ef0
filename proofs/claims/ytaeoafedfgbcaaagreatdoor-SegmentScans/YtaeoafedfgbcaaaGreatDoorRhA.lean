/- What serves the walks of the document's own read. The walk of the document's own read of a body: kind 1. The walk of the document's own read of a body: kind 2. The walk of the document's own read of a body: kind 3. The walk of the document's own read of a body: kind 4. -/
import Derived.Test.YtaeoafedfgbcaaaGreatDoorRfA
import Derived.Test.YtaeoafedfgbcaaaGreatDoorDdJa
import Derived.Test.YtaeoafedfgbcaaaGreatDoorRfS
namespace Go.Proofs.YtaeoafedfgbcaaaGreatDoor.DD
set_option linter.unusedVariables false
open Go.RowKit
set_option linter.unusedVariables false

/- While a deed is read: the reader at g, the deed at block p, what is answered at block p + 1; nothing of what was there before has turned but the reader. -/
structure GR (w0 w : World) (g : Nat) (q : Option Nat) (r : Rd) (cs : Array Value) : Prop where
  rd : Rdf w g q r
  d : w.heap[w0.heap.size]? = some (.cells cs 41 (0, 0))
  res : w.heap[w0.heap.size + 1]? = some (.cells #[.int .i64 0, .int .u8 0, .int .i64 0, .int .i64 0, .int .i64 0, .int .i64 0, .string ⟨#[]⟩, .slice none 0 0, .int .i64 0, .int .i64 0, .int .i64 0, .int .i64 0, .int .i64 0, .int .i64 0, .slice none 0 0, .slice none 0 0] 41 (0, 0))
  chg : Chg (One g) w0 w
  g : g < w0.heap.size
  q : ∀ k, q = some k → k < w0.heap.size
theorem GR.read {w0 w w' : World} {g : Nat} {q : Option Nat} {r r' : Rd} {cs : Array Value} (h : GR w0 w g q r cs) (hr : Rdf w' g q r') (hc : Chg (One g) w w') : GR w0 w' g q r' cs :=
  ⟨hr, by rw [hc.block _ (heap_lt h.d) (fun e => by have := h.g; unfold One at e; omega)]; exact h.d, by rw [hc.block _ (heap_lt h.res) (fun e => by have := h.g; unfold One at e; omega)]; exact h.res, h.chg.trans hc, h.g, h.q⟩
theorem GR.below {w0 w w' : World} {g : Nat} {q : Option Nat} {r : Rd} {cs : Array Value} (h : GR w0 w g q r cs) (hb : Below w.heap.size w w') : GR w0 w' g q r cs :=
  h.read (RdAt.keep h.rd (Chg.of_below hb) (fun e => e) (fun _ _ e => e)) ((Chg.of_below hb).weak fun _ _ e => e.elim)
theorem GR.set {w0 w : World} {g : Nat} {q : Option Nat} {r : Rd} {cs : Array Value} (h : GR w0 w g q r cs) (j : Nat) (v : Value) : GR w0 (w.setCell ⟨w0.heap.size, j, none⟩ v) g q r (cs.setIfInBounds j v) := by
  have hc : Chg (fun k => k = w0.heap.size) w (w.setCell ⟨w0.heap.size, j, none⟩ v) := Chg.setCell w ⟨w0.heap.size, j, none⟩ v rfl
  exact ⟨RdAt.keep h.rd hc (fun e => by have := h.g; omega) (fun k hk e => by have := h.q k hk; omega), heap_set h.d j v, by rw [hc.block _ (heap_lt h.res) (by omega)]; exact h.res, h.chg.trans' hc (fun i hi e => by omega), h.g, h.q⟩
theorem sixteenR {w0 w : World} {g : Nat} {q : Option Nat} {r : Rd} {cs : Array Value} (h : GR w0 w g q r cs) {w' : World} (hc : Chg (fun k => k = w0.heap.size + 1) w w') : Rdf w' g q r ∧ Chg (One g) w0 w' :=
  ⟨RdAt.keep h.rd hc (fun e => by have := h.g; omega) (fun k hk e => by have := h.q k hk; omega), h.chg.trans' hc (fun i hi e => by omega)⟩
/- What a body that is read leaves. -/
def GotG (w w' : World) (g : Nat) (q : Option Nat) (e : Ending) (f : Fl) (r : Rd) : Prop :=
  ∃ A1 c1 A2 c2, e = .returned (.agg #[.int .i64 f.zxid, .int .u8 f.kind, .int .i64 f.session, .int .i64 f.turn, .int .i64 f.xid, .int .i64 f.time, .string (mkS f.path), .slice A1 f.data.length c1, .int .i64 f.owner, .int .i64 f.version, .int .i64 f.cversion, .int .i64 f.timeout, .int .i64 f.err, .int .i64 f.cver, .slice A2 f.mems.length c2, .slice none 0 0]) ∧ Rdf w' g q r ∧ Chg (One g) w w' ∧
    Bs w' (.slice A1 f.data.length c1) f.data ∧ (∀ k, bk (.slice A1 f.data.length c1) = some k → w.heap.size ≤ k) ∧ Mems w' (.slice A2 f.mems.length c2) f.mems ∧ (∀ k, bk (.slice A2 f.mems.length c2) = some k → w.heap.size ≤ k)
def hd5 (f : Fl) (zx se tu xi ti : Int) : Fl := { f with zxid := zx, session := se, turn := tu, xid := xi, time := ti }
theorem rf4Get_or {w : World} {x : Value} {b : List UInt8} (hx : Bs w x b) (hb : b.length ≤ 140737488355328) :
    Calls Tryz.prog 66 #[x] w fun e w' => (cfgOf b = none ∧ e = .returned (.tuple #[.agg #[.int .i64 0, .slice none 0 0], .int .i64 4]) ∧ Below w.heap.size w w') ∨ (∃ ver ml AM CM, cfgOf b = some (ver, ml) ∧ e = .returned (.tuple #[.agg #[.int .i64 ver, .slice AM ml.length CM], .int .i64 0]) ∧ Mems w' (.slice AM ml.length CM) ml ∧ (∀ k, bk (.slice AM ml.length CM) = some k → w.heap.size ≤ k ∧ k < w'.heap.size) ∧ Below w.heap.size w w') := by
  refine (rf4Get_any hx hb).mono ?_
  intro e w' h
  rw [← cfg_same] at h
  cases hc : cfgOf b with
  | none =>
    rw [hc] at h
    obtain ⟨rfl, hB⟩ := h
    exact .inl ⟨rfl, rfl, hB⟩
  | some y =>
    rw [hc] at h
    obtain ⟨ver, ml⟩ := y
    obtain ⟨v, rfl, ho, hB⟩ := h
    have hm := mems_of_owns ho
    have hl : ∀ k, bk v = some k → w.heap.size ≤ k ∧ k < w'.heap.size := fun k hk => ho.lt k (bk_blk hk)
    obtain ⟨A, C, rfl⟩ := hm.form
    exact .inr ⟨ver, ml, A, C, rfl, rfl, hm, hl, hB⟩
end Go.Proofs.YtaeoafedfgbcaaaGreatDoor.DD

namespace Go.Proofs.YtaeoafedfgbcaaaGreatDoor.DD
set_option linter.unusedVariables false
open Go.RowKit
set_option linter.unusedVariables false

set_option maxRecDepth 100000 in
set_option maxHeartbeats 8000000 in
theorem rread1 {w : World} {g : Nat} {q : Option Nat} {r : Rd} (h : Rdf w g q r) (hq : ∀ k, q = some k → k < w.heap.size) (zx se tu xi ti : Int) (deep : Bool) :
    Calls Tryz.prog 35 #[.pointer (some ⟨g, 0, none⟩), .agg #[.int .i64 zx, .int .u8 1, .int .i64 se, .int .i64 tu, .int .i64 xi, .int .i64 ti, .string ⟨#[]⟩, .slice none 0 0, .int .i64 0, .int .i64 0, .int .i64 0, .int .i64 0, .int .i64 0, .int .i64 0, .slice none 0 0, .slice none 0 0], .bool deep] w fun e w' => GotG w w' g q e (hd5 (rdBody 1 r).1 zx se tu xi ti) ((rdBody 1 r).2) := by
  have hgl : g < w.heap.size := RdAt.lt h
  obtain ⟨w1, hw1⟩ : ∃ X, X = (w.alloc (.cells #[.int .i64 zx, .int .u8 1, .int .i64 se, .int .i64 tu, .int .i64 xi, .int .i64 ti, .string ⟨#[]⟩, .slice none 0 0, .int .i64 0, .int .i64 0, .int .i64 0, .int .i64 0, .int .i64 0, .int .i64 0, .slice none 0 0, .slice none 0 0] 41)).alloc (.cells #[.int .i64 0, .int .u8 0, .int .i64 0, .int .i64 0, .int .i64 0, .int .i64 0, .string ⟨#[]⟩, .slice none 0 0, .int .i64 0, .int .i64 0, .int .i64 0, .int .i64 0, .int .i64 0, .int .i64 0, .slice none 0 0, .slice none 0 0] 41) := ⟨_, rfl⟩
  have hB1 : Below w.heap.size w w1 := by rw [hw1]; exact below2 _ _ _
  have HG1 : Hid (GR w w1 g q r #[.int .i64 zx, .int .u8 1, .int .i64 se, .int .i64 tu, .int .i64 xi, .int .i64 ti, .string ⟨#[]⟩, .slice none 0 0, .int .i64 0, .int .i64 0, .int .i64 0, .int .i64 0, .int .i64 0, .int .i64 0, .slice none 0 0, .slice none 0 0]) := by
    refine ⟨RdAt.keep h (Chg.of_below hB1) (fun e => e) (fun _ _ e => e), ?_, ?_, (Chg.of_below hB1).weak fun _ _ e => e.elim, hgl, hq⟩
    · rw [hw1, Below.heap_alloc _ _ _ (by simp)]
      exact heap_alloc_new w _
    · rw [hw1]
      have := heap_alloc_new (w.alloc (.cells #[.int .i64 zx, .int .u8 1, .int .i64 se, .int .i64 tu, .int .i64 xi, .int .i64 ti, .string ⟨#[]⟩, .slice none 0 0, .int .i64 0, .int .i64 0, .int .i64 0, .int .i64 0, .int .i64 0, .int .i64 0, .slice none 0 0, .slice none 0 0] 41)) (.cells #[.int .i64 0, .int .u8 0, .int .i64 0, .int .i64 0, .int .i64 0, .int .i64 0, .string ⟨#[]⟩, .slice none 0 0, .int .i64 0, .int .i64 0, .int .i64 0, .int .i64 0, .int .i64 0, .int .i64 0, .slice none 0 0, .slice none 0 0] 41)
      rwa [World.size_alloc] at this
  clear h hB1
  have ht := rfText_any HG1.out.rd 200
  obtain ⟨x1, r1, hX1⟩ : ∃ a b, rdText (r) 200 = (a, b) := ⟨_, _, rfl⟩
  have HX1 : Hid (rdText (r) 200 = (x1, r1)) := hX1
  rw [hX1] at ht
  dsimp only at ht
  clear hX1
  rw [hw1] at ht
  go_enter Tryz.func35, Tryz.ntmps35
  go_wp2_with fail
  refine ht.mono ?_
  rintro e v2 ⟨rfl, hR, hC⟩
  rw [← hw1] at hC
  have HV : Hid (GR w v2 g q r1 #[.int .i64 zx, .int .u8 1, .int .i64 se, .int .i64 tu, .int .i64 xi, .int .i64 ti, .string ⟨#[]⟩, .slice none 0 0, .int .i64 0, .int .i64 0, .int .i64 0, .int .i64 0, .int .i64 0, .int .i64 0, .slice none 0 0, .slice none 0 0]) := HG1.out.read hR hC
  obtain ⟨w2, hw2⟩ : ∃ X, X = v2.setCell ⟨w.heap.size, 6, none⟩ (.string (mkS x1)) := ⟨_, rfl⟩
  have HG2 : Hid (GR w w2 g q r1 #[.int .i64 zx, .int .u8 1, .int .i64 se, .int .i64 tu, .int .i64 xi, .int .i64 ti, .string (mkS x1), .slice none 0 0, .int .i64 0, .int .i64 0, .int .i64 0, .int .i64 0, .int .i64 0, .int .i64 0, .slice none 0 0, .slice none 0 0]) := by rw [hw2]; exact HV.out.set 6 _
  obtain ⟨z0, z1, z2, z3, z4, z5, z6, z7, z8, z9, z10, z11, z12, z13, z14, z15⟩ := cells16 HV.out.d
  obtain ⟨f0, f1, f2, f3, f4, f5, f6, f7, f8, f9, f10, f11, f12, f13, f14, f15⟩ := frozen16 HV.out.d
  clear ht hR hC HG1 hw1 z0 z1 z2 z3 z4 z5 z7 z8 z9 z10 z11 z12 z13 z14 z15 f0 f1 f2 f3 f4 f5 f7 f8 f9 f10 f11 f12 f13 f14 f15
  have hle := rdText_le (r1) 1000 (by decide)
  have ht := rfBytes_any HG2.out.rd 1000 (by omega)
  have HLE : Hid (((rdText (r1) 1000).1.length : Int) ≤ 1000) := hle
  clear hle
  obtain ⟨x2, r2, hX2⟩ : ∃ a b, rdText (r1) 1000 = (a, b) := ⟨_, _, rfl⟩
  have HX2 : Hid (rdText (r1) 1000 = (x2, r2)) := hX2
  rw [hX2] at ht
  dsimp only at ht
  clear hX2
  rw [hw2] at ht
  go_wp2_with fail
  refine ht.mono ?_
  rintro e v3 ⟨vb, rfl, hBs, hR, hC, hNew⟩
  rw [← hw2] at hC hNew
  obtain ⟨AD, CD, rfl⟩ := bs_form hBs
  have HBs : Hid (Bs v3 (.slice AD x2.length CD) x2) := hBs
  have HNew : Hid (∀ k, bk (.slice AD x2.length CD) = some k → w.heap.size + 2 ≤ k) := fun k hk => by have := hNew k hk; have := heap_lt HG2.out.res; omega
  have HV : Hid (GR w v3 g q r2 #[.int .i64 zx, .int .u8 1, .int .i64 se, .int .i64 tu, .int .i64 xi, .int .i64 ti, .string (mkS x1), .slice none 0 0, .int .i64 0, .int .i64 0, .int .i64 0, .int .i64 0, .int .i64 0, .int .i64 0, .slice none 0 0, .slice none 0 0]) := HG2.out.read hR hC
  obtain ⟨w3, hw3⟩ : ∃ X, X = v3.setCell ⟨w.heap.size, 7, none⟩ (.slice AD x2.length CD) := ⟨_, rfl⟩
  have HG3 : Hid (GR w w3 g q r2 #[.int .i64 zx, .int .u8 1, .int .i64 se, .int .i64 tu, .int .i64 xi, .int .i64 ti, .string (mkS x1), .slice AD x2.length CD, .int .i64 0, .int .i64 0, .int .i64 0, .int .i64 0, .int .i64 0, .int .i64 0, .slice none 0 0, .slice none 0 0]) := by rw [hw3]; exact HV.out.set 7 _
  have HBsn : Hid (Bs w3 (.slice AD x2.length CD) x2) := by rw [hw3]; exact HBs.out.keep (Chg.setCell (S := fun k => k = w.heap.size) v3 ⟨w.heap.size, 7, none⟩ _ rfl) (fun k hk e => by have := HNew.out k hk; omega)
  obtain ⟨z0, z1, z2, z3, z4, z5, z6, z7, z8, z9, z10, z11, z12, z13, z14, z15⟩ := cells16 HV.out.d
  obtain ⟨f0, f1, f2, f3, f4, f5, f6, f7, f8, f9, f10, f11, f12, f13, f14, f15⟩ := frozen16 HV.out.d
  clear ht hR hC HG2 hw2 z0 z1 z2 z3 z4 z5 z6 z8 z9 z10 z11 z12 z13 z14 z15 f0 f1 f2 f3 f4 f5 f6 f8 f9 f10 f11 f12 f13 f14 f15 hBs hNew
  clear HBs
  have HBs := HBsn
  clear HBsn
  have ht := rfInt_any HG3.out.rd
  obtain ⟨x3, r3, hX3⟩ : ∃ a b, rdInt (r2) = (a, b) := ⟨_, _, rfl⟩
  have HX3 : Hid (rdInt (r2) = (x3, r3)) := hX3
  rw [hX3] at ht
  dsimp only at ht
  clear hX3
  rw [hw3] at ht
  go_wp2_with fail
  refine ht.mono ?_
  rintro e v4 ⟨rfl, hR, hC⟩
  rw [← hw3] at hC
  have HV : Hid (GR w v4 g q r3 #[.int .i64 zx, .int .u8 1, .int .i64 se, .int .i64 tu, .int .i64 xi, .int .i64 ti, .string (mkS x1), .slice AD x2.length CD, .int .i64 0, .int .i64 0, .int .i64 0, .int .i64 0, .int .i64 0, .int .i64 0, .slice none 0 0, .slice none 0 0]) := HG3.out.read hR hC
  have HBsv : Hid (Bs v4 (.slice AD x2.length CD) x2) := HBs.out.keep hC (fun k hk e => by have := HNew.out k hk; have := HG3.out.g; unfold One at e; omega)
  obtain ⟨w4, hw4⟩ : ∃ X, X = v4.setCell ⟨w.heap.size, 8, none⟩ (.int .i64 x3) := ⟨_, rfl⟩
  have HG4 : Hid (GR w w4 g q r3 #[.int .i64 zx, .int .u8 1, .int .i64 se, .int .i64 tu, .int .i64 xi, .int .i64 ti, .string (mkS x1), .slice AD x2.length CD, .int .i64 x3, .int .i64 0, .int .i64 0, .int .i64 0, .int .i64 0, .int .i64 0, .slice none 0 0, .slice none 0 0]) := by rw [hw4]; exact HV.out.set 8 _
  have HBsn : Hid (Bs w4 (.slice AD x2.length CD) x2) := by rw [hw4]; exact HBsv.out.keep (Chg.setCell (S := fun k => k = w.heap.size) v4 ⟨w.heap.size, 8, none⟩ _ rfl) (fun k hk e => by have := HNew.out k hk; omega)
  obtain ⟨z0, z1, z2, z3, z4, z5, z6, z7, z8, z9, z10, z11, z12, z13, z14, z15⟩ := cells16 HV.out.d
  obtain ⟨f0, f1, f2, f3, f4, f5, f6, f7, f8, f9, f10, f11, f12, f13, f14, f15⟩ := frozen16 HV.out.d
  clear ht hR hC HG3 hw3 z0 z1 z2 z3 z4 z5 z6 z7 z9 z10 z11 z12 z13 z14 z15 f0 f1 f2 f3 f4 f5 f6 f7 f9 f10 f11 f12 f13 f14 f15
  clear HBs HBsv
  have HBs := HBsn
  clear HBsn
  have ht := rfInt_any HG4.out.rd
  obtain ⟨x4, r4, hX4⟩ : ∃ a b, rdInt (r3) = (a, b) := ⟨_, _, rfl⟩
  have HX4 : Hid (rdInt (r3) = (x4, r4)) := hX4
  rw [hX4] at ht
  dsimp only at ht
  clear hX4
  rw [hw4] at ht
  go_wp2_with fail
  refine ht.mono ?_
  rintro e v5 ⟨rfl, hR, hC⟩
  rw [← hw4] at hC
  have HV : Hid (GR w v5 g q r4 #[.int .i64 zx, .int .u8 1, .int .i64 se, .int .i64 tu, .int .i64 xi, .int .i64 ti, .string (mkS x1), .slice AD x2.length CD, .int .i64 x3, .int .i64 0, .int .i64 0, .int .i64 0, .int .i64 0, .int .i64 0, .slice none 0 0, .slice none 0 0]) := HG4.out.read hR hC
  have HBsv : Hid (Bs v5 (.slice AD x2.length CD) x2) := HBs.out.keep hC (fun k hk e => by have := HNew.out k hk; have := HG4.out.g; unfold One at e; omega)
  obtain ⟨w5, hw5⟩ : ∃ X, X = v5.setCell ⟨w.heap.size, 10, none⟩ (.int .i64 x4) := ⟨_, rfl⟩
  have HG5 : Hid (GR w w5 g q r4 #[.int .i64 zx, .int .u8 1, .int .i64 se, .int .i64 tu, .int .i64 xi, .int .i64 ti, .string (mkS x1), .slice AD x2.length CD, .int .i64 x3, .int .i64 0, .int .i64 x4, .int .i64 0, .int .i64 0, .int .i64 0, .slice none 0 0, .slice none 0 0]) := by rw [hw5]; exact HV.out.set 10 _
  have HBsn : Hid (Bs w5 (.slice AD x2.length CD) x2) := by rw [hw5]; exact HBsv.out.keep (Chg.setCell (S := fun k => k = w.heap.size) v5 ⟨w.heap.size, 10, none⟩ _ rfl) (fun k hk e => by have := HNew.out k hk; omega)
  obtain ⟨z0, z1, z2, z3, z4, z5, z6, z7, z8, z9, z10, z11, z12, z13, z14, z15⟩ := cells16 HV.out.d
  obtain ⟨f0, f1, f2, f3, f4, f5, f6, f7, f8, f9, f10, f11, f12, f13, f14, f15⟩ := frozen16 HV.out.d
  clear ht hR hC HG4 hw4 z0 z1 z2 z3 z4 z5 z6 z7 z8 z9 z11 z12 z13 z14 z15 f0 f1 f2 f3 f4 f5 f6 f7 f8 f9 f11 f12 f13 f14 f15
  clear HBs HBsv
  have HBs := HBsn
  clear HBsn
  as_aux_lemma =>
  have hrg := range16 HG5.out.d
  have hth := there16 HG5.out.res
  have hon : (#[.int .i64 zx, .int .u8 1, .int .i64 se, .int .i64 tu, .int .i64 xi, .int .i64 ti, .string (mkS x1), .slice AD x2.length CD, .int .i64 x3, .int .i64 0, .int .i64 x4, .int .i64 0, .int .i64 0, .int .i64 0, .slice none 0 0, .slice none 0 0] : Array Value).all (·.oneCell') = true := all_oneCell_toArray (by intro v hv; simp only [List.mem_cons, List.not_mem_nil, or_false] at hv; rcases hv with rfl | rfl | rfl | rfl | rfl | rfl | rfl | rfl | rfl | rfl | rfl | rfl | rfl | rfl | rfl | rfl <;> rfl)
  obtain ⟨w8, hw8⟩ : ∃ X, X = w5.setCells (w.heap.size + 1) 0 [.int .i64 zx, .int .u8 1, .int .i64 se, .int .i64 tu, .int .i64 xi, .int .i64 ti, .string (mkS x1), .slice AD x2.length CD, .int .i64 x3, .int .i64 0, .int .i64 x4, .int .i64 0, .int .i64 0, .int .i64 0, .slice none 0 0, .slice none 0 0] := ⟨_, rfl⟩
  obtain ⟨h8, hcc⟩ := set16L HG5.out.res (.int .i64 zx) (.int .u8 1) (.int .i64 se) (.int .i64 tu) (.int .i64 xi) (.int .i64 ti) (.string (mkS x1)) (.slice AD x2.length CD) (.int .i64 x3) (.int .i64 0) (.int .i64 x4) (.int .i64 0) (.int .i64 0) (.int .i64 0) (.slice none 0 0) (.slice none 0 0)
  rw [← hw8] at h8 hcc
  have HR8 : Hid _ := sixteenR HG5.out hcc
  have HCC : Hid _ := hcc
  have HH8 : Hid _ := h8
  rw [hw5] at hrg hth
  clear h8 hcc
  go_wp2_with (first | (refine wpList_load_mid rfl 41 _ rfl w.heap.size 0 rfl [.int .i64 zx, .int .u8 1, .int .i64 se, .int .i64 tu, .int .i64 xi, .int .i64 ti, .string (mkS x1), .slice AD x2.length CD, .int .i64 x3, .int .i64 0, .int .i64 x4, .int .i64 0, .int .i64 0, .int .i64 0, .slice none 0 0, .slice none 0 0] _ hrg Tryz.underlying41 rfl infoDs ?_) | (refine wpList_store_mid rfl 41 _ _ rfl (w.heap.size + 1) 0 #[.int .i64 zx, .int .u8 1, .int .i64 se, .int .i64 tu, .int .i64 xi, .int .i64 ti, .string (mkS x1), .slice AD x2.length CD, .int .i64 x3, .int .i64 0, .int .i64 x4, .int .i64 0, .int .i64 0, .int .i64 0, .slice none 0 0, .slice none 0 0] rfl rfl hth infoDs hon ?_))
  rw [← hw5, ← hw8]
  obtain ⟨x0_, x1_, x2_, x3_, x4_, x5_, x6_, x7_, x8_, x9_, x10_, x11_, x12_, x13_, x14_, x15_⟩ := cells16 HH8.out
  refine bodyPost_ret (v := .agg #[.int .i64 zx, .int .u8 1, .int .i64 se, .int .i64 tu, .int .i64 xi, .int .i64 ti, .string (mkS x1), .slice AD x2.length CD, .int .i64 x3, .int .i64 0, .int .i64 x4, .int .i64 0, .int .i64 0, .int .i64 0, .slice none 0 0, .slice none 0 0]) (by simp [results, Tryz.results35, go_sem, x0_, x1_, x2_, x3_, x4_, x5_, x6_, x7_, x8_, x9_, x10_, x11_, x12_, x13_, x14_, x15_]) rfl ?_
  unfold GotG
  simp only [rdBody, fl0, hd5, Int.reduceEq, if_true, if_false, HX1.out, HX2.out, HX3.out, HX4.out]
  exact ⟨AD, CD, none, 0, rfl, HR8.out.1, HR8.out.2, HBs.out.keep HCC.out (fun k hk e => by have := HNew.out k hk; omega), (fun k hk => by have := HNew.out k hk; omega), .inl ⟨rfl, rfl⟩, (fun k hk => absurd hk (bk_zero _ _ _))⟩
end Go.Proofs.YtaeoafedfgbcaaaGreatDoor.DD

namespace Go.Proofs.YtaeoafedfgbcaaaGreatDoor.DD
set_option linter.unusedVariables false
open Go.RowKit
set_option linter.unusedVariables false

set_option maxRecDepth 100000 in
set_option maxHeartbeats 8000000 in
theorem rread2 {w : World} {g : Nat} {q : Option Nat} {r : Rd} (h : Rdf w g q r) (hq : ∀ k, q = some k → k < w.heap.size) (zx se tu xi ti : Int) (deep : Bool) :
    Calls Tryz.prog 35 #[.pointer (some ⟨g, 0, none⟩), .agg #[.int .i64 zx, .int .u8 2, .int .i64 se, .int .i64 tu, .int .i64 xi, .int .i64 ti, .string ⟨#[]⟩, .slice none 0 0, .int .i64 0, .int .i64 0, .int .i64 0, .int .i64 0, .int .i64 0, .int .i64 0, .slice none 0 0, .slice none 0 0], .bool deep] w fun e w' => GotG w w' g q e (hd5 (rdBody 2 r).1 zx se tu xi ti) ((rdBody 2 r).2) := by
  have hgl : g < w.heap.size := RdAt.lt h
  obtain ⟨w1, hw1⟩ : ∃ X, X = (w.alloc (.cells #[.int .i64 zx, .int .u8 2, .int .i64 se, .int .i64 tu, .int .i64 xi, .int .i64 ti, .string ⟨#[]⟩, .slice none 0 0, .int .i64 0, .int .i64 0, .int .i64 0, .int .i64 0, .int .i64 0, .int .i64 0, .slice none 0 0, .slice none 0 0] 41)).alloc (.cells #[.int .i64 0, .int .u8 0, .int .i64 0, .int .i64 0, .int .i64 0, .int .i64 0, .string ⟨#[]⟩, .slice none 0 0, .int .i64 0, .int .i64 0, .int .i64 0, .int .i64 0, .int .i64 0, .int .i64 0, .slice none 0 0, .slice none 0 0] 41) := ⟨_, rfl⟩
  have hB1 : Below w.heap.size w w1 := by rw [hw1]; exact below2 _ _ _
  have HG1 : Hid (GR w w1 g q r #[.int .i64 zx, .int .u8 2, .int .i64 se, .int .i64 tu, .int .i64 xi, .int .i64 ti, .string ⟨#[]⟩, .slice none 0 0, .int .i64 0, .int .i64 0, .int .i64 0, .int .i64 0, .int .i64 0, .int .i64 0, .slice none 0 0, .slice none 0 0]) := by
    refine ⟨RdAt.keep h (Chg.of_below hB1) (fun e => e) (fun _ _ e => e), ?_, ?_, (Chg.of_below hB1).weak fun _ _ e => e.elim, hgl, hq⟩
    · rw [hw1, Below.heap_alloc _ _ _ (by simp)]
      exact heap_alloc_new w _
    · rw [hw1]
      have := heap_alloc_new (w.alloc (.cells #[.int .i64 zx, .int .u8 2, .int .i64 se, .int .i64 tu, .int .i64 xi, .int .i64 ti, .string ⟨#[]⟩, .slice none 0 0, .int .i64 0, .int .i64 0, .int .i64 0, .int .i64 0, .int .i64 0, .int .i64 0, .slice none 0 0, .slice none 0 0] 41)) (.cells #[.int .i64 0, .int .u8 0, .int .i64 0, .int .i64 0, .int .i64 0, .int .i64 0, .string ⟨#[]⟩, .slice none 0 0, .int .i64 0, .int .i64 0, .int .i64 0, .int .i64 0, .int .i64 0, .int .i64 0, .slice none 0 0, .slice none 0 0] 41)
      rwa [World.size_alloc] at this
  clear h hB1
  have ht := rfText_any HG1.out.rd 200
  obtain ⟨x1, r1, hX1⟩ : ∃ a b, rdText (r) 200 = (a, b) := ⟨_, _, rfl⟩
  have HX1 : Hid (rdText (r) 200 = (x1, r1)) := hX1
  rw [hX1] at ht
  dsimp only at ht
  clear hX1
  rw [hw1] at ht
  go_enter Tryz.func35, Tryz.ntmps35
  go_wp2_with fail
  refine ht.mono ?_
  rintro e v2 ⟨rfl, hR, hC⟩
  rw [← hw1] at hC
  have HV : Hid (GR w v2 g q r1 #[.int .i64 zx, .int .u8 2, .int .i64 se, .int .i64 tu, .int .i64 xi, .int .i64 ti, .string ⟨#[]⟩, .slice none 0 0, .int .i64 0, .int .i64 0, .int .i64 0, .int .i64 0, .int .i64 0, .int .i64 0, .slice none 0 0, .slice none 0 0]) := HG1.out.read hR hC
  obtain ⟨w2, hw2⟩ : ∃ X, X = v2.setCell ⟨w.heap.size, 6, none⟩ (.string (mkS x1)) := ⟨_, rfl⟩
  have HG2 : Hid (GR w w2 g q r1 #[.int .i64 zx, .int .u8 2, .int .i64 se, .int .i64 tu, .int .i64 xi, .int .i64 ti, .string (mkS x1), .slice none 0 0, .int .i64 0, .int .i64 0, .int .i64 0, .int .i64 0, .int .i64 0, .int .i64 0, .slice none 0 0, .slice none 0 0]) := by rw [hw2]; exact HV.out.set 6 _
  obtain ⟨z0, z1, z2, z3, z4, z5, z6, z7, z8, z9, z10, z11, z12, z13, z14, z15⟩ := cells16 HV.out.d
  obtain ⟨f0, f1, f2, f3, f4, f5, f6, f7, f8, f9, f10, f11, f12, f13, f14, f15⟩ := frozen16 HV.out.d
  clear ht hR hC HG1 hw1 z0 z1 z2 z3 z4 z5 z7 z8 z9 z10 z11 z12 z13 z14 z15 f0 f1 f2 f3 f4 f5 f7 f8 f9 f10 f11 f12 f13 f14 f15
  have ht := rfInt_any HG2.out.rd
  obtain ⟨x2, r2, hX2⟩ : ∃ a b, rdInt (r1) = (a, b) := ⟨_, _, rfl⟩
  have HX2 : Hid (rdInt (r1) = (x2, r2)) := hX2
  rw [hX2] at ht
  dsimp only at ht
  clear hX2
  rw [hw2] at ht
  go_wp2_with fail
  refine ht.mono ?_
  rintro e v3 ⟨rfl, hR, hC⟩
  rw [← hw2] at hC
  have HV : Hid (GR w v3 g q r2 #[.int .i64 zx, .int .u8 2, .int .i64 se, .int .i64 tu, .int .i64 xi, .int .i64 ti, .string (mkS x1), .slice none 0 0, .int .i64 0, .int .i64 0, .int .i64 0, .int .i64 0, .int .i64 0, .int .i64 0, .slice none 0 0, .slice none 0 0]) := HG2.out.read hR hC
  obtain ⟨w3, hw3⟩ : ∃ X, X = v3.setCell ⟨w.heap.size, 10, none⟩ (.int .i64 x2) := ⟨_, rfl⟩
  have HG3 : Hid (GR w w3 g q r2 #[.int .i64 zx, .int .u8 2, .int .i64 se, .int .i64 tu, .int .i64 xi, .int .i64 ti, .string (mkS x1), .slice none 0 0, .int .i64 0, .int .i64 0, .int .i64 x2, .int .i64 0, .int .i64 0, .int .i64 0, .slice none 0 0, .slice none 0 0]) := by rw [hw3]; exact HV.out.set 10 _
  obtain ⟨z0, z1, z2, z3, z4, z5, z6, z7, z8, z9, z10, z11, z12, z13, z14, z15⟩ := cells16 HV.out.d
  obtain ⟨f0, f1, f2, f3, f4, f5, f6, f7, f8, f9, f10, f11, f12, f13, f14, f15⟩ := frozen16 HV.out.d
  clear ht hR hC HG2 hw2 z0 z1 z2 z3 z4 z5 z6 z7 z8 z9 z11 z12 z13 z14 z15 f0 f1 f2 f3 f4 f5 f6 f7 f8 f9 f11 f12 f13 f14 f15
  as_aux_lemma =>
  have hrg := range16 HG3.out.d
  have hth := there16 HG3.out.res
  have hon : (#[.int .i64 zx, .int .u8 2, .int .i64 se, .int .i64 tu, .int .i64 xi, .int .i64 ti, .string (mkS x1), .slice none 0 0, .int .i64 0, .int .i64 0, .int .i64 x2, .int .i64 0, .int .i64 0, .int .i64 0, .slice none 0 0, .slice none 0 0] : Array Value).all (·.oneCell') = true := all_oneCell_toArray (by intro v hv; simp only [List.mem_cons, List.not_mem_nil, or_false] at hv; rcases hv with rfl | rfl | rfl | rfl | rfl | rfl | rfl | rfl | rfl | rfl | rfl | rfl | rfl | rfl | rfl | rfl <;> rfl)
  obtain ⟨w8, hw8⟩ : ∃ X, X = w3.setCells (w.heap.size + 1) 0 [.int .i64 zx, .int .u8 2, .int .i64 se, .int .i64 tu, .int .i64 xi, .int .i64 ti, .string (mkS x1), .slice none 0 0, .int .i64 0, .int .i64 0, .int .i64 x2, .int .i64 0, .int .i64 0, .int .i64 0, .slice none 0 0, .slice none 0 0] := ⟨_, rfl⟩
  obtain ⟨h8, hcc⟩ := set16L HG3.out.res (.int .i64 zx) (.int .u8 2) (.int .i64 se) (.int .i64 tu) (.int .i64 xi) (.int .i64 ti) (.string (mkS x1)) (.slice none 0 0) (.int .i64 0) (.int .i64 0) (.int .i64 x2) (.int .i64 0) (.int .i64 0) (.int .i64 0) (.slice none 0 0) (.slice none 0 0)
  rw [← hw8] at h8 hcc
  have HR8 : Hid _ := sixteenR HG3.out hcc
  have HCC : Hid _ := hcc
  have HH8 : Hid _ := h8
  rw [hw3] at hrg hth
  clear h8 hcc
  go_wp2_with (first | (refine wpList_load_mid rfl 41 _ rfl w.heap.size 0 rfl [.int .i64 zx, .int .u8 2, .int .i64 se, .int .i64 tu, .int .i64 xi, .int .i64 ti, .string (mkS x1), .slice none 0 0, .int .i64 0, .int .i64 0, .int .i64 x2, .int .i64 0, .int .i64 0, .int .i64 0, .slice none 0 0, .slice none 0 0] _ hrg Tryz.underlying41 rfl infoDs ?_) | (refine wpList_store_mid rfl 41 _ _ rfl (w.heap.size + 1) 0 #[.int .i64 zx, .int .u8 2, .int .i64 se, .int .i64 tu, .int .i64 xi, .int .i64 ti, .string (mkS x1), .slice none 0 0, .int .i64 0, .int .i64 0, .int .i64 x2, .int .i64 0, .int .i64 0, .int .i64 0, .slice none 0 0, .slice none 0 0] rfl rfl hth infoDs hon ?_))
  rw [← hw3, ← hw8]
  obtain ⟨x0_, x1_, x2_, x3_, x4_, x5_, x6_, x7_, x8_, x9_, x10_, x11_, x12_, x13_, x14_, x15_⟩ := cells16 HH8.out
  refine bodyPost_ret (v := .agg #[.int .i64 zx, .int .u8 2, .int .i64 se, .int .i64 tu, .int .i64 xi, .int .i64 ti, .string (mkS x1), .slice none 0 0, .int .i64 0, .int .i64 0, .int .i64 x2, .int .i64 0, .int .i64 0, .int .i64 0, .slice none 0 0, .slice none 0 0]) (by simp [results, Tryz.results35, go_sem, x0_, x1_, x2_, x3_, x4_, x5_, x6_, x7_, x8_, x9_, x10_, x11_, x12_, x13_, x14_, x15_]) rfl ?_
  unfold GotG
  simp only [rdBody, fl0, hd5, Int.reduceEq, if_true, if_false, HX1.out, HX2.out]
  exact ⟨none, 0, none, 0, rfl, HR8.out.1, HR8.out.2, .inl ⟨rfl, rfl⟩, (fun k hk => absurd hk (bk_zero _ _ _)), .inl ⟨rfl, rfl⟩, (fun k hk => absurd hk (bk_zero _ _ _))⟩
end Go.Proofs.YtaeoafedfgbcaaaGreatDoor.DD

namespace Go.Proofs.YtaeoafedfgbcaaaGreatDoor.DD
set_option linter.unusedVariables false
open Go.RowKit
set_option linter.unusedVariables false

set_option maxRecDepth 100000 in
set_option maxHeartbeats 8000000 in
theorem rread3 {w : World} {g : Nat} {q : Option Nat} {r : Rd} (h : Rdf w g q r) (hq : ∀ k, q = some k → k < w.heap.size) (zx se tu xi ti : Int) (deep : Bool) :
    Calls Tryz.prog 35 #[.pointer (some ⟨g, 0, none⟩), .agg #[.int .i64 zx, .int .u8 3, .int .i64 se, .int .i64 tu, .int .i64 xi, .int .i64 ti, .string ⟨#[]⟩, .slice none 0 0, .int .i64 0, .int .i64 0, .int .i64 0, .int .i64 0, .int .i64 0, .int .i64 0, .slice none 0 0, .slice none 0 0], .bool deep] w fun e w' => GotG w w' g q e (hd5 (rdBody 3 r).1 zx se tu xi ti) ((rdBody 3 r).2) := by
  have hgl : g < w.heap.size := RdAt.lt h
  obtain ⟨w1, hw1⟩ : ∃ X, X = (w.alloc (.cells #[.int .i64 zx, .int .u8 3, .int .i64 se, .int .i64 tu, .int .i64 xi, .int .i64 ti, .string ⟨#[]⟩, .slice none 0 0, .int .i64 0, .int .i64 0, .int .i64 0, .int .i64 0, .int .i64 0, .int .i64 0, .slice none 0 0, .slice none 0 0] 41)).alloc (.cells #[.int .i64 0, .int .u8 0, .int .i64 0, .int .i64 0, .int .i64 0, .int .i64 0, .string ⟨#[]⟩, .slice none 0 0, .int .i64 0, .int .i64 0, .int .i64 0, .int .i64 0, .int .i64 0, .int .i64 0, .slice none 0 0, .slice none 0 0] 41) := ⟨_, rfl⟩
  have hB1 : Below w.heap.size w w1 := by rw [hw1]; exact below2 _ _ _
  have HG1 : Hid (GR w w1 g q r #[.int .i64 zx, .int .u8 3, .int .i64 se, .int .i64 tu, .int .i64 xi, .int .i64 ti, .string ⟨#[]⟩, .slice none 0 0, .int .i64 0, .int .i64 0, .int .i64 0, .int .i64 0, .int .i64 0, .int .i64 0, .slice none 0 0, .slice none 0 0]) := by
    refine ⟨RdAt.keep h (Chg.of_below hB1) (fun e => e) (fun _ _ e => e), ?_, ?_, (Chg.of_below hB1).weak fun _ _ e => e.elim, hgl, hq⟩
    · rw [hw1, Below.heap_alloc _ _ _ (by simp)]
      exact heap_alloc_new w _
    · rw [hw1]
      have := heap_alloc_new (w.alloc (.cells #[.int .i64 zx, .int .u8 3, .int .i64 se, .int .i64 tu, .int .i64 xi, .int .i64 ti, .string ⟨#[]⟩, .slice none 0 0, .int .i64 0, .int .i64 0, .int .i64 0, .int .i64 0, .int .i64 0, .int .i64 0, .slice none 0 0, .slice none 0 0] 41)) (.cells #[.int .i64 0, .int .u8 0, .int .i64 0, .int .i64 0, .int .i64 0, .int .i64 0, .string ⟨#[]⟩, .slice none 0 0, .int .i64 0, .int .i64 0, .int .i64 0, .int .i64 0, .int .i64 0, .int .i64 0, .slice none 0 0, .slice none 0 0] 41)
      rwa [World.size_alloc] at this
  clear h hB1
  have ht := rfText_any HG1.out.rd 200
  obtain ⟨x1, r1, hX1⟩ : ∃ a b, rdText (r) 200 = (a, b) := ⟨_, _, rfl⟩
  have HX1 : Hid (rdText (r) 200 = (x1, r1)) := hX1
  rw [hX1] at ht
  dsimp only at ht
  clear hX1
  rw [hw1] at ht
  go_enter Tryz.func35, Tryz.ntmps35
  go_wp2_with fail
  refine ht.mono ?_
  rintro e v2 ⟨rfl, hR, hC⟩
  rw [← hw1] at hC
  have HV : Hid (GR w v2 g q r1 #[.int .i64 zx, .int .u8 3, .int .i64 se, .int .i64 tu, .int .i64 xi, .int .i64 ti, .string ⟨#[]⟩, .slice none 0 0, .int .i64 0, .int .i64 0, .int .i64 0, .int .i64 0, .int .i64 0, .int .i64 0, .slice none 0 0, .slice none 0 0]) := HG1.out.read hR hC
  obtain ⟨w2, hw2⟩ : ∃ X, X = v2.setCell ⟨w.heap.size, 6, none⟩ (.string (mkS x1)) := ⟨_, rfl⟩
  have HG2 : Hid (GR w w2 g q r1 #[.int .i64 zx, .int .u8 3, .int .i64 se, .int .i64 tu, .int .i64 xi, .int .i64 ti, .string (mkS x1), .slice none 0 0, .int .i64 0, .int .i64 0, .int .i64 0, .int .i64 0, .int .i64 0, .int .i64 0, .slice none 0 0, .slice none 0 0]) := by rw [hw2]; exact HV.out.set 6 _
  obtain ⟨z0, z1, z2, z3, z4, z5, z6, z7, z8, z9, z10, z11, z12, z13, z14, z15⟩ := cells16 HV.out.d
  obtain ⟨f0, f1, f2, f3, f4, f5, f6, f7, f8, f9, f10, f11, f12, f13, f14, f15⟩ := frozen16 HV.out.d
  clear ht hR hC HG1 hw1 z0 z1 z2 z3 z4 z5 z7 z8 z9 z10 z11 z12 z13 z14 z15 f0 f1 f2 f3 f4 f5 f7 f8 f9 f10 f11 f12 f13 f14 f15
  have hle := rdText_le (r1) 1000 (by decide)
  have ht := rfBytes_any HG2.out.rd 1000 (by omega)
  have HLE : Hid (((rdText (r1) 1000).1.length : Int) ≤ 1000) := hle
  clear hle
  obtain ⟨x2, r2, hX2⟩ : ∃ a b, rdText (r1) 1000 = (a, b) := ⟨_, _, rfl⟩
  have HX2 : Hid (rdText (r1) 1000 = (x2, r2)) := hX2
  rw [hX2] at ht
  dsimp only at ht
  clear hX2
  rw [hw2] at ht
  go_wp2_with fail
  refine ht.mono ?_
  rintro e v3 ⟨vb, rfl, hBs, hR, hC, hNew⟩
  rw [← hw2] at hC hNew
  obtain ⟨AD, CD, rfl⟩ := bs_form hBs
  have HBs : Hid (Bs v3 (.slice AD x2.length CD) x2) := hBs
  have HNew : Hid (∀ k, bk (.slice AD x2.length CD) = some k → w.heap.size + 2 ≤ k) := fun k hk => by have := hNew k hk; have := heap_lt HG2.out.res; omega
  have HV : Hid (GR w v3 g q r2 #[.int .i64 zx, .int .u8 3, .int .i64 se, .int .i64 tu, .int .i64 xi, .int .i64 ti, .string (mkS x1), .slice none 0 0, .int .i64 0, .int .i64 0, .int .i64 0, .int .i64 0, .int .i64 0, .int .i64 0, .slice none 0 0, .slice none 0 0]) := HG2.out.read hR hC
  obtain ⟨w3, hw3⟩ : ∃ X, X = v3.setCell ⟨w.heap.size, 7, none⟩ (.slice AD x2.length CD) := ⟨_, rfl⟩
  have HG3 : Hid (GR w w3 g q r2 #[.int .i64 zx, .int .u8 3, .int .i64 se, .int .i64 tu, .int .i64 xi, .int .i64 ti, .string (mkS x1), .slice AD x2.length CD, .int .i64 0, .int .i64 0, .int .i64 0, .int .i64 0, .int .i64 0, .int .i64 0, .slice none 0 0, .slice none 0 0]) := by rw [hw3]; exact HV.out.set 7 _
  have HBsn : Hid (Bs w3 (.slice AD x2.length CD) x2) := by rw [hw3]; exact HBs.out.keep (Chg.setCell (S := fun k => k = w.heap.size) v3 ⟨w.heap.size, 7, none⟩ _ rfl) (fun k hk e => by have := HNew.out k hk; omega)
  obtain ⟨z0, z1, z2, z3, z4, z5, z6, z7, z8, z9, z10, z11, z12, z13, z14, z15⟩ := cells16 HV.out.d
  obtain ⟨f0, f1, f2, f3, f4, f5, f6, f7, f8, f9, f10, f11, f12, f13, f14, f15⟩ := frozen16 HV.out.d
  clear ht hR hC HG2 hw2 z0 z1 z2 z3 z4 z5 z6 z8 z9 z10 z11 z12 z13 z14 z15 f0 f1 f2 f3 f4 f5 f6 f8 f9 f10 f11 f12 f13 f14 f15 hBs hNew
  clear HBs
  have HBs := HBsn
  clear HBsn
  have ht := rfInt_any HG3.out.rd
  obtain ⟨x3, r3, hX3⟩ : ∃ a b, rdInt (r2) = (a, b) := ⟨_, _, rfl⟩
  have HX3 : Hid (rdInt (r2) = (x3, r3)) := hX3
  rw [hX3] at ht
  dsimp only at ht
  clear hX3
  rw [hw3] at ht
  go_wp2_with fail
  refine ht.mono ?_
  rintro e v4 ⟨rfl, hR, hC⟩
  rw [← hw3] at hC
  have HV : Hid (GR w v4 g q r3 #[.int .i64 zx, .int .u8 3, .int .i64 se, .int .i64 tu, .int .i64 xi, .int .i64 ti, .string (mkS x1), .slice AD x2.length CD, .int .i64 0, .int .i64 0, .int .i64 0, .int .i64 0, .int .i64 0, .int .i64 0, .slice none 0 0, .slice none 0 0]) := HG3.out.read hR hC
  have HBsv : Hid (Bs v4 (.slice AD x2.length CD) x2) := HBs.out.keep hC (fun k hk e => by have := HNew.out k hk; have := HG3.out.g; unfold One at e; omega)
  obtain ⟨w4, hw4⟩ : ∃ X, X = v4.setCell ⟨w.heap.size, 9, none⟩ (.int .i64 x3) := ⟨_, rfl⟩
  have HG4 : Hid (GR w w4 g q r3 #[.int .i64 zx, .int .u8 3, .int .i64 se, .int .i64 tu, .int .i64 xi, .int .i64 ti, .string (mkS x1), .slice AD x2.length CD, .int .i64 0, .int .i64 x3, .int .i64 0, .int .i64 0, .int .i64 0, .int .i64 0, .slice none 0 0, .slice none 0 0]) := by rw [hw4]; exact HV.out.set 9 _
  have HBsn : Hid (Bs w4 (.slice AD x2.length CD) x2) := by rw [hw4]; exact HBsv.out.keep (Chg.setCell (S := fun k => k = w.heap.size) v4 ⟨w.heap.size, 9, none⟩ _ rfl) (fun k hk e => by have := HNew.out k hk; omega)
  obtain ⟨z0, z1, z2, z3, z4, z5, z6, z7, z8, z9, z10, z11, z12, z13, z14, z15⟩ := cells16 HV.out.d
  obtain ⟨f0, f1, f2, f3, f4, f5, f6, f7, f8, f9, f10, f11, f12, f13, f14, f15⟩ := frozen16 HV.out.d
  clear ht hR hC HG3 hw3 z0 z1 z2 z3 z4 z5 z6 z7 z8 z10 z11 z12 z13 z14 z15 f0 f1 f2 f3 f4 f5 f6 f7 f8 f10 f11 f12 f13 f14 f15
  clear HBs HBsv
  have HBs := HBsn
  clear HBsn
  as_aux_lemma =>
  have hrg := range16 HG4.out.d
  have hth := there16 HG4.out.res
  have hon : (#[.int .i64 zx, .int .u8 3, .int .i64 se, .int .i64 tu, .int .i64 xi, .int .i64 ti, .string (mkS x1), .slice AD x2.length CD, .int .i64 0, .int .i64 x3, .int .i64 0, .int .i64 0, .int .i64 0, .int .i64 0, .slice none 0 0, .slice none 0 0] : Array Value).all (·.oneCell') = true := all_oneCell_toArray (by intro v hv; simp only [List.mem_cons, List.not_mem_nil, or_false] at hv; rcases hv with rfl | rfl | rfl | rfl | rfl | rfl | rfl | rfl | rfl | rfl | rfl | rfl | rfl | rfl | rfl | rfl <;> rfl)
  obtain ⟨w8, hw8⟩ : ∃ X, X = w4.setCells (w.heap.size + 1) 0 [.int .i64 zx, .int .u8 3, .int .i64 se, .int .i64 tu, .int .i64 xi, .int .i64 ti, .string (mkS x1), .slice AD x2.length CD, .int .i64 0, .int .i64 x3, .int .i64 0, .int .i64 0, .int .i64 0, .int .i64 0, .slice none 0 0, .slice none 0 0] := ⟨_, rfl⟩
  obtain ⟨h8, hcc⟩ := set16L HG4.out.res (.int .i64 zx) (.int .u8 3) (.int .i64 se) (.int .i64 tu) (.int .i64 xi) (.int .i64 ti) (.string (mkS x1)) (.slice AD x2.length CD) (.int .i64 0) (.int .i64 x3) (.int .i64 0) (.int .i64 0) (.int .i64 0) (.int .i64 0) (.slice none 0 0) (.slice none 0 0)
  rw [← hw8] at h8 hcc
  have HR8 : Hid _ := sixteenR HG4.out hcc
  have HCC : Hid _ := hcc
  have HH8 : Hid _ := h8
  rw [hw4] at hrg hth
  clear h8 hcc
  go_wp2_with (first | (refine wpList_load_mid rfl 41 _ rfl w.heap.size 0 rfl [.int .i64 zx, .int .u8 3, .int .i64 se, .int .i64 tu, .int .i64 xi, .int .i64 ti, .string (mkS x1), .slice AD x2.length CD, .int .i64 0, .int .i64 x3, .int .i64 0, .int .i64 0, .int .i64 0, .int .i64 0, .slice none 0 0, .slice none 0 0] _ hrg Tryz.underlying41 rfl infoDs ?_) | (refine wpList_store_mid rfl 41 _ _ rfl (w.heap.size + 1) 0 #[.int .i64 zx, .int .u8 3, .int .i64 se, .int .i64 tu, .int .i64 xi, .int .i64 ti, .string (mkS x1), .slice AD x2.length CD, .int .i64 0, .int .i64 x3, .int .i64 0, .int .i64 0, .int .i64 0, .int .i64 0, .slice none 0 0, .slice none 0 0] rfl rfl hth infoDs hon ?_))
  rw [← hw4, ← hw8]
  obtain ⟨x0_, x1_, x2_, x3_, x4_, x5_, x6_, x7_, x8_, x9_, x10_, x11_, x12_, x13_, x14_, x15_⟩ := cells16 HH8.out
  refine bodyPost_ret (v := .agg #[.int .i64 zx, .int .u8 3, .int .i64 se, .int .i64 tu, .int .i64 xi, .int .i64 ti, .string (mkS x1), .slice AD x2.length CD, .int .i64 0, .int .i64 x3, .int .i64 0, .int .i64 0, .int .i64 0, .int .i64 0, .slice none 0 0, .slice none 0 0]) (by simp [results, Tryz.results35, go_sem, x0_, x1_, x2_, x3_, x4_, x5_, x6_, x7_, x8_, x9_, x10_, x11_, x12_, x13_, x14_, x15_]) rfl ?_
  unfold GotG
  simp only [rdBody, fl0, hd5, Int.reduceEq, if_true, if_false, HX1.out, HX2.out, HX3.out]
  exact ⟨AD, CD, none, 0, rfl, HR8.out.1, HR8.out.2, HBs.out.keep HCC.out (fun k hk e => by have := HNew.out k hk; omega), (fun k hk => by have := HNew.out k hk; omega), .inl ⟨rfl, rfl⟩, (fun k hk => absurd hk (bk_zero _ _ _))⟩
end Go.Proofs.YtaeoafedfgbcaaaGreatDoor.DD

namespace Go.Proofs.YtaeoafedfgbcaaaGreatDoor.DD
set_option linter.unusedVariables false
open Go.RowKit
set_option linter.unusedVariables false

set_option maxRecDepth 100000 in
set_option maxHeartbeats 8000000 in
theorem rread4 {w : World} {g : Nat} {q : Option Nat} {r : Rd} (h : Rdf w g q r) (hq : ∀ k, q = some k → k < w.heap.size) (zx se tu xi ti : Int) (deep : Bool) :
    Calls Tryz.prog 35 #[.pointer (some ⟨g, 0, none⟩), .agg #[.int .i64 zx, .int .u8 4, .int .i64 se, .int .i64 tu, .int .i64 xi, .int .i64 ti, .string ⟨#[]⟩, .slice none 0 0, .int .i64 0, .int .i64 0, .int .i64 0, .int .i64 0, .int .i64 0, .int .i64 0, .slice none 0 0, .slice none 0 0], .bool deep] w fun e w' => GotG w w' g q e (hd5 (rdBody 4 r).1 zx se tu xi ti) ((rdBody 4 r).2) := by
  have hgl : g < w.heap.size := RdAt.lt h
  obtain ⟨w1, hw1⟩ : ∃ X, X = (w.alloc (.cells #[.int .i64 zx, .int .u8 4, .int .i64 se, .int .i64 tu, .int .i64 xi, .int .i64 ti, .string ⟨#[]⟩, .slice none 0 0, .int .i64 0, .int .i64 0, .int .i64 0, .int .i64 0, .int .i64 0, .int .i64 0, .slice none 0 0, .slice none 0 0] 41)).alloc (.cells #[.int .i64 0, .int .u8 0, .int .i64 0, .int .i64 0, .int .i64 0, .int .i64 0, .string ⟨#[]⟩, .slice none 0 0, .int .i64 0, .int .i64 0, .int .i64 0, .int .i64 0, .int .i64 0, .int .i64 0, .slice none 0 0, .slice none 0 0] 41) := ⟨_, rfl⟩
  have hB1 : Below w.heap.size w w1 := by rw [hw1]; exact below2 _ _ _
  have HG1 : Hid (GR w w1 g q r #[.int .i64 zx, .int .u8 4, .int .i64 se, .int .i64 tu, .int .i64 xi, .int .i64 ti, .string ⟨#[]⟩, .slice none 0 0, .int .i64 0, .int .i64 0, .int .i64 0, .int .i64 0, .int .i64 0, .int .i64 0, .slice none 0 0, .slice none 0 0]) := by
    refine ⟨RdAt.keep h (Chg.of_below hB1) (fun e => e) (fun _ _ e => e), ?_, ?_, (Chg.of_below hB1).weak fun _ _ e => e.elim, hgl, hq⟩
    · rw [hw1, Below.heap_alloc _ _ _ (by simp)]
      exact heap_alloc_new w _
    · rw [hw1]
      have := heap_alloc_new (w.alloc (.cells #[.int .i64 zx, .int .u8 4, .int .i64 se, .int .i64 tu, .int .i64 xi, .int .i64 ti, .string ⟨#[]⟩, .slice none 0 0, .int .i64 0, .int .i64 0, .int .i64 0, .int .i64 0, .int .i64 0, .int .i64 0, .slice none 0 0, .slice none 0 0] 41)) (.cells #[.int .i64 0, .int .u8 0, .int .i64 0, .int .i64 0, .int .i64 0, .int .i64 0, .string ⟨#[]⟩, .slice none 0 0, .int .i64 0, .int .i64 0, .int .i64 0, .int .i64 0, .int .i64 0, .int .i64 0, .slice none 0 0, .slice none 0 0] 41)
      rwa [World.size_alloc] at this
  clear h hB1
  have ht := rfInt_any HG1.out.rd
  obtain ⟨x1, r1, hX1⟩ : ∃ a b, rdInt (r) = (a, b) := ⟨_, _, rfl⟩
  have HX1 : Hid (rdInt (r) = (x1, r1)) := hX1
  rw [hX1] at ht
  dsimp only at ht
  clear hX1
  rw [hw1] at ht
  go_enter Tryz.func35, Tryz.ntmps35
  go_wp2_with fail
  refine ht.mono ?_
  rintro e v2 ⟨rfl, hR, hC⟩
  rw [← hw1] at hC
  have HV : Hid (GR w v2 g q r1 #[.int .i64 zx, .int .u8 4, .int .i64 se, .int .i64 tu, .int .i64 xi, .int .i64 ti, .string ⟨#[]⟩, .slice none 0 0, .int .i64 0, .int .i64 0, .int .i64 0, .int .i64 0, .int .i64 0, .int .i64 0, .slice none 0 0, .slice none 0 0]) := HG1.out.read hR hC
  obtain ⟨w2, hw2⟩ : ∃ X, X = v2.setCell ⟨w.heap.size, 11, none⟩ (.int .i64 x1) := ⟨_, rfl⟩
  have HG2 : Hid (GR w w2 g q r1 #[.int .i64 zx, .int .u8 4, .int .i64 se, .int .i64 tu, .int .i64 xi, .int .i64 ti, .string ⟨#[]⟩, .slice none 0 0, .int .i64 0, .int .i64 0, .int .i64 0, .int .i64 x1, .int .i64 0, .int .i64 0, .slice none 0 0, .slice none 0 0]) := by rw [hw2]; exact HV.out.set 11 _
  obtain ⟨z0, z1, z2, z3, z4, z5, z6, z7, z8, z9, z10, z11, z12, z13, z14, z15⟩ := cells16 HV.out.d
  obtain ⟨f0, f1, f2, f3, f4, f5, f6, f7, f8, f9, f10, f11, f12, f13, f14, f15⟩ := frozen16 HV.out.d
  clear ht hR hC HG1 hw1 z0 z1 z2 z3 z4 z5 z6 z7 z8 z9 z10 z12 z13 z14 z15 f0 f1 f2 f3 f4 f5 f6 f7 f8 f9 f10 f12 f13 f14 f15
  as_aux_lemma =>
  have hrg := range16 HG2.out.d
  have hth := there16 HG2.out.res
  have hon : (#[.int .i64 zx, .int .u8 4, .int .i64 se, .int .i64 tu, .int .i64 xi, .int .i64 ti, .string ⟨#[]⟩, .slice none 0 0, .int .i64 0, .int .i64 0, .int .i64 0, .int .i64 x1, .int .i64 0, .int .i64 0, .slice none 0 0, .slice none 0 0] : Array Value).all (·.oneCell') = true := all_oneCell_toArray (by intro v hv; simp only [List.mem_cons, List.not_mem_nil, or_false] at hv; rcases hv with rfl | rfl | rfl | rfl | rfl | rfl | rfl | rfl | rfl | rfl | rfl | rfl | rfl | rfl | rfl | rfl <;> rfl)
  obtain ⟨w8, hw8⟩ : ∃ X, X = w2.setCells (w.heap.size + 1) 0 [.int .i64 zx, .int .u8 4, .int .i64 se, .int .i64 tu, .int .i64 xi, .int .i64 ti, .string ⟨#[]⟩, .slice none 0 0, .int .i64 0, .int .i64 0, .int .i64 0, .int .i64 x1, .int .i64 0, .int .i64 0, .slice none 0 0, .slice none 0 0] := ⟨_, rfl⟩
  obtain ⟨h8, hcc⟩ := set16L HG2.out.res (.int .i64 zx) (.int .u8 4) (.int .i64 se) (.int .i64 tu) (.int .i64 xi) (.int .i64 ti) (.string ⟨#[]⟩) (.slice none 0 0) (.int .i64 0) (.int .i64 0) (.int .i64 0) (.int .i64 x1) (.int .i64 0) (.int .i64 0) (.slice none 0 0) (.slice none 0 0)
  rw [← hw8] at h8 hcc
  have HR8 : Hid _ := sixteenR HG2.out hcc
  have HCC : Hid _ := hcc
  have HH8 : Hid _ := h8
  rw [hw2] at hrg hth
  clear h8 hcc
  go_wp2_with (first | (refine wpList_load_mid rfl 41 _ rfl w.heap.size 0 rfl [.int .i64 zx, .int .u8 4, .int .i64 se, .int .i64 tu, .int .i64 xi, .int .i64 ti, .string ⟨#[]⟩, .slice none 0 0, .int .i64 0, .int .i64 0, .int .i64 0, .int .i64 x1, .int .i64 0, .int .i64 0, .slice none 0 0, .slice none 0 0] _ hrg Tryz.underlying41 rfl infoDs ?_) | (refine wpList_store_mid rfl 41 _ _ rfl (w.heap.size + 1) 0 #[.int .i64 zx, .int .u8 4, .int .i64 se, .int .i64 tu, .int .i64 xi, .int .i64 ti, .string ⟨#[]⟩, .slice none 0 0, .int .i64 0, .int .i64 0, .int .i64 0, .int .i64 x1, .int .i64 0, .int .i64 0, .slice none 0 0, .slice none 0 0] rfl rfl hth infoDs hon ?_))
  rw [← hw2, ← hw8]
  obtain ⟨x0_, x1_, x2_, x3_, x4_, x5_, x6_, x7_, x8_, x9_, x10_, x11_, x12_, x13_, x14_, x15_⟩ := cells16 HH8.out
  refine bodyPost_ret (v := .agg #[.int .i64 zx, .int .u8 4, .int .i64 se, .int .i64 tu, .int .i64 xi, .int .i64 ti, .string ⟨#[]⟩, .slice none 0 0, .int .i64 0, .int .i64 0, .int .i64 0, .int .i64 x1, .int .i64 0, .int .i64 0, .slice none 0 0, .slice none 0 0]) (by simp [results, Tryz.results35, go_sem, x0_, x1_, x2_, x3_, x4_, x5_, x6_, x7_, x8_, x9_, x10_, x11_, x12_, x13_, x14_, x15_]) rfl ?_
  unfold GotG
  simp only [rdBody, fl0, hd5, Int.reduceEq, if_true, if_false, HX1.out]
  exact ⟨none, 0, none, 0, rfl, HR8.out.1, HR8.out.2, .inl ⟨rfl, rfl⟩, (fun k hk => absurd hk (bk_zero _ _ _)), .inl ⟨rfl, rfl⟩, (fun k hk => absurd hk (bk_zero _ _ _))⟩
end Go.Proofs.YtaeoafedfgbcaaaGreatDoor.DD
