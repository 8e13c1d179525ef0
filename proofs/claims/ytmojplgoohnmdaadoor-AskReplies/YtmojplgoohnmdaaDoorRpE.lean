/- The walk of GetReply over the bytes of a plain reply. -/
import Derived.Test.YtmojplgoohnmdaaDoorRpD
namespace Go.Proofs.YtmojplgoohnmdaaDoor.AK
set_option linter.unusedSimpArgs false
set_option linter.unusedVariables false
open Go.RowKit
set_option linter.unusedVariables false
set_option linter.unusedSimpArgs false

def F0r : Rf := ⟨13, 1, 0, 0, 0, 0, [], [], 0, 0, 0, 0, 0, 0, 0, 0, 0, 0, [], 0, [], 0⟩
def B0r : List UInt8 := [13, 2, 0, 0, 0, 0, 0, 0, 0, 0, 0, 0, 0, 0, 0, 0, 0, 0, 0, 0, 0]
theorem B0r_eq : bodyR F0r ++ numB 0 = B0r := by decide +kernel
theorem F0r_fit : RFit F0r := ⟨by decide, by intro n hn; simp [headR, F0r] at hn; rcases hn with rfl | rfl <;> exact ⟨by decide, by decide⟩, by intro n hn; simp [statR, F0r] at hn; subst hn; exact I64_0⟩
theorem F0r_right : fitR F0r = true := by decide +kernel
def t0r (i : Nat) : Rd := some (List.replicate (13 - i) 0)
theorem t0r_int : ∀ i : Fin 10, rdInt (t0r i.val) = (0, t0r (i.val + 1)) := by decide +kernel
set_option maxRecDepth 100000 in
set_option maxHeartbeats 8000000 in
theorem getR0_any (w : World) (y : Value) (hB : Bs w y B0r) :
    Calls Tryd.prog 23 #[y] w fun e w' => ∃ AD CD, e = .returned (.tuple #[.agg #[.int .u8 13, .int .i64 1, .int .i64 0, .int .i64 0, .int .i64 0, .int .i64 0, .string (mkS []), .slice AD 0 CD, .int .i64 0, .int .i64 0, .int .i64 0, .int .i64 0, .int .i64 0, .int .i64 0, .int .i64 0, .int .i64 0, .int .i64 0, .int .i64 0, .slice none 0 0, .int .i64 0, .slice none 0 0, .slice none 0 0], .int .i64 0]) ∧ Below w.heap.size w w' := by
  have HB : Hid (Bs w y B0r) := hB
  obtain ⟨A1, C1, rfl⟩ := bs_form hB
  obtain ⟨w1, hw1⟩ : ∃ X, X = w.alloc (.cells #[.int .u8 0, .int .i64 0, .int .i64 0, .int .i64 0, .int .i64 0, .int .i64 0, .string ⟨#[]⟩, .slice none 0 0, .int .i64 0, .int .i64 0, .int .i64 0, .int .i64 0, .int .i64 0, .int .i64 0, .int .i64 0, .int .i64 0, .int .i64 0, .int .i64 0, .slice none 0 0, .int .i64 0, .slice none 0 0, .slice none 0 0] 43) := ⟨_, rfl⟩
  have hB1 : Below w.heap.size w w1 := by rw [hw1]; exact (Below.refl _ _).alloc (Nat.le_refl _) _
  have HB1 : Hid (Below w.heap.size w w1) := hB1
  have hs1 : w1.heap.size = w.heap.size + 1 := by rw [hw1]; simp
  have HC1 : Hid (w1.heap[w.heap.size]? = some (.cells #[.int .u8 0, .int .i64 0, .int .i64 0, .int .i64 0, .int .i64 0, .int .i64 0, .string ⟨#[]⟩, .slice none 0 0, .int .i64 0, .int .i64 0, .int .i64 0, .int .i64 0, .int .i64 0, .int .i64 0, .int .i64 0, .int .i64 0, .int .i64 0, .int .i64 0, .slice none 0 0, .int .i64 0, .slice none 0 0, .slice none 0 0] 43 (0, 0))) := by rw [hw1]; exact heap_alloc_new w _
  have hnr := newReader_any (Bs.below' hB hB1) (by decide)
  rw [hw1] at hnr
  clear hB hB1
  go_enter Tryd.func23, Tryd.ntmps23
  go_wp2_with fail
  refine hnr.mono ?_
  rintro a w2 ⟨g, q, rfl, hR2, hB2, hg2, hq2⟩
  rw [← hw1] at hB2 hg2 hq2
  have HC2 : Hid (w2.heap[w.heap.size]? = some (.cells #[.int .u8 0, .int .i64 0, .int .i64 0, .int .i64 0, .int .i64 0, .int .i64 0, .string ⟨#[]⟩, .slice none 0 0, .int .i64 0, .int .i64 0, .int .i64 0, .int .i64 0, .int .i64 0, .int .i64 0, .int .i64 0, .int .i64 0, .int .i64 0, .int .i64 0, .slice none 0 0, .int .i64 0, .slice none 0 0, .slice none 0 0] 43 (0, 0))) := by show _ = _; rw [hB2.block _ (heap_lt HC1.out)]; exact HC1.out
  have HB2 : Hid (Below w.heap.size w w2) := HB1.out.trans (hB2.mono HB1.out.size)
  have HGQ : Hid (w.heap.size < g ∧ ∀ k, q = some k → w.heap.size < k ∧ k < w2.heap.size) := ⟨by omega, fun k hk => ⟨by have := (hq2 k hk).1; omega, (hq2 k hk).2⟩⟩
  have hgr : Calls Tryd.prog 57 #[.pointer (some ⟨g, 0, none⟩)] w2 fun e w' => ∃ AD CD, e = .returned (.agg #[.int .u8 13, .int .i64 1, .int .i64 0, .int .i64 0, .int .i64 0, .int .i64 0, .string (mkS []), .slice AD 0 CD, .int .i64 0, .int .i64 0, .int .i64 0, .int .i64 0, .int .i64 0, .int .i64 0, .int .i64 0, .int .i64 0, .int .i64 0, .int .i64 0, .slice none 0 0, .int .i64 0, .slice none 0 0, .slice none 0 0]) ∧ (∀ w'', Bs w'' (.slice AD 0 CD) []) ∧ Rdr w' g q (some [0]) ∧ Chg (One g) w2 w' :=
    getReply_plain (r1 := some [2, 0, 0, 0, 0, 0, 0, 0, 0, 0, 0, 0, 0, 0, 0, 0, 0, 0, 0, 0]) (r2 := some (List.replicate 19 0)) (r3 := some (List.replicate 18 0)) (r4 := some (List.replicate 17 0)) (r5 := some (List.replicate 16 0)) (r6 := some (List.replicate 15 0)) (r7 := some (List.replicate 14 0)) (r9 := some [0, 0]) (kb := 13) (a1 := 1) (a2 := 0) (a3 := 0) (a4 := 0) (a5 := 0) (p := []) t0r (fun _ => 0) hR2 (fun k hk => (hq2 k hk).2) (by decide +kernel) (by decide +kernel) (by decide +kernel) (by decide +kernel) (by decide +kernel) (by decide +kernel) (by decide +kernel) (by decide +kernel) (fun i hi => t0r_int ⟨i, hi⟩) (by decide +kernel) (by decide +kernel)
  clear hnr hR2 hB2 hg2 hq2 hw1 HB1 HC1 hs1 w1
  go_wp2_with fail
  refine hgr.mono ?_
  rintro e w3 ⟨AD, CD, rfl, hbd, hR3, hC3⟩
  have HBD : Hid (∀ w'', Bs w'' (.slice AD 0 CD) []) := hbd
  have HC3 : Hid (w3.heap[w.heap.size]? = some (.cells #[.int .u8 0, .int .i64 0, .int .i64 0, .int .i64 0, .int .i64 0, .int .i64 0, .string ⟨#[]⟩, .slice none 0 0, .int .i64 0, .int .i64 0, .int .i64 0, .int .i64 0, .int .i64 0, .int .i64 0, .int .i64 0, .int .i64 0, .int .i64 0, .int .i64 0, .slice none 0 0, .int .i64 0, .slice none 0 0, .slice none 0 0] 43 (0, 0))) := by show _ = _; rw [hC3.block _ (heap_lt HC2.out) (fun e => by have := HGQ.out.1; unfold One at e; omega)]; exact HC2.out
  have HB3 : Hid (Below w.heap.size w w3) := HB2.out.trans (hC3.below (fun k e => by have := HGQ.out.1; unfold One at e; omega) HB2.out.size)
  have hal := heap_alloc_new w3 (.cells #[.int .u8 0, .int .i64 0, .int .i64 0, .int .i64 0, .int .i64 0, .int .i64 0, .string ⟨#[]⟩, .slice none 0 0, .int .i64 0, .int .i64 0, .int .i64 0, .int .i64 0, .int .i64 0, .int .i64 0, .int .i64 0, .int .i64 0, .int .i64 0, .int .i64 0, .slice none 0 0, .int .i64 0, .slice none 0 0, .slice none 0 0] 43 (0, 0))
  obtain ⟨w4, hw4⟩ : ∃ X, X = (w3.alloc (.cells #[.int .u8 0, .int .i64 0, .int .i64 0, .int .i64 0, .int .i64 0, .int .i64 0, .string ⟨#[]⟩, .slice none 0 0, .int .i64 0, .int .i64 0, .int .i64 0, .int .i64 0, .int .i64 0, .int .i64 0, .int .i64 0, .int .i64 0, .int .i64 0, .int .i64 0, .slice none 0 0, .int .i64 0, .slice none 0 0, .slice none 0 0] 43)).setCells w3.heap.size 0 [.int .u8 13, .int .i64 1, .int .i64 0, .int .i64 0, .int .i64 0, .int .i64 0, .string (mkS []), .slice AD 0 CD, .int .i64 0, .int .i64 0, .int .i64 0, .int .i64 0, .int .i64 0, .int .i64 0, .int .i64 0, .int .i64 0, .int .i64 0, .int .i64 0, .slice none 0 0, .int .i64 0, .slice none 0 0, .slice none 0 0] := ⟨_, rfl⟩
  have hs4 := setL0 hal [.int .u8 13, .int .i64 1, .int .i64 0, .int .i64 0, .int .i64 0, .int .i64 0, .string (mkS []), .slice AD 0 CD, .int .i64 0, .int .i64 0, .int .i64 0, .int .i64 0, .int .i64 0, .int .i64 0, .int .i64 0, .int .i64 0, .int .i64 0, .int .i64 0, .slice none 0 0, .int .i64 0, .slice none 0 0, .slice none 0 0] rfl
  rw [← hw4] at hs4
  have hB4 : Below w3.heap.size w3 w4 := ((Below.refl _ _).alloc (Nat.le_refl _) _).trans (hs4.2.below (fun k e => by omega) (by simp))
  have HD4 : Hid (w4.heap[w3.heap.size]? = some (.cells #[.int .u8 13, .int .i64 1, .int .i64 0, .int .i64 0, .int .i64 0, .int .i64 0, .string (mkS []), .slice AD 0 CD, .int .i64 0, .int .i64 0, .int .i64 0, .int .i64 0, .int .i64 0, .int .i64 0, .int .i64 0, .int .i64 0, .int .i64 0, .int .i64 0, .slice none 0 0, .int .i64 0, .slice none 0 0, .slice none 0 0] 43 (0, 0))) := hs4.1
  have HC4 : Hid (w4.heap[w.heap.size]? = some (.cells #[.int .u8 0, .int .i64 0, .int .i64 0, .int .i64 0, .int .i64 0, .int .i64 0, .string ⟨#[]⟩, .slice none 0 0, .int .i64 0, .int .i64 0, .int .i64 0, .int .i64 0, .int .i64 0, .int .i64 0, .int .i64 0, .int .i64 0, .int .i64 0, .int .i64 0, .slice none 0 0, .int .i64 0, .slice none 0 0, .slice none 0 0] 43 (0, 0))) := by show _ = _; rw [hB4.block _ (heap_lt HC3.out)]; exact HC3.out
  have HB4 : Hid (Below w.heap.size w w4) := HB3.out.trans (hB4.mono HB3.out.size)
  have HR4 : Hid (Rdr w4 g q (some [0])) := hR3.keep (Chg.of_below hB4) (fun e => e) (fun _ _ e => e)
  have HP : Hid (w.heap.size < w3.heap.size ∧ g ≠ w3.heap.size) := ⟨heap_lt HC3.out, by have := hR3.lt; omega⟩
  have hth := thereL hal 0 22 (show 0 + 22 ≤ 22 by decide)
  have hon : (#[.int .u8 13, .int .i64 1, .int .i64 0, .int .i64 0, .int .i64 0, .int .i64 0, .string (mkS []), .slice AD 0 CD, .int .i64 0, .int .i64 0, .int .i64 0, .int .i64 0, .int .i64 0, .int .i64 0, .int .i64 0, .int .i64 0, .int .i64 0, .int .i64 0, .slice none 0 0, .int .i64 0, .slice none 0 0, .slice none 0 0] : Array Value).all (·.oneCell') = true := all_oneCell_toArray (by intro v hv; simp only [List.mem_cons, List.not_mem_nil, or_false] at hv; rcases hv with rfl | rfl | rfl | rfl | rfl | rfl | rfl | rfl | rfl | rfl | rfl | rfl | rfl | rfl | rfl | rfl | rfl | rfl | rfl | rfl | rfl | rfl <;> rfl)
  have HE : Hid ((w3.alloc (.cells #[.int .u8 0, .int .i64 0, .int .i64 0, .int .i64 0, .int .i64 0, .int .i64 0, .string ⟨#[]⟩, .slice none 0 0, .int .i64 0, .int .i64 0, .int .i64 0, .int .i64 0, .int .i64 0, .int .i64 0, .int .i64 0, .int .i64 0, .int .i64 0, .int .i64 0, .slice none 0 0, .int .i64 0, .slice none 0 0, .slice none 0 0] 43)).setCells w3.heap.size 0 (#[.int .u8 13, .int .i64 1, .int .i64 0, .int .i64 0, .int .i64 0, .int .i64 0, .string (mkS []), .slice AD 0 CD, .int .i64 0, .int .i64 0, .int .i64 0, .int .i64 0, .int .i64 0, .int .i64 0, .int .i64 0, .int .i64 0, .int .i64 0, .int .i64 0, .slice none 0 0, .int .i64 0, .slice none 0 0, .slice none 0 0] : Array Value).toList = w4) := hw4.symm
  have hc : Calls Tryd.prog 58 #[.pointer (some ⟨g, 0, none⟩), .int .i64 16] w4 fun e w' => e = .returned (.int .i64 0) ∧ Rdr w' g q (some []) ∧ Chg (One g) w4 w' := by
    have := rCount_any HR4.out 16
    rw [show rdCount (some [0]) 16 = (0, some []) by decide +kernel] at this
    exact this
  clear hgr hbd hR3 hC3 hal hs4 hB4 hw4 HB3 HC3 HB2 HC2
  go_wp2_with (refine wpList_store_mid rfl 43 _ _ rfl w3.heap.size 0 #[.int .u8 13, .int .i64 1, .int .i64 0, .int .i64 0, .int .i64 0, .int .i64 0, .string (mkS []), .slice AD 0 CD, .int .i64 0, .int .i64 0, .int .i64 0, .int .i64 0, .int .i64 0, .int .i64 0, .int .i64 0, .int .i64 0, .int .i64 0, .int .i64 0, .slice none 0 0, .int .i64 0, .slice none 0 0, .slice none 0 0] rfl rfl hth infoR hon ?_; rw [HE.out])
  refine hc.mono ?_
  rintro e w5 ⟨rfl, hR5, hC5⟩
  have HD5 : Hid (w5.heap[w3.heap.size]? = some (.cells #[.int .u8 13, .int .i64 1, .int .i64 0, .int .i64 0, .int .i64 0, .int .i64 0, .string (mkS []), .slice AD 0 CD, .int .i64 0, .int .i64 0, .int .i64 0, .int .i64 0, .int .i64 0, .int .i64 0, .int .i64 0, .int .i64 0, .int .i64 0, .int .i64 0, .slice none 0 0, .int .i64 0, .slice none 0 0, .slice none 0 0] 43 (0, 0))) := by show _ = _; rw [hC5.block _ (heap_lt HD4.out) (fun e => HP.out.2 (by unfold One at e; exact e.symm))]; exact HD4.out
  have HC5 : Hid (w5.heap[w.heap.size]? = some (.cells #[.int .u8 0, .int .i64 0, .int .i64 0, .int .i64 0, .int .i64 0, .int .i64 0, .string ⟨#[]⟩, .slice none 0 0, .int .i64 0, .int .i64 0, .int .i64 0, .int .i64 0, .int .i64 0, .int .i64 0, .int .i64 0, .int .i64 0, .int .i64 0, .int .i64 0, .slice none 0 0, .int .i64 0, .slice none 0 0, .slice none 0 0] 43 (0, 0))) := by show _ = _; rw [hC5.block _ (heap_lt HC4.out) (fun e => by have := HGQ.out.1; unfold One at e; omega)]; exact HC4.out
  have HB5 : Hid (Below w.heap.size w w5) := HB4.out.trans (hC5.below (fun k e => by have := HGQ.out.1; unfold One at e; omega) HB4.out.size)
  clear hc hR5 hC5 HD4 HC4 HB4 HR4 HE hth hon w4
  generalize w3.heap.size = pd at HD5 HP ⊢
  clear w3
  have hra := rangeL HD5.out
  have hip : Calls Tryd.prog 59 #[.func (.func 15) #[] #[], .agg #[.int .u8 13, .int .i64 1, .int .i64 0, .int .i64 0, .int .i64 0, .int .i64 0, .string (mkS []), .slice AD 0 CD, .int .i64 0, .int .i64 0, .int .i64 0, .int .i64 0, .int .i64 0, .int .i64 0, .int .i64 0, .int .i64 0, .int .i64 0, .int .i64 0, .slice none 0 0, .int .i64 0, .slice none 0 0, .slice none 0 0], .slice A1 B0r.length C1] w5 fun e w' => e = .returned (.bool true) ∧ Below w5.heap.size w5 w' :=
    isPutR_leaf F0r AD none none none CD 0 0 0 w5 ⟨HBD.out w5, Txs.nil w5, .inl ⟨rfl, rfl⟩⟩ F0r_fit F0r_right rfl rfl _ (by rw [B0r_eq]; exact Bs.below' HB.out HB5.out)
  go_wp2_with fail
  refine wp_loop_rounds 1 ?_
  rw [rounds_succ]
  go_wp2_with (refine wpList_load_mid rfl 43 _ rfl pd 0 rfl [.int .u8 13, .int .i64 1, .int .i64 0, .int .i64 0, .int .i64 0, .int .i64 0, .string (mkS []), .slice AD 0 CD, .int .i64 0, .int .i64 0, .int .i64 0, .int .i64 0, .int .i64 0, .int .i64 0, .int .i64 0, .int .i64 0, .int .i64 0, .int .i64 0, .slice none 0 0, .int .i64 0, .slice none 0 0, .slice none 0 0] _ hra Tryd.underlying43 rfl infoR ?_)
  refine hip.mono ?_
  rintro e w6 ⟨rfl, hB6⟩
  have HD6 : Hid (w6.heap[pd]? = some (.cells #[.int .u8 13, .int .i64 1, .int .i64 0, .int .i64 0, .int .i64 0, .int .i64 0, .string (mkS []), .slice AD 0 CD, .int .i64 0, .int .i64 0, .int .i64 0, .int .i64 0, .int .i64 0, .int .i64 0, .int .i64 0, .int .i64 0, .int .i64 0, .int .i64 0, .slice none 0 0, .int .i64 0, .slice none 0 0, .slice none 0 0] 43 (0, 0))) := by show _ = _; rw [hB6.block _ (heap_lt HD5.out)]; exact HD5.out
  have HC6 : Hid (w6.heap[w.heap.size]? = some (.cells #[.int .u8 0, .int .i64 0, .int .i64 0, .int .i64 0, .int .i64 0, .int .i64 0, .string ⟨#[]⟩, .slice none 0 0, .int .i64 0, .int .i64 0, .int .i64 0, .int .i64 0, .int .i64 0, .int .i64 0, .int .i64 0, .int .i64 0, .int .i64 0, .int .i64 0, .slice none 0 0, .int .i64 0, .slice none 0 0, .slice none 0 0] 43 (0, 0))) := by show _ = _; rw [hB6.block _ (heap_lt HC5.out)]; exact HC5.out
  have HB6 : Hid (Below w.heap.size w w6) := HB5.out.trans (hB6.mono HB5.out.size)
  clear hip hB6 HD5 HC5 HB5 hra
  have hra := rangeL HD6.out
  obtain ⟨w7, hw7⟩ : ∃ X, X = w6.setCells w.heap.size 0 [.int .u8 13, .int .i64 1, .int .i64 0, .int .i64 0, .int .i64 0, .int .i64 0, .string (mkS []), .slice AD 0 CD, .int .i64 0, .int .i64 0, .int .i64 0, .int .i64 0, .int .i64 0, .int .i64 0, .int .i64 0, .int .i64 0, .int .i64 0, .int .i64 0, .slice none 0 0, .int .i64 0, .slice none 0 0, .slice none 0 0] := ⟨_, rfl⟩
  have hs7 := setL0 HC6.out [.int .u8 13, .int .i64 1, .int .i64 0, .int .i64 0, .int .i64 0, .int .i64 0, .string (mkS []), .slice AD 0 CD, .int .i64 0, .int .i64 0, .int .i64 0, .int .i64 0, .int .i64 0, .int .i64 0, .int .i64 0, .int .i64 0, .int .i64 0, .int .i64 0, .slice none 0 0, .int .i64 0, .slice none 0 0, .slice none 0 0] rfl
  rw [← hw7] at hs7
  have hth := thereL HC6.out 0 22 (show 0 + 22 ≤ 22 by decide)
  have hon : (#[.int .u8 13, .int .i64 1, .int .i64 0, .int .i64 0, .int .i64 0, .int .i64 0, .string (mkS []), .slice AD 0 CD, .int .i64 0, .int .i64 0, .int .i64 0, .int .i64 0, .int .i64 0, .int .i64 0, .int .i64 0, .int .i64 0, .int .i64 0, .int .i64 0, .slice none 0 0, .int .i64 0, .slice none 0 0, .slice none 0 0] : Array Value).all (·.oneCell') = true := all_oneCell_toArray (by intro v hv; simp only [List.mem_cons, List.not_mem_nil, or_false] at hv; rcases hv with rfl | rfl | rfl | rfl | rfl | rfl | rfl | rfl | rfl | rfl | rfl | rfl | rfl | rfl | rfl | rfl | rfl | rfl | rfl | rfl | rfl | rfl <;> rfl)
  have HE : Hid (w6.setCells w.heap.size 0 (#[.int .u8 13, .int .i64 1, .int .i64 0, .int .i64 0, .int .i64 0, .int .i64 0, .string (mkS []), .slice AD 0 CD, .int .i64 0, .int .i64 0, .int .i64 0, .int .i64 0, .int .i64 0, .int .i64 0, .int .i64 0, .int .i64 0, .int .i64 0, .int .i64 0, .slice none 0 0, .int .i64 0, .slice none 0 0, .slice none 0 0] : Array Value).toList = w7) := hw7.symm
  have HD7 : Hid (w7.heap[w.heap.size]? = some (.cells #[.int .u8 13, .int .i64 1, .int .i64 0, .int .i64 0, .int .i64 0, .int .i64 0, .string (mkS []), .slice AD 0 CD, .int .i64 0, .int .i64 0, .int .i64 0, .int .i64 0, .int .i64 0, .int .i64 0, .int .i64 0, .int .i64 0, .int .i64 0, .int .i64 0, .slice none 0 0, .int .i64 0, .slice none 0 0, .slice none 0 0] 43 (0, 0))) := hs7.1
  have HB7 : Hid (Below w.heap.size w w7) := HB6.out.trans (hs7.2.below (fun k e => by omega) HB6.out.size)
  clear hs7 hw7 HC6 HD6
  go_wp2_with (first | (refine wpList_load_mid rfl 43 _ rfl pd 0 rfl [.int .u8 13, .int .i64 1, .int .i64 0, .int .i64 0, .int .i64 0, .int .i64 0, .string (mkS []), .slice AD 0 CD, .int .i64 0, .int .i64 0, .int .i64 0, .int .i64 0, .int .i64 0, .int .i64 0, .int .i64 0, .int .i64 0, .int .i64 0, .int .i64 0, .slice none 0 0, .int .i64 0, .slice none 0 0, .slice none 0 0] _ hra Tryd.underlying43 rfl infoR ?_) | (refine wpList_store_mid rfl 43 _ _ rfl w.heap.size 0 #[.int .u8 13, .int .i64 1, .int .i64 0, .int .i64 0, .int .i64 0, .int .i64 0, .string (mkS []), .slice AD 0 CD, .int .i64 0, .int .i64 0, .int .i64 0, .int .i64 0, .int .i64 0, .int .i64 0, .int .i64 0, .int .i64 0, .int .i64 0, .int .i64 0, .slice none 0 0, .int .i64 0, .slice none 0 0, .slice none 0 0] rfl rfl hth infoR hon ?_; rw [HE.out]))
  refine bodyPost_ret (results_row2 _ _ _ Tryd.results23 w.heap.size rfl (.int .i64 0) rfl [.int .u8 13, .int .i64 1, .int .i64 0, .int .i64 0, .int .i64 0, .int .i64 0, .string (mkS []), .slice AD 0 CD, .int .i64 0, .int .i64 0, .int .i64 0, .int .i64 0, .int .i64 0, .int .i64 0, .int .i64 0, .int .i64 0, .int .i64 0, .int .i64 0, .slice none 0 0, .int .i64 0, .slice none 0 0, .slice none 0 0] _ (rangeL HD7.out) Tryd.underlying43 rfl infoR) rfl ?_
  exact ⟨AD, CD, rfl, HB7.out⟩
end Go.Proofs.YtmojplgoohnmdaaDoor.AK
