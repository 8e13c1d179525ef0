/- The walk of what wakes the statements on calls. -/
import Derived.Test.YtmojplgoohnmdaaDoorRpE
namespace Go.Proofs.YtmojplgoohnmdaaDoor.AK
set_option linter.unusedSimpArgs false
set_option linter.unusedVariables false
open Go.RowKit
set_option linter.unusedVariables false
set_option linter.unusedSimpArgs false

def Qa : Qf := ⟨4, 3, 0, 0, [47, 97], [], 0, -1, false, 0, 0, 0, 0, [], 0⟩
def Qk (k : Int) : Qf := ⟨k, 0, 0, 0, [], [], 0, 0, false, 0, 0, 0, 0, [], 0⟩
def bQa : List UInt8 := [4, 6, 0, 0, 4, 47, 97, 1]
def bEa : List UInt8 := [2, 1, 4, 47, 97, 14]
def Ea : Ev := ⟨2, 1, [47, 97], 7⟩
theorem Qa_b : askB Qa [] = bQa := by decide +kernel
theorem Ea_b : eventB Ea = bEa := by decide +kernel
theorem Ea_of : eventOf bEa = some Ea := by decide +kernel
theorem Qk_fit (k : Int) (h : 0 ≤ k ∧ k < 256) : AskFit (Qk k) [] := ⟨⟨h, I64_0, I64_0, I64_0, I64_0, I64_0, (show (0 : Int) ≤ 0 ∧ (0 : Int) < 256 from ⟨by decide, by decide⟩), I64_0, I64_0, I64_0, fun m hm => by simp [Qk] at hm⟩, fun p hp => by simp at hp, rfl⟩
theorem Qa_fit : AskFit Qa [] := ⟨⟨⟨by decide, by decide⟩, ⟨by decide, by decide⟩, I64_0, I64_0, I64_0, ⟨by decide, by decide⟩, ⟨by decide, by decide⟩, I64_0, I64_0, I64_0, fun m hm => by simp [Qa] at hm⟩, fun p hp => by simp at hp, rfl⟩
theorem Qa_right : rightQ Qa [] = true := by decide +kernel
theorem Q13_right : rightQ (Qk 13) [] = true := by decide +kernel
theorem Q1_not : rightQ (Qk 1) [] = false := by decide +kernel
theorem Ea_fit : EvFit Ea := ⟨⟨by decide, by decide⟩, ⟨by decide, by decide⟩, ⟨by decide, by decide⟩⟩
theorem Ea_right : rightE Ea = true := by decide +kernel
theorem qval_nil {w : World} {f : Qf} (h1 : f.data = []) (h2 : f.mems = []) (h3 : f.np = 0) : QVal w f [] none 0 none 0 none 0 := by
  refine ⟨?_, ?_, ?_⟩
  · rw [h1]; exact .inl ⟨rfl, rfl⟩
  · rw [h2]; exact .inl ⟨rfl, rfl⟩
  · rw [h3]; exact .inl ⟨rfl, rfl⟩
theorem drewN_below (w : World) (n : Nat) : Below w.heap.size w (w.drewN n) := (Chg.drewN Non w n).below (fun _ h => h.elim) (Nat.le_refl _)
theorem lit6 (w : World) : Bs (w.alloc (.cells #[.int .u8 2, .int .u8 1, .int .u8 4, .int .u8 47, .int .u8 97, .int .u8 14] 5)) (.slice (some ⟨w.heap.size, 0, none⟩) 6 6) bEa :=
  Bs_new w bEa _ _ 6 (by decide) (by intro j hj; have hj' : j < 6 := hj; rcases j with _ | _ | _ | _ | _ | _ | j <;> first | rfl | omega)
theorem lit8 (w : World) : Bs (w.alloc (.cells #[.int .u8 4, .int .u8 6, .int .u8 0, .int .u8 0, .int .u8 4, .int .u8 47, .int .u8 97, .int .u8 1] 5)) (.slice (some ⟨w.heap.size, 0, none⟩) 8 8) bQa :=
  Bs_new w bQa _ _ 8 (by decide) (by intro j hj; have hj' : j < 8 := hj; rcases j with _ | _ | _ | _ | _ | _ | _ | _ | j <;> first | rfl | omega)
set_option maxRecDepth 100000 in
set_option maxHeartbeats 8000000 in
theorem awakeQ_any (w : World) (hL : QL w) : Calls Tryd.prog 8 #[] w fun e w' => e = .returned (.bool true) ∧ Below w.heap.size w w' := by
  have HL : Hid (QL w) := hL
  have hc : Calls Tryd.prog 9 #[.agg #[.int .u8 4, .int .i64 3, .int .i64 0, .int .i64 0, .string ⟨#[47, 97]⟩, .slice none 0 0, .int .i64 0, .int .i64 (-1), .bool false, .int .u8 0, .int .i64 0, .int .i64 0, .int .i64 0, .slice none 0 0, .slice none 0 0]] w fun e w' => ∃ x, e = .returned (.tuple #[x, .int .i64 0]) ∧ New w w' x bQa := by
    have h := put_yes Qa [] none none none 0 0 0 w hL (qval_nil rfl rfl rfl) Qa_fit (by decide) Qa_right
    rw [Qa_b] at h
    exact h
  clear hL
  go_enter Tryd.func8, Tryd.ntmps8
  go_wp2_with fail
  refine hc.mono ?_
  rintro e w1 ⟨x, rfl, hN⟩
  have HB1 : Hid (Below w.heap.size w w1) := hN.below
  obtain ⟨AX, CX, hx⟩ := bs_form hN.bs
  have hx' : x = .slice AX 8 CX := hx
  subst hx'
  have HX1 : Hid (Bs w1 (.slice AX 8 CX) bQa) := hN.bs
  clear hc hN hx
  have hc : Calls Tryd.prog 17 #[.agg #[.int .u8 2, .int .u8 1, .string ⟨#[47, 97]⟩, .int .i64 7]] w1 fun a w' => ∃ x, a = .returned (.tuple #[x, .int .i64 0]) ∧ New w1 w' x bEa := by
    have h := putE_yes Ea w1 Ea_fit Ea_right
    rw [Ea_b] at h
    exact h
  go_wp2_with fail
  refine hc.mono ?_
  rintro e w2 ⟨x, rfl, hN⟩
  have HB2 : Hid (Below w.heap.size w w2) := HB1.out.trans (hN.below.mono HB1.out.size)
  obtain ⟨AY, CY, hx⟩ := bs_form hN.bs
  have hx' : x = .slice AY 6 CY := hx
  subst hx'
  have HX2 : Hid (Bs w2 (.slice AX 8 CX) bQa) := Bs.below' HX1.out hN.below
  have HY2 : Hid (Bs w2 (.slice AY 6 CY) bEa) := hN.bs
  clear hc hN hx HB1 HX1 w1
  obtain ⟨w3, hw3⟩ : ∃ X, X = w2.alloc (.cells #[.int .u8 2, .int .u8 1, .int .u8 4, .int .u8 47, .int .u8 97, .int .u8 14] 5) := ⟨_, rfl⟩
  have hB3 : Below w2.heap.size w2 w3 := by rw [hw3]; exact (Below.refl _ _).alloc (Nat.le_refl _) _
  have hc : Calls Tryd.prog 25 #[.slice (some ⟨w2.heap.size, 0, none⟩) 6 6] w3 fun a w' => a = .returned (.tuple #[.agg #[.int .u8 2, .int .u8 1, .string ⟨#[47, 97]⟩, .int .i64 7], .int .i64 0]) ∧ Below w3.heap.size w3 w' := by
    have h := getE_any w3 (.slice (some ⟨w2.heap.size, 0, none⟩) 6 6) bEa (by rw [hw3]; exact lit6 w2) (by decide)
    rw [Ea_of] at h
    exact h
  rw [hw3] at hc
  go_wp2_with fail
  refine hc.mono ?_
  rintro e w4 ⟨rfl, hB4⟩
  rw [← hw3] at hB4
  have hB24 := hB3.trans (hB4.mono hB3.size)
  have HB4 : Hid (Below w.heap.size w w4) := HB2.out.trans (hB24.mono HB2.out.size)
  have HX4 : Hid (Bs w4 (.slice AX 8 CX) bQa) := Bs.below' HX2.out hB24
  have HY4 : Hid (Bs w4 (.slice AY 6 CY) bEa) := Bs.below' HY2.out hB24
  clear hc hB3 hB4 hB24 hw3 HB2 HX2 HY2 w3
  obtain ⟨w5, hw5⟩ : ∃ X, X = w4.alloc (.cells #[.int .u8 2, .int .u8 1, .string ⟨#[47, 97]⟩, .int .i64 7] 46) := ⟨_, rfl⟩
  have hB5 : Below w4.heap.size w4 w5 := by rw [hw5]; exact (Below.refl _ _).alloc (Nat.le_refl _) _
  have HB5 : Hid (Below w.heap.size w w5) := HB4.out.trans (hB5.mono HB4.out.size)
  have HX5 : Hid (Bs w5 (.slice AX 8 CX) bQa) := Bs.below' HX4.out hB5
  have HY5 : Hid (Bs w5 (.slice AY 6 CY) bEa) := Bs.below' HY4.out hB5
  have HV5 : Hid (w5.heap[w4.heap.size]? = some (.cells #[.int .u8 2, .int .u8 1, .string ⟨#[47, 97]⟩, .int .i64 7] 46 (0, 0))) := by rw [hw5]; exact heap_alloc_new w4 _
  have hc : Calls Tryd.prog 15 #[.agg #[.int .u8 13, .int .i64 1, .int .i64 0, .int .i64 0, .int .i64 0, .int .i64 0, .string ⟨#[]⟩, .slice none 0 0, .int .i64 0, .int .i64 0, .int .i64 0, .int .i64 0, .int .i64 0, .int .i64 0, .int .i64 0, .int .i64 0, .int .i64 0, .int .i64 0, .slice none 0 0, .int .i64 0, .slice none 0 0, .slice none 0 0]] w5 fun e w' => ∃ x, e = .returned (.tuple #[x, .int .i64 0]) ∧ New w5 w' x B0r := by
    have h := putR_leaf F0r none none none none 0 0 0 0 w5 ⟨.inl ⟨rfl, rfl⟩, Txs.nil w5, .inl ⟨rfl, rfl⟩⟩ F0r_fit F0r_right rfl rfl
    rw [B0r_eq] at h
    exact h
  rw [hw5] at hc
  go_wp2_with fail
  refine hc.mono ?_
  rintro e w6 ⟨x, rfl, hN⟩
  rw [← hw5] at hN
  have HB6 : Hid (Below w.heap.size w w6) := HB5.out.trans (hN.below.mono HB5.out.size)
  obtain ⟨AZ, CZ, hx⟩ := bs_form hN.bs
  have hx' : x = .slice AZ 21 CZ := hx
  subst hx'
  have HX6 : Hid (Bs w6 (.slice AX 8 CX) bQa) := Bs.below' HX5.out hN.below
  have HY6 : Hid (Bs w6 (.slice AY 6 CY) bEa) := Bs.below' HY5.out hN.below
  have HZ6 : Hid (Bs w6 (.slice AZ 21 CZ) B0r) := hN.bs
  have HV6 : Hid (w6.heap[w4.heap.size]? = some (.cells #[.int .u8 2, .int .u8 1, .string ⟨#[47, 97]⟩, .int .i64 7] 46 (0, 0))) := by show _ = _; rw [hN.below.block _ (heap_lt HV5.out)]; exact HV5.out
  clear hc hN hx hw5 hB5 HB4 HX4 HY4 HB5 HX5 HY5 HV5 w5
  generalize w4.heap.size = pe at HV6 ⊢
  clear w4
  have hc := getR0_any w6 (.slice AZ 21 CZ) HZ6.out
  go_wp2_with fail
  refine hc.mono ?_
  rintro e w7 ⟨AD, CD, rfl, hB7⟩
  have hal := heap_alloc_new w7 (.cells #[.int .u8 0, .int .i64 0, .int .i64 0, .int .i64 0, .int .i64 0, .int .i64 0, .string ⟨#[]⟩, .slice none 0 0, .int .i64 0, .int .i64 0, .int .i64 0, .int .i64 0, .int .i64 0, .int .i64 0, .int .i64 0, .int .i64 0, .int .i64 0, .int .i64 0, .slice none 0 0, .int .i64 0, .slice none 0 0, .slice none 0 0] 43 (0, 0))
  obtain ⟨w8, hw8⟩ : ∃ X, X = (w7.alloc (.cells #[.int .u8 0, .int .i64 0, .int .i64 0, .int .i64 0, .int .i64 0, .int .i64 0, .string ⟨#[]⟩, .slice none 0 0, .int .i64 0, .int .i64 0, .int .i64 0, .int .i64 0, .int .i64 0, .int .i64 0, .int .i64 0, .int .i64 0, .int .i64 0, .int .i64 0, .slice none 0 0, .int .i64 0, .slice none 0 0, .slice none 0 0] 43)).setCells w7.heap.size 0 [.int .u8 13, .int .i64 1, .int .i64 0, .int .i64 0, .int .i64 0, .int .i64 0, .string (mkS []), .slice AD 0 CD, .int .i64 0, .int .i64 0, .int .i64 0, .int .i64 0, .int .i64 0, .int .i64 0, .int .i64 0, .int .i64 0, .int .i64 0, .int .i64 0, .slice none 0 0, .int .i64 0, .slice none 0 0, .slice none 0 0] := ⟨_, rfl⟩
  have hs8 := setL0 hal [.int .u8 13, .int .i64 1, .int .i64 0, .int .i64 0, .int .i64 0, .int .i64 0, .string (mkS []), .slice AD 0 CD, .int .i64 0, .int .i64 0, .int .i64 0, .int .i64 0, .int .i64 0, .int .i64 0, .int .i64 0, .int .i64 0, .int .i64 0, .int .i64 0, .slice none 0 0, .int .i64 0, .slice none 0 0, .slice none 0 0] rfl
  rw [← hw8] at hs8
  have hB8 : Below w7.heap.size w7 w8 := ((Below.refl _ _).alloc (Nat.le_refl _) _).trans (hs8.2.below (fun k e => by omega) (by simp))
  have hB68 := hB7.trans (hB8.mono hB7.size)
  have HD8 : Hid (w8.heap[w7.heap.size]? = some (.cells #[.int .u8 13, .int .i64 1, .int .i64 0, .int .i64 0, .int .i64 0, .int .i64 0, .string (mkS []), .slice AD 0 CD, .int .i64 0, .int .i64 0, .int .i64 0, .int .i64 0, .int .i64 0, .int .i64 0, .int .i64 0, .int .i64 0, .int .i64 0, .int .i64 0, .slice none 0 0, .int .i64 0, .slice none 0 0, .slice none 0 0] 43 (0, 0))) := hs8.1
  have HB8 : Hid (Below w.heap.size w w8) := HB6.out.trans (hB68.mono HB6.out.size)
  have HX8 : Hid (Bs w8 (.slice AX 8 CX) bQa) := Bs.below' HX6.out hB68
  have HY8 : Hid (Bs w8 (.slice AY 6 CY) bEa) := Bs.below' HY6.out hB68
  have HV8 : Hid (w8.heap[pe]? = some (.cells #[.int .u8 2, .int .u8 1, .string ⟨#[47, 97]⟩, .int .i64 7] 46 (0, 0))) := by show _ = _; rw [hB68.block _ (heap_lt HV6.out)]; exact HV6.out
  have hth := thereL hal 0 22 (show 0 + 22 ≤ 22 by decide)
  have hon : (#[.int .u8 13, .int .i64 1, .int .i64 0, .int .i64 0, .int .i64 0, .int .i64 0, .string (mkS []), .slice AD 0 CD, .int .i64 0, .int .i64 0, .int .i64 0, .int .i64 0, .int .i64 0, .int .i64 0, .int .i64 0, .int .i64 0, .int .i64 0, .int .i64 0, .slice none 0 0, .int .i64 0, .slice none 0 0, .slice none 0 0] : Array Value).all (·.oneCell') = true := all_oneCell_toArray (by intro v hv; simp only [List.mem_cons, List.not_mem_nil, or_false] at hv; rcases hv with rfl | rfl | rfl | rfl | rfl | rfl | rfl | rfl | rfl | rfl | rfl | rfl | rfl | rfl | rfl | rfl | rfl | rfl | rfl | rfl | rfl | rfl <;> rfl)
  have HE : Hid ((w7.alloc (.cells #[.int .u8 0, .int .i64 0, .int .i64 0, .int .i64 0, .int .i64 0, .int .i64 0, .string ⟨#[]⟩, .slice none 0 0, .int .i64 0, .int .i64 0, .int .i64 0, .int .i64 0, .int .i64 0, .int .i64 0, .int .i64 0, .int .i64 0, .int .i64 0, .int .i64 0, .slice none 0 0, .int .i64 0, .slice none 0 0, .slice none 0 0] 43)).setCells w7.heap.size 0 (#[.int .u8 13, .int .i64 1, .int .i64 0, .int .i64 0, .int .i64 0, .int .i64 0, .string (mkS []), .slice AD 0 CD, .int .i64 0, .int .i64 0, .int .i64 0, .int .i64 0, .int .i64 0, .int .i64 0, .int .i64 0, .int .i64 0, .int .i64 0, .int .i64 0, .slice none 0 0, .int .i64 0, .slice none 0 0, .slice none 0 0] : Array Value).toList = w8) := hw8.symm
  have hc' : Calls Tryd.prog 11 #[.agg #[.int .u8 13, .int .i64 0, .int .i64 0, .int .i64 0, .string ⟨#[]⟩, .slice none 0 0, .int .i64 0, .int .i64 0, .bool false, .int .u8 0, .int .i64 0, .int .i64 0, .int .i64 0, .slice none 0 0, .slice none 0 0]] w8 fun e w' => e = .returned (.bool true) ∧ Below w8.heap.size w8 w' := by
    have h := right_any (Qk 13) [] none none none 0 0 0 w8 (HL.out.below HB8.out) (qval_nil rfl rfl rfl) (Qk_fit 13 (by decide)) (by decide)
    rw [Q13_right] at h
    exact h
  clear hc hB7 hal hs8 hB8 hB68 hw8 HB6 HX6 HY6 HZ6 HV6 w6
  go_wp2_with (refine wpList_store_mid rfl 43 _ _ rfl w7.heap.size 0 #[.int .u8 13, .int .i64 1, .int .i64 0, .int .i64 0, .int .i64 0, .int .i64 0, .string (mkS []), .slice AD 0 CD, .int .i64 0, .int .i64 0, .int .i64 0, .int .i64 0, .int .i64 0, .int .i64 0, .int .i64 0, .int .i64 0, .int .i64 0, .int .i64 0, .slice none 0 0, .int .i64 0, .slice none 0 0, .slice none 0 0] rfl rfl hth infoR hon ?_; rw [HE.out])
  refine hc'.mono ?_
  rintro e w9 ⟨rfl, hB9⟩
  have HF : Hid (∀ w', Below w8.heap.size w8 w' → Below w.heap.size w w' ∧ Bs w' (.slice AX 8 CX) bQa ∧ Bs w' (.slice AY 6 CY) bEa ∧ w'.heap[pe]? = some (.cells #[.int .u8 2, .int .u8 1, .string ⟨#[47, 97]⟩, .int .i64 7] 46 (0, 0)) ∧ w'.heap[w7.heap.size]? = some (.cells #[.int .u8 13, .int .i64 1, .int .i64 0, .int .i64 0, .int .i64 0, .int .i64 0, .string (mkS []), .slice AD 0 CD, .int .i64 0, .int .i64 0, .int .i64 0, .int .i64 0, .int .i64 0, .int .i64 0, .int .i64 0, .int .i64 0, .int .i64 0, .int .i64 0, .slice none 0 0, .int .i64 0, .slice none 0 0, .slice none 0 0] 43 (0, 0))) := fun w' hB => ⟨HB8.out.trans (hB.mono HB8.out.size), Bs.below' HX8.out hB, Bs.below' HY8.out hB, by rw [hB.block _ (heap_lt HV8.out)]; exact HV8.out, by rw [hB.block _ (heap_lt HD8.out)]; exact HD8.out⟩
  have HB9 : Hid (Below w8.heap.size w8 w9) := hB9
  clear hc' hB9 HE hth hon HX8 HY8 HV8 HD8 HB8
  have hc : Calls Tryd.prog 11 #[.agg #[.int .u8 1, .int .i64 0, .int .i64 0, .int .i64 0, .string ⟨#[]⟩, .slice none 0 0, .int .i64 0, .int .i64 0, .bool false, .int .u8 0, .int .i64 0, .int .i64 0, .int .i64 0, .slice none 0 0, .slice none 0 0]] w9 fun e w' => e = .returned (.bool false) ∧ Below w9.heap.size w9 w' := by
    have h := right_any (Qk 1) [] none none none 0 0 0 w9 (HL.out.below (HF.out w9 HB9.out).1) (qval_nil rfl rfl rfl) (Qk_fit 1 (by decide)) (by decide)
    rw [Q1_not] at h
    exact h
  go_wp2_with fail
  refine hc.mono ?_
  rintro e w10 ⟨rfl, hB10⟩
  have HB10 : Hid (Below w8.heap.size w8 w10) := HB9.out.trans (hB10.mono HB9.out.size)
  clear hc hB10 HB9 w9
  obtain ⟨w11, hw11⟩ : ∃ X, X = w10.alloc (.cells #[.int .u8 4, .int .u8 6, .int .u8 0, .int .u8 0, .int .u8 4, .int .u8 47, .int .u8 97, .int .u8 1] 5) := ⟨_, rfl⟩
  have hB11 : Below w8.heap.size w8 w11 := by rw [hw11]; exact HB10.out.alloc HB10.out.size _
  have hc : Calls Tryd.prog 13 #[.slice AX 8 CX, .slice (some ⟨w10.heap.size, 0, none⟩) 8 8] w11 fun e w' => e = .returned (.bool true) ∧ ∃ q, w' = w11.drewN q := by
    have h := same_any (HF.out w11 hB11).2.1 (by rw [hw11]; exact lit8 w10) (by decide)
    rw [decide_eq_true (rfl : bQa = bQa)] at h
    exact h
  have HB11 : Hid _ := hB11
  rw [hw11] at hc
  go_wp2_with fail
  refine hc.mono ?_
  rintro e w12 ⟨rfl, qq, hq⟩
  rw [← hw11] at hq
  have HB12 : Hid (Below w8.heap.size w8 w12) := by show Below _ _ _; rw [hq]; exact HB11.out.trans ((drewN_below w11 qq).mono HB11.out.size)
  clear hc hq hw11 HB11 HB10 hB11 w11
  obtain ⟨w13, hw13⟩ : ∃ X, X = w12.alloc (.cells #[.int .u8 2, .int .u8 1, .int .u8 4, .int .u8 47, .int .u8 97, .int .u8 14] 5) := ⟨_, rfl⟩
  have hB13 : Below w8.heap.size w8 w13 := by rw [hw13]; exact HB12.out.alloc HB12.out.size _
  have hc : Calls Tryd.prog 13 #[.slice AY 6 CY, .slice (some ⟨w12.heap.size, 0, none⟩) 6 6] w13 fun e w' => e = .returned (.bool true) ∧ ∃ q, w' = w13.drewN q := by
    have h := same_any (HF.out w13 hB13).2.2.1 (by rw [hw13]; exact lit6 w12) (by decide)
    rw [decide_eq_true (rfl : bEa = bEa)] at h
    exact h
  have HB13 : Hid _ := hB13
  rw [hw13] at hc
  go_wp2_with fail
  refine hc.mono ?_
  rintro e w14 ⟨rfl, qq, hq⟩
  rw [← hw13] at hq
  have HB14 : Hid (Below w8.heap.size w8 w14) := by show Below _ _ _; rw [hq]; exact HB13.out.trans ((drewN_below w13 qq).mono HB13.out.size)
  clear hc hq hw13 HB13 HB12 hB13 w13
  obtain ⟨f1, f2, f3, f4, f5⟩ := HF.out w14 HB14.out
  have HB15 : Hid (Below w.heap.size w w14) := f1
  have y3 := (cells4 f4).2.2.2
  have z1 := (cells22 f5).2.1
  clear f1 f2 f3 f4 f5 HF HB14
  go_wp2
  go_ret
  exact ⟨rfl, HB15.out⟩
end Go.Proofs.YtmojplgoohnmdaaDoor.AK
