/- Events: mathematics, and the walks of bytes.Equal, rightEvent and PutEvent. -/
import Derived.Test.YtmojplgoohnmdaaDoorAkX
namespace Go.Proofs.YtmojplgoohnmdaaDoor.AK
set_option linter.unusedVariables false
open Go.RowKit
set_option linter.unusedVariables false

structure Ev where
  kind : Int
  sort : Int
  path : List UInt8
  zxid : Int
  deriving DecidableEq
def rightE (e : Ev) : Bool := decide (0 < e.kind) && (decide (e.kind ≤ 4) && (decide (0 < e.sort) && (decide (e.sort ≤ 3) && (decide (e.path.length ≤ 220) && decide (0 ≤ e.zxid)))))
def eventB (e : Ev) : List UInt8 := u8 e.kind :: u8 e.sort :: (textB e.path ++ numB e.zxid)
structure EvFit (e : Ev) : Prop where
  kind : 0 ≤ e.kind ∧ e.kind < 256
  sort : 0 ≤ e.sort ∧ e.sort < 256
  zxid : I64 e.zxid
def rdE (b : List UInt8) : Ev × Rd :=
  let k := rdByte (some b)
  let s := rdByte k.2
  let p := rdText s.2 220
  let z := rdInt p.2
  (⟨(k.1.toNat : Int), (s.1.toNat : Int), p.1, z.1⟩, z.2)
def eventOf (b : List UInt8) : Option Ev := if rightE (rdE b).1 = true ∧ eventB (rdE b).1 = b then some (rdE b).1 else none
theorem rightE_of {e : Ev} (h : rightE e = true) : 0 < e.kind ∧ e.kind ≤ 4 ∧ 0 < e.sort ∧ e.sort ≤ 3 ∧ e.path.length ≤ 220 ∧ 0 ≤ e.zxid := by
  unfold rightE at h
  simpa only [Bool.and_eq_true, decide_eq_true_eq] using h
theorem rdE_more {e : Ev} (hf : EvFit e) (hr : rightE e = true) (t : List UInt8) : rdE (eventB e ++ t) = (e, some t) := by
  have h := rightE_of hr
  unfold rdE eventB
  simp only [rdByte, List.cons_append, List.append_assoc]
  rw [u8_back hf.kind, u8_back hf.sort, rdText_text e.path (by omega) 220 (by omega)]
  dsimp only
  rw [rdInt_num _ hf.zxid.1 hf.zxid.2]
theorem rdE_put {e : Ev} (hf : EvFit e) (hr : rightE e = true) : rdE (eventB e) = (e, some []) := by
  have := rdE_more hf hr []
  rwa [List.append_nil] at this
theorem rdE_fit (b : List UInt8) : EvFit (rdE b).1 := ⟨byte_kind _, byte_kind _, rdInt_I64 _⟩
theorem eventOf_iff (b : List UInt8) (e : Ev) : eventOf b = some e ↔ b = eventB e ∧ rightE e = true ∧ EvFit e := by
  constructor
  · intro h
    unfold eventOf at h
    split at h
    · next hh =>
      cases h
      exact ⟨hh.2.symm, hh.1, rdE_fit b⟩
    · cases h
  · rintro ⟨rfl, h1, h2⟩
    unfold eventOf
    rw [rdE_put h2 h1, if_pos ⟨h1, rfl⟩]
theorem eventOf_more {e : Ev} (hf : EvFit e) (hr : rightE e = true) {t : List UInt8} (ht : t ≠ []) : eventOf (eventB e ++ t) = none := by
  cases h : eventOf (eventB e ++ t) with
  | none => rfl
  | some g =>
    obtain ⟨h1, h2, h3⟩ := (eventOf_iff _ _).1 h
    have e1 := rdE_more hf hr t
    rw [h1, rdE_put h3 h2] at e1
    have := congrArg (fun x => x.2) e1
    simp at this
    exact absurd this ht
theorem eventOf_less {e : Ev} (hf : EvFit e) (hr : rightE e = true) {k : Nat} (hk : k < (eventB e).length) : eventOf ((eventB e).take k) = none := by
  cases h : eventOf ((eventB e).take k) with
  | none => rfl
  | some g =>
    obtain ⟨h1, h2, h3⟩ := (eventOf_iff _ _).1 h
    have e1 := rdE_more h3 h2 ((eventB e).drop k)
    rw [← h1, List.take_append_drop, rdE_put hf hr] at e1
    have e2 : (eventB e).drop k = [] := by
      have := congrArg (fun x => x.2) e1
      simpa using this.symm
    have e3 := congrArg List.length e2
    simp at e3
    omega
set_option maxRecDepth 100000 in
theorem equal_any {w : World} {x y : Value} {la lb : List UInt8} (hA : Bs w x la) (hB : Bs w y lb) :
    Calls Tryd.prog 91 #[x, y] w fun e w' => e = .returned (.bool (decide (la = lb))) ∧ w' = w := by
  have h1 := convert_bytes hA
  have h2 := convert_bytes hB
  obtain ⟨A1, C1, rfl⟩ := bs_form hA
  obtain ⟨A2, C2, rfl⟩ := bs_form hB
  clear hA hB
  have he : ((mkS la).toList == (mkS lb).toList) = decide (la = lb) := by
    rw [show (mkS la).toList = la by rw [ByteArray.toList_eq]; simp [mkS], show (mkS lb).toList = lb by rw [ByteArray.toList_eq]; simp [mkS]]
    rw [Bool.eq_iff_iff]; simp
  go_enter Tryd.func91, Tryd.ntmps91
  go_wp2
  go_ret
  exact ⟨rfl, rfl⟩
set_option maxRecDepth 100000 in
set_option maxHeartbeats 2000000 in
theorem rightEvent_any (e : Ev) (w : World) (hl : e.path.length ≤ 9223372036854775807) :
    Calls Tryd.prog 45 #[.agg #[.int .u8 e.kind, .int .u8 e.sort, .string (mkS e.path), .int .i64 e.zxid]] w fun a w' => a = .returned (.bool (rightE e)) ∧ Below w.heap.size w w' := by
  obtain ⟨w1, hw1⟩ : ∃ X, X = w.alloc (.cells #[.int .u8 e.kind, .int .u8 e.sort, .string (mkS e.path), .int .i64 e.zxid] 46) := ⟨_, rfl⟩
  have HB1 : Hid (Below w.heap.size w w1) := by show Below _ _ _; rw [hw1]; exact (Below.refl _ _).alloc (Nat.le_refl _) _
  have hn : (mkS e.path).size = e.path.length := by show e.path.toArray.size = _; simp
  unfold rightE
  go_enter Tryd.func45, Tryd.ntmps45
  go_wp2
  all_goals
    go_ret
    rw [← hw1]
    refine ⟨?_, HB1.out⟩
    refine congrArg (fun b => Ending.returned (Value.bool b)) (?_ : (_ : Bool) = _)
    first
      | rfl
      | (symm; simp only [Bool.and_eq_false_iff, decide_eq_false_iff_not]; omega)
      | (symm; rw [Bool.eq_iff_iff]; simp only [Bool.and_eq_true, decide_eq_true_eq]; omega)
theorem cells4 {w : World} {b : Nat} {v0 v1 v2 v3 : Value} {T : TypeId} {fr : Nat × Nat} (h : w.heap[b]? = some (.cells #[v0, v1, v2, v3] T fr)) :
    w.cell? ⟨b, 0, none⟩ = some v0 ∧ w.cell? ⟨b, 1, none⟩ = some v1 ∧ w.cell? ⟨b, 2, none⟩ = some v2 ∧ w.cell? ⟨b, 3, none⟩ = some v3 :=
  ⟨by rw [cell_at h]; rfl, by rw [cell_at h]; rfl, by rw [cell_at h]; rfl, by rw [cell_at h]; rfl⟩
theorem eventB_len {e : Ev} (hf : EvFit e) (hr : rightE e = true) : (eventB e).length ≤ 1000 := by
  have h := rightE_of hr
  have h1 := numB_len hf.zxid
  have h2 := numB_len (n := (e.path.length : Int)) ⟨by omega, by omega⟩
  unfold eventB textB
  simp only [List.length_cons, List.length_append]
  omega
set_option maxRecDepth 100000 in
set_option maxHeartbeats 2000000 in
theorem putE_no (e : Ev) (w : World) (hl : e.path.length ≤ 9223372036854775807) (hr : rightE e = false) :
    Calls Tryd.prog 17 #[.agg #[.int .u8 e.kind, .int .u8 e.sort, .string (mkS e.path), .int .i64 e.zxid]] w fun a w' => a = .returned (.tuple #[.slice none 0 0, .int .i64 4]) ∧ Below w.heap.size w w' := by
  obtain ⟨w1, hw1⟩ : ∃ X, X = w.alloc (.cells #[.int .u8 e.kind, .int .u8 e.sort, .string (mkS e.path), .int .i64 e.zxid] 46) := ⟨_, rfl⟩
  have hB1 : Below w.heap.size w w1 := by rw [hw1]; exact (Below.refl _ _).alloc (Nat.le_refl _) _
  have HB1 : Hid (Below w.heap.size w w1) := hB1
  have hri := rightEvent_any e w1 hl
  rw [hr, hw1] at hri
  clear hB1 hr
  go_enter Tryd.func17, Tryd.ntmps17
  go_wp2_with fail
  refine hri.mono ?_
  rintro a w2 ⟨rfl, hB2⟩
  rw [← hw1] at hB2
  have HB2 : Hid (Below w.heap.size w w2) := HB1.out.trans (hB2.mono HB1.out.size)
  clear hri hB2 hw1
  go_wp2
  refine bodyPost_ret (v := .tuple #[.slice none 0 0, .int .i64 4]) (by simp [results, Tryd.results17, go_sem]) rfl ?_
  exact ⟨rfl, HB2.out⟩
set_option maxRecDepth 100000 in
set_option maxHeartbeats 4000000 in
theorem putE_yes (e : Ev) (w : World) (hf : EvFit e) (hr : rightE e = true) :
    Calls Tryd.prog 17 #[.agg #[.int .u8 e.kind, .int .u8 e.sort, .string (mkS e.path), .int .i64 e.zxid]] w fun a w' => ∃ x, a = .returned (.tuple #[x, .int .i64 0]) ∧ New w w' x (eventB e) := by
  have hle := rightE_of hr
  have HF : Hid (EvFit e) := hf
  have HP : Hid (e.path.length ≤ 220) := hle.2.2.2.2.1
  have HDL : Hid ((eventB e).length ≤ 1000) := eventB_len hf hr
  obtain ⟨w1, hw1⟩ : ∃ X, X = w.alloc (.cells #[.int .u8 e.kind, .int .u8 e.sort, .string (mkS e.path), .int .i64 e.zxid] 46) := ⟨_, rfl⟩
  have hB1 : Below w.heap.size w w1 := by rw [hw1]; exact (Below.refl _ _).alloc (Nat.le_refl _) _
  have HB1 : Hid (Below w.heap.size w w1) := hB1
  have HC1 : Hid (w1.heap[w.heap.size]? = some (.cells #[.int .u8 e.kind, .int .u8 e.sort, .string (mkS e.path), .int .i64 e.zxid] 46 (0, 0))) := by rw [hw1]; exact heap_alloc_new w _
  have hri := rightEvent_any e w1 (by omega)
  rw [hr, hw1] at hri
  clear hB1 hf hr hle
  go_enter Tryd.func17, Tryd.ntmps17
  go_wp2_with fail
  refine hri.mono ?_
  rintro a w2 ⟨rfl, hB2⟩
  rw [← hw1] at hB2
  have HB2 : Hid (Below w.heap.size w w2) := HB1.out.trans (hB2.mono HB1.out.size)
  have HC2 : Hid (w2.heap[w.heap.size]? = some (.cells #[.int .u8 e.kind, .int .u8 e.sort, .string (mkS e.path), .int .i64 e.zxid] 46 (0, 0))) := by show _ = _; rw [hB2.block _ (heap_lt HC1.out)]; exact HC1.out
  clear hri hB2 hw1 HB1 HC1
  have hnw := newWriter_any w2 w.heap.size HB2.out.size
  go_wp2_with fail
  refine hnw.mono ?_
  rintro a w3 ⟨rfl, hW3, hB3, hs3⟩
  have HW3 : Hid (WrAt w3 w.heap.size w2.heap.size none []) := hW3
  have hgg : w.heap.size ≤ w2.heap.size := HB2.out.size
  have HO3 : Hid (Own w3 w.heap.size (.cells #[.int .u8 e.kind, .int .u8 e.sort, .string (mkS e.path), .int .i64 e.zxid] 46 (0, 0)) w2.heap.size none) := ⟨by rw [hB3.block _ (heap_lt HC2.out)]; exact HC2.out, by have := heap_lt HC2.out; omega, by simp⟩
  have HB3 : Hid (Below w.heap.size w w3) := HB2.out.trans (hB3.mono HB2.out.size)
  clear hnw hW3 hB3 hs3 HB2 HC2
  generalize w2.heap.size = g at HW3 hgg HO3 ⊢
  clear w2
  have hwb := wByte_any HW3.out e.kind (u8 e.kind) (u8_back HF.out.kind).symm (by simp)
  obtain ⟨z0, z1, z2, z3⟩ := cells4 HO3.out.at'
  go_wp2_with fail
  refine hwb.mono ?_
  rintro a w4 ⟨rfl, q4, hW4, hP4⟩
  have HW4 : Hid (WrAt w4 w.heap.size g q4 ([] ++ [u8 e.kind])) := hW4
  have HO4 : Hid (Own w4 w.heap.size (.cells #[.int .u8 e.kind, .int .u8 e.sort, .string (mkS e.path), .int .i64 e.zxid] 46 (0, 0)) g q4) := HO3.out.put hP4
  have HB4 : Hid (Below w.heap.size w w4) := HB3.out.trans (put_below HW3.out hgg hP4)
  clear hwb hW4 hP4 HW3 HO3 HB3 z0 z1 z2 z3
  obtain ⟨z0, z1, z2, z3⟩ := cells4 HO4.out.at'
  have hwb := wByte_any HW4.out e.sort (u8 e.sort) (u8_back HF.out.sort).symm (by simp)
  as_aux_lemma =>
  go_wp2_with fail
  refine hwb.mono ?_
  rintro a w5 ⟨rfl, q5, hW5, hP5⟩
  have HW5 : Hid (WrAt w5 w.heap.size g q5 (([] ++ [u8 e.kind]) ++ [u8 e.sort])) := hW5
  have HO5 : Hid (Own w5 w.heap.size (.cells #[.int .u8 e.kind, .int .u8 e.sort, .string (mkS e.path), .int .i64 e.zxid] 46 (0, 0)) g q5) := HO4.out.put hP5
  have HB5 : Hid (Below w.heap.size w w5) := HB4.out.trans (put_below HW4.out hgg hP5)
  clear hwb hW5 hP5 HW4 HO4 HB4 z0 z1 z2 z3
  obtain ⟨z0, z1, z2, z3⟩ := cells4 HO5.out.at'
  have HT : Hid ((textB e.path).length ≤ 900) := by
    show _ ≤ _
    have := HDL.out
    have hp := HP.out
    have h2 := numB_len (n := (e.path.length : Int)) ⟨by omega, by omega⟩
    unfold textB
    simp only [List.length_append]
    omega
  have hwt := wText_any HW5.out e.path (by have := HP.out; omega) (by have := HT.out; simp only [List.length_append, List.length_singleton, List.length_nil]; omega)
  as_aux_lemma =>
  go_wp2_with fail
  refine hwt.mono ?_
  rintro a w6 ⟨rfl, q6, hW6, hP6⟩
  have HW6 : Hid (WrAt w6 w.heap.size g q6 ((([] ++ [u8 e.kind]) ++ [u8 e.sort]) ++ textB e.path)) := hW6
  have HO6 : Hid (Own w6 w.heap.size (.cells #[.int .u8 e.kind, .int .u8 e.sort, .string (mkS e.path), .int .i64 e.zxid] 46 (0, 0)) g q6) := HO5.out.put hP6
  have HB6 : Hid (Below w.heap.size w w6) := HB5.out.trans (put_below HW5.out hgg hP6)
  clear hwt hW6 hP6 HW5 HO5 HB5 z0 z1 z2 z3
  obtain ⟨z0, z1, z2, z3⟩ := cells4 HO6.out.at'
  have hpi := putInts_one HW6.out hgg (by have := HT.out; simp only [List.length_append, List.length_singleton, List.length_nil]; omega) e.zxid HF.out.zxid
  as_aux_lemma =>
  go_wp2_with fail
  refine hpi.mono ?_
  rintro a w7 ⟨rfl, q7, hW7, hP7⟩
  have HB7 : Hid (Below w.heap.size w w7) := HB6.out.trans (put_below HW6.out hgg hP7)
  have HW7 : Hid (WrAt w7 w.heap.size g q7 (eventB e)) := by
    show WrAt _ _ _ _ _
    unfold eventB
    simpa using hW7
  clear hpi hW7 hP7 HW6 HO6 HB6 z0 z1 z2 z3
  have hdn := wDone_any HW7.out (by have := HDL.out; omega)
  as_aux_lemma =>
  go_wp2_with fail
  refine hdn.mono ?_
  rintro a w8 ⟨x, rfl, hN⟩
  have HN : Hid (New w w8 x (eventB e)) := ⟨wOwn.base hN.owns HB7.out.size, HB7.out.trans (hN.below.mono HB7.out.size)⟩
  obtain ⟨AX, CX, rfl⟩ := bs_form hN.bs
  clear hdn hN
  go_wp2
  refine bodyPost_ret (v := .tuple #[.slice AX (eventB e).length CX, .int .i64 0]) (by simp [results, Tryd.results17, go_sem]) rfl ?_
  exact ⟨_, rfl, HN.out⟩
end Go.Proofs.YtmojplgoohnmdaaDoor.AK
