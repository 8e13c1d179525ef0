/- The walk of putFields. -/
import Derived.Test.YtaeoafedfgbcaaaGreatDoorDdP
namespace Go.Proofs.YtaeoafedfgbcaaaGreatDoor.DD
set_option linter.unusedVariables false
open Go.RowKit
set_option linter.unusedVariables false

/- The numbers that are put, of the first k. -/
def numsTo (f : Fl) (bt : Nat → Bool) (k : Nat) : List UInt8 := (List.range k).flatMap fun j => if bt j = true then numB (nth5 f.owner f.version f.cversion f.timeout f.err j) else []
theorem numsTo_succ (f : Fl) (bt : Nat → Bool) (k : Nat) : numsTo f bt (k + 1) = numsTo f bt k ++ (if bt k = true then numB (nth5 f.owner f.version f.cversion f.timeout f.err k) else []) := by
  unfold numsTo; rw [List.range_succ, List.flatMap_append]; simp
theorem nth5_I64 {f : Fl} (hf : FlFit f) (k : Nat) : I64 (nth5 f.owner f.version f.cversion f.timeout f.err k) := by
  unfold nth5
  rcases k with _ | _ | _ | _ | _ | k
  · exact hf.owner
  · exact hf.version
  · exact hf.cversion
  · exact hf.timeout
  · exact hf.err
  · exact I64_0
theorem numsTo_len {f : Fl} (hf : FlFit f) (bt : Nat → Bool) : ∀ k, (numsTo f bt k).length ≤ 10 * k
  | 0 => by simp [numsTo]
  | k + 1 => by
    rw [numsTo_succ, List.length_append]
    have := numsTo_len hf bt k
    have hn := nth5_I64 hf k
    have h2 := numB_len _ hn.1 hn.2
    split
    · omega
    · simp; omega
theorem shl_k (k : Nat) (h : k < 5) : IntKind.u16.wrap (4 * 2 ^ k) = 4 * 2 ^ k := by
  obtain rfl | rfl | rfl | rfl | rfl : k = 0 ∨ k = 1 ∨ k = 2 ∨ k = 3 ∨ k = 4 := by omega
  all_goals decide
/- A block that a putting call keeps. -/
structure Own (w : World) (p : Nat) (o : Obj) (g : Nat) (q : Option Nat) : Prop where
  at' : w.heap[p]? = some o
  ne : p ≠ g
  nq : q ≠ some p
theorem Own.put {w w' : World} {p g : Nat} {o : Obj} {q q' : Option Nat} (h : Own w p o g q) (hp : Put g q w w' q') : Own w' p o g q' := by
  have hl := heap_lt h.at'
  refine ⟨?_, h.ne, ?_⟩
  · rw [hp.chg.block p hl (fun e => by rcases e with e | e; exact h.ne e; exact h.nq e)]; exact h.at'
  · rcases hp.lies with e | ⟨k, e, hk⟩
    · rw [e]; exact h.nq
    · rw [e]; intro e'; cases e'; omega
theorem Own.below {w w' : World} {p g : Nat} {o : Obj} {q : Option Nat} (h : Own w p o g q) (hb : Below w.heap.size w w') : Own w' p o g q := ⟨by rw [hb.block p (heap_lt h.at')]; exact h.at', h.ne, h.nq⟩
theorem Put.below {g : Nat} {q : Option Nat} {w w' : World} (h : Below w.heap.size w w') : Put g q w w' q := ⟨(Chg.of_below h).weak (fun _ _ e => e.elim), .inl rfl⟩
theorem WrAt.below {w w' : World} {base g : Nat} {q : Option Nat} {l : List UInt8} (h : WrAt w base g q l) (hb : Below w.heap.size w w') : WrAt w' base g q l := h.keep (Chg.of_below hb) (fun e => e) (fun _ _ e => e)
theorem Bs.put {w w' : World} {base g : Nat} {q q' : Option Nat} {v : Value} {b l : List UInt8} (h : Bs w v b) (hw : WrAt w base g q l) (hg : base ≤ g) (hb : ∀ k, bk v = some k → k < base) (hp : Put g q w w' q') : Bs w' v b :=
  h.keep hp.chg (fun k hk e => by
    have := hb k hk
    rcases e with e | e
    · omega
    · have := (hw.qlt k e).1; omega)
theorem Mems.put {w w' : World} {base g : Nat} {q q' : Option Nat} {v : Value} {b : List Mem} {l : List UInt8} (h : Mems w v b) (hw : WrAt w base g q l) (hg : base ≤ g) (hb : ∀ k, bk v = some k → k < base) (hp : Put g q w w' q') : Mems w' v b :=
  h.keep hp.chg (fun k hk e => by
    have := hb k hk
    rcases e with e | e
    · omega
    · have := (hw.qlt k e).1; omega)
set_option maxRecDepth 100000 in
set_option maxHeartbeats 4000000 in
theorem putF_none {w : World} {base g : Nat} {q : Option Nat} {l : List UInt8} (h : WrAt w base g q l) (hg : base ≤ g) (hl : l.length ≤ 1048576) (f : Fl) (hf : FlFit f) (A1 A2 A3 : Option Addr) (c1 c2 c3 : Nat) (hL : PA.Laid w) (T : Int) (bt : Nat → Bool)
    (hT : PA.kTab f.kind.toNat = T) (hp : (bits BinOp.and IntKind.u16 T 1 != 0) = false) (hd : (bits BinOp.and IntKind.u16 T 2 != 0) = false) (hc : (bits BinOp.and IntKind.u16 T 128 != 0) = false)
    (hbt : ∀ k, k < 5 → (bits BinOp.and IntKind.u16 T (4 * 2 ^ k) != 0) = bt k) :
    Calls Tryz.prog 44 #[.pointer (some ⟨g, 0, none⟩), .agg #[.int .i64 f.zxid, .int .u8 f.kind, .int .i64 f.session, .int .i64 f.turn, .int .i64 f.xid, .int .i64 f.time, .string (mkS f.path), .slice A1 f.data.length c1, .int .i64 f.owner, .int .i64 f.version, .int .i64 f.cversion, .int .i64 f.timeout, .int .i64 f.err, .int .i64 f.cver, .slice A2 f.mems.length c2, .slice A3 f.np c3]] w fun e w' => e = .returned (.tuple #[]) ∧ ∃ q', WrAt w' base g q' (l ++ numsTo f bt 5) ∧ Put g q w w' q' := by
  have HF : Hid (FlFit f) := hf
  have hgl : g < w.heap.size := h.lt
  have hql := h.qlt
  have HBT : Hid _ := hbt
  obtain ⟨w1, hw1⟩ : ∃ X, X = w.alloc (.cells #[.int .i64 f.zxid, .int .u8 f.kind, .int .i64 f.session, .int .i64 f.turn, .int .i64 f.xid, .int .i64 f.time, .string (mkS f.path), .slice A1 f.data.length c1, .int .i64 f.owner, .int .i64 f.version, .int .i64 f.cversion, .int .i64 f.timeout, .int .i64 f.err, .int .i64 f.cver, .slice A2 f.mems.length c2, .slice A3 f.np c3] 41) := ⟨_, rfl⟩
  have hB1 : Below w.heap.size w w1 := by rw [hw1]; exact (Below.refl _ _).alloc (Nat.le_refl _) _
  have HO1 : Hid (Own w1 w.heap.size (.cells #[.int .i64 f.zxid, .int .u8 f.kind, .int .i64 f.session, .int .i64 f.turn, .int .i64 f.xid, .int .i64 f.time, .string (mkS f.path), .slice A1 f.data.length c1, .int .i64 f.owner, .int .i64 f.version, .int .i64 f.cversion, .int .i64 f.timeout, .int .i64 f.err, .int .i64 f.cver, .slice A2 f.mems.length c2, .slice A3 f.np c3] 41 (0, 0)) g q) := ⟨by rw [hw1]; exact heap_alloc_new w _, by omega, fun e => by have := (hql _ e).2; omega⟩
  have HP1 : Hid (Put g q w w1 q) := by rw [hw1]; exact Put.alloc _ _ _ _
  have HW1 : Hid (WrAt w1 base g q l) := by rw [hw1]; exact h.alloc _
  have ho := of_any f.kind hf.kind w1 (hL.below hB1)
  rw [hT, hw1] at ho
  clear hT hB1 h hf hgl hql hbt
  go_enter Tryz.func44, Tryz.ntmps44
  go_wp2_with fail
  refine ho.mono ?_
  rintro e w2 ⟨rfl, hw2⟩
  rw [← hw1] at hw2
  subst hw2
  clear ho hw1 hL
  obtain ⟨z0, z1, z2, z3, z4, z5, z6, z7, z8, z9, z10, z11, z12, z13, z14, z15⟩ := cells16 HO1.out.at'
  have hno := numbersOf_any f.zxid f.kind f.session f.turn f.xid f.time f.owner f.version f.cversion f.timeout f.err f.cver (mkS f.path) (.slice A1 f.data.length c1) (.slice A2 f.mems.length c2) (.slice A3 f.np c3) w2
  go_wp2_with fail
  refine hno.mono ?_
  rintro e w5 ⟨rfl, hB5⟩
  have HW5 : Hid (WrAt w5 base g q l) := WrAt.below HW1.out hB5
  have HP5 : Hid (Put g q w w5 q) := HP1.out.trans (Put.below hB5)
  have HO5 : Hid (Own w5 w.heap.size (.cells #[.int .i64 f.zxid, .int .u8 f.kind, .int .i64 f.session, .int .i64 f.turn, .int .i64 f.xid, .int .i64 f.time, .string (mkS f.path), .slice A1 f.data.length c1, .int .i64 f.owner, .int .i64 f.version, .int .i64 f.cversion, .int .i64 f.timeout, .int .i64 f.err, .int .i64 f.cver, .slice A2 f.mems.length c2, .slice A3 f.np c3] 41 (0, 0)) g q) := HO1.out.below hB5
  have HCL : Hid (l.length ≤ 1050000) := by
    show _ ≤ _
    omega
  clear hno hB5 z0 z1 z2 z3 z4 z5 z6 z7 z8 z9 z10 z11 z12 z13 z14 z15 HW1 HP1 HO1
  go_wp2_with fail
  go_loopw [28] (fun c wr => ∃ (k : Nat) (q' : Option Nat), k ≤ 5 ∧ c = .int .i64 k ∧ WrAt wr base g q' (l ++ numsTo f bt k) ∧ Put g q w wr q' ∧ Own wr w.heap.size (.cells #[.int .i64 f.zxid, .int .u8 f.kind, .int .i64 f.session, .int .i64 f.turn, .int .i64 f.xid, .int .i64 f.time, .string (mkS f.path), .slice A1 f.data.length c1, .int .i64 f.owner, .int .i64 f.version, .int .i64 f.cversion, .int .i64 f.timeout, .int .i64 f.err, .int .i64 f.cver, .slice A2 f.mems.length c2, .slice A3 f.np c3] 41 (0, 0)) g q') (fun c _ => 5 - (intOf c).toNat)
  case atStart => exact ⟨0, q, by omega, rfl, by simpa [numsTo] using HW5.out, HP5.out, HO5.out⟩
  case round =>
    obtain ⟨k, q', hk5, rfl, hWr, hPr, hOr⟩ := hrel
    have HWr : Hid (WrAt wr base g q' (l ++ numsTo f bt k)) := hWr
    have HPr : Hid (Put g q w wr q') := hPr
    have HOr : Hid (Own wr w.heap.size (.cells #[.int .i64 f.zxid, .int .u8 f.kind, .int .i64 f.session, .int .i64 f.turn, .int .i64 f.xid, .int .i64 f.time, .string (mkS f.path), .slice A1 f.data.length c1, .int .i64 f.owner, .int .i64 f.version, .int .i64 f.cversion, .int .i64 f.timeout, .int .i64 f.err, .int .i64 f.cver, .slice A2 f.mems.length c2, .slice A3 f.np c3] 41 (0, 0)) g q') := hOr
    clear hWr hPr hOr HW5 HP5 HO5
    by_cases h5 : k < 5
    · have hx := fun w => ixNum w f.owner f.version f.cversion f.timeout f.err k h5
      have hbk := HBT.out k h5
      rw [← shl_k k h5] at hbk
      have HS : Hid (numsTo f bt (k + 1) = numsTo f bt k ++ (if bt k = true then numB (nth5 f.owner f.version f.cversion f.timeout f.err k) else [])) := numsTo_succ f bt k
      have hr := nth5_I64 HF.out k
      have hnl := numsTo_len HF.out bt k
      generalize nth5 f.owner f.version f.cversion f.timeout f.err k = n at hx HS hr
      have HNL : Hid ((numsTo f bt k).length ≤ 10 * k) := hnl
      clear hnl
      cases hbb : bt k with
      | false =>
        rw [hbb] at hbk HS
        have HS2 : Hid (numsTo f bt (k + 1) = numsTo f bt k) := by show _ = _; rw [HS.out]; simp
        clear HS hbb
        go_wp2
        exact ⟨⟨k + 1, q', by omega, by go_num, by rw [HS2.out]; exact HWr.out, HPr.out, HOr.out⟩, by simp [intOf]; omega⟩
      | true =>
        rw [hbb] at hbk HS
        have HS2 : Hid (numsTo f bt (k + 1) = numsTo f bt k ++ numB n) := by show _ = _; rw [HS.out]; simp
        have hwi := wInt_any HWr.out n hr.1 hr.2 (by rw [List.length_append]; have := HCL.out; have := HNL.out; have := numB_len n hr.1 hr.2; omega)
        clear HS hbb hr
        go_wp2_with fail
        refine hwi.mono ?_
        rintro e w6 ⟨rfl, q6, hW6, hP6⟩
        have HW6 : Hid (WrAt w6 base g q6 (l ++ numsTo f bt (k + 1))) := by rw [HS2.out, ← List.append_assoc]; exact hW6
        have HP6 : Hid (Put g q w w6 q6) := HPr.out.trans hP6
        have HO6 : Hid (Own w6 w.heap.size (.cells #[.int .i64 f.zxid, .int .u8 f.kind, .int .i64 f.session, .int .i64 f.turn, .int .i64 f.xid, .int .i64 f.time, .string (mkS f.path), .slice A1 f.data.length c1, .int .i64 f.owner, .int .i64 f.version, .int .i64 f.cversion, .int .i64 f.timeout, .int .i64 f.err, .int .i64 f.cver, .slice A2 f.mems.length c2, .slice A3 f.np c3] 41 (0, 0)) g q6) := HOr.out.put hP6
        clear hwi hW6 hP6 HWr HPr HOr
        go_wp2
        exact ⟨⟨k + 1, q6, by omega, by go_num, HW6.out, HP6.out, HO6.out⟩, by simp [intOf]; omega⟩
    · obtain rfl : k = 5 := by omega
      go_wp2
      go_end0
      exact ⟨rfl, q', HWr.out, HPr.out⟩
set_option maxRecDepth 100000 in
set_option maxHeartbeats 4000000 in
theorem putF_path {w : World} {base g : Nat} {q : Option Nat} {l : List UInt8} (h : WrAt w base g q l) (hg : base ≤ g) (hl : l.length ≤ 1048576) (f : Fl) (hf : FlFit f) (A1 A2 A3 : Option Addr) (c1 c2 c3 : Nat) (hL : PA.Laid w) (T : Int) (bt : Nat → Bool)
    (hT : PA.kTab f.kind.toNat = T) (hp : (bits BinOp.and IntKind.u16 T 1 != 0) = true) (hd : (bits BinOp.and IntKind.u16 T 2 != 0) = false) (hc : (bits BinOp.and IntKind.u16 T 128 != 0) = false)
    (hbt : ∀ k, k < 5 → (bits BinOp.and IntKind.u16 T (4 * 2 ^ k) != 0) = bt k) (hpl : f.path.length ≤ 200) :
    Calls Tryz.prog 44 #[.pointer (some ⟨g, 0, none⟩), .agg #[.int .i64 f.zxid, .int .u8 f.kind, .int .i64 f.session, .int .i64 f.turn, .int .i64 f.xid, .int .i64 f.time, .string (mkS f.path), .slice A1 f.data.length c1, .int .i64 f.owner, .int .i64 f.version, .int .i64 f.cversion, .int .i64 f.timeout, .int .i64 f.err, .int .i64 f.cver, .slice A2 f.mems.length c2, .slice A3 f.np c3]] w fun e w' => e = .returned (.tuple #[]) ∧ ∃ q', WrAt w' base g q' ((l ++ textB f.path) ++ numsTo f bt 5) ∧ Put g q w w' q' := by
  have HF : Hid (FlFit f) := hf
  have hgl : g < w.heap.size := h.lt
  have hql := h.qlt
  have HBT : Hid _ := hbt
  obtain ⟨w1, hw1⟩ : ∃ X, X = w.alloc (.cells #[.int .i64 f.zxid, .int .u8 f.kind, .int .i64 f.session, .int .i64 f.turn, .int .i64 f.xid, .int .i64 f.time, .string (mkS f.path), .slice A1 f.data.length c1, .int .i64 f.owner, .int .i64 f.version, .int .i64 f.cversion, .int .i64 f.timeout, .int .i64 f.err, .int .i64 f.cver, .slice A2 f.mems.length c2, .slice A3 f.np c3] 41) := ⟨_, rfl⟩
  have hB1 : Below w.heap.size w w1 := by rw [hw1]; exact (Below.refl _ _).alloc (Nat.le_refl _) _
  have HO1 : Hid (Own w1 w.heap.size (.cells #[.int .i64 f.zxid, .int .u8 f.kind, .int .i64 f.session, .int .i64 f.turn, .int .i64 f.xid, .int .i64 f.time, .string (mkS f.path), .slice A1 f.data.length c1, .int .i64 f.owner, .int .i64 f.version, .int .i64 f.cversion, .int .i64 f.timeout, .int .i64 f.err, .int .i64 f.cver, .slice A2 f.mems.length c2, .slice A3 f.np c3] 41 (0, 0)) g q) := ⟨by rw [hw1]; exact heap_alloc_new w _, by omega, fun e => by have := (hql _ e).2; omega⟩
  have HP1 : Hid (Put g q w w1 q) := by rw [hw1]; exact Put.alloc _ _ _ _
  have HW1 : Hid (WrAt w1 base g q l) := by rw [hw1]; exact h.alloc _
  have ho := of_any f.kind hf.kind w1 (hL.below hB1)
  rw [hT, hw1] at ho
  clear hT hB1 h hf hgl hql hbt
  go_enter Tryz.func44, Tryz.ntmps44
  go_wp2_with fail
  refine ho.mono ?_
  rintro e w2 ⟨rfl, hw2⟩
  rw [← hw1] at hw2
  subst hw2
  clear ho hw1 hL
  obtain ⟨z0, z1, z2, z3, z4, z5, z6, z7, z8, z9, z10, z11, z12, z13, z14, z15⟩ := cells16 HO1.out.at'
  have ht := wText_any HW1.out f.path (by omega) (by simp only [textB, List.length_append]; have := numB_len (f.path.length : Int) (by omega) (by omega); omega)
  go_wp2_with fail
  refine ht.mono ?_
  rintro e w3 ⟨rfl, q3, hW3, hP3⟩
  have HW3 : Hid (WrAt w3 base g q3 (l ++ textB f.path)) := hW3
  have HP3 : Hid (Put g q w w3 q3) := HP1.out.trans hP3
  have HO3 : Hid (Own w3 w.heap.size (.cells #[.int .i64 f.zxid, .int .u8 f.kind, .int .i64 f.session, .int .i64 f.turn, .int .i64 f.xid, .int .i64 f.time, .string (mkS f.path), .slice A1 f.data.length c1, .int .i64 f.owner, .int .i64 f.version, .int .i64 f.cversion, .int .i64 f.timeout, .int .i64 f.err, .int .i64 f.cver, .slice A2 f.mems.length c2, .slice A3 f.np c3] 41 (0, 0)) g q3) := HO1.out.put hP3
  clear ht hW3 hP3 z0 z1 z2 z3 z4 z5 z6 z7 z8 z9 z10 z11 z12 z13 z14 z15 HW1 HP1 HO1
  obtain ⟨z0, z1, z2, z3, z4, z5, z6, z7, z8, z9, z10, z11, z12, z13, z14, z15⟩ := cells16 HO3.out.at'
  have hno := numbersOf_any f.zxid f.kind f.session f.turn f.xid f.time f.owner f.version f.cversion f.timeout f.err f.cver (mkS f.path) (.slice A1 f.data.length c1) (.slice A2 f.mems.length c2) (.slice A3 f.np c3) w3
  go_wp2_with fail
  refine hno.mono ?_
  rintro e w5 ⟨rfl, hB5⟩
  have HW5 : Hid (WrAt w5 base g q3 (l ++ textB f.path)) := WrAt.below HW3.out hB5
  have HP5 : Hid (Put g q w w5 q3) := HP3.out.trans (Put.below hB5)
  have HO5 : Hid (Own w5 w.heap.size (.cells #[.int .i64 f.zxid, .int .u8 f.kind, .int .i64 f.session, .int .i64 f.turn, .int .i64 f.xid, .int .i64 f.time, .string (mkS f.path), .slice A1 f.data.length c1, .int .i64 f.owner, .int .i64 f.version, .int .i64 f.cversion, .int .i64 f.timeout, .int .i64 f.err, .int .i64 f.cver, .slice A2 f.mems.length c2, .slice A3 f.np c3] 41 (0, 0)) g q3) := HO3.out.below hB5
  have HCL : Hid ((l ++ textB f.path).length ≤ 1050000) := by
    show _ ≤ _
    have := numB_len (f.path.length : Int) (by omega) (by omega)
    simp only [textB, List.length_append]
    omega
  clear hno hB5 z0 z1 z2 z3 z4 z5 z6 z7 z8 z9 z10 z11 z12 z13 z14 z15 HW3 HP3 HO3
  go_wp2_with fail
  go_loopw [28] (fun c wr => ∃ (k : Nat) (q' : Option Nat), k ≤ 5 ∧ c = .int .i64 k ∧ WrAt wr base g q' ((l ++ textB f.path) ++ numsTo f bt k) ∧ Put g q w wr q' ∧ Own wr w.heap.size (.cells #[.int .i64 f.zxid, .int .u8 f.kind, .int .i64 f.session, .int .i64 f.turn, .int .i64 f.xid, .int .i64 f.time, .string (mkS f.path), .slice A1 f.data.length c1, .int .i64 f.owner, .int .i64 f.version, .int .i64 f.cversion, .int .i64 f.timeout, .int .i64 f.err, .int .i64 f.cver, .slice A2 f.mems.length c2, .slice A3 f.np c3] 41 (0, 0)) g q') (fun c _ => 5 - (intOf c).toNat)
  case atStart => exact ⟨0, q3, by omega, rfl, by simpa [numsTo] using HW5.out, HP5.out, HO5.out⟩
  case round =>
    obtain ⟨k, q', hk5, rfl, hWr, hPr, hOr⟩ := hrel
    have HWr : Hid (WrAt wr base g q' ((l ++ textB f.path) ++ numsTo f bt k)) := hWr
    have HPr : Hid (Put g q w wr q') := hPr
    have HOr : Hid (Own wr w.heap.size (.cells #[.int .i64 f.zxid, .int .u8 f.kind, .int .i64 f.session, .int .i64 f.turn, .int .i64 f.xid, .int .i64 f.time, .string (mkS f.path), .slice A1 f.data.length c1, .int .i64 f.owner, .int .i64 f.version, .int .i64 f.cversion, .int .i64 f.timeout, .int .i64 f.err, .int .i64 f.cver, .slice A2 f.mems.length c2, .slice A3 f.np c3] 41 (0, 0)) g q') := hOr
    clear hWr hPr hOr HW5 HP5 HO5
    by_cases h5 : k < 5
    · have hx := fun w => ixNum w f.owner f.version f.cversion f.timeout f.err k h5
      have hbk := HBT.out k h5
      rw [← shl_k k h5] at hbk
      have HS : Hid (numsTo f bt (k + 1) = numsTo f bt k ++ (if bt k = true then numB (nth5 f.owner f.version f.cversion f.timeout f.err k) else [])) := numsTo_succ f bt k
      have hr := nth5_I64 HF.out k
      have hnl := numsTo_len HF.out bt k
      generalize nth5 f.owner f.version f.cversion f.timeout f.err k = n at hx HS hr
      have HNL : Hid ((numsTo f bt k).length ≤ 10 * k) := hnl
      clear hnl
      cases hbb : bt k with
      | false =>
        rw [hbb] at hbk HS
        have HS2 : Hid (numsTo f bt (k + 1) = numsTo f bt k) := by show _ = _; rw [HS.out]; simp
        clear HS hbb
        go_wp2
        exact ⟨⟨k + 1, q', by omega, by go_num, by rw [HS2.out]; exact HWr.out, HPr.out, HOr.out⟩, by simp [intOf]; omega⟩
      | true =>
        rw [hbb] at hbk HS
        have HS2 : Hid (numsTo f bt (k + 1) = numsTo f bt k ++ numB n) := by show _ = _; rw [HS.out]; simp
        have hwi := wInt_any HWr.out n hr.1 hr.2 (by rw [List.length_append]; have := HCL.out; have := HNL.out; have := numB_len n hr.1 hr.2; omega)
        clear HS hbb hr
        go_wp2_with fail
        refine hwi.mono ?_
        rintro e w6 ⟨rfl, q6, hW6, hP6⟩
        have HW6 : Hid (WrAt w6 base g q6 ((l ++ textB f.path) ++ numsTo f bt (k + 1))) := by rw [HS2.out, ← List.append_assoc]; exact hW6
        have HP6 : Hid (Put g q w w6 q6) := HPr.out.trans hP6
        have HO6 : Hid (Own w6 w.heap.size (.cells #[.int .i64 f.zxid, .int .u8 f.kind, .int .i64 f.session, .int .i64 f.turn, .int .i64 f.xid, .int .i64 f.time, .string (mkS f.path), .slice A1 f.data.length c1, .int .i64 f.owner, .int .i64 f.version, .int .i64 f.cversion, .int .i64 f.timeout, .int .i64 f.err, .int .i64 f.cver, .slice A2 f.mems.length c2, .slice A3 f.np c3] 41 (0, 0)) g q6) := HOr.out.put hP6
        clear hwi hW6 hP6 HWr HPr HOr
        go_wp2
        exact ⟨⟨k + 1, q6, by omega, by go_num, HW6.out, HP6.out, HO6.out⟩, by simp [intOf]; omega⟩
    · obtain rfl : k = 5 := by omega
      go_wp2
      go_end0
      exact ⟨rfl, q', HWr.out, HPr.out⟩
set_option maxRecDepth 100000 in
set_option maxHeartbeats 4000000 in
theorem putF_both {w : World} {base g : Nat} {q : Option Nat} {l : List UInt8} (h : WrAt w base g q l) (hg : base ≤ g) (hl : l.length ≤ 1048576) (f : Fl) (hf : FlFit f) (A1 A2 A3 : Option Addr) (c1 c2 c3 : Nat) (hL : PA.Laid w) (T : Int) (bt : Nat → Bool)
    (hT : PA.kTab f.kind.toNat = T) (hp : (bits BinOp.and IntKind.u16 T 1 != 0) = true) (hd : (bits BinOp.and IntKind.u16 T 2 != 0) = true) (hc : (bits BinOp.and IntKind.u16 T 128 != 0) = false)
    (hbt : ∀ k, k < 5 → (bits BinOp.and IntKind.u16 T (4 * 2 ^ k) != 0) = bt k) (hpl : f.path.length ≤ 200) (hdl : f.data.length ≤ 1000) (hbs : Bs w (.slice A1 f.data.length c1) f.data) (hbB : ∀ k, bk (.slice A1 f.data.length c1) = some k → k < base) :
    Calls Tryz.prog 44 #[.pointer (some ⟨g, 0, none⟩), .agg #[.int .i64 f.zxid, .int .u8 f.kind, .int .i64 f.session, .int .i64 f.turn, .int .i64 f.xid, .int .i64 f.time, .string (mkS f.path), .slice A1 f.data.length c1, .int .i64 f.owner, .int .i64 f.version, .int .i64 f.cversion, .int .i64 f.timeout, .int .i64 f.err, .int .i64 f.cver, .slice A2 f.mems.length c2, .slice A3 f.np c3]] w fun e w' => e = .returned (.tuple #[]) ∧ ∃ q', WrAt w' base g q' (((l ++ textB f.path) ++ textB f.data) ++ numsTo f bt 5) ∧ Put g q w w' q' := by
  have HF : Hid (FlFit f) := hf
  have hgl : g < w.heap.size := h.lt
  have hql := h.qlt
  have HBT : Hid _ := hbt
  obtain ⟨w1, hw1⟩ : ∃ X, X = w.alloc (.cells #[.int .i64 f.zxid, .int .u8 f.kind, .int .i64 f.session, .int .i64 f.turn, .int .i64 f.xid, .int .i64 f.time, .string (mkS f.path), .slice A1 f.data.length c1, .int .i64 f.owner, .int .i64 f.version, .int .i64 f.cversion, .int .i64 f.timeout, .int .i64 f.err, .int .i64 f.cver, .slice A2 f.mems.length c2, .slice A3 f.np c3] 41) := ⟨_, rfl⟩
  have hB1 : Below w.heap.size w w1 := by rw [hw1]; exact (Below.refl _ _).alloc (Nat.le_refl _) _
  have HO1 : Hid (Own w1 w.heap.size (.cells #[.int .i64 f.zxid, .int .u8 f.kind, .int .i64 f.session, .int .i64 f.turn, .int .i64 f.xid, .int .i64 f.time, .string (mkS f.path), .slice A1 f.data.length c1, .int .i64 f.owner, .int .i64 f.version, .int .i64 f.cversion, .int .i64 f.timeout, .int .i64 f.err, .int .i64 f.cver, .slice A2 f.mems.length c2, .slice A3 f.np c3] 41 (0, 0)) g q) := ⟨by rw [hw1]; exact heap_alloc_new w _, by omega, fun e => by have := (hql _ e).2; omega⟩
  have HP1 : Hid (Put g q w w1 q) := by rw [hw1]; exact Put.alloc _ _ _ _
  have HW1 : Hid (WrAt w1 base g q l) := by rw [hw1]; exact h.alloc _
  have HBS1 : Hid (Bs w1 (.slice A1 f.data.length c1) f.data) := by rw [hw1]; exact hbs.alloc _
  have ho := of_any f.kind hf.kind w1 (hL.below hB1)
  rw [hT, hw1] at ho
  clear hT hB1 h hf hgl hql hbt
  go_enter Tryz.func44, Tryz.ntmps44
  go_wp2_with fail
  refine ho.mono ?_
  rintro e w2 ⟨rfl, hw2⟩
  rw [← hw1] at hw2
  subst hw2
  clear ho hw1 hL
  obtain ⟨z0, z1, z2, z3, z4, z5, z6, z7, z8, z9, z10, z11, z12, z13, z14, z15⟩ := cells16 HO1.out.at'
  have ht := wText_any HW1.out f.path (by omega) (by simp only [textB, List.length_append]; have := numB_len (f.path.length : Int) (by omega) (by omega); omega)
  go_wp2_with fail
  refine ht.mono ?_
  rintro e w3 ⟨rfl, q3, hW3, hP3⟩
  have HW3 : Hid (WrAt w3 base g q3 (l ++ textB f.path)) := hW3
  have HP3 : Hid (Put g q w w3 q3) := HP1.out.trans hP3
  have HO3 : Hid (Own w3 w.heap.size (.cells #[.int .i64 f.zxid, .int .u8 f.kind, .int .i64 f.session, .int .i64 f.turn, .int .i64 f.xid, .int .i64 f.time, .string (mkS f.path), .slice A1 f.data.length c1, .int .i64 f.owner, .int .i64 f.version, .int .i64 f.cversion, .int .i64 f.timeout, .int .i64 f.err, .int .i64 f.cver, .slice A2 f.mems.length c2, .slice A3 f.np c3] 41 (0, 0)) g q3) := HO1.out.put hP3
  have HBS3 : Hid (Bs w3 (.slice A1 f.data.length c1) f.data) := Bs.put HBS1.out HW1.out hg hbB hP3
  clear ht hW3 hP3 z0 z1 z2 z3 z4 z5 z6 z7 z8 z9 z10 z11 z12 z13 z14 z15 HW1 HP1 HO1
  obtain ⟨z0, z1, z2, z3, z4, z5, z6, z7, z8, z9, z10, z11, z12, z13, z14, z15⟩ := cells16 HO3.out.at'
  have ht := wBytes_any HW3.out HBS3.out (by omega) (by simp only [textB, List.length_append]; have := numB_len (f.path.length : Int) (by omega) (by omega); have := numB_len (f.data.length : Int) (by omega) (by omega); omega) (fun e => by have := hbB g e; omega) (fun k hk e => by have := hbB k e; have := (HW3.out.qlt k hk).1; omega)
  go_wp2_with fail
  refine ht.mono ?_
  rintro e w4 ⟨rfl, q4, hW4, hP4⟩
  have HW4 : Hid (WrAt w4 base g q4 ((l ++ textB f.path) ++ textB f.data)) := hW4
  have HP4 : Hid (Put g q w w4 q4) := HP3.out.trans hP4
  have HO4 : Hid (Own w4 w.heap.size (.cells #[.int .i64 f.zxid, .int .u8 f.kind, .int .i64 f.session, .int .i64 f.turn, .int .i64 f.xid, .int .i64 f.time, .string (mkS f.path), .slice A1 f.data.length c1, .int .i64 f.owner, .int .i64 f.version, .int .i64 f.cversion, .int .i64 f.timeout, .int .i64 f.err, .int .i64 f.cver, .slice A2 f.mems.length c2, .slice A3 f.np c3] 41 (0, 0)) g q4) := HO3.out.put hP4
  clear ht hW4 hP4 z0 z1 z2 z3 z4 z5 z6 z7 z8 z9 z10 z11 z12 z13 z14 z15 HW3 HP3 HO3 HBS3
  obtain ⟨z0, z1, z2, z3, z4, z5, z6, z7, z8, z9, z10, z11, z12, z13, z14, z15⟩ := cells16 HO4.out.at'
  have hno := numbersOf_any f.zxid f.kind f.session f.turn f.xid f.time f.owner f.version f.cversion f.timeout f.err f.cver (mkS f.path) (.slice A1 f.data.length c1) (.slice A2 f.mems.length c2) (.slice A3 f.np c3) w4
  go_wp2_with fail
  refine hno.mono ?_
  rintro e w5 ⟨rfl, hB5⟩
  have HW5 : Hid (WrAt w5 base g q4 ((l ++ textB f.path) ++ textB f.data)) := WrAt.below HW4.out hB5
  have HP5 : Hid (Put g q w w5 q4) := HP4.out.trans (Put.below hB5)
  have HO5 : Hid (Own w5 w.heap.size (.cells #[.int .i64 f.zxid, .int .u8 f.kind, .int .i64 f.session, .int .i64 f.turn, .int .i64 f.xid, .int .i64 f.time, .string (mkS f.path), .slice A1 f.data.length c1, .int .i64 f.owner, .int .i64 f.version, .int .i64 f.cversion, .int .i64 f.timeout, .int .i64 f.err, .int .i64 f.cver, .slice A2 f.mems.length c2, .slice A3 f.np c3] 41 (0, 0)) g q4) := HO4.out.below hB5
  have HCL : Hid (((l ++ textB f.path) ++ textB f.data).length ≤ 1050000) := by
    show _ ≤ _
    have := numB_len (f.path.length : Int) (by omega) (by omega)
    have := numB_len (f.data.length : Int) (by omega) (by omega)
    simp only [textB, List.length_append]
    omega
  clear hno hB5 z0 z1 z2 z3 z4 z5 z6 z7 z8 z9 z10 z11 z12 z13 z14 z15 HW4 HP4 HO4
  go_wp2_with fail
  go_loopw [28] (fun c wr => ∃ (k : Nat) (q' : Option Nat), k ≤ 5 ∧ c = .int .i64 k ∧ WrAt wr base g q' (((l ++ textB f.path) ++ textB f.data) ++ numsTo f bt k) ∧ Put g q w wr q' ∧ Own wr w.heap.size (.cells #[.int .i64 f.zxid, .int .u8 f.kind, .int .i64 f.session, .int .i64 f.turn, .int .i64 f.xid, .int .i64 f.time, .string (mkS f.path), .slice A1 f.data.length c1, .int .i64 f.owner, .int .i64 f.version, .int .i64 f.cversion, .int .i64 f.timeout, .int .i64 f.err, .int .i64 f.cver, .slice A2 f.mems.length c2, .slice A3 f.np c3] 41 (0, 0)) g q') (fun c _ => 5 - (intOf c).toNat)
  case atStart => exact ⟨0, q4, by omega, rfl, by simpa [numsTo] using HW5.out, HP5.out, HO5.out⟩
  case round =>
    obtain ⟨k, q', hk5, rfl, hWr, hPr, hOr⟩ := hrel
    have HWr : Hid (WrAt wr base g q' (((l ++ textB f.path) ++ textB f.data) ++ numsTo f bt k)) := hWr
    have HPr : Hid (Put g q w wr q') := hPr
    have HOr : Hid (Own wr w.heap.size (.cells #[.int .i64 f.zxid, .int .u8 f.kind, .int .i64 f.session, .int .i64 f.turn, .int .i64 f.xid, .int .i64 f.time, .string (mkS f.path), .slice A1 f.data.length c1, .int .i64 f.owner, .int .i64 f.version, .int .i64 f.cversion, .int .i64 f.timeout, .int .i64 f.err, .int .i64 f.cver, .slice A2 f.mems.length c2, .slice A3 f.np c3] 41 (0, 0)) g q') := hOr
    clear hWr hPr hOr HW5 HP5 HO5
    by_cases h5 : k < 5
    · have hx := fun w => ixNum w f.owner f.version f.cversion f.timeout f.err k h5
      have hbk := HBT.out k h5
      rw [← shl_k k h5] at hbk
      have HS : Hid (numsTo f bt (k + 1) = numsTo f bt k ++ (if bt k = true then numB (nth5 f.owner f.version f.cversion f.timeout f.err k) else [])) := numsTo_succ f bt k
      have hr := nth5_I64 HF.out k
      have hnl := numsTo_len HF.out bt k
      generalize nth5 f.owner f.version f.cversion f.timeout f.err k = n at hx HS hr
      have HNL : Hid ((numsTo f bt k).length ≤ 10 * k) := hnl
      clear hnl
      cases hbb : bt k with
      | false =>
        rw [hbb] at hbk HS
        have HS2 : Hid (numsTo f bt (k + 1) = numsTo f bt k) := by show _ = _; rw [HS.out]; simp
        clear HS hbb
        go_wp2
        exact ⟨⟨k + 1, q', by omega, by go_num, by rw [HS2.out]; exact HWr.out, HPr.out, HOr.out⟩, by simp [intOf]; omega⟩
      | true =>
        rw [hbb] at hbk HS
        have HS2 : Hid (numsTo f bt (k + 1) = numsTo f bt k ++ numB n) := by show _ = _; rw [HS.out]; simp
        have hwi := wInt_any HWr.out n hr.1 hr.2 (by rw [List.length_append]; have := HCL.out; have := HNL.out; have := numB_len n hr.1 hr.2; omega)
        clear HS hbb hr
        go_wp2_with fail
        refine hwi.mono ?_
        rintro e w6 ⟨rfl, q6, hW6, hP6⟩
        have HW6 : Hid (WrAt w6 base g q6 (((l ++ textB f.path) ++ textB f.data) ++ numsTo f bt (k + 1))) := by rw [HS2.out, ← List.append_assoc]; exact hW6
        have HP6 : Hid (Put g q w w6 q6) := HPr.out.trans hP6
        have HO6 : Hid (Own w6 w.heap.size (.cells #[.int .i64 f.zxid, .int .u8 f.kind, .int .i64 f.session, .int .i64 f.turn, .int .i64 f.xid, .int .i64 f.time, .string (mkS f.path), .slice A1 f.data.length c1, .int .i64 f.owner, .int .i64 f.version, .int .i64 f.cversion, .int .i64 f.timeout, .int .i64 f.err, .int .i64 f.cver, .slice A2 f.mems.length c2, .slice A3 f.np c3] 41 (0, 0)) g q6) := HOr.out.put hP6
        clear hwi hW6 hP6 HWr HPr HOr
        go_wp2
        exact ⟨⟨k + 1, q6, by omega, by go_num, HW6.out, HP6.out, HO6.out⟩, by simp [intOf]; omega⟩
    · obtain rfl : k = 5 := by omega
      go_wp2
      go_end0
      exact ⟨rfl, q', HWr.out, HPr.out⟩
set_option maxRecDepth 100000 in
set_option maxHeartbeats 4000000 in
theorem putF_cfg {w : World} {base g : Nat} {q : Option Nat} {l : List UInt8} (h : WrAt w base g q l) (hg : base ≤ g) (hl : l.length ≤ 1048576) (f : Fl) (hf : FlFit f) (A1 A2 A3 : Option Addr) (c1 c2 c3 : Nat) (hL : PA.Laid w) (T : Int) (bt : Nat → Bool)
    (hT : PA.kTab f.kind.toNat = T) (hp : (bits BinOp.and IntKind.u16 T 1 != 0) = false) (hd : (bits BinOp.and IntKind.u16 T 2 != 0) = false) (hc : (bits BinOp.and IntKind.u16 T 128 != 0) = true)
    (hbt : ∀ k, k < 5 → (bits BinOp.and IntKind.u16 T (4 * 2 ^ k) != 0) = bt k) (hms : Mems w (.slice A2 f.mems.length c2) f.mems) (hmB : ∀ k, bk (.slice A2 f.mems.length c2) = some k → k < base) (hck : chk f.cver f.mems = 0) :
    Calls Tryz.prog 44 #[.pointer (some ⟨g, 0, none⟩), .agg #[.int .i64 f.zxid, .int .u8 f.kind, .int .i64 f.session, .int .i64 f.turn, .int .i64 f.xid, .int .i64 f.time, .string (mkS f.path), .slice A1 f.data.length c1, .int .i64 f.owner, .int .i64 f.version, .int .i64 f.cversion, .int .i64 f.timeout, .int .i64 f.err, .int .i64 f.cver, .slice A2 f.mems.length c2, .slice A3 f.np c3]] w fun e w' => e = .returned (.tuple #[]) ∧ ∃ q', WrAt w' base g q' ((l ++ numsTo f bt 5) ++ textB (cfgB f.cver f.mems)) ∧ Put g q w w' q' := by
  have HF : Hid (FlFit f) := hf
  have hgl : g < w.heap.size := h.lt
  have hql := h.qlt
  have HBT : Hid _ := hbt
  obtain ⟨w1, hw1⟩ : ∃ X, X = w.alloc (.cells #[.int .i64 f.zxid, .int .u8 f.kind, .int .i64 f.session, .int .i64 f.turn, .int .i64 f.xid, .int .i64 f.time, .string (mkS f.path), .slice A1 f.data.length c1, .int .i64 f.owner, .int .i64 f.version, .int .i64 f.cversion, .int .i64 f.timeout, .int .i64 f.err, .int .i64 f.cver, .slice A2 f.mems.length c2, .slice A3 f.np c3] 41) := ⟨_, rfl⟩
  have hB1 : Below w.heap.size w w1 := by rw [hw1]; exact (Below.refl _ _).alloc (Nat.le_refl _) _
  have HO1 : Hid (Own w1 w.heap.size (.cells #[.int .i64 f.zxid, .int .u8 f.kind, .int .i64 f.session, .int .i64 f.turn, .int .i64 f.xid, .int .i64 f.time, .string (mkS f.path), .slice A1 f.data.length c1, .int .i64 f.owner, .int .i64 f.version, .int .i64 f.cversion, .int .i64 f.timeout, .int .i64 f.err, .int .i64 f.cver, .slice A2 f.mems.length c2, .slice A3 f.np c3] 41 (0, 0)) g q) := ⟨by rw [hw1]; exact heap_alloc_new w _, by omega, fun e => by have := (hql _ e).2; omega⟩
  have HP1 : Hid (Put g q w w1 q) := by rw [hw1]; exact Put.alloc _ _ _ _
  have HW1 : Hid (WrAt w1 base g q l) := by rw [hw1]; exact h.alloc _
  have HMS1 : Hid (Mems w1 (.slice A2 f.mems.length c2) f.mems) := hms.below' hB1
  have ho := of_any f.kind hf.kind w1 (hL.below hB1)
  rw [hT, hw1] at ho
  clear hT hB1 h hf hgl hql hbt
  go_enter Tryz.func44, Tryz.ntmps44
  go_wp2_with fail
  refine ho.mono ?_
  rintro e w2 ⟨rfl, hw2⟩
  rw [← hw1] at hw2
  subst hw2
  clear ho hw1 hL
  obtain ⟨z0, z1, z2, z3, z4, z5, z6, z7, z8, z9, z10, z11, z12, z13, z14, z15⟩ := cells16 HO1.out.at'
  have hno := numbersOf_any f.zxid f.kind f.session f.turn f.xid f.time f.owner f.version f.cversion f.timeout f.err f.cver (mkS f.path) (.slice A1 f.data.length c1) (.slice A2 f.mems.length c2) (.slice A3 f.np c3) w2
  go_wp2_with fail
  refine hno.mono ?_
  rintro e w5 ⟨rfl, hB5⟩
  have HW5 : Hid (WrAt w5 base g q l) := WrAt.below HW1.out hB5
  have HP5 : Hid (Put g q w w5 q) := HP1.out.trans (Put.below hB5)
  have HO5 : Hid (Own w5 w.heap.size (.cells #[.int .i64 f.zxid, .int .u8 f.kind, .int .i64 f.session, .int .i64 f.turn, .int .i64 f.xid, .int .i64 f.time, .string (mkS f.path), .slice A1 f.data.length c1, .int .i64 f.owner, .int .i64 f.version, .int .i64 f.cversion, .int .i64 f.timeout, .int .i64 f.err, .int .i64 f.cver, .slice A2 f.mems.length c2, .slice A3 f.np c3] 41 (0, 0)) g q) := HO1.out.below hB5
  have HMS5 : Hid (Mems w5 (.slice A2 f.mems.length c2) f.mems) := HMS1.out.below' hB5
  have HCL : Hid (l.length ≤ 1050000) := by
    show _ ≤ _
    omega
  clear hno hB5 z0 z1 z2 z3 z4 z5 z6 z7 z8 z9 z10 z11 z12 z13 z14 z15 HW1 HP1 HO1
  go_wp2_with fail
  go_loopw [28] (fun c wr => ∃ (k : Nat) (q' : Option Nat), k ≤ 5 ∧ c = .int .i64 k ∧ WrAt wr base g q' (l ++ numsTo f bt k) ∧ Put g q w wr q' ∧ Own wr w.heap.size (.cells #[.int .i64 f.zxid, .int .u8 f.kind, .int .i64 f.session, .int .i64 f.turn, .int .i64 f.xid, .int .i64 f.time, .string (mkS f.path), .slice A1 f.data.length c1, .int .i64 f.owner, .int .i64 f.version, .int .i64 f.cversion, .int .i64 f.timeout, .int .i64 f.err, .int .i64 f.cver, .slice A2 f.mems.length c2, .slice A3 f.np c3] 41 (0, 0)) g q' ∧ Mems wr (.slice A2 f.mems.length c2) f.mems) (fun c _ => 5 - (intOf c).toNat)
  case atStart => exact ⟨0, q, by omega, rfl, by simpa [numsTo] using HW5.out, HP5.out, HO5.out, HMS5.out⟩
  case round =>
    obtain ⟨k, q', hk5, rfl, hWr, hPr, hOr, hMr⟩ := hrel
    have HWr : Hid (WrAt wr base g q' (l ++ numsTo f bt k)) := hWr
    have HPr : Hid (Put g q w wr q') := hPr
    have HOr : Hid (Own wr w.heap.size (.cells #[.int .i64 f.zxid, .int .u8 f.kind, .int .i64 f.session, .int .i64 f.turn, .int .i64 f.xid, .int .i64 f.time, .string (mkS f.path), .slice A1 f.data.length c1, .int .i64 f.owner, .int .i64 f.version, .int .i64 f.cversion, .int .i64 f.timeout, .int .i64 f.err, .int .i64 f.cver, .slice A2 f.mems.length c2, .slice A3 f.np c3] 41 (0, 0)) g q') := hOr
    have HMr : Hid (Mems wr (.slice A2 f.mems.length c2) f.mems) := hMr
    clear hMr HMS5
    clear hWr hPr hOr HW5 HP5 HO5
    by_cases h5 : k < 5
    · have hx := fun w => ixNum w f.owner f.version f.cversion f.timeout f.err k h5
      have hbk := HBT.out k h5
      rw [← shl_k k h5] at hbk
      have HS : Hid (numsTo f bt (k + 1) = numsTo f bt k ++ (if bt k = true then numB (nth5 f.owner f.version f.cversion f.timeout f.err k) else [])) := numsTo_succ f bt k
      have hr := nth5_I64 HF.out k
      have hnl := numsTo_len HF.out bt k
      generalize nth5 f.owner f.version f.cversion f.timeout f.err k = n at hx HS hr
      have HNL : Hid ((numsTo f bt k).length ≤ 10 * k) := hnl
      clear hnl
      cases hbb : bt k with
      | false =>
        rw [hbb] at hbk HS
        have HS2 : Hid (numsTo f bt (k + 1) = numsTo f bt k) := by show _ = _; rw [HS.out]; simp
        clear HS hbb
        go_wp2
        exact ⟨⟨k + 1, q', by omega, by go_num, by rw [HS2.out]; exact HWr.out, HPr.out, HOr.out, HMr.out⟩, by simp [intOf]; omega⟩
      | true =>
        rw [hbb] at hbk HS
        have HS2 : Hid (numsTo f bt (k + 1) = numsTo f bt k ++ numB n) := by show _ = _; rw [HS.out]; simp
        have hwi := wInt_any HWr.out n hr.1 hr.2 (by rw [List.length_append]; have := HCL.out; have := HNL.out; have := numB_len n hr.1 hr.2; omega)
        clear HS hbb hr
        go_wp2_with fail
        refine hwi.mono ?_
        rintro e w6 ⟨rfl, q6, hW6, hP6⟩
        have HW6 : Hid (WrAt w6 base g q6 (l ++ numsTo f bt (k + 1))) := by rw [HS2.out, ← List.append_assoc]; exact hW6
        have HP6 : Hid (Put g q w w6 q6) := HPr.out.trans hP6
        have HO6 : Hid (Own w6 w.heap.size (.cells #[.int .i64 f.zxid, .int .u8 f.kind, .int .i64 f.session, .int .i64 f.turn, .int .i64 f.xid, .int .i64 f.time, .string (mkS f.path), .slice A1 f.data.length c1, .int .i64 f.owner, .int .i64 f.version, .int .i64 f.cversion, .int .i64 f.timeout, .int .i64 f.err, .int .i64 f.cver, .slice A2 f.mems.length c2, .slice A3 f.np c3] 41 (0, 0)) g q6) := HOr.out.put hP6
        have HM6 : Hid (Mems w6 (.slice A2 f.mems.length c2) f.mems) := Mems.put HMr.out HWr.out hg hmB hP6
        clear hwi hW6 hP6 HWr HPr HOr
        go_wp2
        exact ⟨⟨k + 1, q6, by omega, by go_num, HW6.out, HP6.out, HO6.out, HM6.out⟩, by simp [intOf]; omega⟩
    · obtain rfl : k = 5 := by omega
      obtain ⟨z0, z1, z2, z3, z4, z5, z6, z7, z8, z9, z10, z11, z12, z13, z14, z15⟩ := cells16 HOr.out.at'
      have hpy := put_yes HMr.out f.cver hck
      go_wp2_with fail
      refine hpy.mono ?_
      rintro e w7 ⟨x, rfl, hN7⟩
      have HW7 : Hid (WrAt w7 base g q' (l ++ numsTo f bt 5)) := WrAt.below HWr.out hN7.below
      have HP7 : Hid (Put g q w w7 q') := HPr.out.trans (Put.below hN7.below)
      have hcl := cfgB_len hck
      have hwb := wBytes_any HW7.out hN7.bs (by omega) (by simp only [textB, List.length_append]; have := HCL.out; have := numsTo_len HF.out bt 5; have := numB_len ((cfgB f.cver f.mems).length : Int) (by omega) (by omega); omega) (fun e => by have := (hN7.at g e).1; have := HWr.out.lt; omega) (fun k hk e => by have := (hN7.at k e).1; have := (HWr.out.qlt k hk).2; omega)
      obtain ⟨AX, CX, rfl⟩ := bs_form hN7.bs
      clear hpy hN7 hcl z0 z1 z2 z3 z4 z5 z6 z7 z8 z9 z10 z11 z12 z13 z14 z15 HWr HPr HOr HMr
      go_wp2_with fail
      refine hwb.mono ?_
      rintro e w8 ⟨rfl, q8, hW8, hP8⟩
      have HW8 : Hid (WrAt w8 base g q8 ((l ++ numsTo f bt 5) ++ textB (cfgB f.cver f.mems))) := hW8
      have HP8 : Hid (Put g q w w8 q8) := HP7.out.trans hP8
      clear hwb hW8 hP8 HW7 HP7
      go_wp2
      go_end0
      exact ⟨rfl, q8, HW8.out, HP8.out⟩
end Go.Proofs.YtaeoafedfgbcaaaGreatDoor.DD
