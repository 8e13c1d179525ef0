/- The walks of fitsKind where parts stand; fits and Right of any deed. -/
import Derived.Test.YtkbmbnfpadllmaaDoorDdP
namespace Go.Proofs.YtkbmbnfpadllmaaDoor.DD
open Go.RowKit

set_option maxRecDepth 100000 in
set_option maxHeartbeats 2000000 in
theorem kind5 (zx se tu xi ti ow ve cv tmo er cr : Int) (p : ByteArray) (x y : Value) (A : Option Addr) (n C : Nat) (ps : List Fl) (w : World) (hP : Prts w w.heap.size (.slice A n C) ps) (hn : ps.length = n) (hf : ∀ q ∈ ps, 0 ≤ q.kind ∧ q.kind < 256) (hL : PA.Laid w) :
    Calls Tryd.prog 46 #[.agg #[.int .i64 zx, .int .u8 5, .int .i64 se, .int .i64 tu, .int .i64 xi, .int .i64 ti, .string p, x, .int .i64 ow, .int .i64 ve, .int .i64 cv, .int .i64 tmo, .int .i64 er, .int .i64 cr, y, .slice A n C]] w fun e w' => e = .returned (.bool (decide (0 < ow) && decide (n ≤ 500) && ps.all (partB false))) ∧ Below w.heap.size w w' := by
  obtain ⟨w1, hw1⟩ : ∃ X, X = w.alloc (.cells #[.int .i64 zx, .int .u8 5, .int .i64 se, .int .i64 tu, .int .i64 xi, .int .i64 ti, .string p, x, .int .i64 ow, .int .i64 ve, .int .i64 cv, .int .i64 tmo, .int .i64 er, .int .i64 cr, y, .slice A n C] 32) := ⟨_, rfl⟩
  have hB1 : Below w.heap.size w w1 := by rw [hw1]; exact (Below.refl _ _).alloc (Nat.le_refl _) _
  have HB1 : Hid (Below w.heap.size w w1) := hB1
  have hP1 : Prts w1 w1.heap.size (.slice A n C) ps := by
    have h := hP.below hB1
    have := hB1.size
    rcases h with h | h | ⟨p0, b, o, c, e, q1, q2, q3, q4⟩
    · exact .inl h
    · exact .inr (.inl h)
    · exact .inr (.inr ⟨p0, b, o, c, e, q1, by omega, Nat.le_refl _, fun j hj => by
        obtain ⟨A1, c1, A2, c2, A3, c3, r1, r2⟩ := q4 j hj
        exact ⟨A1, c1, A2, c2, A3, c3, r1, r2.bs, fun k hk => by have := r2.bsB k hk; omega, r2.ms, fun k hk => by have := r2.msB k hk; omega⟩⟩)
  have hc := fun (h : ps.length ≤ 9223372036854775807) => fitParts_any false hP1 h hf (hL.below hB1)
  generalize ps.all (partB false) = R at hc ⊢
  rw [hw1, hn] at hc
  rw [show thereOf false = 1024 from rfl] at hc
  clear hB1 hL hP1 hP hf hn
  by_cases h : 0 < ow
  · by_cases h5 : n ≤ 500
    · rw [decide_eq_true h, decide_eq_true h5, Bool.true_and, Bool.true_and]
      have hc := hc (by omega)
      go_enter Tryd.func46, Tryd.ntmps46
      go_wp2_with fail
      refine hc.mono ?_
      rintro e w2 ⟨rfl, hB2⟩
      rw [← hw1] at hB2
      have HB : Hid (Below w.heap.size w w2) := HB1.out.trans (hB2.mono HB1.out.size)
      clear hc hB2 hw1 HB1
      go_wp2
      go_ret
      exact ⟨rfl, HB.out⟩
    · rw [decide_eq_false h5, Bool.and_false, Bool.false_and]
      clear hc
      go_enter Tryd.func46, Tryd.ntmps46
      go_wp2
      go_ret
      rw [← hw1]
      exact ⟨rfl, HB1.out⟩
  · rw [decide_eq_false h, Bool.false_and, Bool.false_and]
    clear hc
    go_enter Tryd.func46, Tryd.ntmps46
    go_wp2
    go_ret
    rw [← hw1]
    exact ⟨rfl, HB1.out⟩
set_option maxRecDepth 100000 in
set_option maxHeartbeats 2000000 in
theorem kind8 (zx se tu xi ti ow ve cv tmo er cr : Int) (p : ByteArray) (x y : Value) (A : Option Addr) (n C : Nat) (ps : List Fl) (w : World) (hP : Prts w w.heap.size (.slice A n C) ps) (hn : ps.length = n) (hf : ∀ q ∈ ps, 0 ≤ q.kind ∧ q.kind < 256) (hL : PA.Laid w) :
    Calls Tryd.prog 46 #[.agg #[.int .i64 zx, .int .u8 8, .int .i64 se, .int .i64 tu, .int .i64 xi, .int .i64 ti, .string p, x, .int .i64 ow, .int .i64 ve, .int .i64 cv, .int .i64 tmo, .int .i64 er, .int .i64 cr, y, .slice A n C]] w fun e w' => e = .returned (.bool (decide (0 < n) && decide (n ≤ 16) && ps.all (partB true))) ∧ Below w.heap.size w w' := by
  obtain ⟨w1, hw1⟩ : ∃ X, X = w.alloc (.cells #[.int .i64 zx, .int .u8 8, .int .i64 se, .int .i64 tu, .int .i64 xi, .int .i64 ti, .string p, x, .int .i64 ow, .int .i64 ve, .int .i64 cv, .int .i64 tmo, .int .i64 er, .int .i64 cr, y, .slice A n C] 32) := ⟨_, rfl⟩
  have hB1 : Below w.heap.size w w1 := by rw [hw1]; exact (Below.refl _ _).alloc (Nat.le_refl _) _
  have HB1 : Hid (Below w.heap.size w w1) := hB1
  have hP1 : Prts w1 w1.heap.size (.slice A n C) ps := by
    have h := hP.below hB1
    have := hB1.size
    rcases h with h | h | ⟨p0, b, o, c, e, q1, q2, q3, q4⟩
    · exact .inl h
    · exact .inr (.inl h)
    · exact .inr (.inr ⟨p0, b, o, c, e, q1, by omega, Nat.le_refl _, fun j hj => by
        obtain ⟨A1, c1, A2, c2, A3, c3, r1, r2⟩ := q4 j hj
        exact ⟨A1, c1, A2, c2, A3, c3, r1, r2.bs, fun k hk => by have := r2.bsB k hk; omega, r2.ms, fun k hk => by have := r2.msB k hk; omega⟩⟩)
  have hc := fun (h : ps.length ≤ 9223372036854775807) => fitParts_any true hP1 h hf (hL.below hB1)
  generalize ps.all (partB true) = R at hc ⊢
  rw [hw1, hn] at hc
  rw [show thereOf true = 2048 from rfl] at hc
  clear hB1 hL hP1 hP hf hn
  by_cases h : 0 < n
  · by_cases h5 : n ≤ 16
    · rw [decide_eq_true h, decide_eq_true h5, Bool.true_and, Bool.true_and]
      have hc := hc (by omega)
      go_enter Tryd.func46, Tryd.ntmps46
      go_wp2_with fail
      refine hc.mono ?_
      rintro e w2 ⟨rfl, hB2⟩
      rw [← hw1] at hB2
      have HB : Hid (Below w.heap.size w w2) := HB1.out.trans (hB2.mono HB1.out.size)
      clear hc hB2 hw1 HB1
      go_wp2
      go_ret
      exact ⟨rfl, HB.out⟩
    · rw [decide_eq_false h5, Bool.and_false, Bool.false_and]
      clear hc
      go_enter Tryd.func46, Tryd.ntmps46
      go_wp2
      go_ret
      rw [← hw1]
      exact ⟨rfl, HB1.out⟩
  · rw [decide_eq_false h, Bool.false_and, Bool.false_and]
    clear hc
    go_enter Tryd.func46, Tryd.ntmps46
    go_wp2
    go_ret
    rw [← hw1]
    exact ⟨rfl, HB1.out⟩
theorem Prts.grow {w w' : World} {v : Value} {ps : List Fl} (h : Prts w w.heap.size v ps) (hb : Below w.heap.size w w') : Prts w' w'.heap.size v ps := by
  have h := h.below hb
  have := hb.size
  rcases h with h | h | ⟨p0, b, o, c, e, q1, q2, q3, q4⟩
  · exact .inl h
  · exact .inr (.inl h)
  · exact .inr (.inr ⟨p0, b, o, c, e, q1, by omega, Nat.le_refl _, fun j hj => by
      obtain ⟨A1, c1, A2, c2, A3, c3, r1, r2⟩ := q4 j hj
      exact ⟨A1, c1, A2, c2, A3, c3, r1, r2.bs, fun k hk => by have := r2.bsB k hk; omega, r2.ms, fun k hk => by have := r2.msB k hk; omega⟩⟩)
/- A deed whose slices hold what it says. -/
structure DVal (w : World) (f : Fl) (ps : List Fl) (A1 : Option Addr) (c1 : Nat) (A2 : Option Addr) (c2 : Nat) (A3 : Option Addr) (c3 : Nat) : Prop where
  bs : Bs w (.slice A1 f.data.length c1) f.data
  ms : Mems w (.slice A2 f.mems.length c2) f.mems
  pr : Prts w w.heap.size (.slice A3 f.np c3) ps
theorem Bs.below' {w w' : World} {v : Value} {l : List UInt8} (h : Bs w v l) (hb : Below w.heap.size w w') : Bs w' v l := Bs.below h hb (fun _ hk => h.lt hk)
theorem DVal.grow {w w' : World} {f : Fl} {ps : List Fl} {A1 A2 A3 : Option Addr} {c1 c2 c3 : Nat} (h : DVal w f ps A1 c1 A2 c2 A3 c3) (hb : Below w.heap.size w w') : DVal w' f ps A1 c1 A2 c2 A3 c3 := ⟨Bs.below' h.bs hb, h.ms.below' hb, h.pr.grow hb⟩
theorem fits_any (f : Fl) (ps : List Fl) (A1 A2 A3 : Option Addr) (c1 c2 c3 : Nat) (w : World) (hL : PA.Laid w) (hv : DVal w f ps A1 c1 A2 c2 A3 c3) (hf : DedFit f ps) :
    Calls Tryd.prog 33 #[.agg #[.int .i64 f.zxid, .int .u8 f.kind, .int .i64 f.session, .int .i64 f.turn, .int .i64 f.xid, .int .i64 f.time, .string (mkS f.path), .slice A1 f.data.length c1, .int .i64 f.owner, .int .i64 f.version, .int .i64 f.cversion, .int .i64 f.timeout, .int .i64 f.err, .int .i64 f.cver, .slice A2 f.mems.length c2, .slice A3 f.np c3]] w fun e w' => e = .returned (.bool (fitsB f ps)) ∧ Below w.heap.size w w' := by
  by_cases hn : isNode f.kind = true
  · refine (fits_leaf f A1 A2 A3 c1 c2 c3 w hL hn).mono ?_
    rintro e w' ⟨rfl, hB⟩
    exact ⟨ret_b (by unfold fitsB; rw [if_pos hn]), hB⟩
  · have hpk : ∀ q ∈ ps, 0 ≤ q.kind ∧ q.kind < 256 := fun q hq => (hf.all q hq).kind
    have key := fits_core f.zxid f.kind f.session f.turn f.xid f.time f.owner f.version f.cversion f.timeout f.err f.cver f.path A1 A2 A3 f.data.length f.mems.length f.np c1 c2 c3 w hL hf.top.kind (fillI f) (bareB f) (kindB f ps) (fun w' => filled_any f A1 A2 A3 c1 c2 c3 w') (fun h1 h9 => bare_test f h1 h9) (fun hk _ w' hB => by
      have hv' := hv.grow hB
      have hL' := hL.below hB
      have hkk : f.kind = 4 ∨ f.kind = 5 ∨ f.kind = 6 ∨ f.kind = 7 ∨ f.kind = 8 ∨ f.kind = 9 := by
        have : ¬ (f.kind = 1 ∨ f.kind = 2 ∨ f.kind = 3) := fun h => hn (by unfold isNode; rcases h with e | e | e <;> rw [e] <;> rfl)
        omega
      unfold kindB
      rcases hkk with e | e | e | e | e | e
      · simp only [e, Int.reduceEq, if_true, if_false]
        exact kind4 _ _ _ _ _ _ _ _ _ _ _ _ _ _ _ w'
      · simp only [e, Int.reduceEq, if_true, if_false]
        rw [show ps.length = f.np from hf.len.symm]
        exact kind5 _ _ _ _ _ _ _ _ _ _ _ _ _ _ A3 f.np c3 ps w' hv'.pr hf.len.symm hpk hL'
      · simp only [e, Int.reduceEq, if_true, if_false]
        exact kind6 _ _ _ _ _ _ _ _ _ _ _ _ _ _ _ w'
      · simp only [e, Int.reduceEq, if_true, if_false]
        exact kind7 _ _ _ _ _ _ _ _ _ _ _ _ _ _ _ f.mems w' hv'.ms
      · simp only [e, Int.reduceEq, if_true, if_false]
        rw [show ps.length = f.np from hf.len.symm]
        exact kind8 _ _ _ _ _ _ _ _ _ _ _ _ _ _ A3 f.np c3 ps w' hv'.pr hf.len.symm hpk hL'
      · simp only [e, Int.reduceEq, if_true, if_false]
        exact kind9 _ _ _ _ _ _ _ _ _ _ _ _ _ _ _ w')
    refine key.mono ?_
    rintro e w' ⟨rfl, hB⟩
    refine ⟨ret_b ?_, hB⟩
    unfold fitsB
    rw [if_neg hn]
    by_cases hk : 1 ≤ f.kind ∧ f.kind ≤ 9
    · rw [decide_eq_true hk]
      unfold comB numsB
      simp [Bool.and_assoc]
    · rw [decide_eq_false hk]
      have : kindB f ps = false := by
        unfold kindB
        rw [if_neg (by omega), if_neg (by omega), if_neg (by omega), if_neg (by omega), if_neg (by omega), if_neg (by omega)]
      rw [this]; simp
set_option maxRecDepth 100000 in
set_option maxHeartbeats 4000000 in
theorem right_any (f : Fl) (ps : List Fl) (A1 A2 A3 : Option Addr) (c1 c2 c3 : Nat) (w : World) (hL : PA.Laid w) (hv : DVal w f ps A1 c1 A2 c2 A3 c3) (hf : DedFit f ps) :
    Calls Tryd.prog 22 #[.agg #[.int .i64 f.zxid, .int .u8 f.kind, .int .i64 f.session, .int .i64 f.turn, .int .i64 f.xid, .int .i64 f.time, .string (mkS f.path), .slice A1 f.data.length c1, .int .i64 f.owner, .int .i64 f.version, .int .i64 f.cversion, .int .i64 f.timeout, .int .i64 f.err, .int .i64 f.cver, .slice A2 f.mems.length c2, .slice A3 f.np c3]] w fun e w' => e = .returned (.bool (rightD f ps)) ∧ Below w.heap.size w w' := by
  generalize hX : rightD f ps = X
  have HX : Hid (rightD f ps = X) := hX
  clear hX
  have hfit := fun w' (hB : Below w.heap.size w w') => fits_any f ps A1 A2 A3 c1 c2 c3 w' (hL.below hB) (hv.grow hB) hf
  have HFIT : Hid _ := hfit
  have hz := hf.top.zxid
  clear hfit hL hv hf
  obtain ⟨w1, hw1⟩ : ∃ X, X = w.alloc (.cells #[.int .i64 f.zxid, .int .u8 f.kind, .int .i64 f.session, .int .i64 f.turn, .int .i64 f.xid, .int .i64 f.time, .string (mkS f.path), .slice A1 f.data.length c1, .int .i64 f.owner, .int .i64 f.version, .int .i64 f.cversion, .int .i64 f.timeout, .int .i64 f.err, .int .i64 f.cver, .slice A2 f.mems.length c2, .slice A3 f.np c3] 32) := ⟨_, rfl⟩
  have hB1 : Below w.heap.size w w1 := by rw [hw1]; exact (Below.refl _ _).alloc (Nat.le_refl _) _
  have HC1 : Hid (w1.heap[w.heap.size]? = some (.cells #[.int .i64 f.zxid, .int .u8 f.kind, .int .i64 f.session, .int .i64 f.turn, .int .i64 f.xid, .int .i64 f.time, .string (mkS f.path), .slice A1 f.data.length c1, .int .i64 f.owner, .int .i64 f.version, .int .i64 f.cversion, .int .i64 f.timeout, .int .i64 f.err, .int .i64 f.cver, .slice A2 f.mems.length c2, .slice A3 f.np c3] 32 (0, 0))) := by rw [hw1]; exact heap_alloc_new w _
  have HB1 : Hid (Below w.heap.size w w1) := hB1
  have hh := headOf_any f.zxid f.kind f.session f.turn f.xid f.time f.owner f.version f.cversion f.timeout f.err f.cver (mkS f.path) (.slice A1 f.data.length c1) (.slice A2 f.mems.length c2) (.slice A3 f.np c3) w1
  rw [hw1] at hh
  clear hB1
  go_enter Tryd.func22, Tryd.ntmps22
  go_wp2_with fail
  refine hh.mono ?_
  rintro e w2 ⟨rfl, hB2⟩
  rw [← hw1] at hB2
  have HB2 : Hid (Below w.heap.size w w2) := HB1.out.trans (hB2.mono HB1.out.size)
  have HC2 : Hid (w2.heap[w.heap.size]? = some (.cells #[.int .i64 f.zxid, .int .u8 f.kind, .int .i64 f.session, .int .i64 f.turn, .int .i64 f.xid, .int .i64 f.time, .string (mkS f.path), .slice A1 f.data.length c1, .int .i64 f.owner, .int .i64 f.version, .int .i64 f.cversion, .int .i64 f.timeout, .int .i64 f.err, .int .i64 f.cver, .slice A2 f.mems.length c2, .slice A3 f.np c3] 32 (0, 0))) := by show _ = _; rw [hB2.block _ (heap_lt HC1.out)]; exact HC1.out
  clear hh hB2 hw1 HB1 HC1
  go_wp2_with fail
  go_loopw [7] (fun c wr => ∃ k : Nat, k ≤ 5 ∧ c = .int .i64 k ∧ pos5 f.zxid f.session f.turn f.xid f.time k ∧ wr = w2) (fun c _ => 5 - (intOf c).toNat)
  case atStart => exact ⟨0, by omega, rfl, fun j hj => by omega, rfl⟩
  case round =>
    obtain ⟨k, hk5, rfl, hpos, rfl⟩ := hrel
    have HP : Hid (pos5 f.zxid f.session f.turn f.xid f.time k) := hpos
    clear hpos
    by_cases h5 : k < 5
    · have hx := fun w => ixHead w f.zxid f.session f.turn f.xid f.time k h5
      have HN : Hid (nth5 f.zxid f.session f.turn f.xid f.time k < 0 → X = false) := by
        intro hneg
        rw [← HX.out]
        have : ¬ (0 ≤ f.zxid ∧ 0 ≤ f.session ∧ 0 ≤ f.turn ∧ 0 ≤ f.xid ∧ 0 ≤ f.time) := fun h => by have := pos5_all.2 h k h5; omega
        have e : headB f = false := by
          rw [Bool.eq_false_iff]
          intro h
          unfold headB at h
          simp only [Bool.and_eq_true, decide_eq_true_eq] at h
          exact this ⟨h.1.1.1.1, h.1.1.1.2, h.1.1.2, h.1.2, h.2⟩
        unfold rightD
        rw [e]; simp
      have HS : Hid (0 ≤ nth5 f.zxid f.session f.turn f.xid f.time k → pos5 f.zxid f.session f.turn f.xid f.time (k + 1)) := by
        intro h j hj
        rcases Nat.lt_succ_iff_lt_or_eq.1 hj with e | e
        · exact HP.out j e
        · subst e; exact h
      generalize nth5 f.zxid f.session f.turn f.xid f.time k = x at hx HN HS
      by_cases hx0 : x < 0
      · have hX := HN.out hx0
        subst hX
        go_wp2
        go_ret
        exact ⟨rfl, HB2.out⟩
      · have HS2 : Hid (pos5 f.zxid f.session f.turn f.xid f.time (k + 1)) := HS.out (by omega)
        go_wp2
        exact ⟨⟨k + 1, by omega, by go_num, HS2.out, (by first | trivial | rfl)⟩, by simp [intOf]; omega⟩
    · obtain rfl : k = 5 := by omega
      have hX : X = (decide (0 < f.zxid) && decide (f.zxid / 4294967296 ≤ 1073741824) && fitsB f ps) := by
        obtain ⟨q1, q2, q3, q4, q5⟩ := pos5_all.1 HP.out
        rw [← HX.out]
        unfold rightD headB
        simp [q1, q2, q3, q4, q5]
      have HXX : Hid (X = (decide (0 < f.zxid) && decide (f.zxid / 4294967296 ≤ 1073741824) && fitsB f ps)) := hX
      clear hX HX
      obtain ⟨z0, z1, z2, z3, z4, z5, z6, z7, z8, z9, z10, z11, z12, z13, z14, z15⟩ := cells16 HC2.out
      by_cases hz0 : 0 < f.zxid
      · have hm := mayBe_any f.zxid hz wr
        rw [decide_eq_true (show 0 ≤ f.zxid by omega), Bool.true_and] at hm
        by_cases hmy : f.zxid / 4294967296 ≤ 1073741824
        · rw [decide_eq_true hmy] at hm
          have hfi := HFIT.out wr HB2.out
          have HX2 : Hid (X = fitsB f ps) := by show _ = _; rw [HXX.out, decide_eq_true hz0, decide_eq_true hmy]; rfl
          generalize fitsB f ps = R at hfi HX2
          go_wp2_with fail
          refine hm.mono ?_
          rintro e w3 ⟨rfl, hw3⟩
          subst hw3
          clear hm
          go_wp2_with fail
          refine hfi.mono ?_
          rintro e w4 ⟨rfl, hB4⟩
          have HB4 : Hid (Below w.heap.size w w4) := HB2.out.trans (hB4.mono HB2.out.size)
          clear hfi hB4 z0 z1 z2 z3 z4 z5 z6 z7 z8 z9 z10 z11 z12 z13 z14 z15
          have e := HX2.out
          subst e
          go_wp2
          go_ret
          exact ⟨rfl, HB4.out⟩
        · rw [decide_eq_false hmy] at hm
          have hX : X = false := by rw [HXX.out, decide_eq_false hmy]; simp
          subst hX
          go_wp2_with fail
          refine hm.mono ?_
          rintro e w3 ⟨rfl, hw3⟩
          subst hw3
          clear hm
          go_wp2
          go_ret
          exact ⟨rfl, HB2.out⟩
      · have hX : X = false := by rw [HXX.out, decide_eq_false hz0]; simp
        subst hX
        go_wp2
        go_ret
        exact ⟨rfl, HB2.out⟩
end Go.Proofs.YtkbmbnfpadllmaaDoor.DD
