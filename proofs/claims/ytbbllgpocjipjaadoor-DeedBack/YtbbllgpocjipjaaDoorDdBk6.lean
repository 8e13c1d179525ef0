/- The walk of DeedBack. -/
import Derived.Test.YtbbllgpocjipjaaDoorDdZ
import Derived.Test.YtbbllgpocjipjaaDoorDd2
namespace Go.Proofs.YtbbllgpocjipjaaDoor.DD.B6
open Go.RowKit Go.Sort
set_option linter.unusedVariables false

theorem right_small {f : Fl} {ps : List Fl} (hf : DedFit f ps) (hr : rightD f ps = true) : f.data.length ≤ 1000 ∧ ps.length ≤ 500 ∧ ∀ p ∈ ps, p.np = 0 ∧ p.data.length ≤ 1000 := by
  have h := rightD_fits hr
  have hc := com_parts (fits_com h).1
  cases hp : hasParts f.kind with
  | false =>
    have h0 := np_zero hc.1 hp
    have : ps = [] := List.length_eq_zero_iff.1 (by rw [← hf.len]; exact h0)
    subst this
    exact ⟨hc.2.1, by simp, by simp⟩
  | true =>
    have hs := fits_parts h hp
    refine ⟨hc.2.1, hs.1, fun p hp => ?_⟩
    obtain ⟨h1, h2, h3⟩ := hs.2 p hp
    have hc' := com_parts (leaf_parts h3).2.1
    refine ⟨np_zero hc'.1 ?_, hc'.2.1⟩
    unfold isNode at h1
    unfold hasParts
    simp only [Bool.or_eq_true, decide_eq_true_eq] at h1
    simp only [Bool.or_eq_false_iff, decide_eq_false_iff_not]
    omega
theorem owns_nil (w : World) (base : Nat) : w.ownsRow base 5 1 (.slice none 0 0) 0 (bv []) := World.ownsRow_nil _ _ _ _
theorem copy_any {w : World} {x : Value} {l : List UInt8} (hx : Bs w x l) (hl : l.length ≤ 140737488355328) :
    Calls Tryd.prog 18 #[x] w fun e w' => ∃ v, e = .returned v ∧ New w w' v l := by
  have HX : Hid (Bs w x l) := hx
  obtain ⟨A, C, rfl⟩ := bs_form hx
  clear hx
  go_enter Tryd.func18, Tryd.ntmps18
  go_wp2_with (at_builtin; refine wpList_app rfl (.tmp 4) (.tmp 5) rfl (.slice none 0 0) (.slice A l.length C) rfl rfl (owns_nil w w.heap.size) HX.out (Nat.le_refl _) (by simp; omega) ?_; intro A1 C1 w1 ho hg hat _)
  go_ret
  refine ⟨_, rfl, ?_, (Below.refl _ _).grown hg (Nat.le_refl _) (fun k hk => by simp [blk, Value.ownBlock] at hk)⟩
  simpa using ho
theorem Bs.prefix {w : World} {A : Option Addr} {n C : Nat} {l : List UInt8} (h : Bs w (.slice A n C) l) (k : Nat) (hk : k ≤ l.length) (hp : 0 < l.length) : ∃ b o, A = some ⟨b, o, none⟩ ∧ l.length ≤ C ∧ Bs w (.slice (some ⟨b, o, none⟩) k C) (l.take k) := by
  rcases h with ⟨_, rfl⟩ | ⟨_, _, _, rfl⟩ | ⟨_, b, o, c, he, h1, h2, h3⟩
  · simp at hp
  · simp at hp
  · cases he
    exact ⟨b, o, rfl, h1, Bs.head h3 h2 k hk (by omega)⟩
set_option maxRecDepth 100000 in
set_option maxHeartbeats 4000000 in
theorem back_any (f : Fl) (ps : List Fl) (A1 A2 A3 : Option Addr) (c1 c2 c3 : Nat) (AB AM : Option Addr) (CB CM : Nat) (B M : List UInt8) (cut : Int) (w : World) (hL : PA.Laid w) (hv : DVal w f ps A1 c1 A2 c2 A3 c3) (hf : DedFit f ps) (hl : f.np ≤ 9223372036854775807) (hb : Bs w (.slice AB B.length CB) B) (hm : Bs w (.slice AM M.length CM) M) (hbl : B.length ≤ 140737488355328) (hml : M.length ≤ 140737488355328) (hcut : I64 cut) (HR : Hid (rightD f ps = true)) (hmm : f.mems.length ≤ 140737488355328 ∧ ∀ p ∈ ps, p.mems.length ≤ 140737488355328) (g : Fl) (qs : List Fl) (HO : Hid (deedOf B = some (g, qs))) (HM0 : Hid (M = [])) :
    Calls Tryd.prog 4 #[.agg #[.int .i64 f.zxid, .int .u8 f.kind, .int .i64 f.session, .int .i64 f.turn, .int .i64 f.xid, .int .i64 f.time, .string (mkS f.path), .slice A1 f.data.length c1, .int .i64 f.owner, .int .i64 f.version, .int .i64 f.cversion, .int .i64 f.timeout, .int .i64 f.err, .int .i64 f.cver, .slice A2 f.mems.length c2, .slice A3 f.np c3], .slice AB B.length CB, .int .i64 cut, .slice AM M.length CM] w fun e w' => e = .returned (.bool true) ∧ Below w.heap.size w w' := by
  obtain ⟨w1, hw1⟩ : ∃ X, X = w.alloc (.cells #[.int .i64 f.zxid, .int .u8 f.kind, .int .i64 f.session, .int .i64 f.turn, .int .i64 f.xid, .int .i64 f.time, .string (mkS f.path), .slice A1 f.data.length c1, .int .i64 f.owner, .int .i64 f.version, .int .i64 f.cversion, .int .i64 f.timeout, .int .i64 f.err, .int .i64 f.cver, .slice A2 f.mems.length c2, .slice A3 f.np c3] 35) := ⟨_, rfl⟩
  have hB1 : Below w.heap.size w w1 := by rw [hw1]; exact (Below.refl _ _).alloc (Nat.le_refl _) _
  have hc1 : w1.heap[w.heap.size]? = some (.cells #[.int .i64 f.zxid, .int .u8 f.kind, .int .i64 f.session, .int .i64 f.turn, .int .i64 f.xid, .int .i64 f.time, .string (mkS f.path), .slice A1 f.data.length c1, .int .i64 f.owner, .int .i64 f.version, .int .i64 f.cversion, .int .i64 f.timeout, .int .i64 f.err, .int .i64 f.cver, .slice A2 f.mems.length c2, .slice A3 f.np c3] 35 (0, 0)) := by rw [hw1]; exact heap_alloc_new w _
  obtain ⟨pd, hpd⟩ : ∃ pd, pd = w.heap.size := ⟨_, rfl⟩
  have HF : Hid (∀ w', Below w1.heap.size w1 w' → Below w.heap.size w w' ∧ w'.heap[pd]? = some (.cells #[.int .i64 f.zxid, .int .u8 f.kind, .int .i64 f.session, .int .i64 f.turn, .int .i64 f.xid, .int .i64 f.time, .string (mkS f.path), .slice A1 f.data.length c1, .int .i64 f.owner, .int .i64 f.version, .int .i64 f.cversion, .int .i64 f.timeout, .int .i64 f.err, .int .i64 f.cver, .slice A2 f.mems.length c2, .slice A3 f.np c3] 35 (0, 0)) ∧ DVal w' f ps A1 c1 A2 c2 A3 c3 ∧ Bs w' (.slice AB B.length CB) B ∧ Bs w' (.slice AM M.length CM) M ∧ PA.Laid w') := by
    intro w' hB
    have hBw : Below w.heap.size w w' := hB1.trans (hB.mono hB1.size)
    refine ⟨hBw, ?_, hv.grow hBw, Bs.below' hb hBw, Bs.below' hm hBw, hL.below hBw⟩
    rw [hpd, hB.block _ (heap_lt hc1)]; exact hc1
  have HFIT : Hid (DedFit f ps) := hf
  have HCUT : Hid (I64 cut) := hcut
  have ha := awake_any w1 (hL.below hB1)
  rw [hw1] at ha
  clear hB1 hc1 hv hb hm hL hf hcut
  go_enter Tryd.func4, Tryd.ntmps4
  go_wp2_with fail
  refine ha.mono ?_
  rintro e w2 ⟨rfl, hB2⟩
  rw [← hw1] at hB2
  have HB2 : Hid (Below w1.heap.size w1 w2) := hB2
  clear ha hB2 hw1
  rw [← hpd]
  clear hpd
  as_aux_lemma =>
  have hg := great_any f ps A1 A2 A3 c1 c2 c3 w2 (HF.out w2 HB2.out).2.2.1 HFIT.out.len hl
  obtain ⟨z0, z1, z2, z3, z4, z5, z6, z7, z8, z9, z10, z11, z12, z13, z14, z15⟩ := cells16 (HF.out w2 HB2.out).2.1
  go_wp2_with fail
  refine hg.mono ?_
  rintro e w3 ⟨⟨gb, rfl⟩, hB3⟩
  have HB3 : Hid (Below w1.heap.size w1 w3) := HB2.out.trans (hB3.mono HB2.out.size)
  clear hg hB3 HB2 z0 z1 z2 z3 z4 z5 z6 z7 z8 z9 z10 z11 z12 z13 z14 z15
  as_aux_lemma =>
  cases gb with
  | true =>
    go_wp2
    go_ret
    exact ⟨rfl, (HF.out _ HB3.out).1⟩
  | false =>
  by_cases hB100 : 100000 < B.length
  · go_wp2
    go_ret
    exact ⟨rfl, (HF.out _ HB3.out).1⟩
  by_cases hM100 : 1000 < M.length
  · go_wp2
    go_ret
    exact ⟨rfl, (HF.out _ HB3.out).1⟩
  clear hbl hml
  obtain ⟨D, hD⟩ : ∃ D, D = deedB f ps := ⟨_, rfl⟩
  have HD : Hid (D = deedB f ps) := hD
  have hp := put_yes' f ps A1 A2 A3 c1 c2 c3 w3 (HF.out w3 HB3.out).2.2.2.2.2 (HF.out w3 HB3.out).2.2.1 HFIT.out HR.out
  rw [← hD] at hp
  have hDl : D.length ≤ 700000 := by rw [hD]; exact deed_len HFIT.out (rightD_fits HR.out)
  have hD0 : 0 < D.length := by rw [hD]; unfold deedB; simp
  clear hD
  obtain ⟨z0, z1, z2, z3, z4, z5, z6, z7, z8, z9, z10, z11, z12, z13, z14, z15⟩ := cells16 (HF.out w3 HB3.out).2.1
  go_wp2_with fail
  refine hp.mono ?_
  rintro e w4 ⟨xc, rfl, hN4⟩
  obtain ⟨AX, CX, rfl⟩ := bs_form hN4.bs
  have HB4 : Hid (Below w1.heap.size w1 w4) := HB3.out.trans (hN4.below.mono HB3.out.size)
  have HX4 : Hid (∀ w', Below w4.heap.size w4 w' → Bs w' (.slice AX D.length CX) D) := fun w' hB => Bs.below' hN4.bs hB
  clear hp hN4 HB3 z0 z1 z2 z3 z4 z5 z6 z7 z8 z9 z10 z11 z12 z13 z14 z15
  as_aux_lemma =>
  have hr := right_any f ps A1 A2 A3 c1 c2 c3 w4 (HF.out w4 HB4.out).2.2.2.2.2 (HF.out w4 HB4.out).2.2.1 HFIT.out
  rw [HR.out] at hr
  obtain ⟨z0, z1, z2, z3, z4, z5, z6, z7, z8, z9, z10, z11, z12, z13, z14, z15⟩ := cells16 (HF.out w4 HB4.out).2.1
  go_wp2_with fail
  refine hr.mono ?_
  rintro e v5 ⟨rfl, hB5⟩
  have HB5 : Hid (Below w4.heap.size w4 v5) := hB5
  have HF4 : Hid (∀ w', Below w4.heap.size w4 w' → Below w1.heap.size w1 w') := fun w' hB => HB4.out.trans (hB.mono HB4.out.size)
  clear hr hB5 HB4 z0 z1 z2 z3 z4 z5 z6 z7 z8 z9 z10 z11 z12 z13 z14 z15
  as_aux_lemma =>
  have hgt := dget_any (HX4.out v5 HB5.out) (by omega) (HF.out v5 (HF4.out v5 HB5.out)).2.2.2.2.2
  rw [HD.out, deedOf_put HFIT.out HR.out, ← HD.out] at hgt
  go_wp2_with fail
  refine hgt.mono ?_
  rintro e v6 hG
  obtain ⟨E1, e1, E2, e2, E3, e3, he, hV6, hB6⟩ : ∃ E1 e1 E2 e2 E3 e3, e = .returned (.tuple #[.agg #[.int .i64 f.zxid, .int .u8 f.kind, .int .i64 f.session, .int .i64 f.turn, .int .i64 f.xid, .int .i64 f.time, .string (mkS f.path), .slice E1 f.data.length e1, .int .i64 f.owner, .int .i64 f.version, .int .i64 f.cversion, .int .i64 f.timeout, .int .i64 f.err, .int .i64 f.cver, .slice E2 f.mems.length e2, .slice E3 f.np e3], .int .i64 0]) ∧ DVal v6 f ps E1 e1 E2 e2 E3 e3 ∧ Below v5.heap.size v5 v6 := hG
  subst he
  have HB6 : Hid (Below w4.heap.size w4 v6) := HB5.out.trans (hB6.mono HB5.out.size)
  have HV6 : Hid (DVal v6 f ps E1 e1 E2 e2 E3 e3) := hV6
  clear hgt hB6 HB5 hV6
  as_aux_lemma =>
  obtain ⟨v7, hv7⟩ : ∃ X, X = v6.alloc (.cells #[.int .i64 f.zxid, .int .u8 f.kind, .int .i64 f.session, .int .i64 f.turn, .int .i64 f.xid, .int .i64 f.time, .string (mkS f.path), .slice E1 f.data.length e1, .int .i64 f.owner, .int .i64 f.version, .int .i64 f.cversion, .int .i64 f.timeout, .int .i64 f.err, .int .i64 f.cver, .slice E2 f.mems.length e2, .slice E3 f.np e3] 35) := ⟨_, rfl⟩
  have hB7 : Below v6.heap.size v6 v7 := by rw [hv7]; exact (Below.refl _ _).alloc (Nat.le_refl _) _
  have hc7 : v7.heap[v6.heap.size]? = some (.cells #[.int .i64 f.zxid, .int .u8 f.kind, .int .i64 f.session, .int .i64 f.turn, .int .i64 f.xid, .int .i64 f.time, .string (mkS f.path), .slice E1 f.data.length e1, .int .i64 f.owner, .int .i64 f.version, .int .i64 f.cversion, .int .i64 f.timeout, .int .i64 f.err, .int .i64 f.cver, .slice E2 f.mems.length e2, .slice E3 f.np e3] 35 (0, 0)) := by rw [hv7]; exact heap_alloc_new v6 _
  have HB7 : Hid (Below w4.heap.size w4 v7) := HB6.out.trans (hB7.mono HB6.out.size)
  obtain ⟨px, hpx⟩ : ∃ px, px = v6.heap.size := ⟨_, rfl⟩
  have HX : Hid (∀ w', Below v7.heap.size v7 w' → Below w4.heap.size w4 w' ∧ w'.heap[px]? = some (.cells #[.int .i64 f.zxid, .int .u8 f.kind, .int .i64 f.session, .int .i64 f.turn, .int .i64 f.xid, .int .i64 f.time, .string (mkS f.path), .slice E1 f.data.length e1, .int .i64 f.owner, .int .i64 f.version, .int .i64 f.cversion, .int .i64 f.timeout, .int .i64 f.err, .int .i64 f.cver, .slice E2 f.mems.length e2, .slice E3 f.np e3] 35 (0, 0)) ∧ DVal w' f ps E1 e1 E2 e2 E3 e3) := by
    intro w' hB
    refine ⟨HB7.out.trans (hB.mono HB7.out.size), ?_, HV6.out.grow (hB7.trans (hB.mono hB7.size))⟩
    rw [hpx, hB.block _ (heap_lt hc7)]; exact hc7
  obtain ⟨k, hk, hkl⟩ : ∃ k : Nat, cut % (D.length : Int) = k ∧ k < D.length := by
    have h1 := Int.emod_nonneg cut (show (D.length : Int) ≠ 0 by omega)
    have h2 := Int.emod_lt_of_pos cut (show 0 < (D.length : Int) by omega)
    exact ⟨(cut % (D.length : Int)).toNat, by omega, by omega⟩
  have hpk := pick_any cut D.length HCUT.out (by unfold I64; omega) (by omega) v7
  rw [hk, hv7] at hpk
  clear hB7 HB6 HV6 hc7 hk
  go_wp2_with fail
  refine hpk.mono ?_
  rintro e v8 ⟨rfl, hv8⟩
  rw [← hv7] at hv8
  subst hv8
  clear hpk hv7
  rw [← hpx]
  clear hpx
  as_aux_lemma =>
  obtain ⟨bX, oX, rfl, hCX, hT⟩ := Bs.prefix (HX4.out _ HB7.out) k (Nat.le_of_lt hkl) hD0
  have hgt := dget_any hT (by rw [List.length_take]; omega) (HF.out _ (HF4.out _ HB7.out)).2.2.2.2.2
  have hless : deedOf (D.take k) = none := by
    have h := deedOf_less (k := k) HFIT.out HR.out (by rw [← HD.out]; exact hkl)
    rw [← HD.out] at h
    exact h
  rw [hless] at hgt
  clear hT hless
  go_wp2_with fail
  refine hgt.mono ?_
  rintro e v9 hG
  obtain ⟨he, hB9⟩ : e = .returned (.tuple #[.agg #[.int .i64 0, .int .u8 0, .int .i64 0, .int .i64 0, .int .i64 0, .int .i64 0, .string ⟨#[]⟩, .slice none 0 0, .int .i64 0, .int .i64 0, .int .i64 0, .int .i64 0, .int .i64 0, .int .i64 0, .slice none 0 0, .slice none 0 0], .int .i64 4]) ∧ Below v8.heap.size v8 v9 := hG
  subst he
  have HB9 : Hid (Below v8.heap.size v8 v9) := hB9
  clear hgt hB9 hkl
  as_aux_lemma =>
  obtain ⟨va, hva⟩ : ∃ X, X = v9.alloc (.cells #[.int .i64 0, .int .u8 0, .int .i64 0, .int .i64 0, .int .i64 0, .int .i64 0, .string ⟨#[]⟩, .slice none 0 0, .int .i64 0, .int .i64 0, .int .i64 0, .int .i64 0, .int .i64 0, .int .i64 0, .slice none 0 0, .slice none 0 0] 35) := ⟨_, rfl⟩
  have hBa : Below v9.heap.size v9 va := by rw [hva]; exact (Below.refl _ _).alloc (Nat.le_refl _) _
  have HBa : Hid (Below v8.heap.size v8 va) := HB9.out.trans (hBa.mono HB9.out.size)
  have hcp := copy_any (HX4.out va (HX.out va HBa.out).1) (by omega)
  rw [hva] at hcp
  clear hBa HB9
  go_wp2_with fail
  refine hcp.mono ?_
  rintro e v10 ⟨xq, rfl, hN10⟩
  rw [← hva] at hN10
  have HB10 : Hid (Below v8.heap.size v8 v10) := HBa.out.trans (hN10.below.mono HBa.out.size)
  have HO10 : Hid (v10.ownsRow va.heap.size 5 1 xq D.length (bv D)) := hN10.owns
  have hle10 : va.heap.size ≤ v10.heap.size := hN10.below.size
  have hle9 : v8.heap.size ≤ va.heap.size := HBa.out.size
  obtain ⟨A6, C6, rfl⟩ := bs_form hN10.bs
  have HM10 : Hid (Bs v10 (.slice AM M.length CM) M) := (HF.out v10 (HF4.out _ (HX.out v10 HB10.out).1)).2.2.2.2.1
  clear hcp hN10 HBa hva
  as_aux_lemma =>
  go_wp2_with (at_builtin; refine wpList_app rfl (.tmp 64) (.tmp 65) rfl (.slice A6 D.length C6) (.slice AM M.length CM) rfl rfl HO10.out HM10.out hle10 (by omega) ?_; intro A7 C7 v11 ho7 hg7 hat7 _; (have HO7 : Hid (v11.ownsRow va.heap.size 5 1 (.slice A7 (D.length + M.length) C7) (D.length + M.length) (bv (D ++ M))) := ho7); clear ho7)
  have HB11 : Hid (Below v8.heap.size v8 v11) := HB10.out.grown hg7 HB10.out.size (fun k hk => by have := (HO10.out.lt k hk).1; omega)
  have hgt := dget_any (Bs.of_owns HO7.out) (by simp; omega) (HF.out _ (HF4.out _ (HX.out _ HB11.out).1)).2.2.2.2.2
  have hmo : deedOf (D ++ M) = some (f, ps) := by rw [HM0.out, List.append_nil, HD.out]; exact deedOf_put HFIT.out HR.out
  rw [hmo] at hgt
  refine hgt.mono ?_
  rintro e v12 hG
  obtain ⟨G1, g1, G2, g2, G3, g3, he, -, hB12⟩ : ∃ G1 g1 G2 g2 G3 g3, e = .returned (.tuple #[.agg #[.int .i64 f.zxid, .int .u8 f.kind, .int .i64 f.session, .int .i64 f.turn, .int .i64 f.xid, .int .i64 f.time, .string (mkS f.path), .slice G1 f.data.length g1, .int .i64 f.owner, .int .i64 f.version, .int .i64 f.cversion, .int .i64 f.timeout, .int .i64 f.err, .int .i64 f.cver, .slice G2 f.mems.length g2, .slice G3 f.np g3], .int .i64 0]) ∧ DVal v12 f ps G1 g1 G2 g2 G3 g3 ∧ Below v11.heap.size v11 v12 := hG
  subst he
  have HB12 : Hid (Below v8.heap.size v8 v12) := HB11.out.trans (hB12.mono HB11.out.size)
  clear hgt hB12 HB11 hg7 hat7 HO7 HO10 HM10 HB10 hle10 hle9 hmo
  as_aux_lemma =>
  obtain ⟨vb, hvb⟩ : ∃ X, X = v12.alloc (.cells #[.int .i64 f.zxid, .int .u8 f.kind, .int .i64 f.session, .int .i64 f.turn, .int .i64 f.xid, .int .i64 f.time, .string (mkS f.path), .slice G1 f.data.length g1, .int .i64 f.owner, .int .i64 f.version, .int .i64 f.cversion, .int .i64 f.timeout, .int .i64 f.err, .int .i64 f.cver, .slice G2 f.mems.length g2, .slice G3 f.np g3] 35) := ⟨_, rfl⟩
  have hBb : Below v12.heap.size v12 vb := by rw [hvb]; exact (Below.refl _ _).alloc (Nat.le_refl _) _
  have HBb : Hid (Below v8.heap.size v8 vb) := HB12.out.trans (hBb.mono HB12.out.size)
  have hsm := right_small HFIT.out HR.out
  have hsd := sameD_any f ps E1 E2 E3 A1 A2 A3 e1 e2 e3 c1 c2 c3 vb hmm.1 (by omega) (by omega) HFIT.out.len (fun p hp => ⟨(hsm.2.2 p hp).1, hmm.2 p hp, by have := (hsm.2.2 p hp).2; omega⟩) (HX.out vb HBb.out).2.2 (HF.out vb (HF4.out _ (HX.out vb HBb.out).1)).2.2.1
  rw [hvb] at hsd
  have hlt1 : px < v12.heap.size := heap_lt (HX.out v12 HB12.out).2.1
  have hlt2 : pd < v12.heap.size := heap_lt (HF.out v12 (HF4.out _ (HX.out v12 HB12.out).1)).2.1
  obtain ⟨z0, z1, z2, z3, z4, z5, z6, z7, z8, z9, z10, z11, z12, z13, z14, z15⟩ := cells16 (HX.out v12 HB12.out).2.1
  obtain ⟨y0, y1, y2, y3, y4, y5, y6, y7, y8, y9, y10, y11, y12, y13, y14, y15⟩ := cells16 (HF.out v12 (HF4.out _ (HX.out v12 HB12.out).1)).2.1
  clear hBb HB12 hsm
  go_wp2_with fail
  refine hsd.mono ?_
  rintro e w5 ⟨rfl, hB5⟩
  rw [← hvb] at hB5
  have HB5 : Hid (Below w1.heap.size w1 w5) := HF4.out _ ((HX.out _ HBb.out).1.trans (hB5.mono (HX.out _ HBb.out).1.size))
  clear hsd hB5 HBb hvb z0 z1 z2 z3 z4 z5 z6 z7 z8 z9 z10 z11 z12 z13 z14 z15 y0 y1 y2 y3 y4 y5 y6 y7 y8 y9 y10 y11 y12 y13 y14 y15 hlt1 hlt2 HX4 HX HF4 HB7
  as_aux_lemma =>
  have hM1 : (M.length : Int) = 0 := by rw [HM0.out]; rfl
  have hgt := dget_any (HF.out w5 HB5.out).2.2.2.1 (by omega) (HF.out w5 HB5.out).2.2.2.2.2
  rw [HO.out] at hgt
  go_wp2_with fail
  refine hgt.mono ?_
  rintro e w6 hG
  obtain ⟨E1, e1, E2, e2, E3, e3, he, hV6, hB6⟩ : ∃ E1 e1 E2 e2 E3 e3, e = .returned (.tuple #[.agg #[.int .i64 g.zxid, .int .u8 g.kind, .int .i64 g.session, .int .i64 g.turn, .int .i64 g.xid, .int .i64 g.time, .string (mkS g.path), .slice E1 g.data.length e1, .int .i64 g.owner, .int .i64 g.version, .int .i64 g.cversion, .int .i64 g.timeout, .int .i64 g.err, .int .i64 g.cver, .slice E2 g.mems.length e2, .slice E3 g.np e3], .int .i64 0]) ∧ DVal w6 g qs E1 e1 E2 e2 E3 e3 ∧ Below w5.heap.size w5 w6 := hG
  subst he
  have HB6 : Hid (Below w1.heap.size w1 w6) := HB5.out.trans (hB6.mono HB5.out.size)
  have HG : Hid (B = deedB g qs ∧ rightD g qs = true ∧ DedFit g qs) := (deedOf_iff _ _ _).1 HO.out
  have HV6 : Hid (DVal w6 g qs E1 e1 E2 e2 E3 e3) := hV6
  clear hgt hB6 HB5 hV6
  as_aux_lemma =>
  obtain ⟨w7, hw7⟩ : ∃ X, X = w6.alloc (.cells #[.int .i64 g.zxid, .int .u8 g.kind, .int .i64 g.session, .int .i64 g.turn, .int .i64 g.xid, .int .i64 g.time, .string (mkS g.path), .slice E1 g.data.length e1, .int .i64 g.owner, .int .i64 g.version, .int .i64 g.cversion, .int .i64 g.timeout, .int .i64 g.err, .int .i64 g.cver, .slice E2 g.mems.length e2, .slice E3 g.np e3] 35) := ⟨_, rfl⟩
  have hB7 : Below w6.heap.size w6 w7 := by rw [hw7]; exact (Below.refl _ _).alloc (Nat.le_refl _) _
  have hc7 : w7.heap[w6.heap.size]? = some (.cells #[.int .i64 g.zxid, .int .u8 g.kind, .int .i64 g.session, .int .i64 g.turn, .int .i64 g.xid, .int .i64 g.time, .string (mkS g.path), .slice E1 g.data.length e1, .int .i64 g.owner, .int .i64 g.version, .int .i64 g.cversion, .int .i64 g.timeout, .int .i64 g.err, .int .i64 g.cver, .slice E2 g.mems.length e2, .slice E3 g.np e3] 35 (0, 0)) := by rw [hw7]; exact heap_alloc_new w6 _
  have HB7 : Hid (Below w1.heap.size w1 w7) := HB6.out.trans (hB7.mono HB6.out.size)
  have hp2 := put_yes' g qs E1 E2 E3 e1 e2 e3 w7 (HF.out w7 HB7.out).2.2.2.2.2 (HV6.out.grow hB7) HG.out.2.2 HG.out.2.1
  obtain ⟨px, hpx⟩ : ∃ px, px = w6.heap.size := ⟨_, rfl⟩
  have HX : Hid (∀ w', Below w7.heap.size w7 w' → w'.heap[px]? = some (.cells #[.int .i64 g.zxid, .int .u8 g.kind, .int .i64 g.session, .int .i64 g.turn, .int .i64 g.xid, .int .i64 g.time, .string (mkS g.path), .slice E1 g.data.length e1, .int .i64 g.owner, .int .i64 g.version, .int .i64 g.cversion, .int .i64 g.timeout, .int .i64 g.err, .int .i64 g.cver, .slice E2 g.mems.length e2, .slice E3 g.np e3] 35 (0, 0)) ∧ DVal w' g qs E1 e1 E2 e2 E3 e3) := by
    intro w' hB
    refine ⟨?_, HV6.out.grow (hB7.trans (hB.mono hB7.size))⟩
    rw [hpx, hB.block _ (heap_lt hc7)]; exact hc7
  rw [hw7] at hp2
  clear hB7 HB6 HV6 hc7
  go_wp2_with fail
  refine hp2.mono ?_
  rintro e w8 ⟨xa, rfl, hN8⟩
  rw [← hw7] at hN8
  obtain ⟨AX8, CX8, rfl⟩ := bs_form hN8.bs
  have HN8 : Hid (Bs w8 (.slice AX8 (deedB g qs).length CX8) (deedB g qs)) := hN8.bs
  have HB8 : Hid (Below w7.heap.size w7 w8) := hN8.below
  clear hp2 hN8 hw7
  rw [← hpx]
  clear hpx
  as_aux_lemma =>
  have hr2 := right_any g qs E1 E2 E3 e1 e2 e3 w8 (HF.out w8 (HB7.out.trans (HB8.out.mono HB7.out.size))).2.2.2.2.2 (HX.out w8 HB8.out).2 HG.out.2.2
  rw [HG.out.2.1] at hr2
  obtain ⟨z0, z1, z2, z3, z4, z5, z6, z7, z8, z9, z10, z11, z12, z13, z14, z15⟩ := cells16 (HX.out w8 HB8.out).1
  go_wp2_with fail
  refine hr2.mono ?_
  rintro e w9 ⟨rfl, hB9⟩
  have HB9 : Hid (Below w1.heap.size w1 w9) := (HB7.out.trans (HB8.out.mono HB7.out.size)).trans (hB9.mono (HB7.out.trans (HB8.out.mono HB7.out.size)).size)
  have HN9 : Hid (Bs w9 (.slice AX8 (deedB g qs).length CX8) (deedB g qs)) := by show Bs _ _ _; exact Bs.below' HN8.out hB9
  clear hr2 hB9 HB8 HN8 HB7 HX z0 z1 z2 z3 z4 z5 z6 z7 z8 z9 z10 z11 z12 z13 z14 z15
  as_aux_lemma =>
  have hsb := same_any HN9.out (by have h := (HF.out w9 HB9.out).2.2.2.1; exact h) (by have h := HG.out.1; rw [← h]; omega)
  rw [decide_eq_true HG.out.1.symm] at hsb
  go_wp2_with fail
  refine hsb.mono ?_
  rintro e w10 ⟨rfl, qq, hw10⟩
  have HB10 : Hid (Below w1.heap.size w1 w10) := by
    show Below _ _ _
    rw [hw10]
    exact HB9.out.trans (((Chg.drewN Non w9 qq).below (fun _ h => h.elim) (Nat.le_refl _)).mono HB9.out.size)
  clear hsb hw10 HB9
  as_aux_lemma =>
  go_wp2
  go_ret
  exact ⟨rfl, (HF.out _ HB10.out).1⟩
end Go.Proofs.YtbbllgpocjipjaaDoor.DD.B6
