/- The walk of DeedBack. -/
import Derived.Test.YtbbllgpocjipjaaDoorDdZ
import Derived.Test.YtbbllgpocjipjaaDoorDd2
namespace Go.Proofs.YtbbllgpocjipjaaDoor.DD.B1
open Go.RowKit Go.Sort
set_option linter.unusedVariables false

theorem owns_nil (w : World) (base : Nat) : w.ownsRow base 5 1 (.slice none 0 0) 0 (bv []) := World.ownsRow_nil _ _ _ _
theorem copy_any {w : World} {x : Value} {l : List UInt8} (hx : Bs w x l) (hl : l.length ≤ 140737488355328) :
    Calls Tryd.prog 18 #[x] w fun e w' => ∃ v, e = .returned v ∧ New w w' v l := by
  have HX : Hid (Bs w x l) := hx
  obtain ⟨A, C, rfl⟩ := bs_form hx
  clear hx
  go_enter Tryd.func18, Tryd.ntmps18
  go_wp2_with (at_builtin; refine wpList_app rfl (.tmp 4) (.tmp 5) rfl (.slice none 0 0) (.slice A l.length C) rfl rfl (owns_nil w w.heap.size) HX.out (Nat.le_refl _) (by simp; omega) ?_; intro A1 C1 w1 ho hg hat _)
  go_ret
  refine ⟨_, rfl, ?_, (Below.refl _ _).grown hg (Nat.le_refl _) (fun k hk => by simp [blk, Value.ownBlock] at hk)⟩
  simpa using ho
theorem Bs.prefix {w : World} {A : Option Addr} {n C : Nat} {l : List UInt8} (h : Bs w (.slice A n C) l) (k : Nat) (hk : k ≤ l.length) (hp : 0 < l.length) : ∃ b o, A = some ⟨b, o, none⟩ ∧ l.length ≤ C ∧ Bs w (.slice (some ⟨b, o, none⟩) k C) (l.take k) := by
  rcases h with ⟨_, rfl⟩ | ⟨_, _, _, rfl⟩ | ⟨_, b, o, c, he, h1, h2, h3⟩
  · simp at hp
  · simp at hp
  · cases he
    exact ⟨b, o, rfl, h1, Bs.head h3 h2 k hk (by omega)⟩
set_option maxRecDepth 100000 in
set_option maxHeartbeats 4000000 in
theorem back_any (f : Fl) (ps : List Fl) (A1 A2 A3 : Option Addr) (c1 c2 c3 : Nat) (AB AM : Option Addr) (CB CM : Nat) (B M : List UInt8) (cut : Int) (w : World) (hL : PA.Laid w) (hv : DVal w f ps A1 c1 A2 c2 A3 c3) (hf : DedFit f ps) (hl : f.np ≤ 9223372036854775807) (hb : Bs w (.slice AB B.length CB) B) (hm : Bs w (.slice AM M.length CM) M) (hbl : B.length ≤ 140737488355328) (hml : M.length ≤ 140737488355328) (hcut : I64 cut) (HR : Hid (rightD f ps = false)) (HO : Hid (deedOf B = none)) :
    Calls Tryd.prog 4 #[.agg #[.int .i64 f.zxid, .int .u8 f.kind, .int .i64 f.session, .int .i64 f.turn, .int .i64 f.xid, .int .i64 f.time, .string (mkS f.path), .slice A1 f.data.length c1, .int .i64 f.owner, .int .i64 f.version, .int .i64 f.cversion, .int .i64 f.timeout, .int .i64 f.err, .int .i64 f.cver, .slice A2 f.mems.length c2, .slice A3 f.np c3], .slice AB B.length CB, .int .i64 cut, .slice AM M.length CM] w fun e w' => e = .returned (.bool true) ∧ Below w.heap.size w w' := by
  obtain ⟨w1, hw1⟩ : ∃ X, X = w.alloc (.cells #[.int .i64 f.zxid, .int .u8 f.kind, .int .i64 f.session, .int .i64 f.turn, .int .i64 f.xid, .int .i64 f.time, .string (mkS f.path), .slice A1 f.data.length c1, .int .i64 f.owner, .int .i64 f.version, .int .i64 f.cversion, .int .i64 f.timeout, .int .i64 f.err, .int .i64 f.cver, .slice A2 f.mems.length c2, .slice A3 f.np c3] 35) := ⟨_, rfl⟩
  have hB1 : Below w.heap.size w w1 := by rw [hw1]; exact (Below.refl _ _).alloc (Nat.le_refl _) _
  have hc1 : w1.heap[w.heap.size]? = some (.cells #[.int .i64 f.zxid, .int .u8 f.kind, .int .i64 f.session, .int .i64 f.turn, .int .i64 f.xid, .int .i64 f.time, .string (mkS f.path), .slice A1 f.data.length c1, .int .i64 f.owner, .int .i64 f.version, .int .i64 f.cversion, .int .i64 f.timeout, .int .i64 f.err, .int .i64 f.cver, .slice A2 f.mems.length c2, .slice A3 f.np c3] 35 (0, 0)) := by rw [hw1]; exact heap_alloc_new w _
  obtain ⟨pd, hpd⟩ : ∃ pd, pd = w.heap.size := ⟨_, rfl⟩
  have HF : Hid (∀ w', Below w1.heap.size w1 w' → Below w.heap.size w w' ∧ w'.heap[pd]? = some (.cells #[.int .i64 f.zxid, .int .u8 f.kind, .int .i64 f.session, .int .i64 f.turn, .int .i64 f.xid, .int .i64 f.time, .string (mkS f.path), .slice A1 f.data.length c1, .int .i64 f.owner, .int .i64 f.version, .int .i64 f.cversion, .int .i64 f.timeout, .int .i64 f.err, .int .i64 f.cver, .slice A2 f.mems.length c2, .slice A3 f.np c3] 35 (0, 0)) ∧ DVal w' f ps A1 c1 A2 c2 A3 c3 ∧ Bs w' (.slice AB B.length CB) B ∧ Bs w' (.slice AM M.length CM) M ∧ PA.Laid w') := by
    intro w' hB
    have hBw : Below w.heap.size w w' := hB1.trans (hB.mono hB1.size)
    refine ⟨hBw, ?_, hv.grow hBw, Bs.below' hb hBw, Bs.below' hm hBw, hL.below hBw⟩
    rw [hpd, hB.block _ (heap_lt hc1)]; exact hc1
  have HFIT : Hid (DedFit f ps) := hf
  have HCUT : Hid (I64 cut) := hcut
  have ha := awake_any w1 (hL.below hB1)
  rw [hw1] at ha
  clear hB1 hc1 hv hb hm hL hf hcut
  go_enter Tryd.func4, Tryd.ntmps4
  go_wp2_with fail
  refine ha.mono ?_
  rintro e w2 ⟨rfl, hB2⟩
  rw [← hw1] at hB2
  have HB2 : Hid (Below w1.heap.size w1 w2) := hB2
  clear ha hB2 hw1
  rw [← hpd]
  clear hpd
  as_aux_lemma =>
  have hg := great_any f ps A1 A2 A3 c1 c2 c3 w2 (HF.out w2 HB2.out).2.2.1 HFIT.out.len hl
  obtain ⟨z0, z1, z2, z3, z4, z5, z6, z7, z8, z9, z10, z11, z12, z13, z14, z15⟩ := cells16 (HF.out w2 HB2.out).2.1
  go_wp2_with fail
  refine hg.mono ?_
  rintro e w3 ⟨⟨gb, rfl⟩, hB3⟩
  have HB3 : Hid (Below w1.heap.size w1 w3) := HB2.out.trans (hB3.mono HB2.out.size)
  clear hg hB3 HB2 z0 z1 z2 z3 z4 z5 z6 z7 z8 z9 z10 z11 z12 z13 z14 z15
  as_aux_lemma =>
  cases gb with
  | true =>
    go_wp2
    go_ret
    exact ⟨rfl, (HF.out _ HB3.out).1⟩
  | false =>
  by_cases hB100 : 100000 < B.length
  · go_wp2
    go_ret
    exact ⟨rfl, (HF.out _ HB3.out).1⟩
  by_cases hM100 : 1000 < M.length
  · go_wp2
    go_ret
    exact ⟨rfl, (HF.out _ HB3.out).1⟩
  clear hbl hml
  have hp := put_no' f ps A1 A2 A3 c1 c2 c3 w3 (HF.out w3 HB3.out).2.2.2.2.2 (HF.out w3 HB3.out).2.2.1 HFIT.out HR.out
  obtain ⟨z0, z1, z2, z3, z4, z5, z6, z7, z8, z9, z10, z11, z12, z13, z14, z15⟩ := cells16 (HF.out w3 HB3.out).2.1
  go_wp2_with fail
  refine hp.mono ?_
  rintro e w4 ⟨rfl, hB4⟩
  have HB4 : Hid (Below w1.heap.size w1 w4) := HB3.out.trans (hB4.mono HB3.out.size)
  clear hp hB4 HB3 z0 z1 z2 z3 z4 z5 z6 z7 z8 z9 z10 z11 z12 z13 z14 z15
  as_aux_lemma =>
  have hr := right_any f ps A1 A2 A3 c1 c2 c3 w4 (HF.out w4 HB4.out).2.2.2.2.2 (HF.out w4 HB4.out).2.2.1 HFIT.out
  rw [HR.out] at hr
  obtain ⟨z0, z1, z2, z3, z4, z5, z6, z7, z8, z9, z10, z11, z12, z13, z14, z15⟩ := cells16 (HF.out w4 HB4.out).2.1
  go_wp2_with fail
  refine hr.mono ?_
  rintro e w5 ⟨rfl, hB5⟩
  have HB5 : Hid (Below w1.heap.size w1 w5) := HB4.out.trans (hB5.mono HB4.out.size)
  clear hr hB5 HB4 z0 z1 z2 z3 z4 z5 z6 z7 z8 z9 z10 z11 z12 z13 z14 z15
  as_aux_lemma =>
  have hgt := dget_any (HF.out w5 HB5.out).2.2.2.1 (by omega) (HF.out w5 HB5.out).2.2.2.2.2
  rw [HO.out] at hgt
  go_wp2_with fail
  refine hgt.mono ?_
  rintro e w6 hG
  obtain ⟨he, hB6⟩ : e = .returned (.tuple #[.agg #[.int .i64 0, .int .u8 0, .int .i64 0, .int .i64 0, .int .i64 0, .int .i64 0, .string ⟨#[]⟩, .slice none 0 0, .int .i64 0, .int .i64 0, .int .i64 0, .int .i64 0, .int .i64 0, .int .i64 0, .slice none 0 0, .slice none 0 0], .int .i64 4]) ∧ Below w5.heap.size w5 w6 := hG
  subst he
  have HB6 : Hid (Below w1.heap.size w1 w6) := HB5.out.trans (hB6.mono HB5.out.size)
  clear hgt hB6 HB5
  as_aux_lemma =>
  obtain ⟨w7, hw7⟩ : ∃ X, X = w6.alloc (.cells #[.int .i64 0, .int .u8 0, .int .i64 0, .int .i64 0, .int .i64 0, .int .i64 0, .string ⟨#[]⟩, .slice none 0 0, .int .i64 0, .int .i64 0, .int .i64 0, .int .i64 0, .int .i64 0, .int .i64 0, .slice none 0 0, .slice none 0 0] 35) := ⟨_, rfl⟩
  have hB7 : Below w6.heap.size w6 w7 := by rw [hw7]; exact (Below.refl _ _).alloc (Nat.le_refl _) _
  have HB7 : Hid (Below w1.heap.size w1 w7) := HB6.out.trans (hB7.mono HB6.out.size)
  have hsd : Calls Tryd.prog 19 #[.agg #[.int .i64 0, .int .u8 0, .int .i64 0, .int .i64 0, .int .i64 0, .int .i64 0, .string ⟨#[]⟩, .slice none 0 0, .int .i64 0, .int .i64 0, .int .i64 0, .int .i64 0, .int .i64 0, .int .i64 0, .slice none 0 0, .slice none 0 0], .agg #[.int .i64 0, .int .u8 0, .int .i64 0, .int .i64 0, .int .i64 0, .int .i64 0, .string ⟨#[]⟩, .slice none 0 0, .int .i64 0, .int .i64 0, .int .i64 0, .int .i64 0, .int .i64 0, .int .i64 0, .slice none 0 0, .slice none 0 0]] w7 fun e w' => e = .returned (.bool true) ∧ Below w7.heap.size w7 w' :=
    sameD_any Fz [] none none none none none none 0 0 0 0 0 0 w7 (by decide) (by decide) (by decide) rfl (fun p hp => by simp at hp) (dval_nil rfl rfl rfl) (dval_nil rfl rfl rfl)
  rw [hw7] at hsd
  clear hB7 HB6
  go_wp2_with fail
  refine hsd.mono ?_
  rintro e w8 ⟨rfl, hB8⟩
  rw [← hw7] at hB8
  have HB8 : Hid (Below w1.heap.size w1 w8) := HB7.out.trans (hB8.mono HB7.out.size)
  clear hsd hB8 HB7 hw7
  as_aux_lemma =>
  go_wp2
  go_ret
  exact ⟨rfl, (HF.out _ HB8.out).1⟩
end Go.Proofs.YtbbllgpocjipjaaDoor.DD.B1
