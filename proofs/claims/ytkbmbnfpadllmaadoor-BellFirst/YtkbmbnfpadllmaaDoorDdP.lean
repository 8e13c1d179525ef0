/- Parts in memory; what fits of leaves; fitParts. -/
import Derived.Test.YtkbmbnfpadllmaaDoorDdF
import Derived.Test.YtkbmbnfpadllmaaDoorDdK
namespace Go.Proofs.YtkbmbnfpadllmaaDoor.DD
open Go.RowKit

/- A deed's cells. -/
def DCells (w : World) (b o : Nat) (f : Fl) (A1 : Option Addr) (c1 : Nat) (A2 : Option Addr) (c2 : Nat) (A3 : Option Addr) (c3 : Nat) : Prop := w.cell? ⟨b, o, none⟩ = some (.int .i64 f.zxid) ∧ w.cell? ⟨b, o + 1, none⟩ = some (.int .u8 f.kind) ∧ w.cell? ⟨b, o + 2, none⟩ = some (.int .i64 f.session) ∧ w.cell? ⟨b, o + 3, none⟩ = some (.int .i64 f.turn) ∧ w.cell? ⟨b, o + 4, none⟩ = some (.int .i64 f.xid) ∧ w.cell? ⟨b, o + 5, none⟩ = some (.int .i64 f.time) ∧ w.cell? ⟨b, o + 6, none⟩ = some (.string (mkS f.path)) ∧ w.cell? ⟨b, o + 7, none⟩ = some (.slice A1 f.data.length c1) ∧ w.cell? ⟨b, o + 8, none⟩ = some (.int .i64 f.owner) ∧ w.cell? ⟨b, o + 9, none⟩ = some (.int .i64 f.version) ∧ w.cell? ⟨b, o + 10, none⟩ = some (.int .i64 f.cversion) ∧ w.cell? ⟨b, o + 11, none⟩ = some (.int .i64 f.timeout) ∧ w.cell? ⟨b, o + 12, none⟩ = some (.int .i64 f.err) ∧ w.cell? ⟨b, o + 13, none⟩ = some (.int .i64 f.cver) ∧ w.cell? ⟨b, o + 14, none⟩ = some (.slice A2 f.mems.length c2) ∧ w.cell? ⟨b, o + 15, none⟩ = some (.slice A3 f.np c3)
theorem DCells.keep {w w' : World} {b o : Nat} {f : Fl} {A1 A2 A3 : Option Addr} {c1 c2 c3 : Nat} (hc : DCells w b o f A1 c1 A2 c2 A3 c3) (h : ∀ o', w'.cell? ⟨b, o', none⟩ = w.cell? ⟨b, o', none⟩) : DCells w' b o f A1 c1 A2 c2 A3 c3 := by
  obtain ⟨h0, h1, h2, h3, h4, h5, h6, h7, h8, h9, h10, h11, h12, h13, h14, h15⟩ := hc
  exact ⟨(h (o)).trans h0, (h (o + 1)).trans h1, (h (o + 2)).trans h2, (h (o + 3)).trans h3, (h (o + 4)).trans h4, (h (o + 5)).trans h5, (h (o + 6)).trans h6, (h (o + 7)).trans h7, (h (o + 8)).trans h8, (h (o + 9)).trans h9, (h (o + 10)).trans h10, (h (o + 11)).trans h11, (h (o + 12)).trans h12, (h (o + 13)).trans h13, (h (o + 14)).trans h14, (h (o + 15)).trans h15⟩
/- What a deed's slices hold, all of it below block B. -/
structure DRest (w : World) (B : Nat) (f : Fl) (A1 : Option Addr) (c1 : Nat) (A2 : Option Addr) (c2 : Nat) : Prop where
  bs : Bs w (.slice A1 f.data.length c1) f.data
  bsB : ∀ k, bk (.slice A1 f.data.length c1) = some k → k < B
  ms : Mems w (.slice A2 f.mems.length c2) f.mems
  msB : ∀ k, bk (.slice A2 f.mems.length c2) = some k → k < B
theorem Bs.below {w w' : World} {B : Nat} {v : Value} {l : List UInt8} (h : Bs w v l) (hb : Below B w w') (hk : ∀ k, bk v = some k → k < B) : Bs w' v l := by
  rcases h with h | h | ⟨h0, b, o, c, rfl, h1, h2, h3⟩
  · exact .inl h
  · exact .inr (.inl h)
  · have hB := hk b (bk_pos h0)
    refine .inr (.inr ⟨h0, b, o, c, rfl, h1, Nat.lt_of_lt_of_le h2 hb.size, fun j hj => ?_⟩)
    rw [hb.cell (p := ⟨b, o + j, none⟩) hB]
    exact h3 j hj
theorem DRest.below {w w' : World} {B : Nat} {f : Fl} {A1 A2 : Option Addr} {c1 c2 : Nat} (h : DRest w B f A1 c1 A2 c2) (hb : Below B w w') : DRest w' B f A1 c1 A2 c2 := ⟨Bs.below h.bs hb h.bsB, h.bsB, h.ms.below hb h.msB, h.msB⟩
def Prts (w : World) (B : Nat) (v : Value) (ps : List Fl) : Prop :=
  (v = .slice none 0 0 ∧ ps = []) ∨ (∃ ad c, v = .slice (some ad) 0 c ∧ ps = []) ∨ (0 < ps.length ∧ ∃ b o c, v = .slice (some ⟨b, o, none⟩) ps.length c ∧ ps.length ≤ c ∧ b < B ∧ B ≤ w.heap.size ∧
    ∀ j (h : j < ps.length), ∃ A1 c1 A2 c2 A3 c3, DCells w b (o + j * 16) (ps[j]'h) A1 c1 A2 c2 A3 c3 ∧ DRest w B (ps[j]'h) A1 c1 A2 c2)
theorem Prts.form {w : World} {B : Nat} {v : Value} {ps : List Fl} (h : Prts w B v ps) : ∃ A C, v = .slice A ps.length C := by
  rcases h with ⟨rfl, rfl⟩ | ⟨ad, c, rfl, rfl⟩ | ⟨_, b, o, c, rfl, _⟩
  · exact ⟨none, 0, rfl⟩
  · exact ⟨_, _, rfl⟩
  · exact ⟨_, _, rfl⟩
theorem Prts.below {w w' : World} {B : Nat} {v : Value} {ps : List Fl} (h : Prts w B v ps) (hb : Below B w w') : Prts w' B v ps := by
  rcases h with h | h | ⟨h0, b, o, c, rfl, h1, h2, h3, h4⟩
  · exact .inl h
  · exact .inr (.inl h)
  · refine .inr (.inr ⟨h0, b, o, c, rfl, h1, h2, Nat.le_trans h3 hb.size, fun j hj => ?_⟩)
    obtain ⟨A1, c1, A2, c2, A3, c3, q1, q2⟩ := h4 j hj
    exact ⟨A1, c1, A2, c2, A3, c3, q1.keep (fun o' => hb.cell (p := ⟨b, o', none⟩) h2), q2.below hb⟩
theorem Prts.at' {w : World} {B n : Nat} {A : Option Addr} {C : Nat} {ps : List Fl} (h : Prts w B (.slice A n C) ps) (j : Nat) (hj : j < ps.length) : ∃ b o, A = some ⟨b, o, none⟩ ∧ b < B ∧ B ≤ w.heap.size ∧ ∃ A1 c1 A2 c2 A3 c3, DCells w b (o + j * 16) (ps[j]'hj) A1 c1 A2 c2 A3 c3 ∧ DRest w B (ps[j]'hj) A1 c1 A2 c2 := by
  rcases h with ⟨_, rfl⟩ | ⟨_, _, _, rfl⟩ | ⟨_, b, o, c, he, _, h2, h3, h4⟩
  · simp at hj
  · simp at hj
  · cases he
    exact ⟨b, o, rfl, h2, h3, h4 j hj⟩
theorem fits_leaf (f : Fl) (A1 A2 A3 : Option Addr) (c1 c2 c3 : Nat) (w : World) (hL : PA.Laid w) (hn : isNode f.kind = true) :
    Calls Tryd.prog 33 #[.agg #[.int .i64 f.zxid, .int .u8 f.kind, .int .i64 f.session, .int .i64 f.turn, .int .i64 f.xid, .int .i64 f.time, .string (mkS f.path), .slice A1 f.data.length c1, .int .i64 f.owner, .int .i64 f.version, .int .i64 f.cversion, .int .i64 f.timeout, .int .i64 f.err, .int .i64 f.cver, .slice A2 f.mems.length c2, .slice A3 f.np c3]] w fun e w' => e = .returned (.bool (leafB f)) ∧ Below w.heap.size w w' := by
  have hk := node_kind hn
  have key := fits_core f.zxid f.kind f.session f.turn f.xid f.time f.owner f.version f.cversion f.timeout f.err f.cver f.path A1 A2 A3 f.data.length f.mems.length f.np c1 c2 c3 w hL (by omega) (fillI f) (bareB f) (PA.right f.path && (decide (f.kind = 3) || decide (f.path ≠ [47]))) (fun w' => filled_any f A1 A2 A3 c1 c2 c3 w') (fun h1 h9 => bare_test f h1 h9) (fun _ _ w' hB => by
    rcases hk with e | e | e
    · rw [e]
      refine (kind12 _ 1 _ _ _ _ _ _ _ _ _ _ _ _ _ _ w' (hL.below hB) (.inl rfl)).mono ?_
      rintro e w'' ⟨rfl, hB⟩
      exact ⟨by simp, hB⟩
    · rw [e]
      refine (kind12 _ 2 _ _ _ _ _ _ _ _ _ _ _ _ _ _ w' (hL.below hB) (.inr rfl)).mono ?_
      rintro e w'' ⟨rfl, hB⟩
      exact ⟨by simp, hB⟩
    · rw [e]
      refine (kind3 _ _ _ _ _ _ _ _ _ _ _ _ _ _ _ w' (hL.below hB)).mono ?_
      rintro e w'' ⟨rfl, hB⟩
      exact ⟨by simp, hB⟩)
  refine key.mono ?_
  rintro e w' ⟨rfl, hB⟩
  refine ⟨ret_b ?_, hB⟩
  rw [decide_eq_true (show 1 ≤ f.kind ∧ f.kind ≤ 9 by omega)]
  unfold leafB comB numsB
  rw [hn]
  simp [Bool.and_assoc]
theorem and_multi {k : Int} (h : 0 ≤ k ∧ k < 256) : (bits BinOp.and IntKind.u16 (PA.kTab k.toNat) 2048 == 0) = !isNode k := by
  by_cases hk : 1 ≤ k ∧ k ≤ 9
  · have : ∀ j : Fin 10, 0 < j.val → (bits BinOp.and IntKind.u16 (PA.kTab j.val) 2048 == 0) = !isNode (j.val : Int) := by decide +kernel
    have := this ⟨k.toNat, by omega⟩ (by dsimp only; omega)
    dsimp only at this
    rwa [show ((k.toNat : Nat) : Int) = k by omega] at this
  · rw [kTab_zero h.1 hk]
    have : isNode k = false := by simp [isNode]; omega
    rw [this]; decide +kernel
theorem and_close {k : Int} (h : 0 ≤ k ∧ k < 256) : (bits BinOp.and IntKind.u16 (PA.kTab k.toNat) 1024 == 0) = !decide (k = 2) := by
  by_cases hk : 1 ≤ k ∧ k ≤ 9
  · have : ∀ j : Fin 10, 0 < j.val → (bits BinOp.and IntKind.u16 (PA.kTab j.val) 1024 == 0) = !decide ((j.val : Int) = 2) := by decide +kernel
    have := this ⟨k.toNat, by omega⟩ (by dsimp only; omega)
    dsimp only at this
    rwa [show ((k.toNat : Nat) : Int) = k by omega] at this
  · rw [kTab_zero h.1 hk]
    have : decide (k = 2) = false := by simp; omega
    rw [this]; decide +kernel
/- The bit of where parts stand, and whether all nodes' deeds may stand there. -/
def thereOf (all : Bool) : Int := if all = true then 2048 else 1024
theorem and_there (all : Bool) {k : Int} (h : 0 ≤ k ∧ k < 256) : (bits BinOp.and IntKind.u16 (PA.kTab k.toNat) (thereOf all) == 0) = !(if all = true then isNode k else decide (k = 2)) := by
  cases all with
  | true => exact and_multi h
  | false => exact and_close h
theorem all_take {ps : List Fl} {q : Fl → Bool} {k : Nat} (h : k < ps.length) (ht : (ps.take k).all q = true) : (ps.take (k + 1)).all q = q (ps[k]'h) := by
  rw [List.take_succ_eq_append_getElem h, List.all_append, ht]; simp
theorem all_bad {ps : List Fl} {q : Fl → Bool} {k : Nat} (h : k < ps.length) (hq : q (ps[k]'h) = false) : ps.all q = false := by
  rw [List.all_eq_false]
  exact ⟨_, List.getElem_mem h, by simp [hq]⟩
set_option maxRecDepth 100000 in
set_option maxHeartbeats 4000000 in
theorem fitParts_any (all : Bool) {w : World} {v : Value} {ps : List Fl} (h : Prts w w.heap.size v ps) (hl : ps.length ≤ 9223372036854775807) (hf : ∀ p ∈ ps, 0 ≤ p.kind ∧ p.kind < 256) (hL : PA.Laid w) :
    Calls Tryd.prog 56 #[v, .int .u16 (thereOf all)] w fun e w' => e = .returned (.bool (ps.all (partB all))) ∧ Below w.heap.size w w' := by
  have HP : Hid (Prts w w.heap.size v ps) := h
  have HF : Hid (∀ p ∈ ps, 0 ≤ p.kind ∧ p.kind < 256) := hf
  have HL : Hid (PA.Laid w) := hL
  obtain ⟨A, C, rfl⟩ := h.form
  clear h hf hL
  generalize hX : ps.all (partB all) = X
  have HX : Hid (ps.all (partB all) = X) := hX
  clear hX
  generalize hn : ps.length = n at hl HP ⊢
  have HN : Hid (ps.length = n) := hn
  clear hn
  go_enter Tryd.func56, Tryd.ntmps56
  go_wp2_with fail
  go_loopw [9] (fun c wr => ∃ k : Nat, k ≤ n ∧ c = .int .i64 k ∧ (ps.take k).all (partB all) = true ∧ Below w.heap.size w wr) (fun c _ => n - (intOf c).toNat)
  case atStart => exact ⟨0, by omega, rfl, rfl, Below.refl _ _⟩
  case round =>
    obtain ⟨k, hk, rfl, ht, hB⟩ := hrel
    have HT : Hid ((ps.take k).all (partB all) = true) := ht
    have HB : Hid (Below w.heap.size w wr) := hB
    clear ht hB
    by_cases hlt : k < n
    · have hkl : k < ps.length := by have := HN.out; omega
      obtain ⟨b, o, rfl, -, -, A1, c1, A2, c2, A3, c3, hcl, -⟩ := (HP.out.below HB.out).at' k hkl
      have hfk := HF.out _ (List.getElem_mem hkl)
      have HS : Hid ((ps.take (k + 1)).all (partB all) = partB all (ps[k]'hkl)) := all_take hkl HT.out
      have HV : Hid (partB all (ps[k]'hkl) = false → X = false) := fun h => by rw [← HX.out]; exact all_bad hkl h
      generalize (ps[k]'hkl) = f at hcl hfk HS HV
      obtain ⟨z0, z1, z2, z3, z4, z5, z6, z7, z8, z9, z10, z11, z12, z13, z14, z15⟩ := hcl
      have ho := fun w' (hw : Below w.heap.size w w') => of_any f.kind hfk w' (HL.out.below hw)
      have ha := and_there all hfk
      obtain ⟨w1, hw1⟩ : ∃ X, X = wr.alloc (.cells #[.int .i64 f.zxid, .int .u8 f.kind, .int .i64 f.session, .int .i64 f.turn, .int .i64 f.xid, .int .i64 f.time, .string (mkS f.path), .slice A1 f.data.length c1, .int .i64 f.owner, .int .i64 f.version, .int .i64 f.cversion, .int .i64 f.timeout, .int .i64 f.err, .int .i64 f.cver, .slice A2 f.mems.length c2, .slice A3 f.np c3] 32) := ⟨_, rfl⟩
      have hB1 : Below wr.heap.size wr w1 := by rw [hw1]; exact (Below.refl _ _).alloc (Nat.le_refl _) _
      have HC1 : Hid (w1.heap[wr.heap.size]? = some (.cells #[.int .i64 f.zxid, .int .u8 f.kind, .int .i64 f.session, .int .i64 f.turn, .int .i64 f.xid, .int .i64 f.time, .string (mkS f.path), .slice A1 f.data.length c1, .int .i64 f.owner, .int .i64 f.version, .int .i64 f.cversion, .int .i64 f.timeout, .int .i64 f.err, .int .i64 f.cver, .slice A2 f.mems.length c2, .slice A3 f.np c3] 32 (0, 0))) := by rw [hw1]; exact heap_alloc_new wr _
      have HB1 : Hid (Below w.heap.size w w1) := HB.out.trans (hB1.mono HB.out.size)
      have ho1 := ho w1 HB1.out
      rw [hw1] at ho1
      generalize PA.kTab f.kind.toNat = T at ho ha ho1
      generalize thereOf all = TH at ha ⊢
      clear ho hB1
      go_wp2_with fail
      refine ho1.mono ?_
      rintro e w2 ⟨rfl, hw2⟩
      rw [← hw1] at hw2
      subst hw2
      clear ho1 hw1 z0 z1 z2 z3 z4 z5 z6 z7 z8 z9 z10 z11 z12 z13 z14 z15
      obtain ⟨y0, y1, y2, y3, y4, y5, y6, y7, y8, y9, y10, y11, y12, y13, y14, y15⟩ := cells16 HC1.out
      cases hnd : (if all = true then isNode f.kind else decide (f.kind = 2)) with
      | false =>
        rw [hnd] at ha
        have hX : X = false := HV.out (by unfold partB; rw [hnd]; rfl)
        subst hX
        simp only [Bool.not_false] at ha
        go_wp2
        go_ret
        exact ⟨rfl, HB1.out⟩
      | true =>
        rw [hnd] at ha
        simp only [Bool.not_true] at ha
        have hnode : isNode f.kind = true := by
          cases all with
          | true => simpa using hnd
          | false => simp at hnd; rw [hnd]; rfl
        have hh := headOf_any f.zxid f.kind f.session f.turn f.xid f.time f.owner f.version f.cversion f.timeout f.err f.cver (mkS f.path) (.slice A1 f.data.length c1) (.slice A2 f.mems.length c2) (.slice A3 f.np c3) w2
        have hneq := fun w => headNeq w f.zxid f.session f.turn f.xid f.time
        have HE : Hid ((decide (f.zxid = 0) && decide (f.session = 0) && decide (f.turn = 0) && decide (f.xid = 0) && decide (f.time = 0)) = headZ f) := rfl
        rw [HE.out] at hneq
        clear HE
        go_wp2_with fail
        refine hh.mono ?_
        rintro e w3 ⟨rfl, hB3⟩
        have HB3 : Hid (Below w.heap.size w w3) := HB1.out.trans (hB3.mono HB1.out.size)
        have HC3 : Hid (w3.heap[wr.heap.size]? = some (.cells #[.int .i64 f.zxid, .int .u8 f.kind, .int .i64 f.session, .int .i64 f.turn, .int .i64 f.xid, .int .i64 f.time, .string (mkS f.path), .slice A1 f.data.length c1, .int .i64 f.owner, .int .i64 f.version, .int .i64 f.cversion, .int .i64 f.timeout, .int .i64 f.err, .int .i64 f.cver, .slice A2 f.mems.length c2, .slice A3 f.np c3] 32 (0, 0))) := by show _ = _; rw [hB3.block _ (heap_lt HC1.out)]; exact HC1.out
        clear hh hB3 y0 y1 y2 y3 y4 y5 y6 y7 y8 y9 y10 y11 y12 y13 y14 y15 HB1 HC1
        obtain ⟨y0, y1, y2, y3, y4, y5, y6, y7, y8, y9, y10, y11, y12, y13, y14, y15⟩ := cells16 HC3.out
        cases hz : headZ f with
        | false =>
          rw [hz] at hneq
          simp only [Bool.not_false] at hneq
          have hX : X = false := HV.out (by unfold partB; rw [hnd, hz]; rfl)
          subst hX
          go_wp2
          go_ret
          exact ⟨rfl, HB3.out⟩
        | true =>
          rw [hz] at hneq
          simp only [Bool.not_true] at hneq
          have hfit := fits_leaf f A1 A2 A3 c1 c2 c3 w3 (HL.out.below HB3.out) hnode
          have HQ : Hid (partB all f = leafB f) := by show _ = _; unfold partB; rw [hnd, hz]; rfl
          generalize leafB f = LF at hfit HQ
          go_wp2_with fail
          refine hfit.mono ?_
          rintro e w4 ⟨rfl, hB4⟩
          have HB4 : Hid (Below w.heap.size w w4) := HB3.out.trans (hB4.mono HB3.out.size)
          clear hfit hB4 y0 y1 y2 y3 y4 y5 y6 y7 y8 y9 y10 y11 y12 y13 y14 y15 HB3 HC3 hneq
          cases LF with
          | false =>
            have hX : X = false := HV.out HQ.out
            subst hX
            go_wp2
            go_ret
            exact ⟨rfl, HB4.out⟩
          | true =>
            have HS2 : Hid ((ps.take (k + 1)).all (partB all) = true) := HS.out.trans HQ.out
            go_wp2
            exact ⟨⟨k + 1, by omega, by go_num, HS2.out, HB4.out⟩, by simp [intOf]; omega⟩
    · have hkn : k = n := by omega
      have hX : X = true := by
        rw [← HX.out, ← HT.out, hkn, ← HN.out, List.take_length]
      subst hX
      go_wp2
      go_ret
      exact ⟨rfl, HB.out⟩
end Go.Proofs.YtkbmbnfpadllmaaDoor.DD
