/- Calls in memory; the walks of fits, of fitParts and of Right. -/
import Derived.Test.YtmojplgoohnmdaaDoorAkI
import Derived.Test.YtmojplgoohnmdaaDoorAkF
namespace Go.Proofs.YtmojplgoohnmdaaDoor.AK
set_option linter.unusedVariables false
open Go.RowKit
set_option linter.unusedVariables false

/- A call's cells. -/
def QCells (w : World) (b o : Nat) (f : Qf) (A1 : Option Addr) (c1 : Nat) (A2 : Option Addr) (c2 : Nat) (A3 : Option Addr) (c3 : Nat) : Prop := w.cell? ⟨b, o, none⟩ = some (.int .u8 f.kind) ∧ w.cell? ⟨b, o + 1, none⟩ = some (.int .i64 f.xid) ∧ w.cell? ⟨b, o + 2, none⟩ = some (.int .i64 f.session) ∧ w.cell? ⟨b, o + 3, none⟩ = some (.int .i64 f.turn) ∧ w.cell? ⟨b, o + 4, none⟩ = some (.string (mkS f.path)) ∧ w.cell? ⟨b, o + 5, none⟩ = some (.slice A1 f.data.length c1) ∧ w.cell? ⟨b, o + 6, none⟩ = some (.int .i64 f.flags) ∧ w.cell? ⟨b, o + 7, none⟩ = some (.int .i64 f.version) ∧ w.cell? ⟨b, o + 8, none⟩ = some (.bool f.watch) ∧ w.cell? ⟨b, o + 9, none⟩ = some (.int .u8 f.sort) ∧ w.cell? ⟨b, o + 10, none⟩ = some (.int .i64 f.last) ∧ w.cell? ⟨b, o + 11, none⟩ = some (.int .i64 f.timeout) ∧ w.cell? ⟨b, o + 12, none⟩ = some (.int .i64 f.frm) ∧ w.cell? ⟨b, o + 13, none⟩ = some (.slice A2 f.mems.length c2) ∧ w.cell? ⟨b, o + 14, none⟩ = some (.slice A3 f.np c3)
theorem QCells.keep {w w' : World} {b o : Nat} {f : Qf} {A1 A2 A3 : Option Addr} {c1 c2 c3 : Nat} (hc : QCells w b o f A1 c1 A2 c2 A3 c3) (h : ∀ o', w'.cell? ⟨b, o', none⟩ = w.cell? ⟨b, o', none⟩) : QCells w' b o f A1 c1 A2 c2 A3 c3 := by
  obtain ⟨h0, h1, h2, h3, h4, h5, h6, h7, h8, h9, h10, h11, h12, h13, h14⟩ := hc
  exact ⟨(h (o)).trans h0, (h (o + 1)).trans h1, (h (o + 2)).trans h2, (h (o + 3)).trans h3, (h (o + 4)).trans h4, (h (o + 5)).trans h5, (h (o + 6)).trans h6, (h (o + 7)).trans h7, (h (o + 8)).trans h8, (h (o + 9)).trans h9, (h (o + 10)).trans h10, (h (o + 11)).trans h11, (h (o + 12)).trans h12, (h (o + 13)).trans h13, (h (o + 14)).trans h14⟩
/- What a call's slices hold, all of it below block B. -/
structure QRest (w : World) (B : Nat) (f : Qf) (A1 : Option Addr) (c1 : Nat) (A2 : Option Addr) (c2 : Nat) : Prop where
  bs : Bs w (.slice A1 f.data.length c1) f.data
  bsB : ∀ k, bk (.slice A1 f.data.length c1) = some k → k < B
  ms : Mems w (.slice A2 f.mems.length c2) f.mems
  msB : ∀ k, bk (.slice A2 f.mems.length c2) = some k → k < B
theorem Bs.below {w w' : World} {B : Nat} {v : Value} {l : List UInt8} (h : Bs w v l) (hb : Below B w w') (hk : ∀ k, bk v = some k → k < B) : Bs w' v l := by
  rcases h with h | h | ⟨h0, b, o, c, rfl, h1, h2, h3⟩
  · exact .inl h
  · exact .inr (.inl h)
  · have hB := hk b (bk_pos h0)
    refine .inr (.inr ⟨h0, b, o, c, rfl, h1, Nat.lt_of_lt_of_le h2 hb.size, fun j hj => ?_⟩)
    rw [hb.cell (p := ⟨b, o + j, none⟩) hB]
    exact h3 j hj
theorem QRest.below {w w' : World} {B : Nat} {f : Qf} {A1 A2 : Option Addr} {c1 c2 : Nat} (h : QRest w B f A1 c1 A2 c2) (hb : Below B w w') : QRest w' B f A1 c1 A2 c2 := ⟨Bs.below h.bs hb h.bsB, h.bsB, h.ms.below hb h.msB, h.msB⟩
def QPrts (w : World) (B : Nat) (v : Value) (ps : List Qf) : Prop :=
  (v = .slice none 0 0 ∧ ps = []) ∨ (∃ ad c, v = .slice (some ad) 0 c ∧ ps = []) ∨ (0 < ps.length ∧ ∃ b o c, v = .slice (some ⟨b, o, none⟩) ps.length c ∧ ps.length ≤ c ∧ b < B ∧ B ≤ w.heap.size ∧
    ∀ j (h : j < ps.length), ∃ A1 c1 A2 c2 A3 c3, QCells w b (o + j * 15) (ps[j]'h) A1 c1 A2 c2 A3 c3 ∧ QRest w B (ps[j]'h) A1 c1 A2 c2)
theorem QPrts.form {w : World} {B : Nat} {v : Value} {ps : List Qf} (h : QPrts w B v ps) : ∃ A C, v = .slice A ps.length C := by
  rcases h with ⟨rfl, rfl⟩ | ⟨ad, c, rfl, rfl⟩ | ⟨_, b, o, c, rfl, _⟩
  · exact ⟨none, 0, rfl⟩
  · exact ⟨_, _, rfl⟩
  · exact ⟨_, _, rfl⟩
theorem QPrts.below {w w' : World} {B : Nat} {v : Value} {ps : List Qf} (h : QPrts w B v ps) (hb : Below B w w') : QPrts w' B v ps := by
  rcases h with h | h | ⟨h0, b, o, c, rfl, h1, h2, h3, h4⟩
  · exact .inl h
  · exact .inr (.inl h)
  · refine .inr (.inr ⟨h0, b, o, c, rfl, h1, h2, Nat.le_trans h3 hb.size, fun j hj => ?_⟩)
    obtain ⟨A1, c1, A2, c2, A3, c3, q1, q2⟩ := h4 j hj
    exact ⟨A1, c1, A2, c2, A3, c3, q1.keep (fun o' => hb.cell (p := ⟨b, o', none⟩) h2), q2.below hb⟩
theorem QPrts.at' {w : World} {B n : Nat} {A : Option Addr} {C : Nat} {ps : List Qf} (h : QPrts w B (.slice A n C) ps) (j : Nat) (hj : j < ps.length) : ∃ b o, A = some ⟨b, o, none⟩ ∧ b < B ∧ B ≤ w.heap.size ∧ ∃ A1 c1 A2 c2 A3 c3, QCells w b (o + j * 15) (ps[j]'hj) A1 c1 A2 c2 A3 c3 ∧ QRest w B (ps[j]'hj) A1 c1 A2 c2 := by
  rcases h with ⟨_, rfl⟩ | ⟨_, _, _, rfl⟩ | ⟨_, b, o, c, he, _, h2, h3, h4⟩
  · simp at hj
  · simp at hj
  · cases he
    exact ⟨b, o, rfl, h2, h3, h4 j hj⟩
theorem QPrts.grow {w w' : World} {v : Value} {ps : List Qf} (h : QPrts w w.heap.size v ps) (hb : Below w.heap.size w w') : QPrts w' w'.heap.size v ps := by
  have h := h.below hb
  have := hb.size
  rcases h with h | h | ⟨p0, b, o, c, e, q1, q2, q3, q4⟩
  · exact .inl h
  · exact .inr (.inl h)
  · exact .inr (.inr ⟨p0, b, o, c, e, q1, by omega, Nat.le_refl _, fun j hj => by
      obtain ⟨A1, c1, A2, c2, A3, c3, r1, r2⟩ := q4 j hj
      exact ⟨A1, c1, A2, c2, A3, c3, r1, r2.bs, fun k hk => by have := r2.bsB k hk; omega, r2.ms, fun k hk => by have := r2.msB k hk; omega⟩⟩)
/- A call whose slices hold what it says. -/
structure QVal (w : World) (f : Qf) (ps : List Qf) (A1 : Option Addr) (c1 : Nat) (A2 : Option Addr) (c2 : Nat) (A3 : Option Addr) (c3 : Nat) : Prop where
  bs : Bs w (.slice A1 f.data.length c1) f.data
  ms : Mems w (.slice A2 f.mems.length c2) f.mems
  pr : QPrts w w.heap.size (.slice A3 f.np c3) ps
theorem Bs.below' {w w' : World} {v : Value} {l : List UInt8} (h : Bs w v l) (hb : Below w.heap.size w w') : Bs w' v l := Bs.below h hb (fun _ hk => h.lt hk)
theorem QVal.grow {w w' : World} {f : Qf} {ps : List Qf} {A1 A2 A3 : Option Addr} {c1 c2 c3 : Nat} (h : QVal w f ps A1 c1 A2 c2 A3 c3) (hb : Below w.heap.size w w') : QVal w' f ps A1 c1 A2 c2 A3 c3 := ⟨Bs.below' h.bs hb, h.ms.below' hb, h.pr.grow hb⟩
theorem all_take {ps : List Qf} {q : Qf → Bool} {k : Nat} (h : k < ps.length) (ht : (ps.take k).all q = true) : (ps.take (k + 1)).all q = q (ps[k]'h) := by
  rw [List.take_succ_eq_append_getElem h, List.all_append, ht]; simp
theorem all_bad {ps : List Qf} {q : Qf → Bool} {k : Nat} (h : k < ps.length) (hq : q (ps[k]'h) = false) : ps.all q = false := by
  rw [List.all_eq_false]
  exact ⟨_, List.getElem_mem h, by simp [hq]⟩
theorem neb (a b : Int) (h : a ≠ b) : (a == b) = false ∧ (a != b) = true := by simp [h]
set_option maxRecDepth 100000 in
theorem fitParts_nil (A : Option Addr) (C : Nat) (w : World) : Calls Tryd.prog 77 #[.slice A 0 C] w fun e w' => e = .returned (.bool true) ∧ w' = w := by
  go_enter Tryd.func77, Tryd.ntmps77
  go_wp2_with fail
  refine wp_loop_rounds 1 ?_
  rw [rounds_succ]
  go_wp2
  go_ret
  exact ⟨rfl, rfl⟩
/- fits, over what fitParts says. -/
set_option maxRecDepth 100000 in
set_option maxHeartbeats 2000000 in
theorem fits_core (f : Qf) (A1 A2 A3 : Option Addr) (c1 c2 c3 : Nat) (w : World) (hL : QL w) (hk : 0 ≤ f.kind ∧ f.kind < 256) (P : Bool)
    (hp : fitQ f = true → ∀ w', Below w.heap.size w w' → Calls Tryd.prog 77 #[.slice A3 f.np c3] w' fun e w'' => e = .returned (.bool P) ∧ Below w'.heap.size w' w'') :
    Calls Tryd.prog 39 #[.agg #[.int .u8 f.kind, .int .i64 f.xid, .int .i64 f.session, .int .i64 f.turn, .string (mkS f.path), .slice A1 f.data.length c1, .int .i64 f.flags, .int .i64 f.version, .bool f.watch, .int .u8 f.sort, .int .i64 f.last, .int .i64 f.timeout, .int .i64 f.frm, .slice A2 f.mems.length c2, .slice A3 f.np c3]] w fun e w' => e = .returned (.bool (fitQ f && P)) ∧ Below w.heap.size w w' := by
  obtain ⟨w1, hw1⟩ : ∃ X, X = w.alloc (.cells #[.int .u8 f.kind, .int .i64 f.xid, .int .i64 f.session, .int .i64 f.turn, .string (mkS f.path), .slice A1 f.data.length c1, .int .i64 f.flags, .int .i64 f.version, .bool f.watch, .int .u8 f.sort, .int .i64 f.last, .int .i64 f.timeout, .int .i64 f.frm, .slice A2 f.mems.length c2, .slice A3 f.np c3] 29) := ⟨_, rfl⟩
  have hB1 : Below w.heap.size w w1 := by rw [hw1]; exact (Below.refl _ _).alloc (Nat.le_refl _) _
  have HC1 : Hid (w1.heap[w.heap.size]? = some (.cells #[.int .u8 f.kind, .int .i64 f.xid, .int .i64 f.session, .int .i64 f.turn, .string (mkS f.path), .slice A1 f.data.length c1, .int .i64 f.flags, .int .i64 f.version, .bool f.watch, .int .u8 f.sort, .int .i64 f.last, .int .i64 f.timeout, .int .i64 f.frm, .slice A2 f.mems.length c2, .slice A3 f.np c3] 29 (0, 0))) := by rw [hw1]; exact heap_alloc_new w _
  have HB1 : Hid (Below w.heap.size w w1) := hB1
  have hi := idle_any f A1 A2 A3 c1 c2 c3 w1 (hL.below hB1) hk
  rw [hw1] at hi
  have HPP : Hid _ := hp
  unfold fitQ at HPP ⊢
  have hwi0 := fun w' => within_any f A1 A2 A3 c1 c2 c3 w'
  generalize idleB f = I at hi HPP ⊢
  generalize withinB f = J at hwi0 HPP ⊢
  have HWI : Hid _ := hwi0
  clear hB1 hp hwi0
  go_enter Tryd.func39, Tryd.ntmps39
  go_wp2_with fail
  refine hi.mono ?_
  rintro e w2 ⟨rfl, hB2⟩
  rw [← hw1] at hB2
  have HB2 : Hid (Below w.heap.size w w2) := HB1.out.trans (hB2.mono HB1.out.size)
  have HC2 : Hid (w2.heap[w.heap.size]? = some (.cells #[.int .u8 f.kind, .int .i64 f.xid, .int .i64 f.session, .int .i64 f.turn, .string (mkS f.path), .slice A1 f.data.length c1, .int .i64 f.flags, .int .i64 f.version, .bool f.watch, .int .u8 f.sort, .int .i64 f.last, .int .i64 f.timeout, .int .i64 f.frm, .slice A2 f.mems.length c2, .slice A3 f.np c3] 29 (0, 0))) := by show _ = _; rw [hB2.block _ (heap_lt HC1.out)]; exact HC1.out
  clear hi hB2 hw1 HB1 HC1
  obtain ⟨z0, z1, z2, z3, z4, z5, z6, z7, z8, z9, z10, z11, z12, z13, z14⟩ := cells15 HC2.out
  as_aux_lemma =>
  cases I with
  | false =>
    go_wp2_with fail
    go_ret
    exact ⟨rfl, HB2.out⟩
  | true =>
    have hwi := HWI.out w2
    go_wp2_with fail
    refine hwi.mono ?_
    rintro e w3 ⟨rfl, hB3⟩
    have HB3 : Hid (Below w.heap.size w w3) := HB2.out.trans (hB3.mono HB2.out.size)
    have HC3 : Hid (w3.heap[w.heap.size]? = some (.cells #[.int .u8 f.kind, .int .i64 f.xid, .int .i64 f.session, .int .i64 f.turn, .string (mkS f.path), .slice A1 f.data.length c1, .int .i64 f.flags, .int .i64 f.version, .bool f.watch, .int .u8 f.sort, .int .i64 f.last, .int .i64 f.timeout, .int .i64 f.frm, .slice A2 f.mems.length c2, .slice A3 f.np c3] 29 (0, 0))) := by show _ = _; rw [hB3.block _ (heap_lt HC2.out)]; exact HC2.out
    clear hwi hB3 HB2 HC2 z0 z1 z2 z3 z4 z5 z6 z7 z8 z9 z10 z11 z12 z13 z14
    obtain ⟨z0, z1, z2, z3, z4, z5, z6, z7, z8, z9, z10, z11, z12, z13, z14⟩ := cells15 HC3.out
    as_aux_lemma =>
    cases J with
    | false =>
      go_wp2_with fail
      go_ret
      exact ⟨rfl, HB3.out⟩
    | true =>
      have hpp := HPP.out rfl w3 HB3.out
      go_wp2_with fail
      refine hpp.mono ?_
      rintro e w4 ⟨rfl, hB4⟩
      have HB4 : Hid (Below w.heap.size w w4) := HB3.out.trans (hB4.mono HB3.out.size)
      clear hpp hB4 HB3 HC3 z0 z1 z2 z3 z4 z5 z6 z7 z8 z9 z10 z11 z12 z13 z14
      go_wp2
      go_ret
      exact ⟨rfl, HB4.out⟩
theorem fits_leaf (f : Qf) (A1 A2 A3 : Option Addr) (c1 c2 c3 : Nat) (w : World) (hL : QL w) (hk : 0 ≤ f.kind ∧ f.kind < 256) (hn : has f.kind 10 = false) :
    Calls Tryd.prog 39 #[.agg #[.int .u8 f.kind, .int .i64 f.xid, .int .i64 f.session, .int .i64 f.turn, .string (mkS f.path), .slice A1 f.data.length c1, .int .i64 f.flags, .int .i64 f.version, .bool f.watch, .int .u8 f.sort, .int .i64 f.last, .int .i64 f.timeout, .int .i64 f.frm, .slice A2 f.mems.length c2, .slice A3 f.np c3]] w fun e w' => e = .returned (.bool (fitQ f)) ∧ Below w.heap.size w w' := by
  refine (fits_core f A1 A2 A3 c1 c2 c3 w hL hk true (fun hf w' hB => ?_)).mono ?_
  · rw [((fit_of hf).1.np hn)]
    refine (fitParts_nil A3 c3 w').mono ?_
    rintro e w'' ⟨rfl, rfl⟩
    exact ⟨rfl, Below.refl _ _⟩
  · rintro e w' ⟨rfl, hB⟩
    exact ⟨retb (by simp), hB⟩
set_option maxRecDepth 100000 in
set_option maxHeartbeats 4000000 in
theorem fitParts_any {w : World} {v : Value} {ps : List Qf} (h : QPrts w w.heap.size v ps) (hl : ps.length ≤ 9223372036854775807) (hf : ∀ p ∈ ps, 0 ≤ p.kind ∧ p.kind < 256) (hL : QL w) :
    Calls Tryd.prog 77 #[v] w fun e w' => e = .returned (.bool (ps.all partQ)) ∧ Below w.heap.size w w' := by
  have HP : Hid (QPrts w w.heap.size v ps) := h
  have HF : Hid (∀ p ∈ ps, 0 ≤ p.kind ∧ p.kind < 256) := hf
  have HL : Hid (QL w) := hL
  obtain ⟨A, C, rfl⟩ := h.form
  clear h hf hL
  generalize hX : ps.all partQ = X
  have HX : Hid (ps.all partQ = X) := hX
  clear hX
  generalize hn : ps.length = n at hl HP ⊢
  have HN : Hid (ps.length = n) := hn
  clear hn
  go_enter Tryd.func77, Tryd.ntmps77
  go_wp2_with fail
  go_loopw [7] (fun c wr => ∃ k : Nat, k ≤ n ∧ c = .int .i64 k ∧ (ps.take k).all partQ = true ∧ Below w.heap.size w wr) (fun c _ => n - (intOf c).toNat)
  case atStart => exact ⟨0, by omega, rfl, rfl, Below.refl _ _⟩
  case round =>
    obtain ⟨k, hk, rfl, ht, hB⟩ := hrel
    have HT : Hid ((ps.take k).all partQ = true) := ht
    have HB : Hid (Below w.heap.size w wr) := hB
    clear ht hB
    by_cases hlt : k < n
    · have hkl : k < ps.length := by have := HN.out; omega
      obtain ⟨b, o, rfl, -, -, A1, c1, A2, c2, A3, c3, hcl, -⟩ := (HP.out.below HB.out).at' k hkl
      have hfk := HF.out _ (List.getElem_mem hkl)
      have HS : Hid ((ps.take (k + 1)).all partQ = partQ (ps[k]'hkl)) := all_take hkl HT.out
      have HV : Hid (partQ (ps[k]'hkl) = false → X = false) := fun h => by rw [← HX.out]; exact all_bad hkl h
      generalize (ps[k]'hkl) = f at hcl hfk HS HV
      obtain ⟨z0, z1, z2, z3, z4, z5, z6, z7, z8, z9, z10, z11, z12, z13, z14⟩ := hcl
      obtain ⟨w1, hw1⟩ : ∃ X, X = wr.alloc (.cells #[.int .u8 f.kind, .int .i64 f.xid, .int .i64 f.session, .int .i64 f.turn, .string (mkS f.path), .slice A1 f.data.length c1, .int .i64 f.flags, .int .i64 f.version, .bool f.watch, .int .u8 f.sort, .int .i64 f.last, .int .i64 f.timeout, .int .i64 f.frm, .slice A2 f.mems.length c2, .slice A3 f.np c3] 29) := ⟨_, rfl⟩
      have hB1 : Below wr.heap.size wr w1 := by rw [hw1]; exact (Below.refl _ _).alloc (Nat.le_refl _) _
      have HC1 : Hid (w1.heap[wr.heap.size]? = some (.cells #[.int .u8 f.kind, .int .i64 f.xid, .int .i64 f.session, .int .i64 f.turn, .string (mkS f.path), .slice A1 f.data.length c1, .int .i64 f.flags, .int .i64 f.version, .bool f.watch, .int .u8 f.sort, .int .i64 f.last, .int .i64 f.timeout, .int .i64 f.frm, .slice A2 f.mems.length c2, .slice A3 f.np c3] 29 (0, 0))) := by rw [hw1]; exact heap_alloc_new wr _
      have HB1 : Hid (Below w.heap.size w w1) := HB.out.trans (hB1.mono HB.out.size)
      have ho := of_any f.kind hfk w1 (HL.out.below HB1.out)
      rw [hw1] at ho
      clear hB1
      as_aux_lemma =>
      go_wp2_with fail
      refine ho.mono ?_
      rintro e w2 ⟨rfl, hw2⟩
      rw [← hw1] at hw2
      subst hw2
      clear ho hw1 z0 z1 z2 z3 z4 z5 z6 z7 z8 z9 z10 z11 z12 z13 z14
      obtain ⟨z0, z1, z2, z3, z4, z5, z6, z7, z8, z9, z10, z11, z12, z13, z14⟩ := cells15 HC1.out
      have hha := have_any (kQ f.kind.toNat) 4096 w2
      rw [show (4096 : Int) = 2 ^ 12 by decide, has_bits hfk 12 (by decide)] at hha
      have hleaf : has f.kind 12 = true → has f.kind 10 = false := by
        intro h12
        by_cases hb : 15 ≤ f.kind
        · exact has_big hb 10
        · have h3 := has_part ⟨f.kind.toNat, by omega⟩
          simp only [Int.toNat_of_nonneg hfk.1] at h3
          exact (h3 h12).1
      have HPQ : Hid (partQ f = (has f.kind 12 && (decide (f.xid = 0) && (decide (f.session = 0) && (decide (f.turn = 0) && fitQ f))))) := rfl
      have HLF : Hid _ := hleaf
      have HFQ := fits_leaf f A1 A2 A3 c1 c2 c3 w2 (HL.out.below HB1.out) hfk
      have HFK : Hid _ := HFQ
      generalize fitQ f = FQ at HPQ HFK
      generalize has f.kind 12 = H12 at hha HPQ HLF
      clear HFQ hleaf
      as_aux_lemma =>
      go_wp2_with fail
      refine hha.mono ?_
      rintro e w3 ⟨rfl, hw3⟩
      subst hw3
      clear hha
      cases H12 with
      | false =>
        have hX : X = false := HV.out HPQ.out
        subst hX
        as_aux_lemma =>
        go_wp2_with fail
        go_ret
        exact ⟨rfl, HB1.out⟩
      | true =>
        by_cases y1 : f.xid = 0
        case neg =>
          have hX : X = false := HV.out (by rw [HPQ.out, decide_eq_false y1]; rfl)
          subst hX
          have x1 := (neb _ _ y1).2
          as_aux_lemma =>
          go_wp2_with fail
          go_ret
          exact ⟨rfl, HB1.out⟩
        have x1 : (f.xid != 0) = false := by simp [y1]
        by_cases y2 : f.session = 0
        case neg =>
          have hX : X = false := HV.out (by rw [HPQ.out, decide_eq_false y2]; simp)
          subst hX
          have x2 := (neb _ _ y2).2
          clear y1
          as_aux_lemma =>
          go_wp2_with fail
          go_ret
          exact ⟨rfl, HB1.out⟩
        have x2 : (f.session != 0) = false := by simp [y2]
        by_cases y3 : f.turn = 0
        case neg =>
          have hX : X = false := HV.out (by rw [HPQ.out, decide_eq_false y3]; simp)
          subst hX
          have x3 := (neb _ _ y3).2
          clear y1 y2
          as_aux_lemma =>
          go_wp2_with fail
          go_ret
          exact ⟨rfl, HB1.out⟩
        have x3 : (f.turn != 0) = false := by simp [y3]
        have HPF : Hid (partQ f = FQ) := by show _ = _; rw [HPQ.out, y1, y2, y3]; simp
        have hfl := HFK.out (HLF.out rfl)
        clear y1 y2 y3 HFK HLF HPQ
        as_aux_lemma =>
        go_wp2_with fail
        refine hfl.mono ?_
        rintro e w4 ⟨rfl, hB4⟩
        have HB4 : Hid (Below w.heap.size w w4) := HB1.out.trans (hB4.mono HB1.out.size)
        clear hfl hB4 HB1 HC1 z0 z1 z2 z3 z4 z5 z6 z7 z8 z9 z10 z11 z12 z13 z14 x1 x2 x3
        cases FQ with
        | false =>
          have hX : X = false := HV.out HPF.out
          subst hX
          go_wp2_with fail
          go_ret
          exact ⟨rfl, HB4.out⟩
        | true =>
          have HS2 : Hid ((ps.take (k + 1)).all partQ = true) := HS.out.trans HPF.out
          go_wp2_with fail
          exact ⟨⟨k + 1, by omega, by go_num, HS2.out, HB4.out⟩, by simp [intOf]; omega⟩
    · have hkn : k = n := by omega
      have hX : X = true := by
        rw [← HX.out, ← HT.out, hkn, ← HN.out, List.take_length]
      subst hX
      go_wp2
      go_ret
      exact ⟨rfl, HB.out⟩
theorem fits_any (f : Qf) (ps : List Qf) (A1 A2 A3 : Option Addr) (c1 c2 c3 : Nat) (w : World) (hL : QL w) (hv : QVal w f ps A1 c1 A2 c2 A3 c3) (hf : AskFit f ps) (hl : f.np ≤ 9223372036854775807) :
    Calls Tryd.prog 39 #[.agg #[.int .u8 f.kind, .int .i64 f.xid, .int .i64 f.session, .int .i64 f.turn, .string (mkS f.path), .slice A1 f.data.length c1, .int .i64 f.flags, .int .i64 f.version, .bool f.watch, .int .u8 f.sort, .int .i64 f.last, .int .i64 f.timeout, .int .i64 f.frm, .slice A2 f.mems.length c2, .slice A3 f.np c3]] w fun e w' => e = .returned (.bool (fitQ f && ps.all partQ)) ∧ Below w.heap.size w w' :=
  fits_core f A1 A2 A3 c1 c2 c3 w hL hf.top.kind (ps.all partQ) (fun _ w' hB => fitParts_any (hv.pr.grow hB) (by have := hf.len; omega) (fun p hp => (hf.all p hp).kind) (hL.below hB))
end Go.Proofs.YtmojplgoohnmdaaDoor.AK
