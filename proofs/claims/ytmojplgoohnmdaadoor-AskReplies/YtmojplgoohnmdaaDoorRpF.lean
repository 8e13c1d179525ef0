/- Replies with parts in memory; the walk of rightReply. -/
import Derived.Test.YtmojplgoohnmdaaDoorRpD
namespace Go.Proofs.YtmojplgoohnmdaaDoor.AK
set_option linter.unusedSimpArgs false
set_option linter.unusedVariables false
open Go.RowKit
set_option linter.unusedVariables false
set_option linter.unusedSimpArgs false

def RPrts (w : World) (B : Nat) (v : Value) (ps : List Rf) : Prop :=
  (v = .slice none 0 0 ∧ ps = []) ∨ (∃ ad c, v = .slice (some ad) 0 c ∧ ps = []) ∨ (0 < ps.length ∧ ∃ b o c, v = .slice (some ⟨b, o, none⟩) ps.length c ∧ ps.length ≤ c ∧ b < B ∧ B ≤ w.heap.size ∧
    ∀ j (h : j < ps.length), ∃ (A1 A2 A3 A4 : Option Addr) (c1 c2 c3 c4 : Nat), w.rangeAt b (o + j * 22) [.int .u8 (ps[j]'h).kind, .int .i64 (ps[j]'h).xid, .int .i64 (ps[j]'h).zxid, .int .i64 (ps[j]'h).err, .int .i64 (ps[j]'h).session, .int .i64 (ps[j]'h).timeout, .string (mkS (ps[j]'h).path), .slice A1 (ps[j]'h).data.length c1, .int .i64 (ps[j]'h).s0, .int .i64 (ps[j]'h).s1, .int .i64 (ps[j]'h).s2, .int .i64 (ps[j]'h).s3, .int .i64 (ps[j]'h).s4, .int .i64 (ps[j]'h).s5, .int .i64 (ps[j]'h).s6, .int .i64 (ps[j]'h).s7, .int .i64 (ps[j]'h).s8, .int .i64 (ps[j]'h).s9, .slice A2 (ps[j]'h).list.length c2, .int .i64 (ps[j]'h).cver, .slice A3 (ps[j]'h).cmems.length c3, .slice A4 (ps[j]'h).np c4] ∧ RRest w B (ps[j]'h) A1 c1 A2 c2 A3 c3)
theorem RPrts.form {w : World} {B : Nat} {v : Value} {ps : List Rf} (h : RPrts w B v ps) : ∃ A C, v = .slice A ps.length C := by
  rcases h with ⟨rfl, rfl⟩ | ⟨ad, c, rfl, rfl⟩ | ⟨_, b, o, c, rfl, _⟩
  · exact ⟨none, 0, rfl⟩
  · exact ⟨_, _, rfl⟩
  · exact ⟨_, _, rfl⟩
theorem rangeAt_below {w w' : World} {B b o : Nat} {cs : List Value} (h : w.rangeAt b o cs) (hb : Below B w w') (hk : b < B) : w'.rangeAt b o cs := fun j v hj => by
  rw [hb.cell (p := ⟨b, o + j, none⟩) hk]; exact h j v hj
theorem RPrts.below {w w' : World} {B : Nat} {v : Value} {ps : List Rf} (h : RPrts w B v ps) (hb : Below B w w') : RPrts w' B v ps := by
  rcases h with h | h | ⟨h0, b, o, c, rfl, h1, h2, h3, h4⟩
  · exact .inl h
  · exact .inr (.inl h)
  · refine .inr (.inr ⟨h0, b, o, c, rfl, h1, h2, Nat.le_trans h3 hb.size, fun j hj => ?_⟩)
    obtain ⟨A1, A2, A3, A4, c1, c2, c3, c4, q1, q2⟩ := h4 j hj
    exact ⟨A1, A2, A3, A4, c1, c2, c3, c4, rangeAt_below q1 hb h2, q2.below hb⟩
theorem RPrts.at' {w : World} {B n : Nat} {A : Option Addr} {C : Nat} {ps : List Rf} (h : RPrts w B (.slice A n C) ps) (j : Nat) (h' : j < ps.length) : ∃ b o, A = some ⟨b, o, none⟩ ∧ b < B ∧ B ≤ w.heap.size ∧ ∃ (A1 A2 A3 A4 : Option Addr) (c1 c2 c3 c4 : Nat), w.rangeAt b (o + j * 22) [.int .u8 (ps[j]'h').kind, .int .i64 (ps[j]'h').xid, .int .i64 (ps[j]'h').zxid, .int .i64 (ps[j]'h').err, .int .i64 (ps[j]'h').session, .int .i64 (ps[j]'h').timeout, .string (mkS (ps[j]'h').path), .slice A1 (ps[j]'h').data.length c1, .int .i64 (ps[j]'h').s0, .int .i64 (ps[j]'h').s1, .int .i64 (ps[j]'h').s2, .int .i64 (ps[j]'h').s3, .int .i64 (ps[j]'h').s4, .int .i64 (ps[j]'h').s5, .int .i64 (ps[j]'h').s6, .int .i64 (ps[j]'h').s7, .int .i64 (ps[j]'h').s8, .int .i64 (ps[j]'h').s9, .slice A2 (ps[j]'h').list.length c2, .int .i64 (ps[j]'h').cver, .slice A3 (ps[j]'h').cmems.length c3, .slice A4 (ps[j]'h').np c4] ∧ RRest w B (ps[j]'h') A1 c1 A2 c2 A3 c3 := by
  rcases h with ⟨_, rfl⟩ | ⟨_, _, _, rfl⟩ | ⟨_, b, o, c, he, _, h2, h3, h4⟩
  · simp at h'
  · simp at h'
  · cases he
    exact ⟨b, o, rfl, h2, h3, h4 j h'⟩
theorem wpList_load_midg {P : Program} {ops : Array Oper} {rest : List Oper} {op : Oper} {a : Act} {w : World} {Q : Exit → Act → World → Prop} (hw : Region.wanted op (yielded ops a.tmps) = true) (ty : TypeId) (x : Operand) (ho : op.op = .load ty x)
    (b o : Nat) (hx : a.eval x = .pointer (some ⟨b, o, none⟩)) (cs : List Value) (d : TypeDesc) (hc : w.rangeAt b o cs)
    (hu : P.underlying ty = some d) (hd : d.isRow = true) (hi : (P.info? ty).map (·.size) = some cs.length)
    (h : wpList P ops Q rest (a.put op.dst (.agg cs.toArray)) w) : wpList P ops Q (op :: rest) a w :=
  wpList_step fun K hK => by rw [if_pos hw]; exact wp_load_mid ty x ho b o hx cs d hc hu hd hi (hK _ _ h)
theorem RRest.val {w : World} {B : Nat} {f : Rf} {A1 A2 A3 : Option Addr} {c1 c2 c3 : Nat} (h : RRest w B f A1 c1 A2 c2 A3 c3) : RVal w f A1 c1 A2 c2 A3 c3 := ⟨h.bs, h.tx, h.ms⟩
theorem all_takeR {ps : List Rf} {q : Rf → Bool} {k : Nat} (h : k < ps.length) (ht : (ps.take k).all q = true) : (ps.take (k + 1)).all q = q (ps[k]'h) := by
  rw [List.take_succ_eq_append_getElem h, List.all_append, ht]; simp
theorem all_badR {ps : List Rf} {q : Rf → Bool} {k : Nat} (h : k < ps.length) (hq : q (ps[k]'h) = false) : ps.all q = false := by
  rw [List.all_eq_false]
  exact ⟨_, List.getElem_mem h, by simp [hq]⟩
set_option maxRecDepth 100000 in
set_option maxHeartbeats 4000000 in
theorem rightReply_any (f : Rf) (ps : List Rf) (A1 A2 A3 A4 : Option Addr) (c1 c2 c3 c4 : Nat) (w : World) (hv : RVal w f A1 c1 A2 c2 A3 c3) (hp : RPrts w w.heap.size (.slice A4 f.np c4) ps) (hn : f.np = ps.length) (hl : RLen f) (hlp : ∀ p ∈ ps, RLen p ∧ p.np ≤ 9223372036854775807) (hnl : f.np ≤ 9223372036854775807) :
    Calls Tryd.prog 41 #[.agg #[.int .u8 f.kind, .int .i64 f.xid, .int .i64 f.zxid, .int .i64 f.err, .int .i64 f.session, .int .i64 f.timeout, .string (mkS f.path), .slice A1 f.data.length c1, .int .i64 f.s0, .int .i64 f.s1, .int .i64 f.s2, .int .i64 f.s3, .int .i64 f.s4, .int .i64 f.s5, .int .i64 f.s6, .int .i64 f.s7, .int .i64 f.s8, .int .i64 f.s9, .slice A2 f.list.length c2, .int .i64 f.cver, .slice A3 f.cmems.length c3, .slice A4 f.np c4]] w fun e w' => e = .returned (.bool (rightR f ps)) ∧ Below w.heap.size w w' := by
  have HP : Hid (RPrts w w.heap.size (.slice A4 f.np c4) ps) := hp
  have HN : Hid (f.np = ps.length) := hn
  have HLP : Hid (∀ p ∈ ps, RLen p ∧ p.np ≤ 9223372036854775807) := hlp
  obtain ⟨w1, hw1⟩ : ∃ X, X = w.alloc (.cells #[.int .u8 f.kind, .int .i64 f.xid, .int .i64 f.zxid, .int .i64 f.err, .int .i64 f.session, .int .i64 f.timeout, .string (mkS f.path), .slice A1 f.data.length c1, .int .i64 f.s0, .int .i64 f.s1, .int .i64 f.s2, .int .i64 f.s3, .int .i64 f.s4, .int .i64 f.s5, .int .i64 f.s6, .int .i64 f.s7, .int .i64 f.s8, .int .i64 f.s9, .slice A2 f.list.length c2, .int .i64 f.cver, .slice A3 f.cmems.length c3, .slice A4 f.np c4] 43) := ⟨_, rfl⟩
  have hB1 : Below w.heap.size w w1 := by rw [hw1]; exact (Below.refl _ _).alloc (Nat.le_refl _) _
  have HB1 : Hid (Below w.heap.size w w1) := hB1
  have HC1 : Hid (w1.heap[w.heap.size]? = some (.cells #[.int .u8 f.kind, .int .i64 f.xid, .int .i64 f.zxid, .int .i64 f.err, .int .i64 f.session, .int .i64 f.timeout, .string (mkS f.path), .slice A1 f.data.length c1, .int .i64 f.s0, .int .i64 f.s1, .int .i64 f.s2, .int .i64 f.s3, .int .i64 f.s4, .int .i64 f.s5, .int .i64 f.s6, .int .i64 f.s7, .int .i64 f.s8, .int .i64 f.s9, .slice A2 f.list.length c2, .int .i64 f.cver, .slice A3 f.cmems.length c3, .slice A4 f.np c4] 43 (0, 0))) := by rw [hw1]; exact heap_alloc_new w _
  have hfr := fitsReply_any f A1 A2 A3 A4 c1 c2 c3 c4 w1 (hv.grow hB1) hl
  rw [hw1] at hfr
  have hra := rangeL HC1.out
  rw [hw1] at hra
  generalize hU : rightR f ps = U
  have HU : Hid ((fitR f && (decide (f.np ≤ 16) && ps.all partR)) = U) := hU
  generalize fitR f = V at hfr HU
  clear hv hl hB1 hU hp hn hlp
  go_enter Tryd.func41, Tryd.ntmps41
  go_wp2_with (refine wpList_load_mid rfl 43 _ rfl w.heap.size 0 rfl [.int .u8 f.kind, .int .i64 f.xid, .int .i64 f.zxid, .int .i64 f.err, .int .i64 f.session, .int .i64 f.timeout, .string (mkS f.path), .slice A1 f.data.length c1, .int .i64 f.s0, .int .i64 f.s1, .int .i64 f.s2, .int .i64 f.s3, .int .i64 f.s4, .int .i64 f.s5, .int .i64 f.s6, .int .i64 f.s7, .int .i64 f.s8, .int .i64 f.s9, .slice A2 f.list.length c2, .int .i64 f.cver, .slice A3 f.cmems.length c3, .slice A4 f.np c4] _ hra Tryd.underlying43 rfl infoR ?_)
  refine hfr.mono ?_
  rintro e w2 ⟨rfl, hB2⟩
  rw [← hw1] at hB2
  have HB2 : Hid (Below w.heap.size w w2) := HB1.out.trans (hB2.mono HB1.out.size)
  have HC2 : Hid (w2.heap[w.heap.size]? = some (.cells #[.int .u8 f.kind, .int .i64 f.xid, .int .i64 f.zxid, .int .i64 f.err, .int .i64 f.session, .int .i64 f.timeout, .string (mkS f.path), .slice A1 f.data.length c1, .int .i64 f.s0, .int .i64 f.s1, .int .i64 f.s2, .int .i64 f.s3, .int .i64 f.s4, .int .i64 f.s5, .int .i64 f.s6, .int .i64 f.s7, .int .i64 f.s8, .int .i64 f.s9, .slice A2 f.list.length c2, .int .i64 f.cver, .slice A3 f.cmems.length c3, .slice A4 f.np c4] 43 (0, 0))) := by show _ = _; rw [hB2.block _ (heap_lt HC1.out)]; exact HC1.out
  clear hfr hB2 hw1 HB1 HC1 hra w1
  obtain ⟨z0, z1, z2, z3, z4, z5, z6, z7, z8, z9, z10, z11, z12, z13, z14, z15, z16, z17, z18, z19, z20, z21⟩ := cells22 HC2.out
  clear z0 z1 z2 z3 z4 z5 z6 z7 z8 z9 z10 z11 z12 z13 z14 z15 z16 z17 z18 z19 z20
  cases V with
  | false =>
    have hU : U = false := HU.out.symm
    subst hU
    go_wp2_with fail
    go_ret
    exact ⟨rfl, HB2.out⟩
  | true =>
  by_cases h16 : f.np ≤ 16
  case neg =>
    have hU : U = false := by rw [← HU.out, decide_eq_false h16]; rfl
    subst hU
    go_wp2_with fail
    go_ret
    exact ⟨rfl, HB2.out⟩
  have HALL : Hid (ps.all partR = U) := by show _ = _; rw [← HU.out, decide_eq_true h16]; rfl
  clear HU
  go_wp2_with fail
  clear z21 HC2
  go_loopw [17] (fun c wr => ∃ k : Nat, k ≤ f.np ∧ c = .int .i64 k ∧ (ps.take k).all partR = true ∧ Below w.heap.size w wr) (fun c _ => f.np - (intOf c).toNat)
  case atStart => exact ⟨0, by omega, rfl, rfl, HB2.out⟩
  case round =>
    obtain ⟨k, hk, rfl, ht, hBr⟩ := hrel
    have HT : Hid ((ps.take k).all partR = true) := ht
    have HBr : Hid (Below w.heap.size w wr) := hBr
    clear ht hBr HB2
    by_cases hlt : k < f.np
    · have hkl : k < ps.length := by have := HN.out; omega
      obtain ⟨bb, oo, rfl, -, -, B1, B2, B3, B4, d1, d2, d3, d4, hra, hrest⟩ := (HP.out.below HBr.out).at' k hkl
      have HRV : Hid (RVal wr (ps[k]'hkl) B1 d1 B2 d2 B3 d3) := hrest.val
      have hln := (HLP.out _ (List.getElem_mem hkl))
      have HLN : Hid (RLen (ps[k]'hkl)) := hln.1
      have hnp := hln.2
      have HS : Hid ((ps.take (k + 1)).all partR = partR (ps[k]'hkl)) := all_takeR hkl HT.out
      have HV : Hid (partR (ps[k]'hkl) = false → U = false) := fun h => by rw [← HALL.out]; exact all_badR hkl h
      clear hln hrest
      generalize (ps[k]'hkl) = p at hra HRV HLN HS HV hnp
      have hal := heap_alloc_new wr (.cells #[.int .u8 0, .int .i64 0, .int .i64 0, .int .i64 0, .int .i64 0, .int .i64 0, .string ⟨#[]⟩, .slice none 0 0, .int .i64 0, .int .i64 0, .int .i64 0, .int .i64 0, .int .i64 0, .int .i64 0, .int .i64 0, .int .i64 0, .int .i64 0, .int .i64 0, .slice none 0 0, .int .i64 0, .slice none 0 0, .slice none 0 0] 43 (0, 0))
      obtain ⟨w3, hw3⟩ : ∃ X, X = (wr.alloc (.cells #[.int .u8 0, .int .i64 0, .int .i64 0, .int .i64 0, .int .i64 0, .int .i64 0, .string ⟨#[]⟩, .slice none 0 0, .int .i64 0, .int .i64 0, .int .i64 0, .int .i64 0, .int .i64 0, .int .i64 0, .int .i64 0, .int .i64 0, .int .i64 0, .int .i64 0, .slice none 0 0, .int .i64 0, .slice none 0 0, .slice none 0 0] 43)).setCells wr.heap.size 0 [.int .u8 p.kind, .int .i64 p.xid, .int .i64 p.zxid, .int .i64 p.err, .int .i64 p.session, .int .i64 p.timeout, .string (mkS p.path), .slice B1 p.data.length d1, .int .i64 p.s0, .int .i64 p.s1, .int .i64 p.s2, .int .i64 p.s3, .int .i64 p.s4, .int .i64 p.s5, .int .i64 p.s6, .int .i64 p.s7, .int .i64 p.s8, .int .i64 p.s9, .slice B2 p.list.length d2, .int .i64 p.cver, .slice B3 p.cmems.length d3, .slice B4 p.np d4] := ⟨_, rfl⟩
      have hs3 := setL0 hal [.int .u8 p.kind, .int .i64 p.xid, .int .i64 p.zxid, .int .i64 p.err, .int .i64 p.session, .int .i64 p.timeout, .string (mkS p.path), .slice B1 p.data.length d1, .int .i64 p.s0, .int .i64 p.s1, .int .i64 p.s2, .int .i64 p.s3, .int .i64 p.s4, .int .i64 p.s5, .int .i64 p.s6, .int .i64 p.s7, .int .i64 p.s8, .int .i64 p.s9, .slice B2 p.list.length d2, .int .i64 p.cver, .slice B3 p.cmems.length d3, .slice B4 p.np d4] rfl
      rw [← hw3] at hs3
      have hB3 : Below wr.heap.size wr w3 := ((Below.refl _ _).alloc (Nat.le_refl _) _).trans (hs3.2.below (fun k e => by omega) (by simp))
      have HB3 : Hid (Below w.heap.size w w3) := HBr.out.trans (hB3.mono HBr.out.size)
      have HD3 : Hid (w3.heap[wr.heap.size]? = some (.cells #[.int .u8 p.kind, .int .i64 p.xid, .int .i64 p.zxid, .int .i64 p.err, .int .i64 p.session, .int .i64 p.timeout, .string (mkS p.path), .slice B1 p.data.length d1, .int .i64 p.s0, .int .i64 p.s1, .int .i64 p.s2, .int .i64 p.s3, .int .i64 p.s4, .int .i64 p.s5, .int .i64 p.s6, .int .i64 p.s7, .int .i64 p.s8, .int .i64 p.s9, .slice B2 p.list.length d2, .int .i64 p.cver, .slice B3 p.cmems.length d3, .slice B4 p.np d4] 43 (0, 0))) := hs3.1
      have HRV3 : Hid (RVal w3 p B1 d1 B2 d2 B3 d3) := HRV.out.grow hB3
      have hth := thereL hal 0 22 (show 0 + 22 ≤ 22 by decide)
      have hon : (#[.int .u8 p.kind, .int .i64 p.xid, .int .i64 p.zxid, .int .i64 p.err, .int .i64 p.session, .int .i64 p.timeout, .string (mkS p.path), .slice B1 p.data.length d1, .int .i64 p.s0, .int .i64 p.s1, .int .i64 p.s2, .int .i64 p.s3, .int .i64 p.s4, .int .i64 p.s5, .int .i64 p.s6, .int .i64 p.s7, .int .i64 p.s8, .int .i64 p.s9, .slice B2 p.list.length d2, .int .i64 p.cver, .slice B3 p.cmems.length d3, .slice B4 p.np d4] : Array Value).all (·.oneCell') = true := all_oneCell_toArray (by intro v hv; simp only [List.mem_cons, List.not_mem_nil, or_false] at hv; rcases hv with rfl | rfl | rfl | rfl | rfl | rfl | rfl | rfl | rfl | rfl | rfl | rfl | rfl | rfl | rfl | rfl | rfl | rfl | rfl | rfl | rfl | rfl <;> rfl)
      have HE : Hid ((wr.alloc (.cells #[.int .u8 0, .int .i64 0, .int .i64 0, .int .i64 0, .int .i64 0, .int .i64 0, .string ⟨#[]⟩, .slice none 0 0, .int .i64 0, .int .i64 0, .int .i64 0, .int .i64 0, .int .i64 0, .int .i64 0, .int .i64 0, .int .i64 0, .int .i64 0, .int .i64 0, .slice none 0 0, .int .i64 0, .slice none 0 0, .slice none 0 0] 43)).setCells wr.heap.size 0 (#[.int .u8 p.kind, .int .i64 p.xid, .int .i64 p.zxid, .int .i64 p.err, .int .i64 p.session, .int .i64 p.timeout, .string (mkS p.path), .slice B1 p.data.length d1, .int .i64 p.s0, .int .i64 p.s1, .int .i64 p.s2, .int .i64 p.s3, .int .i64 p.s4, .int .i64 p.s5, .int .i64 p.s6, .int .i64 p.s7, .int .i64 p.s8, .int .i64 p.s9, .slice B2 p.list.length d2, .int .i64 p.cver, .slice B3 p.cmems.length d3, .slice B4 p.np d4] : Array Value).toList = w3) := hw3.symm
      obtain ⟨z0, z1, z2, z3, z4, z5, z6, z7, z8, z9, z10, z11, z12, z13, z14, z15, z16, z17, z18, z19, z20, z21⟩ := cells22 HD3.out
      clear z0 z1 z2 z3 z4 z5 z6 z7 z8 z9 z10 z11 z12 z13 z14 z15 z16 z17 z19 z20
      have hra3 := rangeL HD3.out
      have hfp := fitsReply_any p B1 B2 B3 B4 d1 d2 d3 d4 w3 HRV3.out HLN.out
      have HPQ : Hid (partR p = (decide (p.np = 0) && (decide (p.list.length = 0) && fitR p))) := rfl
      have hll := HLN.out.list
      generalize fitR p = V at hfp HPQ
      clear hal hs3 hw3 hB3 HRV
      by_cases e1 : p.np = 0
      case neg =>
        have hU : U = false := HV.out (by rw [HPQ.out, decide_eq_false e1]; rfl)
        subst hU
        clear hfp
        go_wp2_with (first | (refine wpList_load_mid rfl 43 _ rfl bb (oo + k * 22) rfl [.int .u8 p.kind, .int .i64 p.xid, .int .i64 p.zxid, .int .i64 p.err, .int .i64 p.session, .int .i64 p.timeout, .string (mkS p.path), .slice B1 p.data.length d1, .int .i64 p.s0, .int .i64 p.s1, .int .i64 p.s2, .int .i64 p.s3, .int .i64 p.s4, .int .i64 p.s5, .int .i64 p.s6, .int .i64 p.s7, .int .i64 p.s8, .int .i64 p.s9, .slice B2 p.list.length d2, .int .i64 p.cver, .slice B3 p.cmems.length d3, .slice B4 p.np d4] _ hra Tryd.underlying43 rfl infoR ?_) | (refine wpList_store_mid rfl 43 _ _ rfl wr.heap.size 0 #[.int .u8 p.kind, .int .i64 p.xid, .int .i64 p.zxid, .int .i64 p.err, .int .i64 p.session, .int .i64 p.timeout, .string (mkS p.path), .slice B1 p.data.length d1, .int .i64 p.s0, .int .i64 p.s1, .int .i64 p.s2, .int .i64 p.s3, .int .i64 p.s4, .int .i64 p.s5, .int .i64 p.s6, .int .i64 p.s7, .int .i64 p.s8, .int .i64 p.s9, .slice B2 p.list.length d2, .int .i64 p.cver, .slice B3 p.cmems.length d3, .slice B4 p.np d4] rfl rfl hth infoR hon ?_; rw [HE.out]))
        go_ret
        exact ⟨rfl, HB3.out⟩
      have E1 : Hid (p.np = 0) := e1
      have g1 : ¬ 0 < p.np := by omega
      clear e1
      by_cases e2 : p.list.length = 0
      case neg =>
        have hU : U = false := HV.out (by rw [HPQ.out, decide_eq_false e2]; simp)
        subst hU
        clear hfp
        go_wp2_with (first | (refine wpList_load_mid rfl 43 _ rfl bb (oo + k * 22) rfl [.int .u8 p.kind, .int .i64 p.xid, .int .i64 p.zxid, .int .i64 p.err, .int .i64 p.session, .int .i64 p.timeout, .string (mkS p.path), .slice B1 p.data.length d1, .int .i64 p.s0, .int .i64 p.s1, .int .i64 p.s2, .int .i64 p.s3, .int .i64 p.s4, .int .i64 p.s5, .int .i64 p.s6, .int .i64 p.s7, .int .i64 p.s8, .int .i64 p.s9, .slice B2 p.list.length d2, .int .i64 p.cver, .slice B3 p.cmems.length d3, .slice B4 p.np d4] _ hra Tryd.underlying43 rfl infoR ?_) | (refine wpList_store_mid rfl 43 _ _ rfl wr.heap.size 0 #[.int .u8 p.kind, .int .i64 p.xid, .int .i64 p.zxid, .int .i64 p.err, .int .i64 p.session, .int .i64 p.timeout, .string (mkS p.path), .slice B1 p.data.length d1, .int .i64 p.s0, .int .i64 p.s1, .int .i64 p.s2, .int .i64 p.s3, .int .i64 p.s4, .int .i64 p.s5, .int .i64 p.s6, .int .i64 p.s7, .int .i64 p.s8, .int .i64 p.s9, .slice B2 p.list.length d2, .int .i64 p.cver, .slice B3 p.cmems.length d3, .slice B4 p.np d4] rfl rfl hth infoR hon ?_; rw [HE.out]))
        go_ret
        exact ⟨rfl, HB3.out⟩
      have HPF : Hid (partR p = V) := by show _ = _; rw [HPQ.out, decide_eq_true E1.out, decide_eq_true e2]; rfl
      have g2 : ¬ 0 < p.list.length := by omega
      clear e2 HPQ E1
      go_wp2_with (first | (refine wpList_load_mid rfl 43 _ rfl bb (oo + k * 22) rfl [.int .u8 p.kind, .int .i64 p.xid, .int .i64 p.zxid, .int .i64 p.err, .int .i64 p.session, .int .i64 p.timeout, .string (mkS p.path), .slice B1 p.data.length d1, .int .i64 p.s0, .int .i64 p.s1, .int .i64 p.s2, .int .i64 p.s3, .int .i64 p.s4, .int .i64 p.s5, .int .i64 p.s6, .int .i64 p.s7, .int .i64 p.s8, .int .i64 p.s9, .slice B2 p.list.length d2, .int .i64 p.cver, .slice B3 p.cmems.length d3, .slice B4 p.np d4] _ hra Tryd.underlying43 rfl infoR ?_) | (refine wpList_store_mid rfl 43 _ _ rfl wr.heap.size 0 #[.int .u8 p.kind, .int .i64 p.xid, .int .i64 p.zxid, .int .i64 p.err, .int .i64 p.session, .int .i64 p.timeout, .string (mkS p.path), .slice B1 p.data.length d1, .int .i64 p.s0, .int .i64 p.s1, .int .i64 p.s2, .int .i64 p.s3, .int .i64 p.s4, .int .i64 p.s5, .int .i64 p.s6, .int .i64 p.s7, .int .i64 p.s8, .int .i64 p.s9, .slice B2 p.list.length d2, .int .i64 p.cver, .slice B3 p.cmems.length d3, .slice B4 p.np d4] rfl rfl hth infoR hon ?_; rw [HE.out]) | (refine wpList_load_midg (by rfl) 43 _ rfl wr.heap.size 0 rfl [.int .u8 p.kind, .int .i64 p.xid, .int .i64 p.zxid, .int .i64 p.err, .int .i64 p.session, .int .i64 p.timeout, .string (mkS p.path), .slice B1 p.data.length d1, .int .i64 p.s0, .int .i64 p.s1, .int .i64 p.s2, .int .i64 p.s3, .int .i64 p.s4, .int .i64 p.s5, .int .i64 p.s6, .int .i64 p.s7, .int .i64 p.s8, .int .i64 p.s9, .slice B2 p.list.length d2, .int .i64 p.cver, .slice B3 p.cmems.length d3, .slice B4 p.np d4] _ hra3 Tryd.underlying43 rfl infoR ?_))
      refine hfp.mono ?_
      rintro e w4 ⟨rfl, hB4⟩
      have HB4 : Hid (Below w.heap.size w w4) := HB3.out.trans (hB4.mono HB3.out.size)
      clear hfp hB4 HB3 HD3 HRV3 hra hra3 hth hon HE z18 z21 g1 g2
      cases V with
      | false =>
        have hU : U = false := HV.out HPF.out
        subst hU
        go_wp2_with fail
        go_ret
        exact ⟨rfl, HB4.out⟩
      | true =>
        have HS2 : Hid ((ps.take (k + 1)).all partR = true) := HS.out.trans HPF.out
        go_wp2_with fail
        exact ⟨⟨k + 1, by omega, by go_num, HS2.out, HB4.out⟩, by simp [intOf]; omega⟩
    · have hkn : k = f.np := by omega
      have hU : U = true := by
        rw [← HALL.out, ← HT.out, hkn, HN.out, List.take_length]
      subst hU
      go_wp2
      go_ret
      exact ⟨rfl, HBr.out⟩
end Go.Proofs.YtmojplgoohnmdaaDoor.AK
