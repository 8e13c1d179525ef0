/- The walk of WireKeeps. -/
import Derived.Test.YtegcchakfabpiaaGreatKeepsA
namespace Go.Proofs.YtegcchakfabpiaaGreat
open Go.RowKit

theorem keeps_big {w : World} {A : Option Addr} {n c : Nat} (n1 : Int) (h : 4000 < n) : Calls Tryz.prog 3 #[.slice A n c, .int .i64 n1] w fun e w' => e = .returned (.bool true) ∧ Below w.heap.size w w' := by
  have h' : (4000 : Int) < n := by omega
  go_enter Tryz.func3, Tryz.ntmps3
  go_wp2_with fail
  refine (awake_any _).mono ?_
  rintro e w1 ⟨rfl, hB⟩
  go_wp2
  go_ret
  exact ⟨rfl, hB⟩
set_option maxRecDepth 100000 in
set_option maxHeartbeats 8000000 in
theorem keeps_small {w : World} {x : Value} {b : List UInt8} (hx : Bs w x b) (hl : b.length ≤ 4000) (nn : Int) (hn1 : -9223372036854775808 ≤ nn) (hn2 : nn < 9223372036854775808) :
    Calls Tryz.prog 3 #[x, .int .i64 nn] w fun e w' => e = .returned (.bool true) ∧ Below w.heap.size w w' := by
  have HX : Hid (Bs w x b) := hx
  obtain ⟨AX, CX, rfl⟩ := bs_form hx
  clear hx
  have htl := textB_len b hl
  have hfl : (frameOf b).length ≤ 4008 := by rw [frameOf_len]; omega
  have hpl := pay_len b hl
  have hnl := numB_len nn hn1 hn2
  go_enter Tryz.func3, Tryz.ntmps3
  go_wp2_with fail
  have h1 := LB.lent_any HX.out (by omega)
  refine h1.mono ?_
  rintro e w1 ⟨rfl, hL1, b01⟩
  have z01 : w.heap.size < w1.heap.size := heap_lt hL1
  have HL1 : Hid (LB.Lent w1 w.heap.size b) := hL1
  clear h1 hL1
  obtain ⟨gi, hgi⟩ : ∃ g, g = w.heap.size := ⟨_, rfl⟩
  rw [← hgi] at HL1 ⊢
  have HGI : Hid (gi = w.heap.size) := hgi
  clear hgi
  go_wp2_with fail
  refine (newWriter_any w1 w1.heap.size (Nat.le_refl _)).mono ?_
  rintro e w2 ⟨rfl, hw2, b12, -⟩
  have HW2 : Hid (WrAt w2 w1.heap.size w1.heap.size none []) := hw2
  have HL2 : Hid (LB.Lent w2 gi b) := HL1.out.below b12
  have h3 := wBytes_any hw2 HL2.out.bs (by omega) (by simp; omega) (fun e => by have := HL1.out.bs.lt e; have h4 : _ = some w1.heap.size := e; omega) (fun _ e => by cases e)
  clear hw2
  go_wp2_with fail
  refine h3.mono ?_
  rintro e w3 ⟨rfl, q3, hw3, hp3⟩
  have b23 : Below w1.heap.size w2 w3 := Put.far HW2.out (Nat.le_refl _) hp3
  have b13 : Below w1.heap.size w1 w3 := b12.trans b23
  rw [List.nil_append] at hw3
  have HW3 : Hid (WrAt w3 w1.heap.size w1.heap.size q3 (textB b)) := hw3
  have hq3 := hw3.qlt
  have z13 := hw3.lt
  have HL3 : Hid (LB.Lent w3 gi b) := HL1.out.below b13
  clear h3 hw3 hp3 b23 HW2 HL2
  have h4 := newReader_any HL3.out.bs (by omega)
  go_wp2_with fail
  refine h4.mono ?_
  rintro e w4 ⟨gr, qr, rfl, hr4, b34, hgr, hqr⟩
  have z4 := hr4.lt
  have HR4 : Hid (Rdr w4 gr qr (some b)) := hr4
  have b14 := below_two b13 b34
  have HL4 : Hid (LB.Lent w4 gi b) := HL1.out.below b14
  have I4 : Hid (Inv w [] w4) := ⟨below_two b01 b14, fun r h => by cases h⟩
  clear h4 hr4
  have h5 := frame_any HL4.out.bs (by omega)
  go_wp2_with fail
  refine h5.mono ?_
  rintro e w5 ⟨vf, rfl, nf⟩
  obtain ⟨Af, Cf, rfl⟩ := bs_form nf.bs
  have b45 := nf.below
  have I5 : Hid (Inv w [⟨.slice Af (frameOf b).length Cf, frameOf b, w4.heap.size, w5.heap.size⟩] w5) := (I4.out.below b45).add (Row.of_new nf (Nat.le_refl _))
  have HL5 : Hid (LB.Lent w5 gi b) := HL4.out.below b45
  clear h5 nf I4
  have h6 := frame_any HL5.out.bs (by omega)
  go_wp2_with fail
  refine h6.mono ?_
  rintro e w6 ⟨vg, rfl, ng⟩
  obtain ⟨Ag, Cg, rfl⟩ := bs_form ng.bs
  have b56 := ng.below
  have I6 : Hid (Inv w [⟨.slice Ag (frameOf b).length Cg, frameOf b, w5.heap.size, w6.heap.size⟩, ⟨.slice Af (frameOf b).length Cf, frameOf b, w4.heap.size, w5.heap.size⟩] w6) := (I5.out.below b56).add (Row.of_new ng (Nat.le_refl _))
  have HL6 : Hid (LB.Lent w6 gi b) := HL5.out.below b56
  clear h6 ng I5
  have h7 := (unframe_any HL6.out.bs (by omega)).mono fun _ _ h => unf_row h
  go_wp2_with fail
  refine h7.mono ?_
  rintro e w7 ⟨Ax, Cx, ax, bx, rfl, rx, b67⟩
  have I7 : Hid (Inv w [⟨.slice Ax (pay b).length Cx, pay b, w6.heap.size, w7.heap.size⟩, ⟨.slice Ag (frameOf b).length Cg, frameOf b, w5.heap.size, w6.heap.size⟩, ⟨.slice Af (frameOf b).length Cf, frameOf b, w4.heap.size, w5.heap.size⟩] w7) := (I6.out.below b67).add rx
  have HL7 : Hid (LB.Lent w7 gi b) := HL6.out.below b67
  clear h7 rx I6
  have h8 := (unframe_any HL7.out.bs (by omega)).mono fun _ _ h => unf_row h
  go_wp2_with fail
  refine h8.mono ?_
  rintro e w8 ⟨Ay, Cy, ay, by_, rfl, ry, b78⟩
  have I8 : Hid (Inv w [⟨.slice Ay (pay b).length Cy, pay b, w7.heap.size, w8.heap.size⟩, ⟨.slice Ax (pay b).length Cx, pay b, w6.heap.size, w7.heap.size⟩, ⟨.slice Ag (frameOf b).length Cg, frameOf b, w5.heap.size, w6.heap.size⟩, ⟨.slice Af (frameOf b).length Cf, frameOf b, w4.heap.size, w5.heap.size⟩] w8) := (I7.out.below b78).add ry
  have HL8 : Hid (LB.Lent w8 gi b) := HL7.out.below b78
  clear h8 ry I7
  have h9 := sum_any HL8.out.bs (by omega)
  go_wp2_with fail
  refine h9.mono ?_
  rintro e w8' ⟨rfl, rfl⟩
  clear h9
  have h10 := LB.kept_any gi b.length _ b w8' HL8.out (HX.out.below' I8.out.bel) rfl (by omega)
  go_wp2_with fail
  refine h10.mono ?_
  rintro e w9 ⟨rfl, q9, hw9⟩
  have b89 : Below w8'.heap.size w8' w9 := by rw [hw9]; exact below_dN _ _
  have HL9 : Hid (LB.Lent w9 gi b) := HL8.out.below b89
  have I9 := I8.out.below b89
  clear h10 hw9 HL4 HL5 HL6 HL7 HL8
  have h11 := over_any gi b.length b w9 HL9.out rfl (by omega)
  go_wp2_with fail
  refine h11.mono ?_
  rintro e w10 ⟨rfl, c910⟩
  have s14 := b14.size
  have s13 := b13.size
  have s34 := b34.size
  have s45 := b45.size
  have s56 := b56.size
  have s67 := b67.size
  have s78 := b78.size
  have s89 := b89.size
  have s910 := c910.size
  have hgi := HGI.out
  have b49 : Below w4.heap.size w4 w9 := below_two b45 (below_two b56 (below_two b67 (below_two b78 b89)))
  have I10 : Hid (Inv w [⟨.slice Ay (pay b).length Cy, pay b, w7.heap.size, w8'.heap.size⟩, ⟨.slice Ax (pay b).length Cx, pay b, w6.heap.size, w7.heap.size⟩, ⟨.slice Ag (frameOf b).length Cg, frameOf b, w5.heap.size, w6.heap.size⟩, ⟨.slice Af (frameOf b).length Cf, frameOf b, w4.heap.size, w5.heap.size⟩] w10) := I9.chg c910 (fun k e => by have : k = gi := e; omega) (fun k hk r hr => by simp only [List.mem_cons, List.not_mem_nil, or_false] at hr; rcases hr with rfl | rfl | rfl | rfl <;> dsimp only <;> (have : k = gi := hk; omega))
  clear h11 I9 I8 HL9 b45 b56 b67 b78 b89 hgi
  go_wp2_with fail
  refine (rfNewW_any w10 w10.heap.size (Nat.le_refl _)).mono ?_
  rintro e w11 ⟨rfl, hw11, b1011, -⟩
  have s1011 := hw11.lt
  have h13 := rfWBytes_any hw11 (HX.out.below' (I10.out.below b1011).bel) (by omega) (by simp; omega)
  have HW11 : Hid (WrF w11 w10.heap.size w10.heap.size none []) := hw11
  clear hw11
  go_wp2_with fail
  refine h13.mono ?_
  rintro e w12 ⟨rfl, q12, hw12, hp12⟩
  rw [List.nil_append] at hw12
  have b1012 : Below w10.heap.size w10 w12 := b1011.trans (Put.far HW11.out (Nat.le_refl _) hp12)
  have HF12 : Hid (WrF w12 w10.heap.size w10.heap.size q12 (textB b)) := hw12
  have hq12 := hw12.qlt
  have s1112 := hw12.lt
  have s1012 := b1012.size
  have I12 : Hid (Inv w [⟨.slice Ay (pay b).length Cy, pay b, w7.heap.size, w8'.heap.size⟩, ⟨.slice Ax (pay b).length Cx, pay b, w6.heap.size, w7.heap.size⟩, ⟨.slice Ag (frameOf b).length Cg, frameOf b, w5.heap.size, w6.heap.size⟩, ⟨.slice Af (frameOf b).length Cf, frameOf b, w4.heap.size, w5.heap.size⟩] w12) := I10.out.below b1012
  have hgi := HGI.out
  have c312 : Chg (One gi) w3 w12 := (Chg.weak (Chg.of_below (below_two b34 b49)) (fun _ _ e => e.elim)).trans (c910.trans (Chg.weak (Chg.of_below b1012) (fun _ _ e => e.elim)))
  have HW12 : Hid (WrAt w12 w1.heap.size w1.heap.size q3 (textB b)) := HW3.out.keep c312 (fun e => by have : w1.heap.size = gi := e; omega) (fun k hk e => by have : k = gi := e; have := (hq3 k hk).1; omega)
  clear h13 hw12 hp12 HW11 I10 c312 hgi b1011
  have h14 := wDone_any HW12.out (by omega)
  go_wp2_with fail
  refine h14.mono ?_
  rintro e w13 ⟨v1, rfl, n1⟩
  obtain ⟨A1, C1, rfl⟩ := bs_form n1.bs
  have b1213 := n1.below
  have I13 : Hid (Inv w [⟨.slice A1 (textB b).length C1, textB b, w12.heap.size, w13.heap.size⟩, ⟨.slice Ay (pay b).length Cy, pay b, w7.heap.size, w8'.heap.size⟩, ⟨.slice Ax (pay b).length Cx, pay b, w6.heap.size, w7.heap.size⟩, ⟨.slice Ag (frameOf b).length Cg, frameOf b, w5.heap.size, w6.heap.size⟩, ⟨.slice Af (frameOf b).length Cf, frameOf b, w4.heap.size, w5.heap.size⟩] w13) := (I12.out.below b1213).add (Row.of_new n1 (Nat.le_refl _))
  have HW13 : Hid (WrAt w13 w1.heap.size w1.heap.size q3 (textB b)) := HW12.out.keep (Chg.of_below b1213) id (fun _ _ => id)
  clear h14 n1 I12 HW12
  have h15 := wDone_any HW13.out (by omega)
  go_wp2_with fail
  refine h15.mono ?_
  rintro e w14 ⟨v2, rfl, n2⟩
  obtain ⟨A2, C2, rfl⟩ := bs_form n2.bs
  have b1314 := n2.below
  have I14 : Hid (Inv w [⟨.slice A2 (textB b).length C2, textB b, w13.heap.size, w14.heap.size⟩, ⟨.slice A1 (textB b).length C1, textB b, w12.heap.size, w13.heap.size⟩, ⟨.slice Ay (pay b).length Cy, pay b, w7.heap.size, w8'.heap.size⟩, ⟨.slice Ax (pay b).length Cx, pay b, w6.heap.size, w7.heap.size⟩, ⟨.slice Ag (frameOf b).length Cg, frameOf b, w5.heap.size, w6.heap.size⟩, ⟨.slice Af (frameOf b).length Cf, frameOf b, w4.heap.size, w5.heap.size⟩] w14) := (I13.out.below b1314).add (Row.of_new n2 (Nat.le_refl _))
  have HW14 : Hid (WrAt w14 w1.heap.size w1.heap.size q3 (textB b)) := HW13.out.keep (Chg.of_below b1314) id (fun _ _ => id)
  have s1213 := b1213.size
  have s1314 := b1314.size
  clear h15 n2 I13 HW13
  have h16 := wInt_any HW14.out nn hn1 hn2 (by omega)
  go_wp2_with fail
  refine h16.mono ?_
  rintro e w15 ⟨rfl, q15, -, hp15⟩
  have c1415 := hp15.chg
  have s1415 := c1415.size
  have I15 : Hid (Inv w [⟨.slice A2 (textB b).length C2, textB b, w13.heap.size, w14.heap.size⟩, ⟨.slice A1 (textB b).length C1, textB b, w12.heap.size, w13.heap.size⟩, ⟨.slice Ay (pay b).length Cy, pay b, w7.heap.size, w8'.heap.size⟩, ⟨.slice Ax (pay b).length Cx, pay b, w6.heap.size, w7.heap.size⟩, ⟨.slice Ag (frameOf b).length Cg, frameOf b, w5.heap.size, w6.heap.size⟩, ⟨.slice Af (frameOf b).length Cf, frameOf b, w4.heap.size, w5.heap.size⟩] w15) := I14.out.chg c1415 (fun k e => by rcases e with e | e; omega; have := hq3 k e; omega) (fun k hk r hr => by simp only [List.mem_cons, List.not_mem_nil, or_false] at hr; rcases hr with rfl | rfl | rfl | rfl | rfl | rfl <;> dsimp only <;> (rcases hk with e | e; omega; have := hq3 k e; omega))
  clear h16 hp15 I14 HW14
  have h17 := rfNew_any (HX.out.below' I15.out.bel) (by omega)
  go_wp2_with fail
  refine h17.mono ?_
  rintro e w16 ⟨g16, q16, rfl, hr16, b1516, hg16, hqq16⟩
  have s1516 := b1516.size
  have zg16 := hr16.lt
  have I16 : Hid (Inv w [⟨.slice A2 (textB b).length C2, textB b, w13.heap.size, w14.heap.size⟩, ⟨.slice A1 (textB b).length C1, textB b, w12.heap.size, w13.heap.size⟩, ⟨.slice Ay (pay b).length Cy, pay b, w7.heap.size, w8'.heap.size⟩, ⟨.slice Ax (pay b).length Cx, pay b, w6.heap.size, w7.heap.size⟩, ⟨.slice Ag (frameOf b).length Cg, frameOf b, w5.heap.size, w6.heap.size⟩, ⟨.slice Af (frameOf b).length Cf, frameOf b, w4.heap.size, w5.heap.size⟩] w16) := I15.out.below b1516
  have HF16 : Hid (Rdf w16 g16 q16 (some b)) := hr16
  have hgi := HGI.out
  have c416 : Chg (fun k => k = gi ∨ k = w1.heap.size ∨ q3 = some k) w4 w16 :=
    (Chg.weak (Chg.of_below b49) (fun _ _ e => e.elim)).trans ((c910.weak (fun _ _ e => .inl e)).trans ((Chg.weak (Chg.of_below (below_two b1012 (below_two b1213 b1314))) (fun _ _ e => e.elim)).trans ((c1415.weak (fun _ _ e => .inr e)).trans (Chg.weak (Chg.of_below b1516) (fun _ _ e => e.elim)))))
  have HR16 : Hid (Rdr w16 gr qr (some b)) := HR4.out.keep c416 (fun e => by rcases e with e | e | e; omega; omega; have := hq3 gr e; omega) (fun k hk e => by have h1 := hqr k hk; rcases e with e | e | e; omega; omega; have := hq3 k e; omega)
  clear h17 hr16 I15 c416 hgi
  have h18 := rBytes_any HR16.out 1099511627776
  have h19 := fun {W : World} (hh : Rdf W g16 q16 (some b)) => rfBytes_any hh 1099511627776 (by have := rdText_len (some b) 1099511627776 (by omega); omega)
  have hTl := rdText_small b 1099511627776
  obtain ⟨T, hT⟩ : ∃ T, T = (rdText (some b) 1099511627776).1 := ⟨_, rfl⟩
  rw [← hT] at h18 h19 hTl
  clear hT
  go_wp2_with fail
  refine h18.mono ?_
  rintro e w17 ⟨vp, wp, rfl, np, -, c1617, hsp⟩
  obtain ⟨Ap, Cp, rfl⟩ := bs_form np.bs
  have s1617 := c1617.size
  have hgi := HGI.out
  have I17 : Hid (Inv w [⟨.slice Ap T.length Cp, T, w16.heap.size, w17.heap.size⟩, ⟨.slice A2 (textB b).length C2, textB b, w13.heap.size, w14.heap.size⟩, ⟨.slice A1 (textB b).length C1, textB b, w12.heap.size, w13.heap.size⟩, ⟨.slice Ay (pay b).length Cy, pay b, w7.heap.size, w8'.heap.size⟩, ⟨.slice Ax (pay b).length Cx, pay b, w6.heap.size, w7.heap.size⟩, ⟨.slice Ag (frameOf b).length Cg, frameOf b, w5.heap.size, w6.heap.size⟩, ⟨.slice Af (frameOf b).length Cf, frameOf b, w4.heap.size, w5.heap.size⟩] w17) := (I16.out.chg c1617 (fun k e => by have : k = gr := e; omega) (fun k hk r hr => by simp only [List.mem_cons, List.not_mem_nil, or_false] at hr; rcases hr with rfl | rfl | rfl | rfl | rfl | rfl <;> dsimp only <;> (have : k = gr := hk; omega))).add (Row.of_new np hsp)
  have HF17 : Rdf w17 g16 q16 (some b) := HF16.out.keep c1617 (fun e => by have : g16 = gr := e; omega) (fun k hk e => by have : k = gr := e; have := hqq16 k hk; omega)
  have h19' := h19 HF17
  clear h18 h19 np hsp I16 HF17 hgi
  go_wp2_with fail
  refine h19'.mono ?_
  rintro e w18 ⟨vq, rfl, hbq, -, c1718, -⟩
  obtain ⟨Aq, Cq, rfl⟩ := bs_form hbq
  have s1718 := c1718.size
  have hgi := HGI.out
  have I18 : Hid (Inv w [⟨.slice Ap T.length Cp, T, w16.heap.size, w17.heap.size⟩, ⟨.slice A2 (textB b).length C2, textB b, w13.heap.size, w14.heap.size⟩, ⟨.slice A1 (textB b).length C1, textB b, w12.heap.size, w13.heap.size⟩, ⟨.slice Ay (pay b).length Cy, pay b, w7.heap.size, w8'.heap.size⟩, ⟨.slice Ax (pay b).length Cx, pay b, w6.heap.size, w7.heap.size⟩, ⟨.slice Ag (frameOf b).length Cg, frameOf b, w5.heap.size, w6.heap.size⟩, ⟨.slice Af (frameOf b).length Cf, frameOf b, w4.heap.size, w5.heap.size⟩] w18) := I17.out.chg c1718 (fun k e => by have : k = g16 := e; omega) (fun k hk r hr => by simp only [List.mem_cons, List.not_mem_nil, or_false] at hr; rcases hr with rfl | rfl | rfl | rfl | rfl | rfl | rfl <;> dsimp only <;> (have : k = g16 := hk; omega))
  have HQ18 : Hid (Bs w18 (.slice Aq T.length Cq) T) := hbq
  clear h19' hbq I17 hgi
  have h20 := refFrame_any (HX.out.below' I18.out.bel) (by omega)
  go_wp2_with fail
  refine h20.mono ?_
  rintro e w19 ⟨vw, rfl, nw⟩
  obtain ⟨Aw, Cw, rfl⟩ := bs_form nw.bs
  have b1819 := nw.below
  have I19 : Hid (Inv w [⟨.slice Ap T.length Cp, T, w16.heap.size, w17.heap.size⟩, ⟨.slice A2 (textB b).length C2, textB b, w13.heap.size, w14.heap.size⟩, ⟨.slice A1 (textB b).length C1, textB b, w12.heap.size, w13.heap.size⟩, ⟨.slice Ay (pay b).length Cy, pay b, w7.heap.size, w8'.heap.size⟩, ⟨.slice Ax (pay b).length Cx, pay b, w6.heap.size, w7.heap.size⟩, ⟨.slice Ag (frameOf b).length Cg, frameOf b, w5.heap.size, w6.heap.size⟩, ⟨.slice Af (frameOf b).length Cf, frameOf b, w4.heap.size, w5.heap.size⟩] w19) := I18.out.below b1819
  have HV19 : Hid (Bs w19 (.slice Aw (frameOf b).length Cw) (frameOf b)) := nw.bs
  have h21 := (refUnframe_any (HX.out.below' I19.out.bel) (by omega)).mono fun _ _ h => unf_row h
  clear h20 nw I18
  go_wp2_with fail
  refine h21.mono ?_
  rintro e w20 ⟨Ay2, Cy2, ay2, by2, rfl, ry2, b1920⟩
  have HY20 : Hid (Bs w20 (.slice Ay2 (pay b).length Cy2) (pay b)) := ry2.bs
  have I20 : Hid (Inv w [⟨.slice Ap T.length Cp, T, w16.heap.size, w17.heap.size⟩, ⟨.slice A2 (textB b).length C2, textB b, w13.heap.size, w14.heap.size⟩, ⟨.slice A1 (textB b).length C1, textB b, w12.heap.size, w13.heap.size⟩, ⟨.slice Ay (pay b).length Cy, pay b, w7.heap.size, w8'.heap.size⟩, ⟨.slice Ax (pay b).length Cx, pay b, w6.heap.size, w7.heap.size⟩, ⟨.slice Ag (frameOf b).length Cg, frameOf b, w5.heap.size, w6.heap.size⟩, ⟨.slice Af (frameOf b).length Cf, frameOf b, w4.heap.size, w5.heap.size⟩] w20) := I19.out.below b1920
  have hgi := HGI.out
  have c1220 : Chg (fun k => (k = w1.heap.size ∨ q3 = some k) ∨ k = gr ∨ k = g16) w12 w20 :=
    (Chg.weak (Chg.of_below (below_two b1213 b1314)) (fun _ _ e => e.elim)).trans ((c1415.weak (fun _ _ e => .inl e)).trans ((Chg.weak (Chg.of_below b1516) (fun _ _ e => e.elim)).trans ((c1617.weak (fun _ _ e => .inr (.inl e))).trans ((c1718.weak (fun _ _ e => .inr (.inr e))).trans (Chg.weak (Chg.of_below (below_two b1819 b1920)) (fun _ _ e => e.elim))))))
  have HF20 : WrF w20 w10.heap.size w10.heap.size q12 (textB b) := HF12.out.keep c1220 (fun e => by rcases e with (e | e) | e | e; omega; have := hq3 _ e; omega; omega; omega) (fun k hk e => by have h1 := hq12 k hk; rcases e with (e | e) | e | e; omega; have := hq3 _ e; omega; omega; omega)
  have h22 := rfWDone_any HF20 (by omega)
  clear h21 ry2 I19 c1220 HF20 hgi
  go_wp2_with fail
  refine h22.mono ?_
  rintro e w21 ⟨vd, rfl, nd⟩
  obtain ⟨Ad, Cd, rfl⟩ := bs_form nd.bs
  have b2021 := nd.below
  have I21 : Hid (Inv w [⟨.slice Ap T.length Cp, T, w16.heap.size, w17.heap.size⟩, ⟨.slice A2 (textB b).length C2, textB b, w13.heap.size, w14.heap.size⟩, ⟨.slice A1 (textB b).length C1, textB b, w12.heap.size, w13.heap.size⟩, ⟨.slice Ay (pay b).length Cy, pay b, w7.heap.size, w8'.heap.size⟩, ⟨.slice Ax (pay b).length Cx, pay b, w6.heap.size, w7.heap.size⟩, ⟨.slice Ag (frameOf b).length Cg, frameOf b, w5.heap.size, w6.heap.size⟩, ⟨.slice Af (frameOf b).length Cf, frameOf b, w4.heap.size, w5.heap.size⟩] w21) := I20.out.below b2021
  have g1 := (I21.out.row (v := .slice A1 (textB b).length C1) (l := textB b) (lo := w12.heap.size) (hi := w13.heap.size) (.tail _ (.tail _ (.head _)))).bs
  have h23 := same_any g1 nd.bs (by omega)
  rw [decide_eq_true (rfl : textB b = textB b)] at h23
  clear h22 nd I20 g1
  go_wp2_with fail
  refine h23.mono ?_
  rintro e w22 ⟨rfl, q22, hw22⟩
  have b2122 : Below w21.heap.size w21 w22 := by rw [hw22]; exact below_dN _ _
  have I22 : Hid (Inv w [⟨.slice Ap T.length Cp, T, w16.heap.size, w17.heap.size⟩, ⟨.slice A2 (textB b).length C2, textB b, w13.heap.size, w14.heap.size⟩, ⟨.slice A1 (textB b).length C1, textB b, w12.heap.size, w13.heap.size⟩, ⟨.slice Ay (pay b).length Cy, pay b, w7.heap.size, w8'.heap.size⟩, ⟨.slice Ax (pay b).length Cx, pay b, w6.heap.size, w7.heap.size⟩, ⟨.slice Ag (frameOf b).length Cg, frameOf b, w5.heap.size, w6.heap.size⟩, ⟨.slice Af (frameOf b).length Cf, frameOf b, w4.heap.size, w5.heap.size⟩] w22) := I21.out.below b2122
  have h24 := same_any (I22.out.row (v := .slice A2 (textB b).length C2) (l := textB b) (lo := w13.heap.size) (hi := w14.heap.size) (.tail _ (.head _))).bs (I22.out.row (v := .slice A1 (textB b).length C1) (l := textB b) (lo := w12.heap.size) (hi := w13.heap.size) (.tail _ (.tail _ (.head _)))).bs (by omega)
  rw [decide_eq_true (rfl : textB b = textB b)] at h24
  clear h23 hw22 I21
  go_wp2_with fail
  refine h24.mono ?_
  rintro e w23 ⟨rfl, q23, hw23⟩
  have b2223 : Below w22.heap.size w22 w23 := by rw [hw23]; exact below_dN _ _
  have I23 : Hid (Inv w [⟨.slice Ap T.length Cp, T, w16.heap.size, w17.heap.size⟩, ⟨.slice A2 (textB b).length C2, textB b, w13.heap.size, w14.heap.size⟩, ⟨.slice A1 (textB b).length C1, textB b, w12.heap.size, w13.heap.size⟩, ⟨.slice Ay (pay b).length Cy, pay b, w7.heap.size, w8'.heap.size⟩, ⟨.slice Ax (pay b).length Cx, pay b, w6.heap.size, w7.heap.size⟩, ⟨.slice Ag (frameOf b).length Cg, frameOf b, w5.heap.size, w6.heap.size⟩, ⟨.slice Af (frameOf b).length Cf, frameOf b, w4.heap.size, w5.heap.size⟩] w23) := I22.out.below b2223
  have b1823 := below_two b1819 (below_two b1920 (below_two b2021 (below_two b2122 b2223)))
  have h25 := same_any (I23.out.row (v := .slice Ap T.length Cp) (l := T) (lo := w16.heap.size) (hi := w17.heap.size) (.head _)).bs (HQ18.out.below' b1823) (by omega)
  rw [decide_eq_true (rfl : T = T)] at h25
  clear h24 hw23 I22
  go_wp2_with fail
  refine h25.mono ?_
  rintro e w24 ⟨rfl, q24, hw24⟩
  have b2324 : Below w23.heap.size w23 w24 := by rw [hw24]; exact below_dN _ _
  have I24 : Hid (Inv w [⟨.slice Ap T.length Cp, T, w16.heap.size, w17.heap.size⟩, ⟨.slice A2 (textB b).length C2, textB b, w13.heap.size, w14.heap.size⟩, ⟨.slice A1 (textB b).length C1, textB b, w12.heap.size, w13.heap.size⟩, ⟨.slice Ay (pay b).length Cy, pay b, w7.heap.size, w8'.heap.size⟩, ⟨.slice Ax (pay b).length Cx, pay b, w6.heap.size, w7.heap.size⟩, ⟨.slice Ag (frameOf b).length Cg, frameOf b, w5.heap.size, w6.heap.size⟩, ⟨.slice Af (frameOf b).length Cf, frameOf b, w4.heap.size, w5.heap.size⟩] w24) := I23.out.below b2324
  have b2024 := below_two b2021 (below_two b2122 (below_two b2223 b2324))
  have h26 := same_any (I24.out.row (v := .slice Af (frameOf b).length Cf) (l := frameOf b) (lo := w4.heap.size) (hi := w5.heap.size) (.tail _ (.tail _ (.tail _ (.tail _ (.tail _ (.tail _ (.head _)))))))).bs (HV19.out.below' (below_two b1920 b2024)) (by omega)
  rw [decide_eq_true (rfl : frameOf b = frameOf b)] at h26
  clear h25 hw24 I23
  go_wp2_with fail
  refine h26.mono ?_
  rintro e w25 ⟨rfl, q25, hw25⟩
  have b2425 : Below w24.heap.size w24 w25 := by rw [hw25]; exact below_dN _ _
  have I25 : Hid (Inv w [⟨.slice Ap T.length Cp, T, w16.heap.size, w17.heap.size⟩, ⟨.slice A2 (textB b).length C2, textB b, w13.heap.size, w14.heap.size⟩, ⟨.slice A1 (textB b).length C1, textB b, w12.heap.size, w13.heap.size⟩, ⟨.slice Ay (pay b).length Cy, pay b, w7.heap.size, w8'.heap.size⟩, ⟨.slice Ax (pay b).length Cx, pay b, w6.heap.size, w7.heap.size⟩, ⟨.slice Ag (frameOf b).length Cg, frameOf b, w5.heap.size, w6.heap.size⟩, ⟨.slice Af (frameOf b).length Cf, frameOf b, w4.heap.size, w5.heap.size⟩] w25) := I24.out.below b2425
  have h27 := same_any (I25.out.row (v := .slice Ax (pay b).length Cx) (l := pay b) (lo := w6.heap.size) (hi := w7.heap.size) (.tail _ (.tail _ (.tail _ (.tail _ (.head _)))))).bs (HY20.out.below' (below_two b2024 b2425)) (by omega)
  rw [decide_eq_true (rfl : pay b = pay b)] at h27
  clear h26 hw25 I24
  go_wp2_with fail
  refine h27.mono ?_
  rintro e w26 ⟨rfl, q26, hw26⟩
  have b2526 : Below w25.heap.size w25 w26 := by rw [hw26]; exact below_dN _ _
  have I26 : Hid (Inv w [⟨.slice Ap T.length Cp, T, w16.heap.size, w17.heap.size⟩, ⟨.slice A2 (textB b).length C2, textB b, w13.heap.size, w14.heap.size⟩, ⟨.slice A1 (textB b).length C1, textB b, w12.heap.size, w13.heap.size⟩, ⟨.slice Ay (pay b).length Cy, pay b, w7.heap.size, w8'.heap.size⟩, ⟨.slice Ax (pay b).length Cx, pay b, w6.heap.size, w7.heap.size⟩, ⟨.slice Ag (frameOf b).length Cg, frameOf b, w5.heap.size, w6.heap.size⟩, ⟨.slice Af (frameOf b).length Cf, frameOf b, w4.heap.size, w5.heap.size⟩] w26) := I25.out.below b2526
  have h28 := apart_seven I26.out.bel (I26.out.row (v := .slice A1 (textB b).length C1) (l := textB b) (lo := w12.heap.size) (hi := w13.heap.size) (.tail _ (.tail _ (.head _)))) (I26.out.row (v := .slice A2 (textB b).length C2) (l := textB b) (lo := w13.heap.size) (hi := w14.heap.size) (.tail _ (.head _))) (I26.out.row (v := .slice Af (frameOf b).length Cf) (l := frameOf b) (lo := w4.heap.size) (hi := w5.heap.size) (.tail _ (.tail _ (.tail _ (.tail _ (.tail _ (.tail _ (.head _)))))))) (I26.out.row (v := .slice Ag (frameOf b).length Cg) (l := frameOf b) (lo := w5.heap.size) (hi := w6.heap.size) (.tail _ (.tail _ (.tail _ (.tail _ (.tail _ (.head _))))))) (I26.out.row (v := .slice Ax (pay b).length Cx) (l := pay b) (lo := w6.heap.size) (hi := w7.heap.size) (.tail _ (.tail _ (.tail _ (.tail _ (.head _)))))) (I26.out.row (v := .slice Ay (pay b).length Cy) (l := pay b) (lo := w7.heap.size) (hi := w8'.heap.size) (.tail _ (.tail _ (.tail _ (.head _))))) (I26.out.row (v := .slice Ap T.length Cp) (l := T) (lo := w16.heap.size) (hi := w17.heap.size) (.head _)) (by omega) (by omega) (by omega) (by omega) (by omega) (by omega) (by omega) (by omega) (by omega) (by omega) (by omega) (by omega) (by omega) (by omega) (by omega) (by omega) (by omega) (by omega) (by omega) (by omega) (by omega) (by omega) (by omega) (by omega) (by omega)
  clear h27 hw26 I25
  go_wp2_with fail
  refine h28.mono ?_
  rintro e w27 ⟨rfl, b27⟩
  have HB27 : Hid (Below w.heap.size w w27) := b27
  clear h28 b27 I26
  go_wp2_with fail
  refine (awake_any _).mono ?_
  rintro e w28 ⟨rfl, b28⟩
  have HB28 : Hid (Below w.heap.size w w28) := below_two HB27.out b28
  clear b28 HB27
  go_wp2
  go_ret
  exact ⟨rfl, HB28.out⟩
theorem keeps_any {w : World} {x : Value} {b : List UInt8} (hx : Bs w x b) (nn : Int) (hn1 : -9223372036854775808 ≤ nn) (hn2 : nn < 9223372036854775808) :
    Calls Tryz.prog 3 #[x, .int .i64 nn] w fun e w' => e = .returned (.bool true) ∧ Below w.heap.size w w' := by
  by_cases h : b.length ≤ 4000
  · exact keeps_small hx h nn hn1 hn2
  · obtain ⟨A, C, rfl⟩ := bs_form hx
    exact keeps_big nn (by omega)
end Go.Proofs.YtegcchakfabpiaaGreat
