/- The walk of the document's own Right. -/
import Derived.Test.YtaeoafedfgbcaaaGreatDoorRf5c
import Derived.Test.YtaeoafedfgbcaaaGreatDoorDdR
import Derived.Test.YtaeoafedfgbcaaaGreatDoorRfC
namespace Go.Proofs.YtaeoafedfgbcaaaGreatDoor.DD
set_option linter.unusedVariables false
open Go.RowKit
set_option linter.unusedVariables false

set_option maxRecDepth 100000 in
theorem rmay' (z : Int) (hz : I64 z) (w : World) : Calls Tryz.prog 67 #[.int .i64 z] w fun x w' => x = .returned (.bool (decide (0 ≤ z) && decide (z / 4294967296 ≤ 1073741824))) ∧ w' = w := by
  unfold I64 at hz
  by_cases h : 0 ≤ z
  · rw [decide_eq_true h, Bool.true_and]
    go_enter Tryz.func67, Tryz.ntmps67
    go_wp2
    go_ret
    exact ⟨rfl, rfl⟩
  · rw [decide_eq_false h, Bool.false_and]
    go_enter Tryz.func67, Tryz.ntmps67
    go_wp2
    go_ret
    exact ⟨rfl, rfl⟩
/- Behind the head and what must be zero: the kinds. K: what the switch says. -/
set_option maxRecDepth 100000 in
set_option maxHeartbeats 4000000 in
theorem rright_core (zx kd se tu xi ti ow ve cv tmo er cr : Int) (p : List UInt8) (A1 A2 A3 : Option Addr) (n1 n2 n3 c1 c2 c3 : Nat) (w : World) (hz : I64 zx) (B N P5 P8 Q : Bool)
    (hB : ∀ w', Calls Tryz.prog 68 #[.agg #[.int .i64 zx, .int .u8 kd, .int .i64 se, .int .i64 tu, .int .i64 xi, .int .i64 ti, .string (mkS p), .slice A1 n1 c1, .int .i64 ow, .int .i64 ve, .int .i64 cv, .int .i64 tmo, .int .i64 er, .int .i64 cr, .slice A2 n2 c2, .slice A3 n3 c3]] w' fun e w'' => e = .returned (.bool B) ∧ Below w'.heap.size w' w'')
    (hN : ∀ w', Below w.heap.size w w' → Calls Tryz.prog 69 #[.agg #[.int .i64 zx, .int .u8 kd, .int .i64 se, .int .i64 tu, .int .i64 xi, .int .i64 ti, .string (mkS p), .slice A1 n1 c1, .int .i64 ow, .int .i64 ve, .int .i64 cv, .int .i64 tmo, .int .i64 er, .int .i64 cr, .slice A2 n2 c2, .slice A3 n3 c3]] w' fun e w'' => e = .returned (.bool N) ∧ Below w'.heap.size w' w'')
    (h5 : ∀ w', Below w.heap.size w w' → Calls Tryz.prog 70 #[.slice A3 n3 c3, .int .i64 0, .int .i64 500, .bool false] w' fun e w'' => e = .returned (.bool P5) ∧ Below w'.heap.size w' w'')
    (h8 : ∀ w', Below w.heap.size w w' → Calls Tryz.prog 70 #[.slice A3 n3 c3, .int .i64 1, .int .i64 16, .bool true] w' fun e w'' => e = .returned (.bool P8) ∧ Below w'.heap.size w' w'')
    (h7 : ∀ w', Below w.heap.size w w' → Calls Tryz.prog 71 #[.agg #[.int .i64 cr, .slice A2 n2 c2]] w' fun e w'' => ∃ x : Int, e = .returned (.int .i64 x) ∧ decide (x = 0) = Q ∧ Below w'.heap.size w' w'') :
    Calls Tryz.prog 37 #[.agg #[.int .i64 zx, .int .u8 kd, .int .i64 se, .int .i64 tu, .int .i64 xi, .int .i64 ti, .string (mkS p), .slice A1 n1 c1, .int .i64 ow, .int .i64 ve, .int .i64 cv, .int .i64 tmo, .int .i64 er, .int .i64 cr, .slice A2 n2 c2, .slice A3 n3 c3]] w fun e w' => e = .returned (.bool ((decide (1 ≤ zx) && (decide (zx / 4294967296 ≤ 1073741824) && (decide (0 ≤ se) && (decide (0 ≤ tu) && (decide (0 ≤ xi) && decide (0 ≤ ti)))))) && (B && (if kd = 1 ∨ kd = 2 ∨ kd = 3 then N else if kd = 4 then decide (1 ≤ tmo) && decide (tmo ≤ 1000) else if kd = 5 then decide (1 ≤ ow) && P5 else if kd = 6 then true else if kd = 7 then Q && decide (cr = zx) else if kd = 8 then P8 else if kd = 9 then decide (1 ≤ er) else false)))) ∧ Below w.heap.size w w' := by
  generalize hU : ((decide (1 ≤ zx) && (decide (zx / 4294967296 ≤ 1073741824) && (decide (0 ≤ se) && (decide (0 ≤ tu) && (decide (0 ≤ xi) && decide (0 ≤ ti)))))) && (B && (if kd = 1 ∨ kd = 2 ∨ kd = 3 then N else if kd = 4 then decide (1 ≤ tmo) && decide (tmo ≤ 1000) else if kd = 5 then decide (1 ≤ ow) && P5 else if kd = 6 then true else if kd = 7 then Q && decide (cr = zx) else if kd = 8 then P8 else if kd = 9 then decide (1 ≤ er) else false))) = U
  have HU : Hid (((decide (1 ≤ zx) && (decide (zx / 4294967296 ≤ 1073741824) && (decide (0 ≤ se) && (decide (0 ≤ tu) && (decide (0 ≤ xi) && decide (0 ≤ ti)))))) && (B && (if kd = 1 ∨ kd = 2 ∨ kd = 3 then N else if kd = 4 then decide (1 ≤ tmo) && decide (tmo ≤ 1000) else if kd = 5 then decide (1 ≤ ow) && P5 else if kd = 6 then true else if kd = 7 then Q && decide (cr = zx) else if kd = 8 then P8 else if kd = 9 then decide (1 ≤ er) else false))) = U) := hU
  clear hU
  obtain ⟨w1, hw1⟩ : ∃ X, X = w.alloc (.cells #[.int .i64 zx, .int .u8 kd, .int .i64 se, .int .i64 tu, .int .i64 xi, .int .i64 ti, .string (mkS p), .slice A1 n1 c1, .int .i64 ow, .int .i64 ve, .int .i64 cv, .int .i64 tmo, .int .i64 er, .int .i64 cr, .slice A2 n2 c2, .slice A3 n3 c3] 41) := ⟨_, rfl⟩
  have hB1 : Below w.heap.size w w1 := by rw [hw1]; exact (Below.refl _ _).alloc (Nat.le_refl _) _
  have HC1 : Hid (w1.heap[w.heap.size]? = some (.cells #[.int .i64 zx, .int .u8 kd, .int .i64 se, .int .i64 tu, .int .i64 xi, .int .i64 ti, .string (mkS p), .slice A1 n1 c1, .int .i64 ow, .int .i64 ve, .int .i64 cv, .int .i64 tmo, .int .i64 er, .int .i64 cr, .slice A2 n2 c2, .slice A3 n3 c3] 41 (0, 0))) := by rw [hw1]; exact heap_alloc_new w _
  have HB1 : Hid (Below w.heap.size w w1) := hB1
  have HBB : Hid _ := hB
  have HN : Hid _ := hN
  have H5 : Hid _ := h5
  have H8 : Hid _ := h8
  have H7 : Hid _ := h7
  have hm := rmay' zx hz w1
  have HQ : Hid (Below w.heap.size w (w.alloc (.cells #[.int .i64 zx, .int .u8 kd, .int .i64 se, .int .i64 tu, .int .i64 xi, .int .i64 ti, .string (mkS p), .slice A1 n1 c1, .int .i64 ow, .int .i64 ve, .int .i64 cv, .int .i64 tmo, .int .i64 er, .int .i64 cr, .slice A2 n2 c2, .slice A3 n3 c3] 41))) := by rw [← hw1]; exact hB1
  have HZ : Hid (I64 zx) := hz
  clear hz hB hN h5 h8 h7 hB1
  by_cases g1 : 1 ≤ zx
  · by_cases g2 : zx / 4294967296 ≤ 1073741824
    · rw [decide_eq_true (show (0 : Int) ≤ zx by omega), decide_eq_true g2, hw1] at hm
      have z1' : ¬ zx < 1 := by omega
      as_aux_lemma =>
      go_enter Tryz.func37, Tryz.ntmps37
      go_wp2_with fail
      refine hm.mono ?_
      rintro e w2 ⟨rfl, hw2⟩
      rw [← hw1] at hw2
      subst hw2
      clear hm hw1
      obtain ⟨z0, z1, z2, z3, z4, z5, z6, z7, z8, z9, z10, z11, z12, z13, z14, z15⟩ := cells16 HC1.out
      by_cases s1 : 0 ≤ se
      · by_cases s2 : 0 ≤ tu
        · by_cases s3 : 0 ≤ xi
          · by_cases s4 : 0 ≤ ti
            · have HV : Hid ((B && (if kd = 1 ∨ kd = 2 ∨ kd = 3 then N else if kd = 4 then decide (1 ≤ tmo) && decide (tmo ≤ 1000) else if kd = 5 then decide (1 ≤ ow) && P5 else if kd = 6 then true else if kd = 7 then Q && decide (cr = zx) else if kd = 8 then P8 else if kd = 9 then decide (1 ≤ er) else false)) = U) := by
                have := HU.out
                rw [decide_eq_true s1, decide_eq_true s2, decide_eq_true s3, decide_eq_true s4, decide_eq_true g1, decide_eq_true g2, Bool.true_and, Bool.true_and, Bool.true_and, Bool.true_and, Bool.true_and, Bool.true_and] at this
                exact this
              clear HU
              have hb := HBB.out w2
              have t1 : ¬ se < 0 := by omega
              have t2 : ¬ tu < 0 := by omega
              have t3 : ¬ xi < 0 := by omega
              have t4 : ¬ ti < 0 := by omega
              go_wp2_with fail
              refine hb.mono ?_
              rintro e w3 ⟨rfl, hB3⟩
              have HB3 : Hid (Below w.heap.size w w3) := HB1.out.trans (hB3.mono HB1.out.size)
              have HC3 : Hid (w3.heap[w.heap.size]? = some (.cells #[.int .i64 zx, .int .u8 kd, .int .i64 se, .int .i64 tu, .int .i64 xi, .int .i64 ti, .string (mkS p), .slice A1 n1 c1, .int .i64 ow, .int .i64 ve, .int .i64 cv, .int .i64 tmo, .int .i64 er, .int .i64 cr, .slice A2 n2 c2, .slice A3 n3 c3] 41 (0, 0))) := by show _ = _; rw [hB3.block _ (heap_lt HC1.out)]; exact HC1.out
              clear hb hB3 HB1 HC1 HQ HBB z0 z1 z2 z3 z4 z5 z6 z7 z8 z9 z10 z11 z12 z13 z14 z15 s1 s2 s3 s4 g1 g2
              obtain ⟨z0, z1, z2, z3, z4, z5, z6, z7, z8, z9, z10, z11, z12, z13, z14, z15⟩ := cells16 HC3.out
              as_aux_lemma =>
              cases B with
              | false =>
                have hV : U = false := HV.out.symm
                subst hV
                go_wp2
                go_ret
                exact ⟨rfl, HB3.out⟩
              | true =>
                by_cases k : kd = 1 ∨ kd = 2 ∨ kd = 3
                · have hV : U = N := by have := HV.out; rw [if_pos k, Bool.true_and] at this; exact this.symm
                  subst hV
                  have hn := HN.out w3 HB3.out
                  clear HN H5 H8 H7 HV
                  rcases k with rfl | rfl | rfl
                  all_goals
                    go_wp2_with fail
                    refine hn.mono ?_
                    rintro e w4 ⟨rfl, hB4⟩
                    have HB4 : Hid (Below w.heap.size w w4) := HB3.out.trans (hB4.mono HB3.out.size)
                    clear hn hB4 HB3 HC3 z0 z1 z2 z3 z4 z5 z6 z7 z8 z9 z10 z11 z12 z13 z14 z15
                    go_wp2
                    go_ret
                    exact ⟨rfl, HB4.out⟩
                · by_cases k4 : kd = 4
                  · subst k4
                    have HV : Hid ((decide (1 ≤ tmo) && decide (tmo ≤ 1000)) = U) := by have := HV.out; show _ = _; simpa using this
                    clear HN H5 H8 H7
                    go_wp2
                    all_goals (go_ret; exact ⟨retb (by rw [← HV.out]; (first | (simp_all; done) | (simp_all; omega))), HB3.out⟩)
                  · by_cases k5 : kd = 5
                    · subst k5
                      have HV : Hid ((decide (1 ≤ ow) && P5) = U) := by have := HV.out; show _ = _; simpa using this
                      have h5 := H5.out w3 HB3.out
                      clear HN H5 H8 H7
                      by_cases o1 : 1 ≤ ow
                      · go_wp2_with fail
                        refine h5.mono ?_
                        rintro e w4 ⟨rfl, hB4⟩
                        have HB4 : Hid (Below w.heap.size w w4) := HB3.out.trans (hB4.mono HB3.out.size)
                        clear h5 hB4 HB3 HC3 z0 z1 z2 z3 z4 z5 z6 z7 z8 z9 z10 z11 z12 z13 z14 z15
                        go_wp2
                        go_ret
                        exact ⟨retb (by rw [← HV.out, decide_eq_true o1]; rfl), HB4.out⟩
                      · clear h5
                        go_wp2
                        go_ret
                        exact ⟨retb (by rw [← HV.out, decide_eq_false (show ¬ 1 ≤ ow by omega)]; rfl), HB3.out⟩
                    · by_cases k6 : kd = 6
                      · subst k6
                        have hV : U = true := by have := HV.out; simpa using this.symm
                        subst hV
                        clear HN H5 H8 H7
                        go_wp2
                        go_ret
                        exact ⟨rfl, HB3.out⟩
                      · by_cases k7 : kd = 7
                        · subst k7
                          have HV : Hid ((Q && decide (cr = zx)) = U) := by have := HV.out; show _ = _; simpa using this
                          have h7 := H7.out w3 HB3.out
                          clear HN H5 H8 H7
                          go_wp2_with fail
                          refine h7.mono ?_
                          rintro e w4 ⟨x, rfl, hx, hB4⟩
                          have HB4 : Hid (Below w.heap.size w w4) := HB3.out.trans (hB4.mono HB3.out.size)
                          have HC4 : Hid (w4.heap[w.heap.size]? = some (.cells #[.int .i64 zx, .int .u8 7, .int .i64 se, .int .i64 tu, .int .i64 xi, .int .i64 ti, .string (mkS p), .slice A1 n1 c1, .int .i64 ow, .int .i64 ve, .int .i64 cv, .int .i64 tmo, .int .i64 er, .int .i64 cr, .slice A2 n2 c2, .slice A3 n3 c3] 41 (0, 0))) := by show _ = _; rw [hB4.block _ (heap_lt HC3.out)]; exact HC3.out
                          clear h7 hB4 HB3 HC3 z0 z1 z2 z3 z4 z5 z6 z7 z8 z9 z10 z11 z12 z13 z14 z15
                          obtain ⟨z0, z1, z2, z3, z4, z5, z6, z7, z8, z9, z10, z11, z12, z13, z14, z15⟩ := cells16 HC4.out
                          by_cases x0 : x = 0
                          · have hQ : Q = true := by rw [← hx]; exact decide_eq_true x0
                            subst hQ
                            clear hx
                            subst x0
                            go_wp2
                            all_goals (go_ret; exact ⟨retb (by rw [← HV.out]; (first | (simp_all; done) | (rw [Bool.eq_iff_iff]; simp))), HB4.out⟩)
                          · have hQ : Q = false := by rw [← hx]; exact decide_eq_false x0
                            subst hQ
                            have q0 := (neb _ _ x0).1
                            clear hx
                            go_wp2
                            go_ret
                            exact ⟨retb HV.out, HB4.out⟩
                        · by_cases k8 : kd = 8
                          · subst k8
                            have hV : U = P8 := by have := HV.out; simpa using this.symm
                            subst hV
                            have h8 := H8.out w3 HB3.out
                            clear HN H5 H8 H7
                            go_wp2_with fail
                            refine h8.mono ?_
                            rintro e w4 ⟨rfl, hB4⟩
                            have HB4 : Hid (Below w.heap.size w w4) := HB3.out.trans (hB4.mono HB3.out.size)
                            clear h8 hB4 HB3 HC3 z0 z1 z2 z3 z4 z5 z6 z7 z8 z9 z10 z11 z12 z13 z14 z15
                            go_wp2
                            go_ret
                            exact ⟨rfl, HB4.out⟩
                          · by_cases k9 : kd = 9
                            · subst k9
                              have hV : U = decide (1 ≤ er) := by have := HV.out; simpa using this.symm
                              subst hV
                              clear HN H5 H8 H7
                              go_wp2
                              go_ret
                              exact ⟨rfl, HB3.out⟩
                            · have hV : U = false := by have := HV.out; simpa [k, k4, k5, k6, k7, k8, k9] using this.symm
                              subst hV
                              have q1 := (neb kd 1 (fun e => k (.inl e))).1
                              have q2 := (neb kd 2 (fun e => k (.inr (.inl e)))).1
                              have q3 := (neb kd 3 (fun e => k (.inr (.inr e)))).1
                              have q4 := (neb _ _ k4).1
                              have q5 := (neb _ _ k5).1
                              have q6 := (neb _ _ k6).1
                              have q7 := (neb _ _ k7).1
                              have q8 := (neb _ _ k8).1
                              have q9 := (neb _ _ k9).1
                              clear HN H5 H8 H7 k k4 k5 k6 k7 k8 k9
                              go_wp2
                              go_ret
                              exact ⟨rfl, HB3.out⟩
            · have hU : U = false := by rw [← HU.out, decide_eq_false s4]; simp
              subst hU
              have t1 : ¬ se < 0 := by omega
              have t2 : ¬ tu < 0 := by omega
              have t3 : ¬ xi < 0 := by omega
              have t4 : ti < 0 := by omega
              go_wp2
              go_ret
              exact ⟨rfl, HB1.out⟩
          · have hU : U = false := by rw [← HU.out, decide_eq_false s3]; simp
            subst hU
            have t1 : ¬ se < 0 := by omega
            have t2 : ¬ tu < 0 := by omega
            have t3 : xi < 0 := by omega
            go_wp2
            go_ret
            exact ⟨rfl, HB1.out⟩
        · have hU : U = false := by rw [← HU.out, decide_eq_false s2]; simp
          subst hU
          have t1 : ¬ se < 0 := by omega
          have t2 : tu < 0 := by omega
          go_wp2
          go_ret
          exact ⟨rfl, HB1.out⟩
      · have hU : U = false := by rw [← HU.out, decide_eq_false s1]; simp
        subst hU
        have t1 : se < 0 := by omega
        go_wp2
        go_ret
        exact ⟨rfl, HB1.out⟩
    · have hU : U = false := by rw [← HU.out, decide_eq_false g2]; simp
      subst hU
      rw [decide_eq_true (show (0 : Int) ≤ zx by omega), decide_eq_false g2, hw1] at hm
      have z1' : ¬ zx < 1 := by omega
      go_enter Tryz.func37, Tryz.ntmps37
      go_wp2_with fail
      refine hm.mono ?_
      rintro e w2 ⟨rfl, rfl⟩
      clear hm
      go_wp2
      go_ret
      exact ⟨rfl, HQ.out⟩
  · have hU : U = false := by rw [← HU.out, decide_eq_false g1]; simp
    subst hU
    have z1' : zx < 1 := by omega
    clear hm
    go_enter Tryz.func37, Tryz.ntmps37
    go_wp2
    go_ret
    exact ⟨rfl, HQ.out⟩
theorem rright_any (f : Fl) (ps : List Fl) (A1 A2 A3 : Option Addr) (c1 c2 c3 : Nat) (w : World) (hL : PA.Laid w) (hv : DVal w f ps A1 c1 A2 c2 A3 c3) (hf : DedFit f ps) (hl : f.np ≤ 9223372036854775807) :
    Calls Tryz.prog 37 #[.agg #[.int .i64 f.zxid, .int .u8 f.kind, .int .i64 f.session, .int .i64 f.turn, .int .i64 f.xid, .int .i64 f.time, .string (mkS f.path), .slice A1 f.data.length c1, .int .i64 f.owner, .int .i64 f.version, .int .i64 f.cversion, .int .i64 f.timeout, .int .i64 f.err, .int .i64 f.cver, .slice A2 f.mems.length c2, .slice A3 f.np c3]] w fun e w' => e = .returned (.bool (rightD f ps)) ∧ Below w.heap.size w w' := by
  have hlen := hf.len
  refine (rright_core f.zxid f.kind f.session f.turn f.xid f.time f.owner f.version f.cversion f.timeout f.err f.cver f.path A1 A2 A3 f.data.length f.mems.length f.np c1 c2 c3 w hf.top.zxid (bareB f) (docNode f) (docParts ps 0 500 false) (docParts ps 1 16 true) (decide (chk f.cver f.mems = 0)) (fun w' => rbare_any f A1 A2 A3 c1 c2 c3 w') (fun w' hb => rnode_any f A1 A2 A3 c1 c2 c3 w' (hL.below hb)) (fun w' hb => rparts_any false (hv.pr.grow hb) (by omega) 0 500 (hL.below hb)) (fun w' hb => rparts_any true (hv.pr.grow hb) (by omega) 1 16 (hL.below hb)) (fun w' hb => ?_)).mono ?_
  · refine (rf4Check_any (hv.ms.below' hb) f.cver).mono ?_
    rintro e w'' ⟨rfl, hb2⟩
    exact ⟨_, rfl, rfl, hb2⟩
  · rintro e w' ⟨rfl, hb⟩
    refine ⟨retb ?_, hb⟩
    rw [← docRight_eq]
    unfold docRight docHead docKind isNode
    have e1 : ((decide (f.kind = 1) || decide (f.kind = 2) || decide (f.kind = 3)) = true) = (f.kind = 1 ∨ f.kind = 2 ∨ f.kind = 3) := by simp [or_assoc]
    simp only [e1]
end Go.Proofs.YtaeoafedfgbcaaaGreatDoor.DD
