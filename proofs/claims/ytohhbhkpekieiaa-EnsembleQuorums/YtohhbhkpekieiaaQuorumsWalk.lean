/- The walk of EnsembleQuorums. -/
import Derived.Test.YtohhbhkpekieiaaKeptQ
namespace Go.Proofs.Ytohhbhkpekieiaa
open Go.RowKit Go.Sort

theorem cfgs_rg {w : World} {v : Value} {cs : List Cfg} {B : Nat} (h : Cfgs w B v cs) (hB : B ≤ w.heap.size) (d : Nat) (os : Array Obj) : Cfgs (grow (redrawn w d) os) B v cs := h.below ((below_regrown w d os).mono hB)
set_option maxRecDepth 100000 in
set_option maxHeartbeats 2000000 in
theorem quorums_any {w : World} {v x : Value} {cs : List Cfg} {ids : List Int} (h : Cfgs w w.heap.size v cs) (hx : Ns w x ids) (hl : ids.length ≤ maxLen) (hc : cs.length ≤ maxLen) (hm : ∀ c ∈ cs, c.2.length ≤ 4398046511104) :
    Calls Try.prog 4 #[v, x] w fun e w' => e = .returned (.bool true) ∧ Below w.heap.size w w' := by
  have HC : Hid (Cfgs w w.heap.size v cs) := h
  have HX : Hid (Ns w x ids) := hx
  have HM : Hid (∀ c ∈ cs, c.2.length ≤ 4398046511104) := hm
  obtain ⟨A, C, rfl⟩ := h.form
  obtain ⟨AX, CX, rfl⟩ := hx.form
  clear h hx hm
  unfold maxLen at hl hc
  generalize hn : cs.length = n at HC hc ⊢
  generalize hk : ids.length = m at HX hl ⊢
  have HN : Hid (cs.length = n) := hn
  have HK : Hid (ids.length = m) := hk
  clear hn hk
  go_enter Try.func4, Try.ntmps4
  go_wp2_with fail
  refine (awake_any _).mono ?_
  rintro e w1 ⟨rfl, hB1⟩
  have HB1 : Hid (Below w.heap.size w w1) := hB1
  clear hB1
  by_cases h1 : 50 < n
  · go_wp2
    go_ret
    exact ⟨rfl, HB1.out⟩
  · by_cases h2 : 1000 < m
    · go_wp2
      go_ret
      exact ⟨rfl, HB1.out⟩
    · have h3 := lentQ_any (HC.out.below HB1.out |> fun h => by
          have := HB1.out.size
          exact (show Cfgs w1 w1.heap.size (.slice A n C) cs from by
            rcases h with h | h | ⟨p0, b, o, c, e, q1, q2, q3, q4⟩
            · exact .inl h
            · exact .inr (.inl h)
            · exact .inr (.inr ⟨p0, b, o, c, e, q1, by omega, Nat.le_refl _, fun j hj => by
                obtain ⟨r1, A', C', r3, r4, r5⟩ := q4 j hj
                exact ⟨r1, A', C', r3, r4, fun k hk => by have := r5 k hk; omega⟩⟩))) HN.out (by omega) HM.out
      go_wp2_with fail
      refine h3.mono ?_
      rintro e w2 ⟨rfl, hL2, hB2⟩
      have HB2 : Hid (Below w.heap.size w w2) := below_two HB1.out hB2
      have HL2 : Hid (LentQ w2 w1.heap.size cs) := hL2
      have h4 := LN.lent_any (HX.out.below' HB2.out) (by rw [HK.out]; omega)
      rw [HK.out] at h4
      clear h3 hL2 hB2 HB1
      generalize w1.heap.size = g1 at HL2 ⊢
      clear w1
      go_wp2_with fail
      refine h4.mono ?_
      rintro e w3 ⟨rfl, hL3, hB3⟩
      have HB3 : Hid (Below w.heap.size w w3) := below_two HB2.out hB3
      have HQ3 : Hid (LentQ w3 g1 cs) := HL2.out.below hB3
      have HI3 : Hid (LN.Lent w3 w2.heap.size ids) := hL3
      clear h4 hL3 hB3 HB2 HL2
      generalize w2.heap.size = g2 at HI3 ⊢
      clear w2
      clear hl hc
      have hd1 : decide ((50 : Int) < (n : Int)) = false := by simp; omega
      have hd2 : decide ((1000 : Int) < (m : Int)) = false := by simp; omega
      go_wp2_with fail
      clear hd1 hd2
      go_loopw [7] (fun i wr => ∃ k : Nat, i = .int .i64 k ∧ k ≤ n ∧ Below w3.heap.size w3 wr) (fun i _ => n - (intOf i).toNat)
      case atStart => exact ⟨0, rfl, by omega, Below.refl _ _⟩
      case round =>
        obtain ⟨k, rfl, hk, hb⟩ := hrel
        have HB : Hid (Below w3.heap.size w3 wr) := hb
        have HBw : Hid (Below w.heap.size w wr) := below_two HB3.out hb
        have HQ : Hid (LentQ wr g1 cs) := HQ3.out.below hb
        have HI : Hid (LN.Lent wr g2 ids) := HI3.out.below hb
        clear hb
        by_cases hlt : k < n
        · obtain ⟨b, o, rfl, -, -, x0, A1, C1, x1, xm, -⟩ := (HC.out.below HBw.out).at' k (by have := HN.out; omega)
          obtain ⟨q, y0, y1, hq⟩ := HQ.out.at' k (by have := HN.out; omega)
          have hI := HI.out.bs
          have hX := HX.out.below' HBw.out
          have hil : ids.length ≤ 9223372036854775807 := by have := HK.out; omega
          rw [HK.out] at hI
          generalize (cs[k]'(by have := HN.out; omega)) = mm at x0 x1 xm y0 y1 hq
          obtain ⟨ver, ml⟩ := mm
          dsimp only at x0 x1 xm y0 y1 hq
          have a0 := fun d os => cell_regrown x0 d os
          have a1 := fun d os => cell_regrown x1 d os
          have b0 := fun d os => cell_regrown y0 d os
          have b1 := fun d os => cell_regrown y1 d os
          have kQ := fun d os => Calls.regrown_of (Quorum_any (mems_rg hq.mems d os) ver (hI.below' (below_regrown wr d os)) hil)
          have rQ := fun d os => Calls.regrown_of (rf4Quorum_any (mems_rg xm d os) ver (hX.below' (below_regrown wr d os)) hil)
          clear x0 x1 y0 y1 xm hq hI hX hil
          generalize ml.length = nl at a1 b1 kQ rQ
          generalize quoB ver ml ids = QQ at kQ rQ
          go_wp2_with fail
          refine wp_region_quiet_below (by kernel_rfl) (by kernel_rfl) ?_
          repeat (go_big_quiet_step (first | (go_at_call 17; exact kQ _ _) | (go_at_call 18; exact rQ _ _)))
          refine wpQuiet_nil ?_
          intro _ hw'
          obtain ⟨⟨dq, osq⟩, hw''⟩ := hw'
          subst hw''
          go_wp2
          exact ⟨⟨k + 1, by go_num, by omega, below_rg HB.out dq osq⟩, by simp [intOf]; omega⟩
        · have hI := HI.out.bs
          have hX := HX.out.below' HBw.out
          have hil : ids.length ≤ 9223372036854775807 := by have := HK.out; omega
          have hcl : cs.length ≤ 9223372036854775807 := by have := HN.out; omega
          have hCw : Cfgs wr wr.heap.size (.slice A n C) cs := by
            have h := HC.out.below HBw.out
            have := HBw.out.size
            rcases h with h | h | ⟨p0, b, o, c, e, q1, q2, q3, q4⟩
            · exact .inl h
            · exact .inr (.inl h)
            · exact .inr (.inr ⟨p0, b, o, c, e, q1, by omega, Nat.le_refl _, fun j hj => by
                obtain ⟨r1, A', C', r3, r4, r5⟩ := q4 j hj
                exact ⟨r1, A', C', r3, r4, fun k hk => by have := r5 k hk; omega⟩⟩)
          have HCr : Hid (∀ w', Below wr.heap.size wr w' → Cfgs w' w'.heap.size (.slice A n C) cs ∧ Ns w' (.slice AX m CX) ids ∧ LentQ w' g1 cs ∧ LN.Lent w' g2 ids) := by
            intro w' hB
            refine ⟨?_, hX.below' hB, HQ.out.below hB, HI.out.below hB⟩
            have h := hCw.below hB
            have := hB.size
            rcases h with h | h | ⟨p0, b, o, c, e, q1, q2, q3, q4⟩
            · exact .inl h
            · exact .inr (.inl h)
            · exact .inr (.inr ⟨p0, b, o, c, e, q1, by omega, Nat.le_refl _, fun j hj => by
                obtain ⟨r1, A', C', r3, r4, r5⟩ := q4 j hj
                exact ⟨r1, A', C', r3, r4, fun k hk => by have := r5 k hk; omega⟩⟩)
          have aQ := All_any HQ.out.cfgs hI hil hcl
          rw [HN.out, HK.out] at aQ
          have bQ := fun w' (hB : Below wr.heap.size wr w') => rf4All_any (HCr.out w' hB).1 (HCr.out w' hB).2.1 hil hcl
          clear hI hX hil hcl hCw
          generalize allQ cs ids = AQ at aQ bQ
          go_wp2_with fail
          refine aQ.mono ?_
          rintro e w4 ⟨rfl, hB4⟩
          have hb := bQ w4 hB4
          clear aQ bQ
          go_wp2_with fail
          refine hb.mono ?_
          rintro e w5 ⟨rfl, hB5⟩
          have HB5 : Hid (Below wr.heap.size wr w5) := below_two hB4 hB5
          have hk := keptQ_any g1 n _ cs w5 (HCr.out w5 HB5.out).2.2.1 (HCr.out w5 HB5.out).1 HN.out (by omega) HM.out
          clear hB4 hB5 hb
          go_wp2_with fail
          refine hk.mono ?_
          rintro e w6 ⟨rfl, hB6⟩
          have HB6 : Hid (Below wr.heap.size wr w6) := below_two HB5.out hB6
          have hn := LN.kept_any g2 m _ ids w6 (HCr.out w6 HB6.out).2.2.2 (HCr.out w6 HB6.out).2.1 HK.out (by omega)
          clear hB6 hk HB5
          go_wp2_with fail
          refine hn.mono ?_
          rintro e w7 ⟨rfl, q, hw7⟩
          have HB7 : Hid (Below w.heap.size w w7) := by
            show Below _ _ _
            rw [hw7]
            exact below_two (below_two HBw.out HB6.out) ((Chg.drewN Non _ q).below (fun _ h => h.elim) (Nat.le_refl _))
          clear hn hw7
          go_wp2
          go_ret
          exact ⟨rfl, HB7.out⟩
end Go.Proofs.Ytohhbhkpekieiaa
