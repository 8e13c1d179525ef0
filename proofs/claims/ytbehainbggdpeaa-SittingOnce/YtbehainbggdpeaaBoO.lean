/- The walk of SittingOnce. -/
import Derived.Test.YtbehainbggdpeaaBoE
import Derived.Test.YtbehainbggdpeaaBoL
import Derived.Test.YtbehainbggdpeaaBoOm
namespace Go.Proofs.Ytbehainbggdpeaa
set_option linter.unusedSimpArgs false
set_option linter.unusedVariables false
open Go.RowKit Go.MapKept
set_option linter.unusedVariables false
set_option linter.unusedSimpArgs false

theorem run_min2 (x y : Int) (ty : TypeId) (w : World) : (Builtin.min_ #[2, 2] ty #[.int .i64 x, .int .i64 y]).run Try.prog w = .ok (.int .i64 (min x y)) w := by
  have : (if y < x then y else x) = min x y := by split <;> omega
  simp [Builtin.min_, Builtin.min2, ← this]
theorem Ns.far {w w' : World} {base b m n : Nat} {v : Value} {l : List Int} (ho : w.ownsRow base 2 1 v n (iv l)) (hc : Chg (Own b m) w w') (hb : b < base) (hm : m < base) : Ns w' v l :=
  (Ns.of_owns ho).keep hc (fun k hk e => by
    obtain ⟨_, _, h⟩ := iblk ho (bk_blk hk)
    rcases e with e | e <;> omega)
theorem wpList_bmin {w : World} {ops : Array Oper} {rest : List Oper} {o : Oper} {a : Act} {Q : Exit → Act → World → Prop} (hg : o.guard = none) (x y : Operand) (hop : o.op = Op.call { callee := Callee.builtin Builtin.min, args := #[x, y], argTypes := #[2, 2] }) (m n : Int) (hx : a.eval x = .int .i64 m) (hy : a.eval y = .int .i64 n)
    (hK : wpList Try.prog ops Q rest (a.put o.dst (.int .i64 (min m n))) w) : wpList Try.prog ops Q (o :: rest) a w := by
  refine wpList_plain hg fun K' hK' => ?_
  unfold Oper.wp execOp
  simp only [hop, resolve, invoke, builtin, Sem.run_bind, Sem.run_pure, Result.andThen_ok, List.map_toArray, List.map_cons, List.map_nil, hx, hy, run_min2]
  exact hK' _ _ hK
set_option maxRecDepth 100000 in
set_option maxHeartbeats 8000000 in
theorem once_any {w : World} {x : Value} {l : List Do1} (hD : Dos w x l) (nn back : Int) (hn : i64 nn) (hbk : i64 back) :
    Calls Try.prog 6 #[x, .int .i64 nn, .int .i64 back] w fun e w' => e = .returned (.bool true) ∧ Below w.heap.size w w' := by
  obtain ⟨A, C, rfl, hC⟩ := hD.form
  have HD : Hid (Dos w (.slice A l.length C) l) := hD
  have c1 := awake_any w
  clear hD
  go_enter Try.func6, Try.ntmps6
  go_wp2_with fail
  refine c1.mono ?_
  rintro e w1 ⟨rfl, hB1⟩
  have HB1 : Hid (Below w.heap.size w w1) := hB1
  clear c1 hB1
  go_upto_if 19 with fail
  go_cut [0] from 20 to 21 (fun v0 wx => w1 = wx ∧ ∃ N : Nat, N ≤ 200 ∧ N ≤ l.length ∧ v0 = .slice A N C)
  case first =>
    by_cases h : 200 < l.length
    · go_wp2_with fail
      go_meet
      exact ⟨rfl, 200, Nat.le_refl _, by omega, rfl⟩
    · go_wp2_with fail
      go_meet
      exact ⟨rfl, l.length, by omega, Nat.le_refl _, rfl⟩
  case rest =>
  obtain ⟨hw1, N, hN, hNl, rfl⟩ := hcut
  subst hw1
  have HT : Hid (Dos w (.slice A N C) (l.take N)) := HD.out.take N hNl
  have HTL : Hid ((l.take N).length = N) := by show _ = _; rw [List.length_take]; omega
  obtain ⟨lt, hlt⟩ : ∃ lt, l.take N = lt := ⟨_, rfl⟩
  rw [hlt] at HT HTL
  have HN : Hid (N ≤ 200) := hN
  clear hlt hN hNl hC HD
  have c2 := new_any 0 w1
  rw [show clamp 0 = 0 by decide] at c2
  go_wp2_with fail
  refine c2.mono ?_
  rintro e w2 ⟨b, m, rfl, hX, hb, hm, hB2⟩
  have HBM : Hid (w.heap.size ≤ b ∧ w.heap.size ≤ m) := ⟨Nat.le_trans HB1.out.size hb, Nat.le_trans HB1.out.size hm⟩
  have HB2 : Hid (Below w.heap.size w w2) := HB1.out.trans (hB2.mono HB1.out.size)
  have HX2 : Hid (Bx w2 b m 0 []) := hX
  clear c2 hX hb hm hB2
  go_wp2_with fail
  have hN200 := HN.out
  go_loopw [8] (fun v8 wr => ∃ (k : Nat) (now : Int) (S : List Fi), v8 = .int .i64 k ∧ k ≤ N ∧ S.length ≤ k ∧ Bx wr b m now S ∧ Below w.heap.size w wr) (fun v8 _ => N - (Go.Lib.intOf v8).toNat)
  case atStart => exact ⟨0, 0, [], rfl, Nat.zero_le _, Nat.le_refl _, HX2.out, HB2.out⟩
  case round =>
    obtain ⟨k, now, S, rfl, hk, hS, hX, hB⟩ := hrel
    by_cases hlt : k < N
    · obtain ⟨g, o, rfl, hd0, hok, hg⟩ := HT.out.at k (by rw [HTL.out]; exact hlt)
      have hd := hd0.keep (Chg.of_below hB) id
      clear hd0
      generalize (lt[k]'(by rw [HTL.out]; exact hlt)) = x at hd hok
      obtain ⟨op, ses, tmo, nw⟩ := x
      have hgb : ¬ Own b m g := by intro e; have := HBM.out; rcases e with e | e <;> omega
      have i1 : (k : Int) < (N : Int) := by omega
      have i2 : (0 : Int) ≤ (k : Int) := by omega
      have hdr := hd.keep (Chg.drew Non wr) id
      have d1 := hdr.c1
      have d2 := hdr.c2
      have c3 := add_any hX.drew ses tmo hok.2.1.2
      obtain ⟨R, hR⟩ : ∃ R, addR now ses tmo S = R := ⟨_, rfl⟩
      have HR : Hid (R.length ≤ k + 1) := by show _ ≤ _; rw [← hR]; have := len_addR now ses tmo S; omega
      rw [hR] at c3
      have HD : Hid (DoIs wr g o k ⟨op, ses, tmo, nw⟩) := hd
      have HDR : Hid (DoIs wr.drew g o k ⟨op, ses, tmo, nw⟩) := hdr
      have HOK : Hid (DoOk ⟨op, ses, tmo, nw⟩) := hok
      have HG : Hid (¬ Own b m g) := hgb
      have HBW : Hid (Below w.heap.size w wr) := hB
      clear hd hdr hok hgb hB hR hX hS hg
      simp only at d1 d2
      go_wp2_with fail
      go_region_held3 (fun w' => w'.cell? ⟨g, o + k * 4 + 1, none⟩ = some (.int .i64 ses) ∧ w'.cell? ⟨g, o + k * 4 + 2, none⟩ = some (.int .i64 tmo))
        (first | exact ⟨d1, d2⟩ | exact ⟨k1, k2⟩ | go_keep)
        ((go_at_call 10; refine c3.mono ?_; rintro e w3 ⟨rfl, hX3, hc3, hs3⟩; have hd3 := HDR.out.keep hc3 HG.out; have k1 := hd3.c1; have k2 := hd3.c2))
      have HX3 : Hid (Bx w3 b m now R) := hX3
      have hB3 : Below w.heap.size w w3 := HBW.out.trans (own_below ((Chg.drew (Own b m) wr).trans hc3) HBM.out.1 HBM.out.2 HBW.out.size)
      have HB3 : Hid (Below w.heap.size w w3) := hB3
      have HD3 : Hid (DoIs w3 g o k ⟨op, ses, tmo, nw⟩) := hd3
      have d30 := hd3.c0
      have d33 := hd3.c3
      simp only at d30 d33
      clear c3 hX3 hc3 hs3 hd3 k1 k2 d1 d2 hB3
      by_cases h3 : op.tmod 3 = 0
      · have c4 := tick_any HX3.out nw (by have := HR.out; omega)
        go_wp2_with fail
        refine c4.mono ?_
        rintro e w4 ⟨A4, C4, rfl, _, hX4, hc4⟩
        have HE : Hid (Bx w4 b m (tickN now nw) (rest (tickN now nw) R) ∧ Below w.heap.size w w4) := ⟨hX4, HB3.out.trans (own_below hc4 HBM.out.1 HBM.out.2 HB3.out.size)⟩
        clear c4 hX4 hc4
        go_wp2_with fail
        go_roundw
        case rel => exact ⟨k + 1, _, _, by go_num, by omega, by have := HR.out; have := len_rest (tickN now nw) R; omega, HE.out.1, HE.out.2⟩
        case measure => simp [Go.Lib.intOf]; omega
      · go_wp2_with fail
        go_roundw
        case rel => exact ⟨k + 1, _, _, by go_num, by omega, HR.out, HX3.out, HB3.out⟩
        case measure => simp [Go.Lib.intOf]; omega
    · have HS : Hid (S.length ≤ 200) := by show _ ≤ _; have := HN.out; omega
      have HX : Hid (Bx wr b m now S) := hX
      have HB : Hid (Below w.heap.size w wr) := hB
      have HNW : Hid (now ≤ late) := hX.nw.2
      have HU : Hid (asc S) := hX.up
      have c5 := all_any hX (by omega)
      obtain ⟨n1, hn1⟩ : ∃ n1, min nn 1152921504606846976 = n1 := ⟨_, rfl⟩
      have HN1 : Hid (n1 ≤ late) := by show n1 ≤ late; rw [← hn1]; unfold late; omega
      clear hX hB hS
      go_wp2_with (first
        | (at_builtin; refine wpList_bmin rfl _ _ rfl nn 1152921504606846976 rfl rfl ?_; rw [hn1])
        | fail)
      refine c5.mono ?_
      rintro e w5 ⟨A5, C5, rfl, ho5, hB5⟩
      have hltb := HX.out.ltb
      have hltm := HX.out.ltm
      have h5 := HX.out.below hB5
      have HO5 : Hid (w5.ownsRow wr.heap.size 2 1 (.slice A5 S.length C5) S.length (iv (S.map fun p => p.nm)) ∧ b < wr.heap.size ∧ m < wr.heap.size) := ⟨ho5, hltb, hltm⟩
      have HB5 : Hid (Below w.heap.size w w5) := HB.out.trans (hB5.mono HB.out.size)
      have c6 := tick_any h5 n1 (by have := HS.out; omega)
      obtain ⟨N1, hN1⟩ : ∃ N1, tickN now n1 = N1 := ⟨_, rfl⟩
      have HT1 : Hid (tickN N1 (min n1 back) = N1) := by show _ = _; rw [← hN1]; exact tick_back HN1.out HNW.out
      rw [hN1] at c6
      clear c5 ho5 hB5 hltb hltm h5 hN1 hn1
      go_wp2_with fail
      refine c6.mono ?_
      rintro e w6 ⟨A6, C6, rfl, ho6, hX6, hc6⟩
      have HW6 : Hid (Ns w6 (.slice A5 S.length C5) (S.map fun p => p.nm)) := Ns.far HO5.out.1 hc6 HO5.out.2.1 HO5.out.2.2
      have HG6 : Hid (Ns w6 (.slice A6 (told N1 S).length C6) (told N1 S)) := Ns.of_owns ho6
      have HB6 : Hid (Below w.heap.size w w6) := HB5.out.trans (own_below hc6 HBM.out.1 HBM.out.2 HB5.out.size)
      have HX6 : Hid (Bx w6 b m N1 (rest N1 S)) := hX6
      have c7 := all_any hX6 (by have := HS.out; have := len_rest N1 S; omega)
      clear c6 ho6 hX6 hc6
      go_wp2_with fail
      refine c7.mono ?_
      rintro e w7 ⟨A7, C7, rfl, ho7, hB7⟩
      have HW7 : Hid (Ns w7 (.slice A5 S.length C5) (S.map fun p => p.nm)) := HW6.out.below hB7
      have HG7 : Hid (Ns w7 (.slice A6 (told N1 S).length C6) (told N1 S)) := HG6.out.below hB7
      have HR7 : Hid (Ns w7 (.slice A7 (rest N1 S).length C7) ((rest N1 S).map fun p => p.nm)) := Ns.of_owns ho7
      have HX7 : Hid (Bx w7 b m N1 (rest N1 S)) := HX6.out.below hB7
      have HFAR : Hid (∀ k, bk (.slice A7 (rest N1 S).length C7) = some k → ¬ Own b m k) := by
        intro k hk e
        obtain ⟨_, _, h⟩ := iblk ho7 (bk_blk hk)
        have := HX6.out.ltb
        have := HX6.out.ltm
        rcases e with e | e <;> omega
      have HB7 : Hid (Below w.heap.size w w7) := HB6.out.trans (hB7.mono HB6.out.size)
      have hsum := told_rest_len N1 S
      have hs200 := HS.out
      obtain ⟨nG, hnG⟩ : ∃ n, (told N1 S).length = n := ⟨_, rfl⟩
      obtain ⟨nR, hnR⟩ : ∃ n, (rest N1 S).length = n := ⟨_, rfl⟩
      obtain ⟨nS, hnS⟩ : ∃ n, S.length = n := ⟨_, rfl⟩
      have HNG : Hid ((told N1 S).length = nG) := hnG
      have HNR : Hid (((rest N1 S).map fun p => p.nm).length = nR) := by show _ = _; rw [List.length_map]; exact hnR
      have HNS : Hid (S.length = nS) := hnS
      rw [hnG, hnR, hnS] at hsum
      rw [hnS] at hs200
      rw [hnG] at HG7 ⊢
      rw [hnR] at HR7 HFAR ⊢
      rw [hnS] at HW7 ⊢
      clear hnG hnR hnS c7 ho7 hB7 HW6 HG6 HX6 HB6 HO5 HB5
      have hs1 : ((nG : Int) + (nR : Int) != (nS : Int)) = false := by rw [bne_eq_false_iff_eq]; omega
      go_wp2_with fail
      clear hs1
      go_loopw [12, 13, 14] (fun v12 v13 v14 wx => ∃ (i q : Nat), v14 = .int .i64 i ∧ i ≤ nS ∧ v12 = .int .i64 ((told N1 (S.take i)).length : Nat) ∧ v13 = .int .i64 ((rest N1 (S.take i)).length : Nat) ∧ wx = w7.drewN q) (fun _ _ v14 _ => nS - (Go.Lib.intOf v14).toNat)
      case atStart => exact ⟨0, 0, rfl, Nat.zero_le _, rfl, rfl, rfl⟩
      case round =>
        obtain ⟨i, q, rfl, hi, rfl, rfl, hwr⟩ := hrel
        have HWR : Hid (wr = w7.drewN q) := hwr
        have HWr : Hid (Ns wr (.slice A5 nS C5) (S.map fun p => p.nm)) := by rw [hwr]; exact HW7.out.drewN q
        clear hwr
        by_cases hlt2 : i < nS
        · have hiS : i < S.length := by rw [HNS.out]; exact hlt2
          have hiM : i < (S.map fun p => p.nm).length := by rw [List.length_map]; exact hiS
          obtain ⟨b1, o1, rfl, hl1, x1⟩ := HWr.out.at' i hiM
          have e1 : (S.map fun p => p.nm)[i]'hiM = (S[i]'hiS).nm := by simp
          rw [e1] at x1
          obtain ⟨z, hz⟩ : ∃ z, (S[i]'hiS).nm = z := ⟨_, rfl⟩
          rw [hz] at x1
          have HZ : Hid ((S[i]'hiS).nm = z) := hz
          obtain ⟨g, hg⟩ : ∃ g, (told N1 (S.take i)).length = g := ⟨_, rfl⟩
          obtain ⟨r, hr⟩ : ∃ r, (rest N1 (S.take i)).length = r := ⟨_, rfl⟩
          have HGE : Hid ((told N1 (S.take i)).length = g) := hg
          have HRE : Hid ((rest N1 (S.take i)).length = r) := hr
          rw [hg, hr]
          have hsl : (S.take i).length = i := by rw [List.length_take]; omega
          have hgi : g ≤ i := by rw [← hg]; have := len_told N1 (S.take i); omega
          have hri : r ≤ i := by rw [← hr]; have := len_rest N1 (S.take i); omega
          have HPR : Hid (∀ h0 : 0 < i, ∃ y, wr.cell? ⟨b1, o1 + (i - 1), none⟩ = some (.int .i64 y) ∧ y < z) := by
            intro h0
            have hiM' : i - 1 < (S.map fun p => p.nm).length := by omega
            obtain ⟨b2, o2, e2, _, x2⟩ := HWr.out.at' (i - 1) hiM'
            cases e2
            refine ⟨_, x2, ?_⟩
            have := once_rises HU.out hiS h0
            rw [hz] at this
            simpa using this
          have j0 : (i : Int) < (nS : Int) := by omega
          have j1 : (0 : Int) ≤ (i : Int) := by omega
          have j2 : ¬ (i : Int) < 0 := by omega
          clear hz hg hr e1 hiM hsl hsum
          go_wp2_with fail
          go_cut [78] from 79 to 92 (fun v78 wx => v78 = .bool false ∧ ∃ q', wx = w7.drewN q')
          case first =>
            by_cases hi0 : i = 0
            · subst hi0
              go_wp2_with fail
              go_quiet (fail)
              go_wp2_with fail
              go_meet
              exact ⟨rfl, q + nq, by rw [HWR.out]; simp⟩
            · obtain ⟨y, x2, hy⟩ := HPR.out (by omega)
              obtain ⟨j, hj⟩ : ∃ j, i = j + 1 := ⟨i - 1, by omega⟩
              rw [show i - 1 = j by omega] at x2
              have k1 : IntKind.i64.wrap ((i : Int) - 1) = (j : Int) := by rw [show (i : Int) - 1 = (j : Int) by omega]; exact Go.IntWalk.i64_in _ (by omega)
              have k2 : (0 : Int) < (i : Int) := by omega
              have k3 : (j : Int) < (nS : Int) := by omega
              have k4 : ¬ z ≤ y := by omega
              have k5 : ¬ (j : Int) < 0 := by omega
              have k7 : (0 : Int) ≤ (j : Int) := by omega
              have k8 : 0 < i := by omega
              have k9 : decide ((0 : Int) < (i : Int)) = true := decide_eq_true k2
              clear hj hi0 hy
              go_wp2_with fail
              go_quiet (fail)
              go_wp2_with fail
              go_meet
              exact ⟨by rw [decide_eq_false (by omega)], q + nq, by rw [HWR.out]; simp⟩
          case rest =>
          obtain ⟨rfl, q1, hq1⟩ := hcut
          obtain ⟨W1, hW1⟩ : ∃ x, x = wc := ⟨_, rfl⟩
          subst hW1
          have HWC : Hid (W1 = w7.drewN q1) := hq1
          have HGc : Hid (Ns W1 (.slice A6 nG C6) (told N1 S)) := by rw [hq1]; exact HG7.out.drewN q1
          have HRc : Hid (Ns W1 (.slice A7 nR C7) ((rest N1 S).map fun p => p.nm)) := by rw [hq1]; exact HR7.out.drewN q1
          have x1c : W1.cell? ⟨b1, o1 + i, none⟩ = some (.int .i64 z) := by
            have h1 : Chg Non w7 W1 := by rw [hq1]; exact Chg.drewN _ _ _
            have h2 : Chg Non w7 wr := by rw [HWR.out]; exact Chg.drewN _ _ _
            have hs : w7.heap.size = wr.heap.size := by rw [HWR.out]; cases q <;> rfl
            have hl7 : b1 < w7.heap.size := by omega
            exact (h1.cell (a := ⟨b1, o1 + i, none⟩) hl7 id).trans ((h2.cell (a := ⟨b1, o1 + i, none⟩) hl7 id).symm.trans x1)
          obtain ⟨bq, hbq⟩ : ∃ bq, decide ((S[i]'hiS).en ≤ N1) = bq := ⟨_, rfl⟩
          have HBQ : Hid (decide ((S[i]'hiS).en ≤ N1) = bq) := hbq
          clear hq1 hbq x1 HPR HWr hl1
          go_wp2_with fail
          go_cut [93] from 94 to 108 (fun v93 wx => v93 = .bool bq ∧ ∃ q', wx = w7.drewN q')
          case first =>
            by_cases hgt : g < nG
            · have hgM : g < (told N1 S).length := by rw [HNG.out]; exact hgt
              obtain ⟨b2, o2, rfl, _, y1⟩ := HGc.out.at' g hgM
              obtain ⟨y, hy⟩ : ∃ y, (told N1 S)[g]'hgM = y := ⟨_, rfl⟩
              rw [hy] at y1
              have k1 : (g : Int) < (nG : Int) := by omega
              have k2 : (0 : Int) ≤ (g : Int) := by omega
              have hbv : (y == z) = bq := by
                rw [← HBQ.out]
                by_cases he : (S[i]'hiS).en ≤ N1
                · obtain ⟨_, h2, _, _⟩ := once_gone hiS he
                  have h2' : (told N1 S)[g]'hgM = (S[i]'hiS).nm := by rw [← h2]; congr 1; exact HGE.out.symm
                  rw [hy, HZ.out] at h2'
                  rw [decide_eq_true he, h2']; simp
                · have h2 := (once_kept HU.out hiS (Int.not_le.1 he)).1 (by rw [HGE.out]; exact hgM)
                  have h2' : ¬ (told N1 S)[g]'hgM = (S[i]'hiS).nm := by
                    intro e; apply h2; rw [← e]; simp only [HGE.out]
                  rw [hy, HZ.out] at h2'
                  rw [decide_eq_false he]; simpa using h2'
              clear hy hgM hgt
              go_wp2_with fail
              go_quiet (fail)
              go_wp2_with fail
              go_meet
              exact ⟨by first | rfl | rw [hbv], q1 + nq, by rw [HWC.out]; simp⟩
            · have hbf : bq = false := by
                rw [← HBQ.out]
                refine decide_eq_false fun he => ?_
                obtain ⟨h1, _⟩ := once_gone hiS he
                rw [HGE.out, HNG.out] at h1
                exact hgt h1
              subst hbf
              have k1 : ¬ (g : Int) < (nG : Int) := by omega
              go_wp2_with fail
              go_quiet (fail)
              go_wp2_with fail
              go_meet
              exact ⟨by first | rfl | simp, q1 + nq, by rw [HWC.out]; simp⟩
          case rest =>
          obtain ⟨rfl, q2, hq2⟩ := hcut
          have HWE : Hid (wc = w7.drewN q2) := hq2
          have HRe : Hid (Ns wc (.slice A7 nR C7) ((rest N1 S).map fun p => p.nm)) := by rw [hq2]; exact HR7.out.drewN q2
          have x1e : wc.cell? ⟨b1, o1 + i, none⟩ = some (.int .i64 z) := by
            have h1 : Chg Non w7 wc := by rw [hq2]; exact Chg.drewN _ _ _
            have h2 : Chg Non w7 W1 := by rw [HWC.out]; exact Chg.drewN _ _ _
            have hs : w7.heap.size = W1.heap.size := by rw [HWC.out]; cases q1 <;> rfl
            have hl7 : b1 < w7.heap.size := by rw [hs]; exact cell_lt x1c
            exact (h1.cell (a := ⟨b1, o1 + i, none⟩) hl7 id).trans ((h2.cell (a := ⟨b1, o1 + i, none⟩) hl7 id).symm.trans x1c)
          clear hq2 x1c HGc HRc
          cases bq with
          | true =>
            have he : (S[i]'hiS).en ≤ N1 := of_decide_eq_true HBQ.out
            obtain ⟨_, _, t1, t2⟩ := once_gone hiS he
            have HTN : Hid ((told N1 (S.take (i + 1))).length = g + 1 ∧ (rest N1 (S.take (i + 1))).length = r) := ⟨by rw [t1, HGE.out], by rw [t2, HRE.out]⟩
            clear he t1 t2
            go_wp2_with fail
            go_roundw
            case rel => exact ⟨i + 1, q2, by go_num, by omega, by rw [HTN.out.1]; go_num, by rw [HTN.out.2], HWE.out⟩
            case measure => simp [Go.Lib.intOf]; omega
          | false =>
            have he : ¬ (S[i]'hiS).en ≤ N1 := of_decide_eq_false HBQ.out
            obtain ⟨_, hrM, hr2, t1, t2⟩ := once_kept HU.out hiS (Int.not_le.1 he)
            have HTN : Hid ((told N1 (S.take (i + 1))).length = g ∧ (rest N1 (S.take (i + 1))).length = r + 1) := ⟨by rw [t1, HGE.out], by rw [t2, HRE.out]⟩
            obtain ⟨b3, o3, rfl, _, y3⟩ := HRe.out.at' _ hrM
            rw [hr2, HZ.out, HRE.out] at y3
            have k1 : (r : Int) < (nR : Int) := by rw [HRE.out, HNR.out] at hrM; omega
            have k2 : (0 : Int) ≤ (r : Int) := by omega
            clear he t1 t2 hrM hr2
            go_wp2_with fail
            go_quiet (fail)
            go_wp2_with fail
            go_roundw
            case rel => exact ⟨i + 1, q2 + nq, by go_num, by omega, by rw [HTN.out.1], by rw [HTN.out.2]; go_num, by rw [HWE.out]; simp⟩
            case measure => simp [Go.Lib.intOf]; omega
        · have hXr : Bx wr b m N1 (rest N1 S) := by rw [HWR.out]; exact HX7.out.keep (Chg.drewN Non w7 q) id id
          have hBr : Below w.heap.size w wr := by rw [HWR.out]; exact below_drewN HB7.out q
          have hRr : Ns wr (.slice A7 nR C7) ((rest N1 S).map fun p => p.nm) := by rw [HWR.out]; exact HR7.out.drewN q
          have HBr : Hid (Below w.heap.size w wr) := hBr
          have c8 := tick_any hXr (min n1 back) (by have := len_rest N1 S; rw [HNS.out] at this; omega)
          rw [HT1.out, told_rest, rest_rest] at c8
          simp only [List.length_nil] at c8
          obtain ⟨bm, hbm⟩ : ∃ bm, min n1 back = bm := ⟨_, rfl⟩
          rw [hbm] at c8
          have HRr : Hid (Ns wr (.slice A7 nR C7) ((rest N1 S).map fun p => p.nm)) := hRr
          have HF : Hid (∀ k, bk (.slice A7 nR C7) = some k → ¬ Own b m k) := HFAR.out
          clear hXr hBr hRr
          go_wp2_with (first
            | (at_builtin; refine wpList_bmin rfl _ _ rfl n1 back rfl rfl ?_; rw [hbm])
            | fail)
          refine c8.mono ?_
          rintro e w8 ⟨A8, C8, rfl, _, hX8, hc8⟩
          have HR8 : Hid (Ns w8 (.slice A7 nR C7) ((rest N1 S).map fun p => p.nm)) := HRr.out.keep hc8 HF.out
          have HB8 : Hid (Below w.heap.size w w8) := HBr.out.trans (own_below hc8 HBM.out.1 HBM.out.2 HBr.out.size)
          have c9 := all_any hX8 (by have := len_rest N1 S; rw [HNS.out] at this; omega)
          clear c8 hX8 hc8 hbm
          go_wp2_with fail
          refine c9.mono ?_
          rintro e w9 ⟨A9, C9, rfl, ho9, hB9⟩
          have c10 := same_any (Ns.of_owns ho9) (HR8.out.below hB9) (by have := HNR.out; omega)
          have HB9 : Hid (Below w.heap.size w w9) := HB8.out.trans (hB9.mono HB8.out.size)
          rw [decide_eq_true rfl] at c10
          clear c9 ho9 hB9
          go_wp2_with fail
          refine c10.mono ?_
          rintro e w10 ⟨rfl, q10, hw10⟩
          have HB10 : Hid (Below w.heap.size w w10) := by rw [hw10]; exact below_drewN HB9.out q10
          clear c10 hw10
          go_wp2_with fail
          go_ret
          exact ⟨rfl, HB10.out⟩
end Go.Proofs.Ytbehainbggdpeaa
