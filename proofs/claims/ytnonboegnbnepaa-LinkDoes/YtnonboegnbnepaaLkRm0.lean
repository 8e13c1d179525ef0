/- The document's Take: LkRm0. -/
import Derived.Test.YtnonboegnbnepaaLkRt
namespace Go.Proofs.Ytnonboegnbnepaa
set_option linter.unusedSimpArgs false
set_option linter.unusedVariables false
open Go.RowKit
set_option linter.unusedVariables false
set_option linter.unusedSimpArgs false

set_option maxRecDepth 100000 in
set_option maxHeartbeats 2000000 in
theorem rtake_met0 {w : World} {n : Nat} {s : St} {T : Nat → Prop} (h : Lx true w n s T) (p : Pkt) {A : Option Addr} {C : Nat} (hx : Bs w (.slice A p.load.length C) p.load) (hT : ∀ g, bk (.slice A p.load.length C) = some g → T g)
    (hf : i64 p.fr) (hl : p.load.length ≤ 140737488355328) (ha : s.acked < 4611686018427387904) (hg : s.got < 4611686018427387904) (h0 : ¬ p.fr < 1) (h1 : ¬ p.fr < s.peer) (h2 : s.peer < p.fr) (hk : ¬ 0 < s.peer) :
    Calls Try.prog 18 #[.pointer (some ⟨n, 0, none⟩), pkV p A C] w fun e w' => TakeEndT w n (takeR s p) T e w' := by
  obtain ⟨c0, c1, c2, c3, fz⟩ := h.cellsT
  have hfit := h.fit
  have hi := hfit.1
  obtain ⟨bx, hbx⟩ : ∃ bx, bx = w.heap.size := ⟨_, rfl⟩
  have HW : Hid (∀ q, ∃ W, W = (w.alloc (.cells #[.int .i64 p.fr, .int .i64 p.to, .int .i64 p.seq, .int .i64 p.ack, .slice A p.load.length C] 32)).drewN q ∧ Below w.heap.size w W ∧ Lx true W n s (fun g => T g ∨ (w.heap.size ≤ g ∧ g < W.heap.size)) ∧ W.heap[bx]? = some (.cells #[.int .i64 p.fr, .int .i64 p.to, .int .i64 p.seq, .int .i64 p.ack, .slice A p.load.length C] 32 (0, 0))) := by
    intro q
    have hb : Below w.heap.size w ((w.alloc (.cells #[.int .i64 p.fr, .int .i64 p.to, .int .i64 p.seq, .int .i64 p.ack, .slice A p.load.length C] 32)).drewN q) := below_drewN (below1 _ _) q
    exact ⟨_, rfl, hb, h.more hb, by rw [hbx]; cases q <;> exact heap_alloc_new w _⟩
  have hnl : n < w.heap.size := World.block_lt_of_cell? w _ c0
  unfold pkV
  have hr : takeR s p = if s.peer < p.fr then takeK (metS s p.fr) p (decide (0 < s.peer)) else takeK s p false := if_neg (by omega)
  rw [hr]
  clear hr
  have HBS : Hid (∀ w', Kp T w w' → Bs w' (.slice A p.load.length C) p.load) := fun w' hk => hx.kp hk hT
  have HPF : Hid (0 ≤ p.fr ∧ p.fr < 9223372036854775808) := ⟨by omega, hf.2⟩
  clear hx hT
  rw [if_pos h2, decide_eq_false hk]
  generalize hR0 : takeK (metS s p.fr) p false = R
  have HR0 : Hid (takeK (metS s p.fr) p false = R) := hR0
  clear hR0
  go_enter Try.func18, Try.ntmps18
  go_wp2_with fail
  go_quiet (fail)
  obtain ⟨W, hW, hb, hLW, hXW⟩ := HW.out nq
  rw [← hW, ← hbx]
  have HBX : Hid (bx = w.heap.size) := hbx
  clear hW HW hbx
  have e0 := cell_at hXW 0
  simp at e0
  obtain ⟨c0, c1, c2, c3, fz⟩ := hLW.cellsT
  have HXW : Hid (W.heap[bx]? = some (.cells #[.int .i64 p.fr, .int .i64 p.to, .int .i64 p.seq, .int .i64 p.ack, .slice A p.load.length C] 32 (0, 0))) := hXW
  have HLW : Hid (Lx true W n s (fun g => T g ∨ (w.heap.size ≤ g ∧ g < W.heap.size))) := hLW
  have HB : Hid (Below w.heap.size w W) := hb
  obtain ⟨T1, hT1⟩ : ∃ T1 : Nat → Prop, T1 = fun g => T g ∨ (w.heap.size ≤ g ∧ g < W.heap.size) := ⟨_, rfl⟩
  have HT1 : Hid (∀ g, T g → T1 g) := by rw [hT1]; exact fun g hg => .inl hg
  have HTB : Hid (T1 bx) := by rw [hT1]; exact .inr ⟨Nat.le_of_eq HBX.out.symm, heap_lt HXW.out⟩
  rw [← hT1] at HLW
  have hnW : n < W.heap.size := World.block_lt_of_cell? W _ c0
  have hbn : ¬ bx = n := fun e => by
    obtain ⟨v, L, q1, q2, q3⟩ := HLW.out
    exact q2 bx HTB.out (.inl e)
  clear hXW hLW hb h hT1 hnl
  have hf1 : decide (s.peer < p.fr) = true := decide_eq_true h2
  go_wp2_with fail
  go_quiet (fail)
  have hL2 := HLW.out.drewN nq
  have hX2 : (W.drewN nq).heap[bx]? = some (.cells #[.int .i64 p.fr, .int .i64 p.to, .int .i64 p.seq, .int .i64 p.ack, .slice A p.load.length C] 32 (0, 0)) := by cases nq <;> exact HXW.out
  have hK2 : Kp T w (W.drewN nq) := (Kp.of_below HB.out).trans (Chg.drewN _ _ _)
  generalize W.drewN nq = V at hL2 hX2 hK2 ⊢
  have hm := hL2.metT0 HPF.out (by omega)
  obtain ⟨A2, C2, z2⟩ := hL2.rowT
  obtain ⟨d0, d1, d2, d3, fz2⟩ := hL2.cellsT
  have y0 := cell_at hX2 0
  simp only [List.getElem?_toArray, List.getElem?_cons_succ, List.getElem?_cons_zero] at y0
  have HX2 : Hid (V.heap[bx]? = some (.cells #[.int .i64 p.fr, .int .i64 p.to, .int .i64 p.seq, .int .i64 p.ack, .slice A p.load.length C] 32 (0, 0))) := hX2
  have HK2 : Hid (Kp T w V) := hK2
  have HM : Hid _ := hm
  have hnb : ¬ n = bx := fun e => hbn e.symm
  clear HLW HXW HB c0 c1 c2 c3 fz e0 hL2 hX2 hK2 hm hf1
  go_wp2_with fail
  generalize hs2 : metS s p.fr = s2 at HM
  have HG : Hid (s2.acked < 4611686018427387904 ∧ s2.got < 4611686018427387904) := by unfold Hid; rw [← hs2, metS_acked, metS_got]; omega
  have HRR : Hid (R = takeK s2 p false) := by rw [← hs2]; exact HR0.out.symm
  have hX3 : (((V.setCell ⟨n, 1, none⟩ (.int .i64 p.fr)).setCell ⟨n, 3, none⟩ (.int .i64 0)).setCell ⟨n, 4, none⟩ (.int .i64 0)).heap[bx]? = some (.cells #[.int .i64 p.fr, .int .i64 p.to, .int .i64 p.seq, .int .i64 p.ack, .slice A p.load.length C] 32 (0, 0)) := by rw [HM.out.2.block bx (heap_lt HX2.out) (fun e => e HTB.out)]; exact HX2.out
  have hK3 : Kp T w (((V.setCell ⟨n, 1, none⟩ (.int .i64 p.fr)).setCell ⟨n, 3, none⟩ (.int .i64 0)).setCell ⟨n, 4, none⟩ (.int .i64 0)) := HK2.out.trans (HM.out.2.weak fun g _ e f => e (HT1.out g f))
  have hL3 : Lx true (((V.setCell ⟨n, 1, none⟩ (.int .i64 p.fr)).setCell ⟨n, 3, none⟩ (.int .i64 0)).setCell ⟨n, 4, none⟩ (.int .i64 0)) n s2 T1 := HM.out.1
  generalize (((V.setCell ⟨n, 1, none⟩ (.int .i64 p.fr)).setCell ⟨n, 3, none⟩ (.int .i64 0)).setCell ⟨n, 4, none⟩ (.int .i64 0)) = W3 at hX3 hK3 hL3 ⊢
  clear HM HX2 HK2 z2 d0 d1 d2 d3 fz2 y0 hs2
  have HX3 : Hid (W3.heap[bx]? = some (.cells #[.int .i64 p.fr, .int .i64 p.to, .int .i64 p.seq, .int .i64 p.ack, .slice A p.load.length C] 32 (0, 0))) := hX3
  have HL3 : Hid (Lx true W3 n s2 T1) := hL3
  have HK3 : Hid (Kp T w W3) := hK3
  have e1 := cell_at HX3.out 1
  simp only [List.getElem?_toArray, List.getElem?_cons_succ, List.getElem?_cons_zero] at e1
  have hnl3 : n < W3.heap.size := World.block_lt_of_cell? W3 _ hL3.cellsT.1
  obtain ⟨c0, c1, c2, c3, fz⟩ := HL3.out.cellsT
  clear hX3 hL3 hK3
  by_cases hto : p.to = s2.inc
  · have HTO : Hid (p.to = s2.inc) := hto
    rw [hto] at e1
    clear hto
    go_wp2_with fail
    go_quiet (fail)
    have HK4 : Hid (Kp T w (W3.drewN nq)) := HK3.out.trans (Chg.drewN _ _ _)
    have HX4 : Hid ((W3.drewN nq).heap[bx]? = some (.cells #[.int .i64 p.fr, .int .i64 p.to, .int .i64 p.seq, .int .i64 p.ack, .slice A p.load.length C] 32 (0, 0))) := by unfold Hid; cases nq <;> exact HX3.out
    have HL4 : Hid (Lx true (W3.drewN nq) n s2 T1) := HL3.out.drewN nq
    generalize W3.drewN nq = W4 at HK4 HX4 HL4 ⊢
    clear HX3 HK3 HL3 c0 c1 c2 c3 fz e1 hnl3
    have e3 := cell_at HX4.out 3
    simp only [List.getElem?_toArray, List.getElem?_cons_succ, List.getElem?_cons_zero] at e3
    obtain ⟨c0, c1, c2, c3, fz⟩ := HL4.out.cellsT
    have hwa : IntKind.i64.wrap (s2.acked + 1) = s2.acked + 1 := Go.IntWalk.i64_in _ (by have := HG.out; have := HL4.out.fit.2.2.1.1; omega)
    by_cases hak : p.ack = s2.acked + 1
    · by_cases hn0 : 0 < s2.loads.length
      · have HS3 : Hid (ackS s2 p.ack = { s2 with acked := s2.acked + 1, loads := s2.loads.drop 1 }) := if_pos ⟨hak, hn0⟩
        rw [hak] at e3
        clear hak
        obtain ⟨s3, hs3⟩ : ∃ s3, s3 = ({ s2 with acked := s2.acked + 1, loads := s2.loads.drop 1 } : St) := ⟨_, rfl⟩
        replace HS3 : Hid (ackS s2 p.ack = s3) := by rw [hs3]; exact HS3.out
        obtain ⟨A2, C2, z2⟩ := HL4.out.rowT
        go_wp2_with fail
        go_quiet (fail)
        have hK5 : Kp T w (W4.drewN nq) := HK4.out.trans (Chg.drewN _ _ _)
        have hX5 : (W4.drewN nq).heap[bx]? = some (.cells #[.int .i64 p.fr, .int .i64 p.to, .int .i64 p.seq, .int .i64 p.ack, .slice A p.load.length C] 32 (0, 0)) := by cases nq <;> exact HX4.out
        have hL5 : Lx true (W4.drewN nq) n s2 T1 := HL4.out.drewN nq
        generalize W4.drewN nq = V5 at hK5 hX5 hL5 ⊢
        clear HX4 HK4 HL4 c0 c1 c2 c3 fz e3 z2
        obtain ⟨g, o, C5, y2, hC1, hC2, hLK⟩ := hL5.cutT hn0 (s2.acked + 1) (by have := hL5.fit.2.2.1.1; omega)
        obtain ⟨d0, d1, d2, d3, fz⟩ := hL5.cellsT
        have HX5' : Hid (V5.heap[bx]? = some (.cells #[.int .i64 p.fr, .int .i64 p.to, .int .i64 p.seq, .int .i64 p.ack, .slice A p.load.length C] 32 (0, 0))) := hX5
        have HK5' : Hid (Kp T w V5) := hK5
        have hnb' : ¬ n = bx := fun e => hbn e.symm
        obtain ⟨M, hM⟩ : ∃ M, M = s2.loads.length := ⟨_, rfl⟩
        rw [← hM] at y2 hC1 hLK hn0
        rw [← hs3] at hLK
        unfold maxLen at hC2
        by_cases hc5 : C5 = 1
        · have hLK2 := hLK o 0 (.inl ⟨hc5, rfl, rfl⟩)
          have hM1 : M = 1 := by omega
          rw [hM1] at hLK2 y2
          simp only [Nat.sub_self] at hLK2
          have HLK : Hid _ := hLK2
          subst hc5
          clear hX5 hK5 hL5 hM hLK hLK2 hs3
          go_wp2_with fail
          have hX5 : ((V5.setCell ⟨n, 2, none⟩ (.slice (some ⟨g, o, none⟩) 0 0)).setCell ⟨n, 3, none⟩ (.int .i64 (s2.acked + 1))).heap[bx]? = some (.cells #[.int .i64 p.fr, .int .i64 p.to, .int .i64 p.seq, .int .i64 p.ack, .slice A p.load.length C] 32 (0, 0)) := by rw [HLK.out.2.block bx (heap_lt HX5'.out) (fun e => e HTB.out)]; exact HX5'.out
          have HK5 : Hid (Kp T w ((V5.setCell ⟨n, 2, none⟩ (.slice (some ⟨g, o, none⟩) 0 0)).setCell ⟨n, 3, none⟩ (.int .i64 (s2.acked + 1)))) := HK5'.out.trans (HLK.out.2.weak fun g _ e f => e (HT1.out g f))
          have HL5 : Hid (Lx true ((V5.setCell ⟨n, 2, none⟩ (.slice (some ⟨g, o, none⟩) 0 0)).setCell ⟨n, 3, none⟩ (.int .i64 (s2.acked + 1))) n s3 T1) := HLK.out.1
          have HX5 : Hid (((V5.setCell ⟨n, 2, none⟩ (.slice (some ⟨g, o, none⟩) 0 0)).setCell ⟨n, 3, none⟩ (.int .i64 (s2.acked + 1))).heap[bx]? = some (.cells #[.int .i64 p.fr, .int .i64 p.to, .int .i64 p.seq, .int .i64 p.ack, .slice A p.load.length C] 32 (0, 0))) := hX5
          clear hX5
          generalize ((V5.setCell ⟨n, 2, none⟩ (.slice (some ⟨g, o, none⟩) 0 0)).setCell ⟨n, 3, none⟩ (.int .i64 (s2.acked + 1))) = W5 at HK5 HL5 HX5 ⊢
          clear HLK HX5' HK5' y2 d0 d1 d2 d3 fz
          have e2 := cell_at HX5.out 2
          simp only [List.getElem?_toArray, List.getElem?_cons_succ, List.getElem?_cons_zero] at e2
          obtain ⟨c0, c1, c2, c3, fz⟩ := HL5.out.cellsT
          have HG3 : Hid (s3.got = s2.got) := by unfold Hid; rw [← HS3.out]; exact ackS_got _ _
          have hwr : IntKind.i64.wrap (s3.got + 1) = s3.got + 1 := Go.IntWalk.i64_in _ (by have := HG3.out; have := HG.out; have := HL5.out.fit.2.2.1.2; omega)
          by_cases hsq : p.seq = s3.got + 1
          · have HR : Hid (R = ⟨p.load, true, false, { s3 with got := s3.got + 1 }⟩) := by
              unfold Hid; rw [HRR.out]; unfold takeK; rw [HS3.out, if_neg (fun e => e HTO.out), if_neg (fun e => e hsq)]
            rw [hsq] at e2
            clear hsq
            go_wp2_with fail
            go_quiet (fail)
            have hg6 := (HL5.out.drewN nq).getsT
            have HX6 : Hid ((W5.drewN nq).heap[bx]? = some (.cells #[.int .i64 p.fr, .int .i64 p.to, .int .i64 p.seq, .int .i64 p.ack, .slice A p.load.length C] 32 (0, 0))) := by unfold Hid; cases nq <;> exact HX5.out
            have HK6 : Hid (Kp T w (W5.drewN nq)) := HK5.out.trans (Chg.drewN _ _ _)
            have d3 : (W5.drewN nq).cell? ⟨n, 4, none⟩ = some (.int .i64 s3.got) := (HL5.out.drewN nq).cellsT.2.2.2.1
            have fz6 := (HL5.out.drewN nq).cellsT.2.2.2.2
            generalize W5.drewN nq = W6 at hg6 HX6 HK6 d3 fz6 ⊢
            have HL7 : Hid (Lx true (W6.setCell ⟨n, 4, none⟩ (.int .i64 (s3.got + 1))) n { s3 with got := s3.got + 1 } T1) := hg6.1
            have HK7 : Hid (Kp T w (W6.setCell ⟨n, 4, none⟩ (.int .i64 (s3.got + 1)))) := HK6.out.trans (hg6.2.weak fun g _ e f => e (HT1.out g f))
            have e4 := cell_at HX6.out 4
            simp only [List.getElem?_toArray, List.getElem?_cons_succ, List.getElem?_cons_zero] at e4
            obtain ⟨A8, C8, w8, hrun, ho, hB8⟩ := copy_run (HBS.out _ HK7.out) hl 30
            rw [show (W6.setCell ⟨n, 4, none⟩ (.int .i64 (s3.got + 1))).heap.size = W6.heap.size by simp [World.setCell]] at hrun
            have HE := take_someT (b := false) (HL7.out.fewer HT1.out) HK7.out ho hB8 HK7.out.size
            have hbl6 : bx < W6.heap.size := heap_lt HX6.out
            clear hg6 HX5 HK5 HL5 c0 c1 c2 c3 fz e2 HX6 HK6 ho hB8
            go_wp2_with (first
              | (at_builtin; refine wpList_apprun 30 rfl (.tmp 100) (.tmp 102) rfl _ _ _ (by simp [Act.eval]) (by simp [Act.eval]) hrun ?_)
              | fail)
            go_ret3
            rw [HR.out]; exact HE
          · have HR : Hid (R = ⟨[], false, false, s3⟩) := by
              unfold Hid; rw [HRR.out]; unfold takeK; rw [HS3.out, if_neg (fun e => e HTO.out), if_pos hsq]
            go_wp2_with fail
            go_quiet (fail)
            have HE := fun q => take_noneT (b := false) ((HL5.out.drewN q).fewer HT1.out) (HK5.out.trans (Chg.drewN _ _ q))
            go_wp2_with fail
            go_ret3
            rw [HR.out]; exact HE _
        · have hLK2 := hLK (o + 1) (C5 - 1) (.inr ⟨hc5, rfl, rfl⟩)
          have HLK : Hid _ := hLK2
          have hc6 : 1 < C5 := by omega
          clear hX5 hK5 hL5 hM hLK hLK2 hs3 hc5
          go_wp2_with fail
          have hX5 : ((V5.setCell ⟨n, 2, none⟩ (.slice (some ⟨g, o + 1, none⟩) (M - 1) (C5 - 1))).setCell ⟨n, 3, none⟩ (.int .i64 (s2.acked + 1))).heap[bx]? = some (.cells #[.int .i64 p.fr, .int .i64 p.to, .int .i64 p.seq, .int .i64 p.ack, .slice A p.load.length C] 32 (0, 0)) := by rw [HLK.out.2.block bx (heap_lt HX5'.out) (fun e => e HTB.out)]; exact HX5'.out
          have HK5 : Hid (Kp T w ((V5.setCell ⟨n, 2, none⟩ (.slice (some ⟨g, o + 1, none⟩) (M - 1) (C5 - 1))).setCell ⟨n, 3, none⟩ (.int .i64 (s2.acked + 1)))) := HK5'.out.trans (HLK.out.2.weak fun g _ e f => e (HT1.out g f))
          have HL5 : Hid (Lx true ((V5.setCell ⟨n, 2, none⟩ (.slice (some ⟨g, o + 1, none⟩) (M - 1) (C5 - 1))).setCell ⟨n, 3, none⟩ (.int .i64 (s2.acked + 1))) n s3 T1) := HLK.out.1
          have HX5 : Hid (((V5.setCell ⟨n, 2, none⟩ (.slice (some ⟨g, o + 1, none⟩) (M - 1) (C5 - 1))).setCell ⟨n, 3, none⟩ (.int .i64 (s2.acked + 1))).heap[bx]? = some (.cells #[.int .i64 p.fr, .int .i64 p.to, .int .i64 p.seq, .int .i64 p.ack, .slice A p.load.length C] 32 (0, 0))) := hX5
          clear hX5
          generalize ((V5.setCell ⟨n, 2, none⟩ (.slice (some ⟨g, o + 1, none⟩) (M - 1) (C5 - 1))).setCell ⟨n, 3, none⟩ (.int .i64 (s2.acked + 1))) = W5 at HK5 HL5 HX5 ⊢
          clear HLK HX5' HK5' y2 d0 d1 d2 d3 fz
          have e2 := cell_at HX5.out 2
          simp only [List.getElem?_toArray, List.getElem?_cons_succ, List.getElem?_cons_zero] at e2
          obtain ⟨c0, c1, c2, c3, fz⟩ := HL5.out.cellsT
          have HG3 : Hid (s3.got = s2.got) := by unfold Hid; rw [← HS3.out]; exact ackS_got _ _
          have hwr : IntKind.i64.wrap (s3.got + 1) = s3.got + 1 := Go.IntWalk.i64_in _ (by have := HG3.out; have := HG.out; have := HL5.out.fit.2.2.1.2; omega)
          by_cases hsq : p.seq = s3.got + 1
          · have HR : Hid (R = ⟨p.load, true, false, { s3 with got := s3.got + 1 }⟩) := by
              unfold Hid; rw [HRR.out]; unfold takeK; rw [HS3.out, if_neg (fun e => e HTO.out), if_neg (fun e => e hsq)]
            rw [hsq] at e2
            clear hsq
            go_wp2_with fail
            go_quiet (fail)
            have hg6 := (HL5.out.drewN nq).getsT
            have HX6 : Hid ((W5.drewN nq).heap[bx]? = some (.cells #[.int .i64 p.fr, .int .i64 p.to, .int .i64 p.seq, .int .i64 p.ack, .slice A p.load.length C] 32 (0, 0))) := by unfold Hid; cases nq <;> exact HX5.out
            have HK6 : Hid (Kp T w (W5.drewN nq)) := HK5.out.trans (Chg.drewN _ _ _)
            have d3 : (W5.drewN nq).cell? ⟨n, 4, none⟩ = some (.int .i64 s3.got) := (HL5.out.drewN nq).cellsT.2.2.2.1
            have fz6 := (HL5.out.drewN nq).cellsT.2.2.2.2
            generalize W5.drewN nq = W6 at hg6 HX6 HK6 d3 fz6 ⊢
            have HL7 : Hid (Lx true (W6.setCell ⟨n, 4, none⟩ (.int .i64 (s3.got + 1))) n { s3 with got := s3.got + 1 } T1) := hg6.1
            have HK7 : Hid (Kp T w (W6.setCell ⟨n, 4, none⟩ (.int .i64 (s3.got + 1)))) := HK6.out.trans (hg6.2.weak fun g _ e f => e (HT1.out g f))
            have e4 := cell_at HX6.out 4
            simp only [List.getElem?_toArray, List.getElem?_cons_succ, List.getElem?_cons_zero] at e4
            obtain ⟨A8, C8, w8, hrun, ho, hB8⟩ := copy_run (HBS.out _ HK7.out) hl 30
            rw [show (W6.setCell ⟨n, 4, none⟩ (.int .i64 (s3.got + 1))).heap.size = W6.heap.size by simp [World.setCell]] at hrun
            have HE := take_someT (b := false) (HL7.out.fewer HT1.out) HK7.out ho hB8 HK7.out.size
            have hbl6 : bx < W6.heap.size := heap_lt HX6.out
            clear hg6 HX5 HK5 HL5 c0 c1 c2 c3 fz e2 HX6 HK6 ho hB8
            go_wp2_with (first
              | (at_builtin; refine wpList_apprun 30 rfl (.tmp 100) (.tmp 102) rfl _ _ _ (by simp [Act.eval]) (by simp [Act.eval]) hrun ?_)
              | fail)
            go_ret3
            rw [HR.out]; exact HE
          · have HR : Hid (R = ⟨[], false, false, s3⟩) := by
              unfold Hid; rw [HRR.out]; unfold takeK; rw [HS3.out, if_neg (fun e => e HTO.out), if_pos hsq]
            go_wp2_with fail
            go_quiet (fail)
            have HE := fun q => take_noneT (b := false) ((HL5.out.drewN q).fewer HT1.out) (HK5.out.trans (Chg.drewN _ _ q))
            go_wp2_with fail
            go_ret3
            rw [HR.out]; exact HE _
      · have HS3 : Hid (ackS s2 p.ack = s2) := if_neg (fun e => hn0 e.2)
        obtain ⟨A2, C2, z2⟩ := HL4.out.rowT
        have hz0 : s2.loads.length = 0 := by omega
        rw [hz0] at z2
        rw [hak] at e3
        clear hak hn0 hz0
        obtain ⟨s3, hs3⟩ : ∃ s3, s3 = s2 := ⟨_, rfl⟩
        replace HS3 : Hid (ackS s2 p.ack = s3) := by rw [hs3]; exact HS3.out
        go_wp2_with fail
        go_quiet (fail)
        have HK5 : Hid (Kp T w (W4.drewN nq)) := HK4.out.trans (Chg.drewN _ _ _)
        have HX5 : Hid ((W4.drewN nq).heap[bx]? = some (.cells #[.int .i64 p.fr, .int .i64 p.to, .int .i64 p.seq, .int .i64 p.ack, .slice A p.load.length C] 32 (0, 0))) := by unfold Hid; cases nq <;> exact HX4.out
        have HL5 : Hid (Lx true (W4.drewN nq) n s3 T1) := by rw [hs3]; exact HL4.out.drewN nq
        generalize W4.drewN nq = W5 at HK5 HX5 HL5 ⊢
        clear HX4 HK4 HL4 c0 c1 c2 c3 fz e3 z2 hs3
        have e2 := cell_at HX5.out 2
        simp only [List.getElem?_toArray, List.getElem?_cons_succ, List.getElem?_cons_zero] at e2
        obtain ⟨c0, c1, c2, c3, fz⟩ := HL5.out.cellsT
        have HG3 : Hid (s3.got = s2.got) := by unfold Hid; rw [← HS3.out]; exact ackS_got _ _
        have hwr : IntKind.i64.wrap (s3.got + 1) = s3.got + 1 := Go.IntWalk.i64_in _ (by have := HG3.out; have := HG.out; have := HL5.out.fit.2.2.1.2; omega)
        by_cases hsq : p.seq = s3.got + 1
        · have HR : Hid (R = ⟨p.load, true, false, { s3 with got := s3.got + 1 }⟩) := by
            unfold Hid; rw [HRR.out]; unfold takeK; rw [HS3.out, if_neg (fun e => e HTO.out), if_neg (fun e => e hsq)]
          rw [hsq] at e2
          clear hsq
          go_wp2_with fail
          go_quiet (fail)
          have hg6 := (HL5.out.drewN nq).getsT
          have HX6 : Hid ((W5.drewN nq).heap[bx]? = some (.cells #[.int .i64 p.fr, .int .i64 p.to, .int .i64 p.seq, .int .i64 p.ack, .slice A p.load.length C] 32 (0, 0))) := by unfold Hid; cases nq <;> exact HX5.out
          have HK6 : Hid (Kp T w (W5.drewN nq)) := HK5.out.trans (Chg.drewN _ _ _)
          have d3 : (W5.drewN nq).cell? ⟨n, 4, none⟩ = some (.int .i64 s3.got) := (HL5.out.drewN nq).cellsT.2.2.2.1
          have fz6 := (HL5.out.drewN nq).cellsT.2.2.2.2
          generalize W5.drewN nq = W6 at hg6 HX6 HK6 d3 fz6 ⊢
          have HL7 : Hid (Lx true (W6.setCell ⟨n, 4, none⟩ (.int .i64 (s3.got + 1))) n { s3 with got := s3.got + 1 } T1) := hg6.1
          have HK7 : Hid (Kp T w (W6.setCell ⟨n, 4, none⟩ (.int .i64 (s3.got + 1)))) := HK6.out.trans (hg6.2.weak fun g _ e f => e (HT1.out g f))
          have e4 := cell_at HX6.out 4
          simp only [List.getElem?_toArray, List.getElem?_cons_succ, List.getElem?_cons_zero] at e4
          obtain ⟨A8, C8, w8, hrun, ho, hB8⟩ := copy_run (HBS.out _ HK7.out) hl 30
          rw [show (W6.setCell ⟨n, 4, none⟩ (.int .i64 (s3.got + 1))).heap.size = W6.heap.size by simp [World.setCell]] at hrun
          have HE := take_someT (b := false) (HL7.out.fewer HT1.out) HK7.out ho hB8 HK7.out.size
          have hbl6 : bx < W6.heap.size := heap_lt HX6.out
          clear hg6 HX5 HK5 HL5 c0 c1 c2 c3 fz e2 HX6 HK6 ho hB8
          go_wp2_with (first
            | (at_builtin; refine wpList_apprun 30 rfl (.tmp 100) (.tmp 102) rfl _ _ _ (by simp [Act.eval]) (by simp [Act.eval]) hrun ?_)
            | fail)
          go_ret3
          rw [HR.out]; exact HE
        · have HR : Hid (R = ⟨[], false, false, s3⟩) := by
            unfold Hid; rw [HRR.out]; unfold takeK; rw [HS3.out, if_neg (fun e => e HTO.out), if_pos hsq]
          go_wp2_with fail
          go_quiet (fail)
          have HE := fun q => take_noneT (b := false) ((HL5.out.drewN q).fewer HT1.out) (HK5.out.trans (Chg.drewN _ _ q))
          go_wp2_with fail
          go_ret3
          rw [HR.out]; exact HE _
    · have HS3 : Hid (ackS s2 p.ack = s2) := if_neg (fun e => hak e.1)
      obtain ⟨A2, C2, z2⟩ := HL4.out.rowT
      obtain ⟨s3, hs3⟩ : ∃ s3, s3 = s2 := ⟨_, rfl⟩
      replace HS3 : Hid (ackS s2 p.ack = s3) := by rw [hs3]; exact HS3.out
      go_wp2_with fail
      go_quiet (fail)
      have HK5 : Hid (Kp T w (W4.drewN nq)) := HK4.out.trans (Chg.drewN _ _ _)
      have HX5 : Hid ((W4.drewN nq).heap[bx]? = some (.cells #[.int .i64 p.fr, .int .i64 p.to, .int .i64 p.seq, .int .i64 p.ack, .slice A p.load.length C] 32 (0, 0))) := by unfold Hid; cases nq <;> exact HX4.out
      have HL5 : Hid (Lx true (W4.drewN nq) n s3 T1) := by rw [hs3]; exact HL4.out.drewN nq
      generalize W4.drewN nq = W5 at HK5 HX5 HL5 ⊢
      clear HX4 HK4 HL4 c0 c1 c2 c3 fz e3 z2 hs3
      have e2 := cell_at HX5.out 2
      simp only [List.getElem?_toArray, List.getElem?_cons_succ, List.getElem?_cons_zero] at e2
      obtain ⟨c0, c1, c2, c3, fz⟩ := HL5.out.cellsT
      have HG3 : Hid (s3.got = s2.got) := by unfold Hid; rw [← HS3.out]; exact ackS_got _ _
      have hwr : IntKind.i64.wrap (s3.got + 1) = s3.got + 1 := Go.IntWalk.i64_in _ (by have := HG3.out; have := HG.out; have := HL5.out.fit.2.2.1.2; omega)
      by_cases hsq : p.seq = s3.got + 1
      · have HR : Hid (R = ⟨p.load, true, false, { s3 with got := s3.got + 1 }⟩) := by
          unfold Hid; rw [HRR.out]; unfold takeK; rw [HS3.out, if_neg (fun e => e HTO.out), if_neg (fun e => e hsq)]
        rw [hsq] at e2
        clear hsq
        go_wp2_with fail
        go_quiet (fail)
        have hg6 := (HL5.out.drewN nq).getsT
        have HX6 : Hid ((W5.drewN nq).heap[bx]? = some (.cells #[.int .i64 p.fr, .int .i64 p.to, .int .i64 p.seq, .int .i64 p.ack, .slice A p.load.length C] 32 (0, 0))) := by unfold Hid; cases nq <;> exact HX5.out
        have HK6 : Hid (Kp T w (W5.drewN nq)) := HK5.out.trans (Chg.drewN _ _ _)
        have d3 : (W5.drewN nq).cell? ⟨n, 4, none⟩ = some (.int .i64 s3.got) := (HL5.out.drewN nq).cellsT.2.2.2.1
        have fz6 := (HL5.out.drewN nq).cellsT.2.2.2.2
        generalize W5.drewN nq = W6 at hg6 HX6 HK6 d3 fz6 ⊢
        have HL7 : Hid (Lx true (W6.setCell ⟨n, 4, none⟩ (.int .i64 (s3.got + 1))) n { s3 with got := s3.got + 1 } T1) := hg6.1
        have HK7 : Hid (Kp T w (W6.setCell ⟨n, 4, none⟩ (.int .i64 (s3.got + 1)))) := HK6.out.trans (hg6.2.weak fun g _ e f => e (HT1.out g f))
        have e4 := cell_at HX6.out 4
        simp only [List.getElem?_toArray, List.getElem?_cons_succ, List.getElem?_cons_zero] at e4
        obtain ⟨A8, C8, w8, hrun, ho, hB8⟩ := copy_run (HBS.out _ HK7.out) hl 30
        rw [show (W6.setCell ⟨n, 4, none⟩ (.int .i64 (s3.got + 1))).heap.size = W6.heap.size by simp [World.setCell]] at hrun
        have HE := take_someT (b := false) (HL7.out.fewer HT1.out) HK7.out ho hB8 HK7.out.size
        have hbl6 : bx < W6.heap.size := heap_lt HX6.out
        clear hg6 HX5 HK5 HL5 c0 c1 c2 c3 fz e2 HX6 HK6 ho hB8
        go_wp2_with (first
          | (at_builtin; refine wpList_apprun 30 rfl (.tmp 100) (.tmp 102) rfl _ _ _ (by simp [Act.eval]) (by simp [Act.eval]) hrun ?_)
          | fail)
        go_ret3
        rw [HR.out]; exact HE
      · have HR : Hid (R = ⟨[], false, false, s3⟩) := by
          unfold Hid; rw [HRR.out]; unfold takeK; rw [HS3.out, if_neg (fun e => e HTO.out), if_pos hsq]
        go_wp2_with fail
        go_quiet (fail)
        have HE := fun q => take_noneT (b := false) ((HL5.out.drewN q).fewer HT1.out) (HK5.out.trans (Chg.drewN _ _ q))
        go_wp2_with fail
        go_ret3
        rw [HR.out]; exact HE _
  · have HR : Hid (R = ⟨[], false, false, s2⟩) := by
      unfold Hid; rw [HRR.out]; unfold takeK; rw [if_pos hto]
    go_wp2_with fail
    go_quiet (fail)
    have HE := fun q => take_noneT (b := false) ((HL3.out.drewN q).fewer HT1.out) (HK3.out.trans (Chg.drewN _ _ q))
    go_wp2_with fail
    go_ret3
    rw [HR.out]; exact HE _
end Go.Proofs.Ytnonboegnbnepaa
