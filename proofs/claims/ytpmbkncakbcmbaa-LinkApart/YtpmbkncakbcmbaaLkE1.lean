/- The walk of Take: a new peer. -/
import Derived.Test.YtpmbkncakbcmbaaLkE
namespace Go.Proofs.Ytpmbkncakbcmbaa
set_option linter.unusedVariables false
open Go.RowKit
set_option linter.unusedVariables false

set_option maxRecDepth 100000 in
set_option maxHeartbeats 2000000 in
theorem take_met {w : World} {n : Nat} {s : St} {T : Nat → Prop} (h : Lx false w n s T) (p : Pkt) {A : Option Addr} {C : Nat} (hx : Bs w (.slice A p.load.length C) p.load) (hT : ∀ g, bk (.slice A p.load.length C) = some g → T g)
    (hf : i64 p.fr) (hl : p.load.length ≤ 140737488355328) (ha : s.acked < 4611686018427387904) (hg : s.got < 4611686018427387904) (h0 : ¬ p.fr < 1) (h1 : ¬ p.fr < s.peer) (h2 : s.peer < p.fr) :
    Calls Try.prog 17 #[.pointer (some ⟨n, 0, none⟩), pkV p A C] w fun e w' => TakeEnd w n (takeR s p) T e w' := by
  obtain ⟨c0, c1, c2, c3, fz⟩ := h.cells
  have hfit := h.fit
  have hi := hfit.1
  obtain ⟨bx, hbx⟩ : ∃ bx, bx = w.heap.size := ⟨_, rfl⟩
  have HW : Hid (∀ q, ∃ W, W = (w.alloc (.cells #[.int .i64 p.fr, .int .i64 p.to, .int .i64 p.seq, .int .i64 p.ack, .slice A p.load.length C] 32)).drewN q ∧ Below w.heap.size w W ∧ Lx false W n s (fun g => T g ∨ (w.heap.size ≤ g ∧ g < W.heap.size)) ∧ W.heap[bx]? = some (.cells #[.int .i64 p.fr, .int .i64 p.to, .int .i64 p.seq, .int .i64 p.ack, .slice A p.load.length C] 32 (0, 0))) := by
    intro q
    have hb : Below w.heap.size w ((w.alloc (.cells #[.int .i64 p.fr, .int .i64 p.to, .int .i64 p.seq, .int .i64 p.ack, .slice A p.load.length C] 32)).drewN q) := below_drewN (below1 _ _) q
    exact ⟨_, rfl, hb, h.more hb, by rw [hbx]; cases q <;> exact heap_alloc_new w _⟩
  have hth : ∀ q, Calls Try.prog 30 #[.pointer (some ⟨n, 0, none⟩)] ((w.alloc (.cells #[.int .i64 p.fr, .int .i64 p.to, .int .i64 p.seq, .int .i64 p.ack, .slice A p.load.length C] 32)).drewN q) fun e w' => e = .returned (.bool true) ∧ w' = ((w.alloc (.cells #[.int .i64 p.fr, .int .i64 p.to, .int .i64 p.seq, .int .i64 p.ack, .slice A p.load.length C] 32)).drewN q) :=
    fun q => there_any (by obtain ⟨W, hW, hb, _⟩ := HW.out q; rw [← hW, World.cell?_of_block (hb.block n (World.block_lt_of_cell? w _ c0))]; exact c0) (by omega)
  have hnl : n < w.heap.size := World.block_lt_of_cell? w _ c0
  unfold pkV
  have hr : takeR s p = if s.peer < p.fr then takeK (metS s p.fr) p (decide (0 < s.peer)) else takeK s p false := if_neg (by omega)
  rw [hr]
  clear hr
  have HBS : Hid (∀ w', Kp T w w' → Bs w' (.slice A p.load.length C) p.load) := fun w' hk => hx.kp hk hT
  have HPF : Hid (0 ≤ p.fr ∧ p.fr < 9223372036854775808) := ⟨by omega, hf.2⟩
  clear hx hT
  rw [if_pos h2]
  generalize hR0 : takeK (metS s p.fr) p (decide (0 < s.peer)) = R
  have HR0 : Hid (takeK (metS s p.fr) p (decide (0 < s.peer)) = R) := hR0
  clear hR0
  go_enter Try.func17, Try.ntmps17
  go_wp2_with fail
  go_quiet ((go_at_call 30; exact Calls.quiet_of_same (hth _)))
  obtain ⟨W, hW, hb, hLW, hXW⟩ := HW.out nq
  rw [← hW, ← hbx]
  have HBX : Hid (bx = w.heap.size) := hbx
  clear hW hth HW hbx
  have e0 := cell_at hXW 0
  simp at e0
  obtain ⟨c0, c1, c2, c3, fz⟩ := hLW.cells
  have hmt := meet_any (hLW.below (Below.refl _ _).drew) p.fr (by have := HPF.out; omega)
  have HXW : Hid (W.heap[bx]? = some (.cells #[.int .i64 p.fr, .int .i64 p.to, .int .i64 p.seq, .int .i64 p.ack, .slice A p.load.length C] 32 (0, 0))) := hXW
  have HLW : Hid (Lx false W n s (fun g => T g ∨ (w.heap.size ≤ g ∧ g < W.heap.size))) := hLW
  have HB : Hid (Below w.heap.size w W) := hb
  clear hXW hLW hb h
  go_wp2_with fail
  obtain ⟨T1, hT1⟩ : ∃ T1 : Nat → Prop, T1 = fun g => T g ∨ (w.heap.size ≤ g ∧ g < W.heap.size) := ⟨_, rfl⟩
  have HT1 : Hid (∀ g, T g → T1 g) := by rw [hT1]; exact fun g hg => .inl hg
  have HTB : Hid (T1 bx) := by rw [hT1]; exact .inr ⟨Nat.le_of_eq HBX.out.symm, heap_lt HXW.out⟩
  rw [← hT1] at hmt
  generalize hs2 : metS s p.fr = s2 at hmt
  have HG : Hid (s2.acked < 4611686018427387904 ∧ s2.got < 4611686018427387904) := by unfold Hid; rw [← hs2, metS_acked, metS_got]; omega
  have HS2 : Hid (metS s p.fr = s2) := hs2
  obtain ⟨b, hb⟩ : ∃ b, b = decide (0 < s.peer) := ⟨_, rfl⟩
  rw [← hb] at hmt
  have HRR : Hid (R = takeK s2 p b) := by rw [hb, ← HS2.out]; exact HR0.out.symm
  clear hb hs2 hT1
  go_region_law (first
    | (go_simp; go_at_call 32; refine hmt.mono ?_; rintro e W3 ⟨rfl, hL3, hkk⟩))
  all_goals
    have hX3 : W3.heap[bx]? = some (.cells #[.int .i64 p.fr, .int .i64 p.to, .int .i64 p.seq, .int .i64 p.ack, .slice A p.load.length C] 32 (0, 0)) := by rw [hkk.block bx (heap_lt HXW.out) (fun e => e HTB.out)]; exact HXW.out
    have hK3 : Kp T w W3 := ((Kp.of_below HB.out).trans (Chg.drew _ _)).trans (hkk.weak fun g _ e f => e (HT1.out g f))
    clear hmt hkk HXW HB HLW c0 c1 c2 c3 fz e0
    have HX3 : Hid (W3.heap[bx]? = some (.cells #[.int .i64 p.fr, .int .i64 p.to, .int .i64 p.seq, .int .i64 p.ack, .slice A p.load.length C] 32 (0, 0))) := hX3
    have HL3 : Hid (Lx false W3 n s2 T1) := hL3
    have HK3 : Hid (Kp T w W3) := hK3
    have e1 := cell_at HX3.out 1
    simp at e1
    have hnl3 : n < W3.heap.size := World.block_lt_of_cell? W3 _ hL3.cells.1
    obtain ⟨c0, c1, c2, c3, fz⟩ := HL3.out.cells
    clear hX3 hL3 hK3
    by_cases hto : p.to = s2.inc
    · have HTO : Hid (p.to = s2.inc) := hto
      rw [hto] at e1
      have hak := fun q => ack_any (HL3.out.drewN q) p.ack (by have := HG.out; omega)
      generalize hs3 : ackS s2 p.ack = s3 at hak
      have HS3 : Hid (ackS s2 p.ack = s3) := hs3
      clear hs3 hto
      go_wp2_with fail
      go_quiet (fail)
      have hak2 := hak nq
      have HK4 : Hid (Kp T w (W3.drewN nq)) := HK3.out.trans (Chg.drewN _ _ _)
      have HX4 : Hid ((W3.drewN nq).heap[bx]? = some (.cells #[.int .i64 p.fr, .int .i64 p.to, .int .i64 p.seq, .int .i64 p.ack, .slice A p.load.length C] 32 (0, 0))) := by unfold Hid; cases nq <;> exact HX3.out
      have e3 := cell_at HX4.out 3
      simp only [List.getElem?_toArray, List.getElem?_cons_succ, List.getElem?_cons_zero] at e3
      generalize W3.drewN nq = W4 at hak2 HK4 HX4 e3 ⊢
      clear hak HX3 HK3 HL3 c0 c1 c2 c3 fz e1
      go_wp2_with fail
      refine hak2.mono ?_
      rintro e w5 ⟨rfl, hL5, hK5⟩
      have HX5 : Hid (w5.heap[bx]? = some (.cells #[.int .i64 p.fr, .int .i64 p.to, .int .i64 p.seq, .int .i64 p.ack, .slice A p.load.length C] 32 (0, 0))) := by unfold Hid; rw [hK5.block bx (heap_lt HX4.out) (fun e => e HTB.out)]; exact HX4.out
      have HK5 : Hid (Kp T w w5) := HK4.out.trans (hK5.weak fun g _ e f => e (HT1.out g f))
      have HL5 : Hid (Lx false w5 n s3 T1) := hL5
      have hnl5 : n < w5.heap.size := World.block_lt_of_cell? w5 _ hL5.cells.1
      obtain ⟨c0, c1, c2, c3, fz⟩ := hL5.cells
      have e2 := cell_at HX5.out 2
      simp at e2
      have HG3 : Hid (s3.got = s2.got) := by unfold Hid; rw [← HS3.out]; exact ackS_got _ _
      have hwr : IntKind.i64.wrap (s3.got + 1) = s3.got + 1 := Go.IntWalk.i64_in _ (by have := HG3.out; have := HG.out; have := HL5.out.fit.2.2.1.2; omega)
      clear hak2 hL5 hK5 HX4 HK4 e3
      by_cases hsq : p.seq = s3.got + 1
      · have HR : Hid (R = ⟨p.load, true, b, { s3 with got := s3.got + 1 }⟩) := by
          unfold Hid; rw [HRR.out]; unfold takeK; rw [HS3.out, if_neg (fun e => e HTO.out), if_neg (fun e => e hsq)]
        rw [hsq] at e2
        clear hsq
        go_wp2_with fail
        go_quiet (fail)
        have hg6 := (HL5.out.drewN nq).gets
        have HX6 : Hid ((w5.drewN nq).heap[bx]? = some (.cells #[.int .i64 p.fr, .int .i64 p.to, .int .i64 p.seq, .int .i64 p.ack, .slice A p.load.length C] 32 (0, 0))) := by unfold Hid; cases nq <;> exact HX5.out
        have HK6 : Hid (Kp T w (w5.drewN nq)) := HK5.out.trans (Chg.drewN _ _ _)
        have d3 : (w5.drewN nq).cell? ⟨n, 3, none⟩ = some (.int .i64 s3.got) := (HL5.out.drewN nq).cells.2.2.2.1
        have fz6 := (HL5.out.drewN nq).cells.2.2.2.2
        have HNB : Hid (bx ≠ n) := fun e => by
          obtain ⟨v, L, q1, q2, q3⟩ := HL5.out
          exact q2 bx HTB.out (.inl e)
        generalize w5.drewN nq = W6 at hg6 HX6 HK6 d3 fz6 ⊢
        have HL7 : Hid (Lx false (W6.setCell ⟨n, 3, none⟩ (.int .i64 (s3.got + 1))) n { s3 with got := s3.got + 1 } T1) := hg6.1
        have HK7 : Hid (Kp T w (W6.setCell ⟨n, 3, none⟩ (.int .i64 (s3.got + 1)))) := HK6.out.trans (hg6.2.weak fun g _ e f => e (HT1.out g f))
        have e4 := cell_at HX6.out 4
        simp only [List.getElem?_toArray, List.getElem?_cons_succ, List.getElem?_cons_zero] at e4
        have hnb : ¬ bx = n := HNB.out
        have hcl := clone_any (HBS.out _ HK7.out) hl
        clear hg6 HX5 HK5 HL5 c0 c1 c2 c3 fz e2 HX6 HK6
        go_wp2_with fail
        refine hcl.mono ?_
        rintro e w8 ⟨A8, C8, rfl, ho, hB8⟩
        have HE := take_some (b := b) (HL7.out.fewer HT1.out) HK7.out ho hB8 HK7.out.size
        clear hcl ho hB8
        go_wp2_with fail
        go_ret3
        rw [HR.out]; exact HE
      · have HR : Hid (R = ⟨[], false, b, s3⟩) := by
          unfold Hid; rw [HRR.out]; unfold takeK; rw [HS3.out, if_neg (fun e => e HTO.out), if_pos hsq]
        go_wp2_with fail
        go_quiet (fail)
        have HE := fun q => take_none (b := b) ((HL5.out.drewN q).fewer HT1.out) (HK5.out.trans (Chg.drewN _ _ q))
        go_wp2_with fail
        go_ret3
        rw [HR.out]; exact HE _
    · have HR : Hid (R = ⟨[], false, b, s2⟩) := by
        unfold Hid; rw [HRR.out]; unfold takeK; rw [if_pos hto]
      go_wp2_with fail
      go_quiet (fail)
      have HE := fun q => take_none (b := b) ((HL3.out.drewN q).fewer HT1.out) (HK3.out.trans (Chg.drewN _ _ q))
      go_wp2_with fail
      go_ret3
      rw [HR.out]; exact HE _
end Go.Proofs.Ytpmbkncakbcmbaa
