/- The walk of LinkDoes. -/
import Derived.Test.YtnonboegnbnepaaLkDo
namespace Go.Proofs.Ytnonboegnbnepaa
set_option linter.unusedVariables false
open Go.RowKit
set_option linter.unusedVariables false

set_option maxRecDepth 100000 in
set_option maxHeartbeats 4000000 in
theorem does_short {w : World} {inc : Int} {A : Option Addr} {C : Nat} {l : List Dd} (h : Dds w (.slice A l.length C) l) (hl : l.length ≤ 300) (hz : ∀ x ∈ l, x.load.length ≤ 140737488351232 ∧ x.p.load.length ≤ 140737488351232) :
    Calls Try.prog 3 #[.int .i64 inc, .slice A l.length C] w fun e w' => e = .returned (.bool true) ∧ Below w.heap.size w w' := by
  have HD : Hid (Dds w (.slice A l.length C) l) := h
  have HZ : Hid (∀ x ∈ l, x.load.length ≤ 140737488351232 ∧ x.p.load.length ≤ 140737488351232) := hz
  clear h hz
  obtain ⟨K, hK⟩ : ∃ K, K = l.length := ⟨_, rfl⟩
  have HK : Hid (K = l.length) := hK
  rw [← hK] at hl ⊢
  clear hK
  by_cases hin : 1 ≤ inc ∧ inc ≤ 1099511627776
  · go_enter Try.func3, Try.ntmps3
    go_wp2_with fail
    refine (awake_any _).mono ?_
    rintro e w1 ⟨rfl, hb⟩
    have HB1 : Hid (Below w.heap.size w w1) := hb
    clear hb
    go_wp2_with fail
    refine (new_lo inc w1 hin).mono ?_
    rintro e w2 ⟨a, rfl, h2, b2⟩
    have H2 : Hid (Lo false w2 a (news inc) (Nw w1 w2) ∧ Below w1.heap.size w1 w2) := ⟨h2, b2⟩
    clear h2 b2
    go_wp2_with fail
    refine (rnew_yes inc w2 hin).mono ?_
    rintro e w3 ⟨r, rfl, h3, b3⟩
    have HT3 : Hid (TD w1 w3 a r (news inc)) := TD.start H2.out.1 H2.out.2 h3 b3
    clear h3 b3 H2
    go_wp2_with fail
    go_loopw [8] (fun i wr => ∃ (j : Nat) (s : St), j ≤ K ∧ i = .int .i64 j ∧ Hid (TD w1 wr a r s ∧ s.acked ≤ j ∧ s.got ≤ j)) (fun i _ => K - (intOf i).toNat)
    case atStart => exact ⟨0, _, Nat.zero_le _, rfl, HT3.out, by simp [news], by simp [news]⟩
    case round =>
      obtain ⟨j, s, hj, rfl, HR⟩ := hrel
      by_cases hlt : j < K
      · have hj' : j < l.length := by have := HK.out; omega
        obtain ⟨x, hx⟩ : ∃ x : Dd, x = l[j]'hj' := ⟨_, rfl⟩
        obtain ⟨hok, g, o, A1, C1, A2, C2, hA, a0, a1, a2, a3, a4, a5, a6, a7, b1, b2⟩ := HD.out.at j hj'
        rw [← hx] at hok a0 a1 a2 a3 a4 a5 a6 a7 b1 b2
        have HZX : Hid (x.load.length ≤ 140737488351232 ∧ x.p.load.length ≤ 140737488351232) := by rw [hx]; exact HZ.out _ (List.getElem_mem hj')
        have HOK : Hid x.ok := hok
        have HC : Hid (∀ (W : World) {i : Nat} {u : Value}, Below w1.heap.size w1 W → w.cell? ⟨g, i, none⟩ = some u → W.cell? ⟨g, i, none⟩ = some u) := by
          intro W i u hW hu
          have hb : Below w.heap.size w W := HB1.out.trans (hW.mono HB1.out.size)
          rw [World.cell?_of_block (hb.block g (World.block_lt_of_cell? w _ hu))]; exact hu
        have HBS : Hid (∀ (W : World), Below w1.heap.size w1 W → Bs W (.slice A1 x.load.length C1) x.load ∧ Bs W (.slice A2 x.p.load.length C2) x.p.load) := fun W hW => by
          have hb : Below w.heap.size w W := HB1.out.trans (hW.mono HB1.out.size)
          exact ⟨b1.below' hb, b2.below' hb⟩
        have HBL : Hid (∀ k, (bk (.slice A1 x.load.length C1) = some k ∨ bk (.slice A2 x.p.load.length C2) = some k) → k < w1.heap.size) := fun k hk => by
          have := HB1.out.size
          rcases hk with hk | hk
          · have := b1.lt hk; omega
          · have := b2.lt hk; omega
        subst hA
        clear hx hok b1 b2
        have c0 := HC.out wr HR.out.1.bel a0
        obtain ⟨c, hc, ec⟩ : ∃ c : Nat, c < 3 ∧ x.kind % 3 = c := ⟨(x.kind % 3).toNat, by omega, by omega⟩
        have hpk := pick_any x.kind 3 HOK.out.1 (by omega) (by omega) wr
        rw [ec] at hpk
        go_wp2_with fail
        refine hpk.mono ?_
        rintro e w5 ⟨rfl, rfl⟩
        clear hpk ec c0
        have hcs : c = 0 ∨ c = 1 ∨ c = 2 := by omega
        rcases hcs with rfl | rfl | rfl
        · have c1 := HC.out w5 HR.out.1.bel a1
          have hle := LB.lent_any (HBS.out w5 HR.out.1.bel).1 (by have := HZX.out; omega)
          go_wp2_with fail
          refine hle.mono ?_
          rintro e V ⟨rfl, hL, hBV⟩
          obtain ⟨g0, hg0⟩ : ∃ g0, g0 = w5.heap.size := ⟨_, rfl⟩
          have HBV : Hid (Below w5.heap.size w5 V) := hBV
          have HL : Hid (LB.Lent V g0 x.load) := by rw [hg0]; exact hL
          have HG0 : Hid (g0 = w5.heap.size) := hg0
          rw [← hg0]
          clear hle hL hBV hg0 c1
          have hVb : Below w1.heap.size w1 V := HR.out.1.bel.trans (HBV.out.mono HR.out.1.bel.size)
          have c1 : V.cell? ⟨g, o + j * 8 + 1, none⟩ = some (.slice A1 x.load.length C1) := HC.out V hVb a1
          have hsd := td_send HR.out.1 (HBV.out.trans ((Below.refl V.heap.size V).drew.mono HBV.out.size)) (V := V.drew) (g0 := g0) (b := x.load) (HL.out.below (Below.refl _ _).drew) (Nat.le_of_eq HG0.out.symm) (x := .slice A1 x.load.length C1) (fun U hU => (HBS.out U hU).1)
          have HS' : Hid (sendS s x.load = sendS s x.load) := rfl
          generalize sendE s x.load = E at hsd
          obtain ⟨s', hs'⟩ : ∃ s', s' = sendS s x.load := ⟨_, rfl⟩
          rw [← hs'] at hsd
          have HBD : Hid (s'.acked ≤ (j : Int) + 1 ∧ s'.got ≤ (j : Int) + 1 ∧ j ≤ 300) := by
            have := HR.out.2; have := sendS_same s x.load
            rw [hs']; exact ⟨by omega, by omega, by omega⟩
          have HM : Hid (x.load.length ≤ 140737488355000 ∧ w1.heap.size ≤ g0) := ⟨by have := HZX.out; omega, by rw [HG0.out]; exact HR.out.1.bel.size⟩
          clear hs' HS' hVb
          go_wp2_with fail
          go_region_held3 (fun w' => w'.cell? ⟨g, o + j * 8 + 1, none⟩ = some (.slice A1 x.load.length C1))
            (first | exact c1 | exact d1 | exact d2 | exact d3 | go_keep)
            (first
              | (go_at_call 12; refine hsd.mono ?_; rintro e V1 ⟨rfl, hb1, H1⟩; have d1 := HC.out V1 hb1 a1; have h1 := H1.out; clear hsd)
              | (go_at_call 13; refine h1.mono ?_; rintro e V2 ⟨rfl, hb2, H2⟩; have d2 := HC.out V2 hb2 a1; have h2 := LB.kept_any g0 x.load.length (.slice A1 x.load.length C1) x.load V2 H2.out.1 (HBS.out V2 hb2).1 rfl HM.out.1; clear h1 H1)
              | (go_at_call 14; refine h2.mono ?_; rintro e V3 ⟨rfl, q3, hV3⟩; have hb3 : Below w1.heap.size w1 V3 := (by rw [hV3]; exact below_drewN hb2 q3); have d3 := HC.out V3 hb3 a1; clear h2))
          subst hV3
          have hL3 : LB.Lent (V2.drewN q3) g0 x.load := H2.out.1.below (below_drewN (Below.refl _ _) q3)
          have H3 : Hid (∃ A' B', TDw w1 (V2.drewN q3) a r s' A' B' ∧ ¬ A' g0 ∧ ¬ B' g0) := by
            obtain ⟨_, A', B', q, n1, n2⟩ := H2.out
            exact ⟨A', B', ⟨q.la.drewN q3, q.lb.drewN q3, q.ap, q.lo, hb3⟩, n1, n2⟩
          have hov := over_any g0 x.load.length x.load (V2.drewN q3) hL3 rfl HM.out.1
          clear hL3 H2 hb2 hb3 d1 d2 d3 c1 hb1
          go_wp2_with fail
          refine hov.mono ?_
          rintro e V5 ⟨rfl, hc5⟩
          have HT5 : Hid (TD w1 V5 a r s') := td_over H3.out hc5 HM.out.2
          clear hov hc5 H3 HL HBV HG0 HM
          have hts := HT5.out
          obtain ⟨B5, E5, hrc⟩ := hts.rc
          have hot := td_out (hts.below (Below.refl _ _).drew) (by have := HBD.out; omega) rfl (hrc.below (Below.refl _ _).drew)
          obtain ⟨N5, hN5⟩ : ∃ N5, N5 = s'.loads.length := ⟨_, rfl⟩
          obtain ⟨p5, hp5⟩ : ∃ p5, p5 = outP s' := ⟨_, rfl⟩
          rw [← hN5] at hrc hot
          rw [← hp5] at hot
          have HN5 : Hid (N5 = s'.loads.length) := hN5
          have hS0 : V5.cell? ⟨r, 1, none⟩ = some (.int .i64 s'.peer) ∧ V5.cell? ⟨r, 2, none⟩ = some (.slice B5 N5 E5) := hrc
          unfold pkV RC at hot
          clear hts hrc hN5 hp5
          go_wp2_with fail
          go_region_held3 (fun w' => w'.cell? ⟨r, 1, none⟩ = some (.int .i64 s'.peer) ∧ w'.cell? ⟨r, 2, none⟩ = some (.slice B5 N5 E5))
            (first | exact hS0 | exact hS1 | exact hS2 | exact hS3 | go_keep)
            (first
              | (go_at_call 24; refine hot.mono ?_; rintro e V6 ⟨X6, C6, rfl, hS1, H6⟩; have h6 := H6.out; clear hot)
              | (go_at_call 25; refine h6.mono ?_; rintro e V7 ⟨X7, C7, rfl, hS2, H7⟩; have h7 := H7.out; clear h6 H6)
              | (go_at_call 23; refine h7.mono ?_; rintro e V8 ⟨rfl, hS3, H8⟩; have h8 := td_wait H8.out; rw [← HN5.out] at h8; have h9 := td_known H8.out; clear h7 H7)
              | (go_at_call 26; refine h8.mono ?_; rintro e V9 ⟨rfl, rfl⟩; clear h8)
              | (go_at_call 27; refine h9.mono ?_; rintro e V9 ⟨rfl, rfl⟩; clear h9))
          go_wp2_with fail
          go_roundw
          case rel => exact ⟨j + 1, s', by omega, by go_num, H8.out, by have := HBD.out; push_cast; omega, by have := HBD.out; push_cast; omega⟩
          case measure => simp [intOf]; omega
        · have c2 := HC.out w5 HR.out.1.bel a2
          have c3 := HC.out w5 HR.out.1.bel a3
          have c4 := HC.out w5 HR.out.1.bel a4
          have c5 := HC.out w5 HR.out.1.bel a5
          have c6 := HC.out w5 HR.out.1.bel a6
          have hle := lentPk_any (HBS.out w5 HR.out.1.bel).2 (by have := HZX.out; omega)
          unfold pkV at hle
          go_wp2_with fail
          refine hle.mono ?_
          rintro e V ⟨g0, rfl, hg0, hL, hBV⟩
          have hVb : Below w1.heap.size w1 V := HR.out.1.bel.trans (hBV.mono HR.out.1.bel.size)
          clear hle c2 c3 c4 c5 c6
          obtain ⟨t, ht⟩ : ∃ t, t = takeR s x.p := ⟨_, rfl⟩
          obtain ⟨s', hs'⟩ : ∃ s', s' = t.st := ⟨_, rfl⟩
          have hBD0 : s'.acked ≤ (j : Int) + 1 ∧ s'.got ≤ (j : Int) + 1 := by
            have := HR.out.2
            rw [hs', ht]; exact takeR_bound s x.p j (by omega) this.1 this.2
          have HBD : Hid (s'.acked ≤ (j : Int) + 1 ∧ s'.got ≤ (j : Int) + 1 ∧ j ≤ 300) := ⟨hBD0.1, hBD0.2, by omega⟩
          have HTL : Hid (t.load.length ≤ 140737488355328) := by
            rw [ht]; unfold Hid takeR
            have hz := HZX.out.2
            have key : ∀ s2 b, (takeK s2 x.p b).load.length ≤ 140737488355328 := by
              intro s2 b; unfold takeK
              split
              · simp
              · split
                · simp
                · show x.p.load.length ≤ _; omega
            split
            · simp
            · split <;> exact key _ _
          obtain ⟨V', hV'⟩ : ∃ V', V' = V.alloc (.cells #[.int .i64 x.p.fr, .int .i64 x.p.to, .int .i64 x.p.seq, .int .i64 x.p.ack, .slice (some ⟨g0, 0, none⟩) x.p.load.length (x.p.load.length + 12)] 32) := ⟨_, rfl⟩
          have hBV' : Below w5.heap.size w5 V' := by rw [hV']; exact hBV.alloc hBV.size _
          have hpb : V'.heap[V.heap.size]? = some (.cells #[.int .i64 x.p.fr, .int .i64 x.p.to, .int .i64 x.p.seq, .int .i64 x.p.ack, .slice (some ⟨g0, 0, none⟩) x.p.load.length (x.p.load.length + 12)] 32 (0, 0)) := by rw [hV']; exact heap_alloc_new V _
          have hL' : LB.Lent V' g0 x.p.load := by rw [hV']; exact hL.below (below1 _ _)
          have HPB : Hid (V'.heap[V.heap.size]? = some (.cells #[.int .i64 x.p.fr, .int .i64 x.p.to, .int .i64 x.p.seq, .int .i64 x.p.ack, .slice (some ⟨g0, 0, none⟩) x.p.load.length (x.p.load.length + 12)] 32 (0, 0)) ∧ w5.heap.size ≤ V.heap.size) := ⟨hpb, hBV.size⟩
          have htk := td_take HR.out.1 hBV' (g0 := g0) (p := x.p) hL' hg0 (fun U hU => (HBS.out U hU).2) (fun k hk => HBL.out k (.inr hk)) HOK.out.2.1 (by have := HZX.out; omega) (by have := HR.out.2; omega) (by have := HR.out.2; omega) ht.symm
          rw [← hs'] at htk
          unfold pkV tkV at htk
          rw [hV'] at htk
          clear hs' hBD0 ht hL hg0 hBV hL' hBV' hpb
          go_wp2_with fail
          refine htk.mono ?_
          rintro e V1 ⟨Y, D, rfl, hb1, H1⟩
          have h1 := H1.out
          have c2 := HC.out V1 hb1 a2
          have c3 := HC.out V1 hb1 a3
          have c4 := HC.out V1 hb1 a4
          have c5 := HC.out V1 hb1 a5
          have c6 := HC.out V1 hb1 a6
          clear htk H1 hVb
          go_wp2_with fail
          refine h1.mono ?_
          rintro e V2 ⟨Z, E, rfl, hb2, H2⟩
          rw [← hV'] at H2
          have HP2 : Hid (V2.heap[V.heap.size]? = some (.cells #[.int .i64 x.p.fr, .int .i64 x.p.to, .int .i64 x.p.seq, .int .i64 x.p.ack, .slice (some ⟨g0, 0, none⟩) x.p.load.length (x.p.load.length + 12)] 32 (0, 0))) := by unfold Hid; rw [H2.out.2.2.2.2 _ HPB.out.2 (heap_lt HPB.out.1)]; exact HPB.out.1
          obtain ⟨pb, hpb⟩ : ∃ pb, pb = V.heap.size := ⟨_, rfl⟩
          rw [← hpb] at HP2
          rw [← hpb]
          clear h1 c2 c3 c4 c5 c6 hb1 hV' hpb HPB
          have c2 := HC.out V2 hb2 a2
          have c3 := HC.out V2 hb2 a3
          have c4 := HC.out V2 hb2 a4
          have c5 := HC.out V2 hb2 a5
          have c6 := HC.out V2 hb2 a6
          have HS : Hid (∀ w' : World, Below V2.heap.size V2 w' → w'.cell? ⟨g, o + j * 8 + 2, none⟩ = some (.int .i64 x.p.fr) ∧ w'.cell? ⟨g, o + j * 8 + 3, none⟩ = some (.int .i64 x.p.to) ∧ w'.cell? ⟨g, o + j * 8 + 4, none⟩ = some (.int .i64 x.p.seq) ∧ w'.cell? ⟨g, o + j * 8 + 5, none⟩ = some (.int .i64 x.p.ack) ∧ w'.cell? ⟨g, o + j * 8 + 6, none⟩ = some (.slice A2 x.p.load.length C2) ∧ w'.cell? ⟨pb, 0, none⟩ = some (.int .i64 x.p.fr) ∧ w'.cell? ⟨pb, 1, none⟩ = some (.int .i64 x.p.to) ∧ w'.cell? ⟨pb, 2, none⟩ = some (.int .i64 x.p.seq) ∧ w'.cell? ⟨pb, 3, none⟩ = some (.int .i64 x.p.ack) ∧ w'.cell? ⟨pb, 4, none⟩ = some (.slice (some ⟨g0, 0, none⟩) x.p.load.length (x.p.load.length + 12))) := by
            intro w' hw'
            have hb' : Below w1.heap.size w1 w' := hb2.trans (hw'.mono hb2.size)
            have hp' : w'.heap[pb]? = some (.cells #[.int .i64 x.p.fr, .int .i64 x.p.to, .int .i64 x.p.seq, .int .i64 x.p.ack, .slice (some ⟨g0, 0, none⟩) x.p.load.length (x.p.load.length + 12)] 32 (0, 0)) := by rw [hw'.block pb (heap_lt HP2.out)]; exact HP2.out
            exact ⟨HC.out w' hb' a2, HC.out w' hb' a3, HC.out w' hb' a4, HC.out w' hb' a5, HC.out w' hb' a6, cell_at hp' 0, cell_at hp' 1, cell_at hp' 2, cell_at hp' 3, cell_at hp' 4⟩
          have hS0 := HS.out _ (Below.refl V2.heap.size V2).drew
          have hsm := same_any (H2.out.2.1.drew) (H2.out.2.2.1.drew) HTL.out
          rw [decide_eq_true rfl] at hsm
          have hkp := fun q => keptPk_any (w := V2.drew.drewN q) (p := x.p) (A := A2) (C := C2) (g := g0) (H2.out.1.below (below_drewN (Below.refl _ _).drew q)) ((HBS.out V2 hb2).2.below' (below_drewN (Below.refl _ _).drew q)) (by have := HZX.out; omega)
          unfold pkV at hkp
          have HT2 : Hid (TD w1 V2 a r s') := H2.out.2.2.2.1
          clear c2 c3 c4 c5 c6 H2
          go_wp2_with fail
          go_region_held3 (fun w' => w'.cell? ⟨g, o + j * 8 + 2, none⟩ = some (.int .i64 x.p.fr) ∧ w'.cell? ⟨g, o + j * 8 + 3, none⟩ = some (.int .i64 x.p.to) ∧ w'.cell? ⟨g, o + j * 8 + 4, none⟩ = some (.int .i64 x.p.seq) ∧ w'.cell? ⟨g, o + j * 8 + 5, none⟩ = some (.int .i64 x.p.ack) ∧ w'.cell? ⟨g, o + j * 8 + 6, none⟩ = some (.slice A2 x.p.load.length C2) ∧ w'.cell? ⟨pb, 0, none⟩ = some (.int .i64 x.p.fr) ∧ w'.cell? ⟨pb, 1, none⟩ = some (.int .i64 x.p.to) ∧ w'.cell? ⟨pb, 2, none⟩ = some (.int .i64 x.p.seq) ∧ w'.cell? ⟨pb, 3, none⟩ = some (.int .i64 x.p.ack) ∧ w'.cell? ⟨pb, 4, none⟩ = some (.slice (some ⟨g0, 0, none⟩) x.p.load.length (x.p.load.length + 12)))
            (first | exact hS0 | exact hS1 | exact hS2 | go_keep)
            (first
              | (go_at_call 19; refine hsm.mono ?_; rintro e V3 ⟨rfl, q3, hV3⟩; have hS1 := HS.out V3 (by rw [hV3]; exact below_drewN (Below.refl _ _).drew q3); have hk := hkp q3; rw [← hV3] at hk; have hB3 : Below V2.heap.size V2 V3 := (by rw [hV3]; exact below_drewN (Below.refl _ _).drew q3); clear hsm hkp hV3)
              | (go_at_call 20; refine hk.mono ?_; rintro e V5 ⟨rfl, hB5⟩; have hS2 := HS.out V5 (hB3.trans (hB5.mono hB3.size)); clear hk))
          have HT5 : Hid (TD w1 V5 a r s') := HT2.out.below (hB3.trans (hB5.mono hB3.size))
          clear hS0 hS1 hS2 hB3 hB5 HT2 HS HP2 hb2
          have hts := HT5.out
          obtain ⟨B5, E5, hrc⟩ := hts.rc
          have hot := td_out (hts.below (Below.refl _ _).drew) (by have := HBD.out; omega) rfl (hrc.below (Below.refl _ _).drew)
          obtain ⟨N5, hN5⟩ : ∃ N5, N5 = s'.loads.length := ⟨_, rfl⟩
          obtain ⟨p5, hp5⟩ : ∃ p5, p5 = outP s' := ⟨_, rfl⟩
          rw [← hN5] at hrc hot
          rw [← hp5] at hot
          have HN5 : Hid (N5 = s'.loads.length) := hN5
          have hS0 : V5.cell? ⟨r, 1, none⟩ = some (.int .i64 s'.peer) ∧ V5.cell? ⟨r, 2, none⟩ = some (.slice B5 N5 E5) := hrc
          unfold pkV RC at hot
          clear hts hrc hN5 hp5
          go_wp2_with fail
          go_region_held3 (fun w' => w'.cell? ⟨r, 1, none⟩ = some (.int .i64 s'.peer) ∧ w'.cell? ⟨r, 2, none⟩ = some (.slice B5 N5 E5))
            (first | exact hS0 | exact hS1 | exact hS2 | exact hS3 | go_keep)
            (first
              | (go_at_call 24; refine hot.mono ?_; rintro e V6 ⟨X6, C6, rfl, hS1, H6⟩; have h6 := H6.out; clear hot)
              | (go_at_call 25; refine h6.mono ?_; rintro e V7 ⟨X7, C7, rfl, hS2, H7⟩; have h7 := H7.out; clear h6 H6)
              | (go_at_call 23; refine h7.mono ?_; rintro e V8 ⟨rfl, hS3, H8⟩; have h8 := td_wait H8.out; rw [← HN5.out] at h8; have h9 := td_known H8.out; clear h7 H7)
              | (go_at_call 26; refine h8.mono ?_; rintro e V9 ⟨rfl, rfl⟩; clear h8)
              | (go_at_call 27; refine h9.mono ?_; rintro e V9 ⟨rfl, rfl⟩; clear h9))
          go_wp2_with fail
          go_roundw
          case rel => exact ⟨j + 1, s', by omega, by go_num, H8.out, by have := HBD.out; push_cast; omega, by have := HBD.out; push_cast; omega⟩
          case measure => simp [intOf]; omega
        · have c7 := HC.out w5 HR.out.1.bel a7
          have hrs := td_reset HR.out.1 x.inc
          obtain ⟨s', hs'⟩ : ∃ s', s' = resetS s x.inc := ⟨_, rfl⟩
          have HBD : Hid (s'.acked ≤ (j : Int) + 1 ∧ s'.got ≤ (j : Int) + 1 ∧ j ≤ 300) := by
            have := HR.out.2; have := resetS_bound s x.inc j (by omega) this.1 this.2
            rw [hs']; exact ⟨by omega, by omega, by omega⟩
          rw [← hs'] at hrs
          clear hs'
          go_wp2_with fail
          refine hrs.mono ?_
          rintro e V1 ⟨rfl, hb1, H1⟩
          have h1 := H1.out
          clear hrs c7 H1
          have c7 := HC.out V1 hb1 a7
          go_wp2_with fail
          refine h1.mono ?_
          rintro e V5 ⟨rfl, HT5⟩
          clear h1 c7 hb1
          have hts := HT5.out
          obtain ⟨B5, E5, hrc⟩ := hts.rc
          have hot := td_out (hts.below (Below.refl _ _).drew) (by have := HBD.out; omega) rfl (hrc.below (Below.refl _ _).drew)
          obtain ⟨N5, hN5⟩ : ∃ N5, N5 = s'.loads.length := ⟨_, rfl⟩
          obtain ⟨p5, hp5⟩ : ∃ p5, p5 = outP s' := ⟨_, rfl⟩
          rw [← hN5] at hrc hot
          rw [← hp5] at hot
          have HN5 : Hid (N5 = s'.loads.length) := hN5
          have hS0 : V5.cell? ⟨r, 1, none⟩ = some (.int .i64 s'.peer) ∧ V5.cell? ⟨r, 2, none⟩ = some (.slice B5 N5 E5) := hrc
          unfold pkV RC at hot
          clear hts hrc hN5 hp5
          go_wp2_with fail
          go_region_held3 (fun w' => w'.cell? ⟨r, 1, none⟩ = some (.int .i64 s'.peer) ∧ w'.cell? ⟨r, 2, none⟩ = some (.slice B5 N5 E5))
            (first | exact hS0 | exact hS1 | exact hS2 | exact hS3 | go_keep)
            (first
              | (go_at_call 24; refine hot.mono ?_; rintro e V6 ⟨X6, C6, rfl, hS1, H6⟩; have h6 := H6.out; clear hot)
              | (go_at_call 25; refine h6.mono ?_; rintro e V7 ⟨X7, C7, rfl, hS2, H7⟩; have h7 := H7.out; clear h6 H6)
              | (go_at_call 23; refine h7.mono ?_; rintro e V8 ⟨rfl, hS3, H8⟩; have h8 := td_wait H8.out; rw [← HN5.out] at h8; have h9 := td_known H8.out; clear h7 H7)
              | (go_at_call 26; refine h8.mono ?_; rintro e V9 ⟨rfl, rfl⟩; clear h8)
              | (go_at_call 27; refine h9.mono ?_; rintro e V9 ⟨rfl, rfl⟩; clear h9))
          go_wp2_with fail
          go_roundw
          case rel => exact ⟨j + 1, s', by omega, by go_num, H8.out, by have := HBD.out; push_cast; omega, by have := HBD.out; push_cast; omega⟩
          case measure => simp [intOf]; omega
      · go_wp2_with fail
        go_ret
        exact ⟨rfl, HB1.out.trans (HR.out.1.bel.mono HB1.out.size)⟩
  · go_enter Try.func3, Try.ntmps3
    go_wp2_with fail
    refine (awake_any _).mono ?_
    rintro e w1 ⟨rfl, hb⟩
    have HB1 : Hid (Below w.heap.size w w1) := hb
    clear hb
    go_wp2_with fail
    refine (new_no inc w1 hin).mono ?_
    rintro e w2 ⟨rfl, rfl⟩
    go_wp2_with fail
    refine (rnew_no inc w2 hin).mono ?_
    rintro e w3 ⟨r, rfl, b3⟩
    have HB3 : Hid (Below w.heap.size w w3) := HB1.out.trans (b3.mono HB1.out.size)
    clear b3
    go_wp2_with fail
    go_ret
    exact ⟨rfl, HB3.out⟩
end Go.Proofs.Ytnonboegnbnepaa
