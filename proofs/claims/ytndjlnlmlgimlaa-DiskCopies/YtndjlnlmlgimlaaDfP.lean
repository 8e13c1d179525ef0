/- Disks and their copies. -/
import Derived.Test.YtndjlnlmlgimlaaDfO
namespace Go.Proofs.Ytndjlnlmlgimlaa
open Go.RowKit Go.MapKept

theorem rcopy_rx {w : World} {r : Nat} {v : Value} {room : Int} {F : List Fi} {B : Nat → Prop} (h : Rx w r v room F B) (hL : F.length ≤ 999999) :
    Calls Try.prog 15 #[.pointer (some ⟨r, 0, none⟩)] w fun e w' => ∃ s v2, e = .returned (.pointer (some ⟨s, 0, none⟩)) ∧ Rx w' s v2 room F (fun g => Wr s v2 g ∨ (B g ∧ ¬ Wr r v g)) ∧ (∀ g, Wr s v2 g → w.heap.size ≤ g) ∧ Below w.heap.size w w' := by
  obtain ⟨base, L, h1, h2, rfl, h4, h5⟩ := h
  refine (rcopy_any h1 h2 (by simp at hL; omega)).mono ?_
  rintro e w' ⟨s, v2, rfl, k1, k2, k3, k4⟩
  have hwr : ∀ g, Wr s v2 g → w.heap.size ≤ g := fun g hg => hg.elim (fun e => by omega) (k3 g)
  refine ⟨s, v2, rfl, ⟨base, L, Nat.le_trans h1 k4.size, k1, rfl, fun g hg => ?_, fun g hg => ?_⟩, hwr, k4⟩
  · rcases hg with e | e | ⟨p, hp, e⟩
    · exact .inl (.inl e)
    · exact .inl (.inr e)
    · exact .inr ⟨h4 g (.inr (.inr ⟨p, hp, e⟩)), h2.bs_ne hp e⟩
  · rcases hg with hg | hg
    · exact (k1.lt g (hg.elim (fun e => .inl e) (fun e => .inr (.inl e)))).2
    · exact Nat.lt_of_lt_of_le (h5 g hg.1) k4.size
/- A disk and its copy, of both kinds, behind the copying. -/
theorem TB.copied {w wr wa wb : World} {d r e s : Nat} {room : Int} {G F G2 : List Fi} {S : Nat → Prop} {v v2 : Value} {B : Nat → Prop} (h : TB (fun g => g < w.heap.size) Non w wr d r room G F S v B)
    (hp : G2.Perm G) (hd : Dx wa e room G2 (fun k => k < wr.heap.size)) (b1 : Below wr.heap.size wr wa) (hr : Rx wb s v2 room F (fun g => Wr s v2 g ∨ (B g ∧ ¬ Wr r v g))) (hw : ∀ g, Wr s v2 g → wa.heap.size ≤ g) (b2 : Below wa.heap.size wa wb) :
    ∃ D2 E2 S2 B2, Two D2 E2 wb wb d r room F ∧ Dy wb e room G2 S2 ∧ G2.Perm F ∧ Up F ∧ Rx wb s v2 room F B2 ∧ (∀ g, S2 g → ¬ B2 g) ∧ (∀ g, S2 g → D2 g ∧ E2 g) ∧ (∀ g, B2 g → D2 g) ∧ (∀ g, Wr s v2 g → E2 g) ∧ (∀ g, g < w.heap.size → D2 g ∧ ¬ S2 g ∧ ¬ Wr s v2 g) ∧ Kp (fun g => g < w.heap.size) w wb := by
  have s1 := b1.size
  have s2 := b2.size
  have s0 := h.bel.size
  have bb : Below wr.heap.size wr wb := b1.trans (b2.mono s1)
  have hb := h.below bb
  have hS := h.dy.2
  have hB := h.rx.lt
  have hWB := h.rx.wr
  have hdy : Dy wa e room G2 (fun k => wr.heap.size ≤ k ∧ k < wa.heap.size) := ⟨hd.fewer fun k hk => Nat.lt_of_not_le fun e => hk.2 ⟨e, hk.1⟩, fun k hk => hk.2⟩
  refine ⟨fun g => g < wb.heap.size ∧ ¬ S g ∧ ¬ Wr r v g, fun g => wr.heap.size ≤ g ∧ g < wb.heap.size, _, _, ⟨G, S, v, B, hb.dy, hb.perm, hb.up, hb.rx, hb.ap, fun g hg => hg.2, Chg.refl _ _, fun g hg => hg.1, fun g hg => ⟨fun e => ?_, hg.2⟩⟩, hdy.below b2, hp.trans h.perm, h.up, hr, fun g hg e => ?_, fun g hg => ⟨⟨?_, fun e => ?_, fun e => ?_⟩, ?_, ?_⟩, fun g hg => ⟨hr.lt g hg, fun e => ?_, fun e => ?_⟩, fun g hg => ⟨?_, hr.lt g (.inl hg)⟩, fun g hg => ⟨⟨?_, h.low g hg⟩, fun e => ?_, fun e => ?_⟩, hb.bel⟩
  · have := hB g e; omega
  · rcases e with e | e
    · have := hw g e; omega
    · have := hB g e.1; omega
  · omega
  · have := hS g e; omega
  · have := hB g (hWB g e); omega
  · exact hg.1
  · omega
  · rcases hg with hg | hg
    · have := hw g hg; have := hS g e; omega
    · exact h.ap g e hg.1
  · rcases hg with hg | hg
    · have := hw g hg; have := hB g (hWB g e); omega
    · exact hg.2 e
  · have := hw g hg; omega
  · omega
  · omega
  · have := hw g e; omega
/- The copy goes on; the first one stays. -/
theorem Two.turn {D2 E2 S2 B2 : Nat → Prop} {w wb w3 : World} {d r e s : Nat} {room : Int} {F3 F2 G2 : List Fi} {v2 : Value} (h : Two D2 E2 wb w3 d r room F3) (hd : Dy wb e room G2 S2) (hp : G2.Perm F2) (hu : Up F2) (hr : Rx wb s v2 room F2 B2) (hap : ∀ g, S2 g → ¬ B2 g) (hS : ∀ g, S2 g → D2 g ∧ E2 g) (hB : ∀ g, B2 g → D2 g) (hW : ∀ g, Wr s v2 g → E2 g) (hlow : ∀ g, g < w.heap.size → D2 g ∧ ¬ S2 g ∧ ¬ Wr s v2 g) (hws : w.heap.size ≤ wb.heap.size) :
    ∃ D3, Two D3 Non w3 w3 e s room F2 ∧ (∀ w4, Kp D3 w3 w4 → Two Non Non w4 w4 d r room F3) ∧ (∀ g, g < w.heap.size → D3 g) := by
  obtain ⟨G3, S3, v3, B3, h⟩ := h
  have hd3 : Dy w3 e room G2 S2 := hd.keep h.bel (fun g hg e => e (hS g hg).1)
  have hr3 : Rx w3 s v2 room F2 B2 := hr.keep h.bel (fun g hg e => e (hB g hg))
  have s3 := h.bel.size
  refine ⟨fun g => g < w3.heap.size ∧ ¬ S2 g ∧ ¬ Wr s v2 g, ⟨G2, S2, v2, B2, hd3, hp, hu, hr3, hap, fun g hg => hg.2, Chg.refl _ _, fun g hg => hg.1, fun g hg => hg.elim⟩, fun w4 hk => ?_, fun g hg => ⟨by omega, (hlow g hg).2⟩⟩
  have hS3 : ∀ g, S3 g → g < w3.heap.size ∧ ¬ S2 g ∧ ¬ Wr s v2 g := fun g hg => ⟨h.dy.2 g hg, fun e => (h.low g (hS g e).1).1 hg, fun e => (h.low g (hB g (hr.wr g e))).1 hg⟩
  have hB3 : ∀ g, B3 g → g < w3.heap.size ∧ ¬ S2 g ∧ ¬ Wr s v2 g := fun g hg => ⟨h.rx.lt g hg, fun e => (h.nb g (hS g e).2).1 hg, fun e => (h.nb g (hW g e)).1 hg⟩
  exact ⟨G3, S3, v3, B3, h.dy.keep hk (fun g hg e => e (hS3 g hg)), h.perm, h.up, h.rx.keep hk (fun g hg e => e (hB3 g hg)), h.ap, fun g hg => hg.elim, Chg.refl _ _, fun g hg => hg.elim, fun g hg => hg.elim⟩
set_option maxRecDepth 100000 in
set_option maxHeartbeats 8000000 in
theorem copies_short {w : World} {A : Option Addr} {C : Nat} {l : List Do8} (room at_ : Int) (hr : -9223372036854775808 ≤ room ∧ room < 9223372036854775808) (hat : -9223372036854775808 ≤ at_ ∧ at_ < 9223372036854775808) (h : Dos w (.slice A l.length C) l) (hl : l.length ≤ 60) {N C0 : Nat} (hN : (N = l.length ∧ 60 ≥ N) ∨ (60 < N ∧ l.length = 60 ∧ 60 ≤ C ∧ C0 = C)) (hC : C0 = C) :
    Calls Try.prog 4 #[.int .i64 room, .slice A N C0, .int .i64 at_] w fun e w' => e = .returned (.bool true) ∧ Below w.heap.size w w' := by
  subst hC
  have HD : Hid (Dos w (.slice A l.length C0) l) := h
  clear h
  obtain ⟨K, hK⟩ : ∃ K, K = l.length := ⟨_, rfl⟩
  have HK : Hid (K = l.length) := hK
  rw [← hK] at hl hN
  clear hK
  have hnew := new_dx room hr w
  have HRN : Hid (∀ w', Calls Try.prog 6 #[.int .i64 room] w' fun e w'' => ∃ r, e = .returned (.pointer (some ⟨r, 0, none⟩)) ∧ Rk w'' w'.heap.size r (max room 0) (.slice none 0 0) [] ∧ Below w'.heap.size w' w'') := fun w' => rnew_any room hr w'
  have hpk := pick_any at_ (K + 1) hat (by omega) (by omega) w
  obtain ⟨M, hM1, hM2⟩ : ∃ M : Nat, at_ % ((K : Int) + 1) = M ∧ M ≤ K := by
    have h1 := Int.emod_nonneg at_ (show (K : Int) + 1 ≠ 0 by omega)
    have h2 := Int.emod_lt_of_pos at_ (show 0 < (K : Int) + 1 by omega)
    exact ⟨(at_ % ((K : Int) + 1)).toNat, by omega, by omega⟩
  rw [hM1] at hpk
  clear hr hat hM1
  /- a step of the row, done to whichever pair -/
  have HST : Hid (∀ {D E : Nat → Prop} {w0 wr : World} {d r : Nat} {F : List Fi} {j : Nat}, j < K → (∀ g, g < w.heap.size → D g) → Below w.heap.size w w0 → Two D E w0 wr d r (max room 0) F → F.length ≤ 200 →
      ∃ (x : Do8) (g o : Nat) (A' : Option Addr) (C' : Nat), A = some ⟨g, o, none⟩ ∧ (wr.cell? ⟨g, o + j * 5, none⟩ = some (.int .i64 x.op) ∧ wr.cell? ⟨g, o + j * 5 + 1, none⟩ = some (.string (mkS x.nm)) ∧ wr.cell? ⟨g, o + j * 5 + 2, none⟩ = some (.string (mkS x.tt)) ∧ wr.cell? ⟨g, o + j * 5 + 3, none⟩ = some (.slice A' x.b.length C') ∧ wr.cell? ⟨g, o + j * 5 + 4, none⟩ = some (.int .i64 x.n)) ∧
        Calls Try.prog 7 #[.pointer (some ⟨d, 0, none⟩), .pointer (some ⟨r, 0, none⟩), .agg #[.int .i64 x.op, .string (mkS x.nm), .string (mkS x.tt), .slice A' x.b.length C', .int .i64 x.n]] wr fun e w' => e = .returned (.bool true) ∧ ∃ F', F'.length ≤ F.length + 1 ∧ Two D E w0 w' d r (max room 0) F') := by
    intro D E w0 wr d r F j hj hD hB hT hF
    have hj' : j < l.length := by have := HK.out; omega
    obtain ⟨g, o, A', C', hA, a0, a1, a2, a3, a4, a5⟩ := HD.out.at j hj'
    have hBw : Below w.heap.size w wr := hB.trans (Kp.below hT.bel hD hB.size)
    have lc : ∀ {i : Nat} {u : Value}, w.cell? ⟨g, i, none⟩ = some u → wr.cell? ⟨g, i, none⟩ = some u := by
      intro i u hu
      rw [World.cell?_of_block (hBw.block g (World.block_lt_of_cell? w _ hu))]; exact hu
    exact ⟨_, g, o, A', C', hA, ⟨lc a0, lc a1, lc a2, lc a3, lc a4⟩, step_any hT (by omega) (l[j]'hj') (HD.out.ok _ (List.getElem_mem hj')) (a5.keep (Chg.of_below hBw) (fun _ _ => id)) (fun k hk => hD k (a5.lt hk))⟩
  go_enter Try.func4, Try.ntmps4
  rcases hN with ⟨rfl, h2⟩ | ⟨h1, rfl, h3, _⟩
  · go_wp2_with fail
    refine hpk.mono ?_
    rintro e w1 ⟨rfl, rfl⟩
    clear hpk
    go_wp2_with fail
    refine hnew.mono ?_
    rintro e wa ⟨d, rfl, hd1, hb1⟩
    have hrn := HRN.out wa
    clear hnew
    go_wp2_with fail
    refine hrn.mono ?_
    rintro e wb ⟨r, rfl, hr1, hb2⟩
    have HTW : Hid (Two (fun g => g < w1.heap.size) Non w1 wb d r (max room 0) []) := Two.start hd1 hb1 hr1 rfl rfl hb2
    clear hrn hd1 hb1 hr1 hb2
    go_wp2_with fail
    go_loopw [9] (fun i wr => ∃ (j : Nat) (F : List Fi), j ≤ M ∧ i = .int .i64 j ∧ F.length ≤ j ∧ Two (fun g => g < w1.heap.size) Non w1 wr d r (max room 0) F) (fun i _ => M - (intOf i).toNat)
    case atStart => exact ⟨0, [], Nat.zero_le _, rfl, by simp, HTW.out⟩
    case round =>
      obtain ⟨j, F, hj, rfl, hF, hT⟩ := hrel
      have HT : Hid (Two (fun g => g < w1.heap.size) Non w1 wr d r (max room 0) F) := hT
      by_cases hlt : j < M
      · obtain ⟨x, g, o, A', C', hA, ⟨c0, c1, c2, c3, c4⟩, hst⟩ := HST.out (j := j) (by omega) (fun g hg => hg) (Below.refl _ _) hT (by omega)
        clear hT
        subst hA
        go_wp2_with fail
        refine hst.mono ?_
        rintro e w2 ⟨rfl, F', hF', hT1⟩
        have HT1 : Hid (Two (fun g => g < w1.heap.size) Non w1 w2 d r (max room 0) F') := hT1
        clear hst hT1 c0 c1 c2 c3 c4
        go_wp2_with fail
        go_roundw
        case rel => exact ⟨j + 1, F', by omega, by go_num, by omega, HT1.out⟩
        case measure => simp [intOf]; omega
      · obtain ⟨G, S, v, B, hTB⟩ := hT
        have hc1 := copy_dx hTB.dy.1
        have HF : Hid (F.length ≤ 60) := by rw [Hid]; omega
        have HTB : Hid (TB (fun g => g < w1.heap.size) Non w1 wr d r (max room 0) G F S v B) := hTB
        clear hTB HT
        go_wp2_with fail
        refine hc1.mono ?_
        rintro e wc ⟨d2, G2, rfl, hp2, hdx2, hbc⟩
        have hc2 := rcopy_rx (HTB.out.below hbc).rx (by have := HF.out; omega)
        have HC1 : Hid (G2.Perm G ∧ Dx wc d2 (max room 0) G2 (fun k => k < wr.heap.size) ∧ Below wr.heap.size wr wc) := ⟨hp2, hdx2, hbc⟩
        clear hc1 hp2 hdx2 hbc
        go_wp2_with fail
        refine hc2.mono ?_
        rintro e wd ⟨r2, v2, rfl, hrx2, hwr2, hbd⟩
        obtain ⟨D2, E2, S2, B2, q1, q2, q3, q4, q5, q6, q7, q8, q9, q10, q11⟩ := HTB.out.copied HC1.out.1 HC1.out.2.1 HC1.out.2.2 hrx2 hwr2 hbd
        have HQ : Hid (Dy wd d2 (max room 0) G2 S2 ∧ G2.Perm F ∧ Up F ∧ Rx wd r2 v2 (max room 0) F B2 ∧ (∀ g, S2 g → ¬ B2 g) ∧ (∀ g, S2 g → D2 g ∧ E2 g) ∧ (∀ g, B2 g → D2 g) ∧ (∀ g, Wr r2 v2 g → E2 g) ∧ (∀ g, g < w1.heap.size → D2 g ∧ ¬ S2 g ∧ ¬ Wr r2 v2 g)) := ⟨q2, q3, q4, q5, q6, q7, q8, q9, q10⟩
        have HTD : Hid (Two D2 E2 wd wd d r (max room 0) F) := q1
        have HBD : Hid (Below w1.heap.size w1 wd) := Kp.below q11 (fun _ h => h) (Nat.le_refl _)
        /- the copies, wherever the first ones went on -/
        have HCP : Hid (∀ {wz : World} {Fz : List Fi}, Two D2 E2 wd wz d r (max room 0) Fz → ∃ D3, Two D3 Non wz wz d2 r2 (max room 0) F ∧ (∀ w4, Kp D3 wz w4 → Two Non Non w4 w4 d r (max room 0) Fz) ∧ (∀ g, g < w1.heap.size → D3 g)) := fun hz => hz.turn q2 q3 q4 q5 q6 q7 q8 q9 q10 HBD.out.size
        have HLW : Hid (∀ g, g < w1.heap.size → D2 g) := fun g hg => (q10 g hg).1
        have hlk : ∃ D3, Two D3 Non wd wd d2 r2 (max room 0) F := by obtain ⟨D3, h, _⟩ := HCP.out q1; exact ⟨D3, h⟩
        obtain ⟨D0, hlk⟩ := hlk
        have hl1 := like_any hlk (by have := HF.out; omega)
        clear hc2 hrx2 hwr2 hbd q1 q2 q3 q4 q5 q6 q7 q8 q9 q10 q11 hlk HC1 HTB HTW
        go_wp2_with fail
        refine hl1.mono ?_
        rintro e we ⟨rfl, hbe⟩
        have HTE : Hid (Two D2 E2 wd we d r (max room 0) F) := HTD.out.below hbe
        clear hl1 hbe HTD
        go_wp2_with fail
        go_loopw [12] (fun i wr => ∃ (j : Nat) (F' : List Fi), j ≤ N ∧ M ≤ j ∧ i = .int .i64 j ∧ F'.length ≤ 60 + j ∧ Two D2 E2 wd wr d r (max room 0) F') (fun i _ => N - (intOf i).toNat)
        case atStart => exact ⟨M, F, by omega, Nat.le_refl _, rfl, by have := HF.out; omega, HTE.out⟩
        case round =>
          obtain ⟨j2, F3, hj2, hM2', rfl, hF3, hT2⟩ := hrel
          have HT2 : Hid (Two D2 E2 wd wr d r (max room 0) F3) := hT2
          by_cases hlt2 : j2 < N
          · obtain ⟨x, g, o, A', C', hA, ⟨c0, c1, c2, c3, c4⟩, hst⟩ := HST.out (j := j2) (by omega) HLW.out HBD.out hT2 (by omega)
            clear hT2
            subst hA
            go_wp2_with fail
            refine hst.mono ?_
            rintro e w2 ⟨rfl, F', hF', hT1⟩
            have HT1 : Hid (Two D2 E2 wd w2 d r (max room 0) F') := hT1
            clear hst hT1 c0 c1 c2 c3 c4
            go_wp2_with fail
            go_roundw
            case rel => exact ⟨j2 + 1, F', by omega, by omega, by go_num, by omega, HT1.out⟩
            case measure => simp [intOf]; omega
          · have HF3 : Hid (F3.length ≤ 120) := by rw [Hid]; omega
            have hl1 := like_any hT2 (by omega)
            clear hT2
            go_wp2_with fail
            refine hl1.mono ?_
            rintro e wf ⟨rfl, hbf⟩
            have hTf := HT2.out.below hbf
            obtain ⟨D3, t1, t2, t3⟩ := HCP.out hTf
            have hl2 := like_any t1 (by have := HF.out; omega)
            have HT3 : Hid (Two D3 Non wf wf d2 r2 (max room 0) F ∧ (∀ w4, Kp D3 wf w4 → Two Non Non w4 w4 d r (max room 0) F3) ∧ (∀ g, g < w1.heap.size → D3 g) ∧ Below w1.heap.size w1 wf) := ⟨t1, t2, t3, HBD.out.trans (Kp.below hTf.bel HLW.out HBD.out.size)⟩
            clear hl1 hbf hTf t1 t2 t3
            go_wp2_with fail
            refine hl2.mono ?_
            rintro e wg ⟨rfl, hbg⟩
            have HTG : Hid (Two D3 Non wf wg d2 r2 (max room 0) F) := HT3.out.1.below hbg
            clear hl2 hbg
            go_wp2_with fail
            go_loopw [13] (fun i wr => ∃ (j3 : Nat) (z : Int) (F' : List Fi), j3 ≤ N ∧ M ≤ j3 ∧ i = .int .i64 z ∧ z + 1 = j3 ∧ F'.length + j3 ≤ 60 + N ∧ Two D3 Non wf wr d2 r2 (max room 0) F') (fun i _ => (intOf i + 1).toNat)
            case atStart => exact ⟨N, (N : Int) - 1, F, Nat.le_refl _, hM2, rfl, by omega, by have := HF.out; omega, HTG.out⟩
            case round =>
              obtain ⟨j3, z, F4, hj3, hMj, rfl, hz, hF4, hT4⟩ := hrel
              have HT4 : Hid (Two D3 Non wf wr d2 r2 (max room 0) F4) := hT4
              by_cases hlt3 : M < j3
              · obtain ⟨k, rfl⟩ : ∃ k, j3 = k + 1 := ⟨j3 - 1, by omega⟩
                have hzk : z = (k : Int) := by omega
                subst hzk
                obtain ⟨x, g, o, A', C', hA, ⟨c0, c1, c2, c3, c4⟩, hst⟩ := HST.out (j := k) (by omega) HT3.out.2.2.1 HT3.out.2.2.2 hT4 (by omega)
                clear hT4 hz
                subst hA
                go_wp2_with fail
                refine hst.mono ?_
                rintro e w2 ⟨rfl, F', hF', hT1⟩
                have HT1 : Hid (Two D3 Non wf w2 d2 r2 (max room 0) F') := hT1
                clear hst hT1 c0 c1 c2 c3 c4
                go_wp2_with fail
                go_roundw
                case rel => exact ⟨k, (k : Int) - 1, F', by omega, by omega, by go_num, by omega, by omega, HT1.out⟩
                case measure => simp [intOf]
              · have hzM : z = (M : Int) - 1 := by omega
                subst hzM
                have HF4 : Hid (F4.length ≤ 120) := by rw [Hid]; omega
                obtain ⟨G4, S4, v4, B4, hTB⟩ := hT4
                have hc1 := crash_dx hTB.dy.1 1 (by omega)
                have HTB : Hid (TB D3 Non wf wr d2 r2 (max room 0) G4 F4 S4 v4 B4) := hTB
                clear hTB hz
                go_wp2_with fail
                refine hc1.mono ?_
                rintro e wh ⟨rfl, a1, a2⟩
                have hA := HTB.out.dy.next ⟨a1, a2⟩
                have hm := HTB.out.mid hA.2
                have hc2 := rcrash_rx hm.1 (by have := HF4.out; omega) 1 (by omega)
                have HA : Hid _ := hA
                clear hc1 a1 a2 hA hm
                go_wp2_with fail
                refine hc2.mono ?_
                rintro e wi ⟨rfl, b1⟩
                obtain ⟨p1, p2, p3⟩ := crash_next HTB.out.perm HTB.out.up 1
                have hTi := HTB.out.fin HA.out.1 HA.out.2 b1 p1 p2
                have hl1 := like_any hTi (by rw [p3]; have := HF4.out; omega)
                have HTI : Hid (Two D3 Non wf wi d2 r2 (max room 0) (F4.map (crash1 1))) := hTi
                clear hc2 b1 p1 p2 p3 hTi
                go_wp2_with fail
                refine hl1.mono ?_
                rintro e wk ⟨rfl, hbk⟩
                have hTk := HTI.out.below hbk
                have hTd := HT3.out.2.1 wk hTk.bel
                have hl2 := like_any hTd (by have := HF3.out; omega)
                have HBK : Hid (Below w1.heap.size w1 wk) := HT3.out.2.2.2.trans (Kp.below hTk.bel HT3.out.2.2.1 HT3.out.2.2.2.size)
                clear hl1 hbk hTk hTd
                go_wp2_with fail
                refine hl2.mono ?_
                rintro e wl ⟨rfl, hbl⟩
                have HBL : Hid (Below w1.heap.size w1 wl) := HBK.out.trans (hbl.mono HBK.out.size)
                clear hl2 hbl
                go_wp2_with fail
                refine (awake_any _).mono ?_
                rintro e wz ⟨rfl, hbz⟩
                have HBZ : Hid (Below w1.heap.size w1 wz) := HBL.out.trans (hbz.mono HBL.out.size)
                clear hbz
                go_wp2_with fail
                go_ret
                exact ⟨rfl, HBZ.out⟩
  · go_wp2_with fail
    refine hpk.mono ?_
    rintro e w1 ⟨rfl, rfl⟩
    clear hpk
    go_wp2_with fail
    refine hnew.mono ?_
    rintro e wa ⟨d, rfl, hd1, hb1⟩
    have hrn := HRN.out wa
    clear hnew
    go_wp2_with fail
    refine hrn.mono ?_
    rintro e wb ⟨r, rfl, hr1, hb2⟩
    have HTW : Hid (Two (fun g => g < w1.heap.size) Non w1 wb d r (max room 0) []) := Two.start hd1 hb1 hr1 rfl rfl hb2
    clear hrn hd1 hb1 hr1 hb2
    go_wp2_with fail
    go_loopw [9] (fun i wr => ∃ (j : Nat) (F : List Fi), j ≤ M ∧ i = .int .i64 j ∧ F.length ≤ j ∧ Two (fun g => g < w1.heap.size) Non w1 wr d r (max room 0) F) (fun i _ => M - (intOf i).toNat)
    case atStart => exact ⟨0, [], Nat.zero_le _, rfl, by simp, HTW.out⟩
    case round =>
      obtain ⟨j, F, hj, rfl, hF, hT⟩ := hrel
      have HT : Hid (Two (fun g => g < w1.heap.size) Non w1 wr d r (max room 0) F) := hT
      by_cases hlt : j < M
      · obtain ⟨x, g, o, A', C', hA, ⟨c0, c1, c2, c3, c4⟩, hst⟩ := HST.out (j := j) (by omega) (fun g hg => hg) (Below.refl _ _) hT (by omega)
        clear hT
        subst hA
        go_wp2_with fail
        refine hst.mono ?_
        rintro e w2 ⟨rfl, F', hF', hT1⟩
        have HT1 : Hid (Two (fun g => g < w1.heap.size) Non w1 w2 d r (max room 0) F') := hT1
        clear hst hT1 c0 c1 c2 c3 c4
        go_wp2_with fail
        go_roundw
        case rel => exact ⟨j + 1, F', by omega, by go_num, by omega, HT1.out⟩
        case measure => simp [intOf]; omega
      · obtain ⟨G, S, v, B, hTB⟩ := hT
        have hc1 := copy_dx hTB.dy.1
        have HF : Hid (F.length ≤ 60) := by rw [Hid]; omega
        have HTB : Hid (TB (fun g => g < w1.heap.size) Non w1 wr d r (max room 0) G F S v B) := hTB
        clear hTB HT
        go_wp2_with fail
        refine hc1.mono ?_
        rintro e wc ⟨d2, G2, rfl, hp2, hdx2, hbc⟩
        have hc2 := rcopy_rx (HTB.out.below hbc).rx (by have := HF.out; omega)
        have HC1 : Hid (G2.Perm G ∧ Dx wc d2 (max room 0) G2 (fun k => k < wr.heap.size) ∧ Below wr.heap.size wr wc) := ⟨hp2, hdx2, hbc⟩
        clear hc1 hp2 hdx2 hbc
        go_wp2_with fail
        refine hc2.mono ?_
        rintro e wd ⟨r2, v2, rfl, hrx2, hwr2, hbd⟩
        obtain ⟨D2, E2, S2, B2, q1, q2, q3, q4, q5, q6, q7, q8, q9, q10, q11⟩ := HTB.out.copied HC1.out.1 HC1.out.2.1 HC1.out.2.2 hrx2 hwr2 hbd
        have HQ : Hid (Dy wd d2 (max room 0) G2 S2 ∧ G2.Perm F ∧ Up F ∧ Rx wd r2 v2 (max room 0) F B2 ∧ (∀ g, S2 g → ¬ B2 g) ∧ (∀ g, S2 g → D2 g ∧ E2 g) ∧ (∀ g, B2 g → D2 g) ∧ (∀ g, Wr r2 v2 g → E2 g) ∧ (∀ g, g < w1.heap.size → D2 g ∧ ¬ S2 g ∧ ¬ Wr r2 v2 g)) := ⟨q2, q3, q4, q5, q6, q7, q8, q9, q10⟩
        have HTD : Hid (Two D2 E2 wd wd d r (max room 0) F) := q1
        have HBD : Hid (Below w1.heap.size w1 wd) := Kp.below q11 (fun _ h => h) (Nat.le_refl _)
        /- the copies, wherever the first ones went on -/
        have HCP : Hid (∀ {wz : World} {Fz : List Fi}, Two D2 E2 wd wz d r (max room 0) Fz → ∃ D3, Two D3 Non wz wz d2 r2 (max room 0) F ∧ (∀ w4, Kp D3 wz w4 → Two Non Non w4 w4 d r (max room 0) Fz) ∧ (∀ g, g < w1.heap.size → D3 g)) := fun hz => hz.turn q2 q3 q4 q5 q6 q7 q8 q9 q10 HBD.out.size
        have HLW : Hid (∀ g, g < w1.heap.size → D2 g) := fun g hg => (q10 g hg).1
        have hlk : ∃ D3, Two D3 Non wd wd d2 r2 (max room 0) F := by obtain ⟨D3, h, _⟩ := HCP.out q1; exact ⟨D3, h⟩
        obtain ⟨D0, hlk⟩ := hlk
        have hl1 := like_any hlk (by have := HF.out; omega)
        clear hc2 hrx2 hwr2 hbd q1 q2 q3 q4 q5 q6 q7 q8 q9 q10 q11 hlk HC1 HTB HTW
        go_wp2_with fail
        refine hl1.mono ?_
        rintro e we ⟨rfl, hbe⟩
        have HTE : Hid (Two D2 E2 wd we d r (max room 0) F) := HTD.out.below hbe
        clear hl1 hbe HTD
        go_wp2_with fail
        go_loopw [12] (fun i wr => ∃ (j : Nat) (F' : List Fi), j ≤ 60 ∧ M ≤ j ∧ i = .int .i64 j ∧ F'.length ≤ 60 + j ∧ Two D2 E2 wd wr d r (max room 0) F') (fun i _ => 60 - (intOf i).toNat)
        case atStart => exact ⟨M, F, by omega, Nat.le_refl _, rfl, by have := HF.out; omega, HTE.out⟩
        case round =>
          obtain ⟨j2, F3, hj2, hM2', rfl, hF3, hT2⟩ := hrel
          have HT2 : Hid (Two D2 E2 wd wr d r (max room 0) F3) := hT2
          by_cases hlt2 : j2 < 60
          · obtain ⟨x, g, o, A', C', hA, ⟨c0, c1, c2, c3, c4⟩, hst⟩ := HST.out (j := j2) (by omega) HLW.out HBD.out hT2 (by omega)
            clear hT2
            subst hA
            go_wp2_with fail
            refine hst.mono ?_
            rintro e w2 ⟨rfl, F', hF', hT1⟩
            have HT1 : Hid (Two D2 E2 wd w2 d r (max room 0) F') := hT1
            clear hst hT1 c0 c1 c2 c3 c4
            go_wp2_with fail
            go_roundw
            case rel => exact ⟨j2 + 1, F', by omega, by omega, by go_num, by omega, HT1.out⟩
            case measure => simp [intOf]; omega
          · have HF3 : Hid (F3.length ≤ 120) := by rw [Hid]; omega
            have hl1 := like_any hT2 (by omega)
            clear hT2
            go_wp2_with fail
            refine hl1.mono ?_
            rintro e wf ⟨rfl, hbf⟩
            have hTf := HT2.out.below hbf
            obtain ⟨D3, t1, t2, t3⟩ := HCP.out hTf
            have hl2 := like_any t1 (by have := HF.out; omega)
            have HT3 : Hid (Two D3 Non wf wf d2 r2 (max room 0) F ∧ (∀ w4, Kp D3 wf w4 → Two Non Non w4 w4 d r (max room 0) F3) ∧ (∀ g, g < w1.heap.size → D3 g) ∧ Below w1.heap.size w1 wf) := ⟨t1, t2, t3, HBD.out.trans (Kp.below hTf.bel HLW.out HBD.out.size)⟩
            clear hl1 hbf hTf t1 t2 t3
            go_wp2_with fail
            refine hl2.mono ?_
            rintro e wg ⟨rfl, hbg⟩
            have HTG : Hid (Two D3 Non wf wg d2 r2 (max room 0) F) := HT3.out.1.below hbg
            clear hl2 hbg
            go_wp2_with fail
            go_loopw [13] (fun i wr => ∃ (j3 : Nat) (z : Int) (F' : List Fi), j3 ≤ 60 ∧ M ≤ j3 ∧ i = .int .i64 z ∧ z + 1 = j3 ∧ F'.length + j3 ≤ 60 + 60 ∧ Two D3 Non wf wr d2 r2 (max room 0) F') (fun i _ => (intOf i + 1).toNat)
            case atStart => exact ⟨60, (60 : Nat) - 1, F, Nat.le_refl _, hM2, rfl, by omega, by have := HF.out; omega, HTG.out⟩
            case round =>
              obtain ⟨j3, z, F4, hj3, hMj, rfl, hz, hF4, hT4⟩ := hrel
              have HT4 : Hid (Two D3 Non wf wr d2 r2 (max room 0) F4) := hT4
              by_cases hlt3 : M < j3
              · obtain ⟨k, rfl⟩ : ∃ k, j3 = k + 1 := ⟨j3 - 1, by omega⟩
                have hzk : z = (k : Int) := by omega
                subst hzk
                obtain ⟨x, g, o, A', C', hA, ⟨c0, c1, c2, c3, c4⟩, hst⟩ := HST.out (j := k) (by omega) HT3.out.2.2.1 HT3.out.2.2.2 hT4 (by omega)
                clear hT4 hz
                subst hA
                go_wp2_with fail
                refine hst.mono ?_
                rintro e w2 ⟨rfl, F', hF', hT1⟩
                have HT1 : Hid (Two D3 Non wf w2 d2 r2 (max room 0) F') := hT1
                clear hst hT1 c0 c1 c2 c3 c4
                go_wp2_with fail
                go_roundw
                case rel => exact ⟨k, (k : Int) - 1, F', by omega, by omega, by go_num, by omega, by omega, HT1.out⟩
                case measure => simp [intOf]
              · have hzM : z = (M : Int) - 1 := by omega
                subst hzM
                have HF4 : Hid (F4.length ≤ 120) := by rw [Hid]; omega
                obtain ⟨G4, S4, v4, B4, hTB⟩ := hT4
                have hc1 := crash_dx hTB.dy.1 1 (by omega)
                have HTB : Hid (TB D3 Non wf wr d2 r2 (max room 0) G4 F4 S4 v4 B4) := hTB
                clear hTB hz
                go_wp2_with fail
                refine hc1.mono ?_
                rintro e wh ⟨rfl, a1, a2⟩
                have hA := HTB.out.dy.next ⟨a1, a2⟩
                have hm := HTB.out.mid hA.2
                have hc2 := rcrash_rx hm.1 (by have := HF4.out; omega) 1 (by omega)
                have HA : Hid _ := hA
                clear hc1 a1 a2 hA hm
                go_wp2_with fail
                refine hc2.mono ?_
                rintro e wi ⟨rfl, b1⟩
                obtain ⟨p1, p2, p3⟩ := crash_next HTB.out.perm HTB.out.up 1
                have hTi := HTB.out.fin HA.out.1 HA.out.2 b1 p1 p2
                have hl1 := like_any hTi (by rw [p3]; have := HF4.out; omega)
                have HTI : Hid (Two D3 Non wf wi d2 r2 (max room 0) (F4.map (crash1 1))) := hTi
                clear hc2 b1 p1 p2 p3 hTi
                go_wp2_with fail
                refine hl1.mono ?_
                rintro e wk ⟨rfl, hbk⟩
                have hTk := HTI.out.below hbk
                have hTd := HT3.out.2.1 wk hTk.bel
                have hl2 := like_any hTd (by have := HF3.out; omega)
                have HBK : Hid (Below w1.heap.size w1 wk) := HT3.out.2.2.2.trans (Kp.below hTk.bel HT3.out.2.2.1 HT3.out.2.2.2.size)
                clear hl1 hbk hTk hTd
                go_wp2_with fail
                refine hl2.mono ?_
                rintro e wl ⟨rfl, hbl⟩
                have HBL : Hid (Below w1.heap.size w1 wl) := HBK.out.trans (hbl.mono HBK.out.size)
                clear hl2 hbl
                go_wp2_with fail
                refine (awake_any _).mono ?_
                rintro e wz ⟨rfl, hbz⟩
                have HBZ : Hid (Below w1.heap.size w1 wz) := HBL.out.trans (hbz.mono HBL.out.size)
                clear hbz
                go_wp2_with fail
                go_ret
                exact ⟨rfl, HBZ.out⟩
/- DiskCopies is true, of whatever steps. -/
theorem copies_any {w : World} {v : Value} {l : List Do8} (room at_ : Int) (hr : -9223372036854775808 ≤ room ∧ room < 9223372036854775808) (hat : -9223372036854775808 ≤ at_ ∧ at_ < 9223372036854775808) (h : Dos w v l) : Calls Try.prog 4 #[.int .i64 room, v, .int .i64 at_] w fun e w' => e = .returned (.bool true) ∧ Below w.heap.size w w' := by
  have h' := h
  obtain ⟨A, C, rfl, hC, _, _⟩ := h'
  by_cases hl : l.length ≤ 60
  · exact copies_short room at_ hr hat h hl (.inl ⟨rfl, hl⟩) rfl
  · have ht := h.take 60 (by omega)
    have e : (l.take 60).length = 60 := by rw [List.length_take]; omega
    exact copies_short (l := l.take 60) room at_ hr hat (by rw [e]; exact ht.1) (by omega) (.inr ⟨by omega, e, by omega, rfl⟩) rfl
end Go.Proofs.Ytndjlnlmlgimlaa
