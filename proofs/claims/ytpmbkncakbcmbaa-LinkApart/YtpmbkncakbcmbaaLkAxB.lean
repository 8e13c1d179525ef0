/- The walk of LinkApart. -/
import Derived.Test.YtpmbkncakbcmbaaLkAy
namespace Go.Proofs.Ytpmbkncakbcmbaa
set_option linter.unusedVariables false
open Go.RowKit Go.Sort
set_option linter.unusedVariables false

def RelA (w W : World) (h0 h1 a b sb n T : Nat) : Prop := ∃ X Y k k', PW w W h0 h1 a b k k' (pins h0 h1 sb) X Y [] ∧ Mta 0 1 T n k k' X Y
structure ViewA (w W : World) (h0 h1 a b sb n T e f hm ho am ao : Nat) (k k' : Int) (M O : Sd) : Prop where
  ef : (e = 0 ∧ f = 1) ∨ (e = 1 ∧ f = 0)
  pw : PW w W hm ho am ao k k' (pins h0 h1 sb) M O []
  mta : Mta e f T n k k' M O
  pe : (pins h0 h1 sb) = [(sb, .cells #[.pointer (some ⟨if e = 0 then hm else ho, 0, none⟩), .pointer (some ⟨if e = 0 then ho else hm, 0, none⟩)] 57)]
  back : ∀ W' n' T' k1 k2 M' O' H', PW w W' hm ho am ao k1 k2 (pins h0 h1 sb) M' O' H' → Mta e f T' n' k1 k2 M' O' → RelA w W' h0 h1 a b sb n' T'
theorem RelA.view {w W : World} {h0 h1 a b sb n T : Nat} (h : RelA w W h0 h1 a b sb n T) (e : Nat) (he : e = 0 ∨ e = 1) : ∃ f hm ho am ao k k' M O, ViewA w W h0 h1 a b sb n T e f hm ho am ao k k' M O := by
  obtain ⟨X, Y, k, k', h1', h2⟩ := h
  rcases he with rfl | rfl
  · exact ⟨1, h0, h1, a, b, k, k', X, Y, .inl ⟨rfl, rfl⟩, h1', h2, rfl, fun W' n' T' k1 k2 M' O' H' q1 q2 => ⟨M', O', k1, k2, q1.fewH (fun x hx => by cases hx), q2⟩⟩
  · exact ⟨0, h1, h0, b, a, k', k, Y, X, .inr ⟨rfl, rfl⟩, h1'.swap, h2.swap, rfl, fun W' n' T' k1 k2 M' O' H' q1 q2 => ⟨O', M', k2, k1, q1.swap.fewH (fun x hx => by cases hx), q2.swap⟩⟩
theorem ViewA.cells {w W W' : World} {h0 h1 a b sb n T e f hm ho am ao : Nat} {k k' k1 k2 : Int} {M O M' O' : Sd} {H : Hs} (v : ViewA w W h0 h1 a b sb n T e f hm ho am ao k k' M O) (m : PW w W' hm ho am ao k1 k2 (pins h0 h1 sb) M' O' H) : W'.cell? ⟨sb, e, none⟩ = some (.pointer (some ⟨hm, 0, none⟩)) ∧ W'.cell? ⟨sb, f, none⟩ = some (.pointer (some ⟨ho, 0, none⟩)) := by
  have hp := v.pe
  have hx := m.pinned (g := sb) (o := .cells #[.pointer (some ⟨if e = 0 then hm else ho, 0, none⟩), .pointer (some ⟨if e = 0 then ho else hm, 0, none⟩)] 57) (by rw [hp]; exact .head _)
  rcases v.ef with ⟨rfl, rfl⟩ | ⟨rfl, rfl⟩
  · exact ⟨cell_at hx 0, cell_at hx 1⟩
  · exact ⟨cell_at hx 1, cell_at hx 0⟩
set_option maxRecDepth 100000 in
theorem apart_long {w : World} {A : Option Addr} {C K : Nat} (hl : 300 < K) :
    Calls Try.prog 6 #[.slice A K C] w fun e w' => e = .returned (.bool true) ∧ Below w.heap.size w w' := by
  have hl2 : (300 : Int) < (K : Int) := by omega
  go_enter Try.func6, Try.ntmps6
  go_wp2_with fail
  refine (awake_any _).mono ?_
  rintro e w1 ⟨rfl, hb⟩
  have HB1 : Hid (Below w.heap.size w w1) := hb
  clear hb
  go_wp2_with fail
  go_ret
  exact ⟨rfl, HB1.out⟩
set_option maxRecDepth 100000 in
set_option maxHeartbeats 40000000 in
theorem apart_short {w : World} {A : Option Addr} {C : Nat} {l : List Int} (h : Ns w (.slice A l.length C) l) (hl : l.length ≤ 300) :
    Calls Try.prog 6 #[.slice A l.length C] w fun e w' => e = .returned (.bool true) ∧ Below w.heap.size w w' := by
  have HD : Hid (Ns w (.slice A l.length C) l) := h
  clear h
  obtain ⟨K, hK⟩ : ∃ K, K = l.length := ⟨_, rfl⟩
  have HK : Hid (K = l.length) := hK
  rw [← hK] at hl ⊢
  clear hK
  go_enter Try.func6, Try.ntmps6
  go_wp2_with fail
  refine (awake_any _).mono ?_
  rintro e w1 ⟨rfl, hb⟩
  have HB1 : Hid (Below w.heap.size w w1) := hb
  clear hb
  go_wp2_with fail
  refine (new_lo 1 w1 (by decide)).mono ?_
  rintro e w2 ⟨a, rfl, h2, b2⟩
  have H2 : Hid (Lo false w2 a (news 1) (Nw w1 w2) ∧ Below w1.heap.size w1 w2) := ⟨h2, b2⟩
  clear h2 b2
  go_wp2_with fail
  refine (new_lo 1 (w2.alloc (sideB a 1)) (by decide)).mono ?_
  rintro e w4 ⟨b, rfl, h4, b4⟩
  have hP := PW.start (k' := 1) H2.out.1 H2.out.2 h4 b4
  obtain ⟨h0, hh0⟩ : ∃ h0, h0 = w2.heap.size := ⟨_, rfl⟩
  obtain ⟨h1, hh1⟩ : ∃ h1, h1 = w4.heap.size := ⟨_, rfl⟩
  obtain ⟨w5, hw5⟩ : ∃ w5, w5 = w4.alloc (sideB b 1) := ⟨_, rfl⟩
  rw [← hh0, ← hh1, ← hw5] at hP
  obtain ⟨w6, hw6⟩ : ∃ w6, w6 = w5.alloc (.cells #[.pointer (some ⟨h0, 0, none⟩), .pointer (some ⟨h1, 0, none⟩)] 57) := ⟨_, rfl⟩
  obtain ⟨sb, hsb⟩ : ∃ sb, sb = w5.heap.size := ⟨_, rfl⟩
  have HR6 : Hid (RelA w1 w6 h0 h1 a b sb 0 0) := by
    have hap : ∀ e, Ap e 0 0 ⟨news 1, [], [], []⟩ := fun e => ⟨by decide, by decide, by decide, fun x hx => (by cases hx), List.Pairwise.nil, fun x hx => (by cases hx), fun x hx => (by cases hx), fun x hx => (by cases hx), fun x hx => (by cases hx)⟩
    refine ⟨⟨news 1, [], [], []⟩, ⟨news 1, [], [], []⟩, 1, 1, ?_, hap 0, hap 1, .inl rfl, .inl rfl, rfl, rfl, Nat.le_refl _⟩
    rw [hw6, hsb]; exact hP.pin _
  have HZ0 : Hid (w4.heap.size + 1 = sb) := by unfold Hid; rw [hsb, hw5]; simp
  simp only [sideB] at hw5
  clear hP h4 b4 H2 hsb
  go_wp2_with fail
  rw [HZ0.out, ← hh1, ← hh0, ← hw5, ← hw6]
  clear HZ0 hh1 hh0 hw5 hw6
  go_loopw [4, 5] (fun t i wr => ∃ (j T : Nat), j ≤ K ∧ i = .int .i64 j ∧ t = .int .i64 T ∧ T ≤ j ∧ Hid (RelA w1 wr h0 h1 a b sb j T)) (fun t i _ => K - (intOf i).toNat)
  case atStart => exact ⟨0, 0, Nat.zero_le _, rfl, rfl, Nat.le_refl _, HR6⟩
  case round =>
    obtain ⟨j, T, hj, rfl, rfl, hTj, HR⟩ := hrel
    by_cases hlt : j < K
    · have hj' : j < l.length := by have := HK.out; omega
      obtain ⟨x, hx⟩ : ∃ x : Int, x = l[j]'hj' := ⟨_, rfl⟩
      have HXR : Hid (i64 x) := by rw [hx]; obtain ⟨_, _, _, h2, _⟩ := HD.out; exact h2 _ (List.getElem_mem hj')
      obtain ⟨g, o, hA, a0⟩ : ∃ g o, A = some ⟨g, o, none⟩ ∧ w.cell? ⟨g, o + j, none⟩ = some (.int .i64 x) := by
        obtain ⟨A', C', e, _, h3⟩ := HD.out
        injection e with e
        subst e
        rw [hx]; exact h3 j hj'
      have HC : Hid (∀ (W : World), Below w1.heap.size w1 W → W.cell? ⟨g, o + j, none⟩ = some (.int .i64 x)) := by
        intro W hW
        have hb : Below w.heap.size w W := HB1.out.trans (hW.mono HB1.out.size)
        rw [World.cell?_of_block (hb.block g (World.block_lt_of_cell? w _ a0))]; exact a0
      subst hA
      obtain ⟨e, he, hbit⟩ : ∃ e : Nat, (e = 0 ∨ e = 1) ∧ bits .and .i64 x 1 = (e : Int) := ⟨(x % 2).toNat, by omega, by rw [i64_and1]; omega⟩
      obtain ⟨f, hm, ho, am, ao, ci, cj, M, O, vw⟩ := HR.out.view e he
      have HV : Hid (ViewA w1 wr h0 h1 a b sb j T e f hm ho am ao ci cj M O) := vw
      have hef : (1 : Int) - (e : Int) = (f : Int) := by rcases vw.ef with q | q <;> omega
      have he2 : e < 2 := by omega
      have hf2 : f < 2 := by rcases vw.ef with q | q <;> omega
      have c0 := HC.out wr vw.pw.bel
      obtain ⟨s0, s1⟩ := vw.cells vw.pw
      clear hx a0 HR6 HR vw he
      obtain ⟨k, hk3, ek⟩ : ∃ k : Nat, k < 4000 ∧ (x / 2) % 4000 = k := ⟨((x / 2) % 4000).toNat, by omega, by omega⟩
      have he3 : (0 : Int) ≤ (e : Int) := by omega
      have he4 : (e : Int) < 2 := by omega
      have hf3 : (0 : Int) ≤ (f : Int) := by omega
      have hf4 : (f : Int) < 2 := by omega
      have hwf : IntKind.i64.wrap ((1 : Int) - (e : Int)) = (f : Int) := by rw [IntKind.wrap_i64]; omega
      have hwe : IntKind.i64.wrap (e : Int) = (e : Int) := by rw [IntKind.wrap_i64]; omega
      have hwf2 : IntKind.i64.wrap (f : Int) = (f : Int) := by rw [IntKind.wrap_i64]; omega
      have hS0 : wr.drew.cell? ⟨sb, e, none⟩ = some (.pointer (some ⟨hm, 0, none⟩)) ∧ wr.drew.cell? ⟨sb, f, none⟩ = some (.pointer (some ⟨ho, 0, none⟩)) := ⟨s0, s1⟩
      clear s0 s1
      go_wp2_with fail
      go_region_held3 (fun w' => w'.cell? ⟨sb, e, none⟩ = some (.pointer (some ⟨hm, 0, none⟩)) ∧ w'.cell? ⟨sb, f, none⟩ = some (.pointer (some ⟨ho, 0, none⟩)))
        (first | exact hS0 | go_keep)
        (fail)
      clear hS0 hbit hef he3 he4 hf3 hf4 hwf hwe hwf2
      have c0 := HC.out wr.drew (HV.out.pw.below (Below.refl _ _).drew).bel
      have hpk := pick_any (x / 2) 4000 (by have := HXR.out; unfold i64 at this; omega) (by omega) (by omega) wr.drew
      rw [ek] at hpk
      go_wp2_with fail
      refine hpk.mono ?_
      rintro e' w7 ⟨rfl, hw7⟩
      have HV7 : Hid (PW w1 w7 hm ho am ao ci cj (pins h0 h1 sb) M O []) := by rw [hw7]; exact HV.out.pw.below (Below.refl _ _).drew
      clear hpk ek hw7 c0 HC
      obtain ⟨A1, C1, A2, C2, A3, C3, m0, m1, m2, m3, m4, mf⟩ := HV7.out.cells
      obtain ⟨B1, D1, B2, D2, B3, D3, n0, n1, n2, n3, n4, nf⟩ := HV7.out.swap.cells
      have hml : hm < w7.heap.size := World.block_lt_of_cell? w7 _ m0
      have hol : ho < w7.heap.size := World.block_lt_of_cell? w7 _ n0
      have hcs : k % 8 = 0 ∨ k % 8 = 1 ∨ k % 8 = 2 ∨ k % 8 = 3 ∨ k % 8 = 4 ∨ 5 ≤ k % 8 := by omega
      rcases hcs with hcs | hcs | hcs | hcs | hcs | hcs
      · have hmt : ((k : Int)).tmod 8 = 0 := by rw [Int.tmod_eq_emod_of_nonneg (by omega)]; omega
        have hmd : (k : Int) % 8 = 0 := by omega
        as_aux_lemma =>
        clear hcs n0 n1 n2 n3 n4 nf m2 m3 m4
        have hci1 : 1 ≤ ci := by have := HV.out.mta.kx; have := HV.out.mta.me.inc; omega
        have hci2 : ci ≤ 301 := by have := HV.out.mta.kx; have := HV.out.mta.me.inc; omega
        have htg : (T : Int) + 1 ≤ 300 := by omega
        obtain ⟨bb, hbb⟩ : ∃ bb, bb = ldA e ci (T + 1) := ⟨_, rfl⟩
        have hbl : bb.length = 4 := by rw [hbb]; rfl
        have hbv : (bv bb).toArray = #[.int .u8 (e : Int), .int .u8 (ci % 256), .int .u8 (((T : Int) + 1) % 256), .int .u8 (((T : Int) + 1) / 256)] := by
          rw [hbb]
          have h1 : e % 256 = e := by omega
          have h2 : (T + 1) / 256 % 256 = (T + 1) / 256 := by omega
          have h3 : ((ci.toNat % 256 : Nat) : Int) = ci % 256 := by omega
          have h4 : (((T + 1) % 256 : Nat) : Int) = ((T : Int) + 1) % 256 := by omega
          have h5 : (((T + 1) / 256 : Nat) : Int) = ((T : Int) + 1) / 256 := by omega
          simp [ldA, bv, UInt8.toNat_ofNat', h1, h2, h3, h4, h5]
        have hB := below1 w7 (.cells #[.int .u8 (e : Int), .int .u8 (ci % 256), .int .u8 (((T : Int) + 1) % 256), .int .u8 (((T : Int) + 1) / 256)] 5)
        have hly := HV7.out.lay hB (litB w7 bb hbv hbl) (fun g hg => by have := bk_blk hg; cases this; exact Nat.le_refl _)
        have hsd := pw_send hly (.head _)
        have HBB : Hid (bb = ldA e M.s.inc (T + 1) ∧ bb.length = 4) := ⟨by rw [hbb, HV.out.mta.kx], hbl⟩
        obtain ⟨E, hE⟩ : ∃ E, E = sendE M.s bb := ⟨_, rfl⟩
        rw [← hE] at hsd
        clear hbb hbv hB hly hbl hE
        by_cases hE0 : E = 0
        · subst hE0
          go_wp2_with fail
          refine hsd.mono ?_
          rintro e' w8 ⟨rfl, HS8⟩
          clear hsd
          have hps := pw_sent HS8.out (A6 := some ⟨w7.heap.size, 0, none⟩) (C6 := 4) (b := bb) (by rw [HBB.out.2]; exact .head _) (by have := HV.out.mta.me.cnt; show M.sent.length ≤ _; omega)
          rw [HBB.out.2] at hps
          obtain ⟨P1, Q1, P8, Q8, w9, ⟨k1, k2, k3, k4⟩, hrun, HF9⟩ := hps
          have k0 : w8.cell? ⟨hm, 2, none⟩ = some (.slice P1 M.sent.length Q1) := k1
          have hml8 : hm < w8.heap.size := World.block_lt_of_cell? w8 _ k0
          have HF : Hid (RelA w1 (w9.setCell ⟨hm, 2, none⟩ (.slice P8 (M.sent.length + 1) Q8)) h0 h1 a b sb (j + 1) (T + 1)) := by
            have q := HF9.out
            rw [HBB.out.1] at q
            exact HV.out.back _ _ _ _ _ _ _ _ q (HV.out.mta.send (by omega) _ (by have := HV.out.mta.me.cnt; simp only [List.length_append, List.length_cons, List.length_nil]; omega))
          obtain ⟨Z, hZ⟩ : ∃ Z, Z = M.sent.length := ⟨_, rfl⟩
          have k0' := k0
          rw [← hZ] at k0' k0 k1 k2 k3 hrun HF
          clear m0 m1 mf HF9 HS8 hZ
          go_wp2_with (first
            | (at_builtin; refine wpList_appr 47 rfl (.tmp 209) (.tmp 211) rfl _ _ _ (by simp [Act.eval]) (by simp [Act.eval]) hrun ?_)
            | fail)
          clear hrun k0 k0' k1 k2 k3 k4 hml8 hml hol
          go_roundw
          case rel => exact ⟨j + 1, T + 1, by omega, by go_num, by go_num, by omega, HF⟩
          case measure => simp [intOf]; omega
        · go_wp2_with fail
          refine hsd.mono ?_
          rintro e' w8 ⟨rfl, HS8⟩
          clear hsd
          have HF : Hid (RelA w1 w8 h0 h1 a b sb (j + 1) (T + 1)) := by
            have q := HS8.out
            rw [HBB.out.1] at q
            exact HV.out.back _ _ _ _ _ _ _ _ q (HV.out.mta.send (by omega) _ (by have := HV.out.mta.me.cnt; show M.sent.length ≤ _; omega))
          clear m0 m1 mf HS8 hml hol
          go_wp2_with fail
          go_roundw
          case rel => exact ⟨j + 1, T + 1, by omega, by go_num, by go_num, by omega, HF⟩
          case measure => simp [intOf]; omega
      · have hmt : ((k : Int)).tmod 8 = 1 := by rw [Int.tmod_eq_emod_of_nonneg (by omega)]; omega
        have hmd : (k : Int) % 8 = 1 := by omega
        as_aux_lemma =>
        clear hcs n0 n1 n2 n3 n4 nf m2 m3 m4
        have hci1 : 1 ≤ ci := by have := HV.out.mta.kx; have := HV.out.mta.me.inc; omega
        have hci2 : ci ≤ 301 := by have := HV.out.mta.kx; have := HV.out.mta.me.inc; omega
        have htg : (T : Int) + 1 ≤ 300 := by omega
        obtain ⟨bb, hbb⟩ : ∃ bb, bb = ldA e ci (T + 1) := ⟨_, rfl⟩
        have hbl : bb.length = 4 := by rw [hbb]; rfl
        have hbv : (bv bb).toArray = #[.int .u8 (e : Int), .int .u8 (ci % 256), .int .u8 (((T : Int) + 1) % 256), .int .u8 (((T : Int) + 1) / 256)] := by
          rw [hbb]
          have h1 : e % 256 = e := by omega
          have h2 : (T + 1) / 256 % 256 = (T + 1) / 256 := by omega
          have h3 : ((ci.toNat % 256 : Nat) : Int) = ci % 256 := by omega
          have h4 : (((T + 1) % 256 : Nat) : Int) = ((T : Int) + 1) % 256 := by omega
          have h5 : (((T + 1) / 256 : Nat) : Int) = ((T : Int) + 1) / 256 := by omega
          simp [ldA, bv, UInt8.toNat_ofNat', h1, h2, h3, h4, h5]
        have hB := below1 w7 (.cells #[.int .u8 (e : Int), .int .u8 (ci % 256), .int .u8 (((T : Int) + 1) % 256), .int .u8 (((T : Int) + 1) / 256)] 5)
        have hly := HV7.out.lay hB (litB w7 bb hbv hbl) (fun g hg => by have := bk_blk hg; cases this; exact Nat.le_refl _)
        have hsd := pw_send hly (.head _)
        have HBB : Hid (bb = ldA e M.s.inc (T + 1) ∧ bb.length = 4) := ⟨by rw [hbb, HV.out.mta.kx], hbl⟩
        obtain ⟨E, hE⟩ : ∃ E, E = sendE M.s bb := ⟨_, rfl⟩
        rw [← hE] at hsd
        clear hbb hbv hB hly hbl hE
        by_cases hE0 : E = 0
        · subst hE0
          go_wp2_with fail
          refine hsd.mono ?_
          rintro e' w8 ⟨rfl, HS8⟩
          clear hsd
          have hps := pw_sent HS8.out (A6 := some ⟨w7.heap.size, 0, none⟩) (C6 := 4) (b := bb) (by rw [HBB.out.2]; exact .head _) (by have := HV.out.mta.me.cnt; show M.sent.length ≤ _; omega)
          rw [HBB.out.2] at hps
          obtain ⟨P1, Q1, P8, Q8, w9, ⟨k1, k2, k3, k4⟩, hrun, HF9⟩ := hps
          have k0 : w8.cell? ⟨hm, 2, none⟩ = some (.slice P1 M.sent.length Q1) := k1
          have hml8 : hm < w8.heap.size := World.block_lt_of_cell? w8 _ k0
          have HF : Hid (RelA w1 (w9.setCell ⟨hm, 2, none⟩ (.slice P8 (M.sent.length + 1) Q8)) h0 h1 a b sb (j + 1) (T + 1)) := by
            have q := HF9.out
            rw [HBB.out.1] at q
            exact HV.out.back _ _ _ _ _ _ _ _ q (HV.out.mta.send (by omega) _ (by have := HV.out.mta.me.cnt; simp only [List.length_append, List.length_cons, List.length_nil]; omega))
          obtain ⟨Z, hZ⟩ : ∃ Z, Z = M.sent.length := ⟨_, rfl⟩
          have k0' := k0
          rw [← hZ] at k0' k0 k1 k2 k3 hrun HF
          clear m0 m1 mf HF9 HS8 hZ
          go_wp2_with (first
            | (at_builtin; refine wpList_appr 47 rfl (.tmp 209) (.tmp 211) rfl _ _ _ (by simp [Act.eval]) (by simp [Act.eval]) hrun ?_)
            | fail)
          clear hrun k0 k0' k1 k2 k3 k4 hml8 hml hol
          go_roundw
          case rel => exact ⟨j + 1, T + 1, by omega, by go_num, by go_num, by omega, HF⟩
          case measure => simp [intOf]; omega
        · go_wp2_with fail
          refine hsd.mono ?_
          rintro e' w8 ⟨rfl, HS8⟩
          clear hsd
          have HF : Hid (RelA w1 w8 h0 h1 a b sb (j + 1) (T + 1)) := by
            have q := HS8.out
            rw [HBB.out.1] at q
            exact HV.out.back _ _ _ _ _ _ _ _ q (HV.out.mta.send (by omega) _ (by have := HV.out.mta.me.cnt; show M.sent.length ≤ _; omega))
          clear m0 m1 mf HS8 hml hol
          go_wp2_with fail
          go_roundw
          case rel => exact ⟨j + 1, T + 1, by omega, by go_num, by go_num, by omega, HF⟩
          case measure => simp [intOf]; omega
      · have hmt : ((k : Int)).tmod 8 = 2 := by rw [Int.tmod_eq_emod_of_nonneg (by omega)]; omega
        have hmd : (k : Int) % 8 = 2 := by omega
        obtain ⟨p, hp⟩ : ∃ p, p = outP M.s := ⟨_, rfl⟩
        obtain ⟨n, hn⟩ : ∃ n, n = M.outs.length := ⟨_, rfl⟩
        have HMs : Hid (Mta e f T (j + 1) ci cj ⟨M.s, M.sent, M.told, M.outs ++ [p]⟩ O) := HV.out.mta.out hp
        rw [← hn] at m4
        have hout := pw_outR (HV7.out.below (Below.refl _ _).drew) (by have := HV.out.mta.me.cnt; omega) hp (by have := HV.out.mta.me.cnt; omega) (A3 := A3) (C3 := C3) (n := n) m4 hn
        have c4' : w7.drew.cell? ⟨hm, 4, none⟩ = some (.slice A3 n C3) := m4
        have c0' : w7.drew.cell? ⟨hm, 0, none⟩ = some (.pointer (some ⟨am, 0, none⟩)) := m0
        clear n0 n1 n2 n3 n4 nf m1 m2 m3 hp hn m4 m0 hcs
        go_wp2_with fail
        go_region_law (first
          | (go_simp; go_at_call 24; refine hout.mono ?_; rintro e' w8 ⟨A, C, A8, C8, w9, rfl, k0, ⟨k1, k2, k3, k4⟩, hrun, HF9⟩)
          | (refine step_appP rfl (.tmp 222) (.tmp 228) rfl _ _ _ _ (by simp [Act.eval]) (by simp [Act.eval]) hrun ?_))
        all_goals
          as_aux_lemma =>
          have HF : Hid (RelA w1 (w9.setCell ⟨hm, 4, none⟩ (.slice A8 (n + 1) C8)) h0 h1 a b sb (j + 1) T) := HV.out.back _ _ _ _ _ _ _ _ HF9.out HMs.out
          clear HF9 HMs k0 k1 k2 k3 k4 hrun hml hol hmd hmt mf c4' c0' hout
          go_wp2_with fail
          go_roundw
          case rel => exact ⟨j + 1, T, by omega, by go_num, rfl, by omega, HF⟩
          case measure => simp [intOf]; omega
      · have hmt : ((k : Int)).tmod 8 = 3 := by rw [Int.tmod_eq_emod_of_nonneg (by omega)]; omega
        have hmd : (k : Int) % 8 = 3 := by omega
        obtain ⟨p, hp⟩ : ∃ p, p = outP M.s := ⟨_, rfl⟩
        obtain ⟨n, hn⟩ : ∃ n, n = M.outs.length := ⟨_, rfl⟩
        have HMs : Hid (Mta e f T (j + 1) ci cj ⟨M.s, M.sent, M.told, M.outs ++ [p]⟩ O) := HV.out.mta.out hp
        rw [← hn] at m4
        have hout := pw_outR (HV7.out.below (Below.refl _ _).drew) (by have := HV.out.mta.me.cnt; omega) hp (by have := HV.out.mta.me.cnt; omega) (A3 := A3) (C3 := C3) (n := n) m4 hn
        have c4' : w7.drew.cell? ⟨hm, 4, none⟩ = some (.slice A3 n C3) := m4
        have c0' : w7.drew.cell? ⟨hm, 0, none⟩ = some (.pointer (some ⟨am, 0, none⟩)) := m0
        clear n0 n1 n2 n3 n4 nf m1 m2 m3 hp hn m4 m0 hcs
        go_wp2_with fail
        go_region_law (first
          | (go_simp; go_at_call 24; refine hout.mono ?_; rintro e' w8 ⟨A, C, A8, C8, w9, rfl, k0, ⟨k1, k2, k3, k4⟩, hrun, HF9⟩)
          | (refine step_appP rfl (.tmp 222) (.tmp 228) rfl _ _ _ _ (by simp [Act.eval]) (by simp [Act.eval]) hrun ?_))
        all_goals
          as_aux_lemma =>
          have HF : Hid (RelA w1 (w9.setCell ⟨hm, 4, none⟩ (.slice A8 (n + 1) C8)) h0 h1 a b sb (j + 1) T) := HV.out.back _ _ _ _ _ _ _ _ HF9.out HMs.out
          clear HF9 HMs k0 k1 k2 k3 k4 hrun hml hol hmd hmt mf c4' c0' hout
          go_wp2_with fail
          go_roundw
          case rel => exact ⟨j + 1, T, by omega, by go_num, rfl, by omega, HF⟩
          case measure => simp [intOf]; omega
      · have hmt : ((k : Int)).tmod 8 = 4 := by rw [Int.tmod_eq_emod_of_nonneg (by omega)]; omega
        have hmd : (k : Int) % 8 = 4 := by omega
        as_aux_lemma =>
        clear hcs n0 n1 n2 n3 n4 nf m2 m3 m4
        have hci1 : 1 ≤ ci := by have := HV.out.mta.kx; have := HV.out.mta.me.inc; omega
        have hci2 : ci ≤ 301 := by have := HV.out.mta.kx; have := HV.out.mta.me.inc; omega
        obtain ⟨w8, hw8⟩ : ∃ w8, w8 = w7.setCell ⟨hm, 1, none⟩ (.int .i64 (ci + 1)) := ⟨_, rfl⟩
        have HP8 : Hid (PW w1 w8 hm ho am ao (ci + 1) cj (pins h0 h1 sb) M O []) := by rw [hw8]; exact HV7.out.setK _
        go_wp2_with fail
        rw [← hw8]
        clear hw8 m0 m1 mf hml hol
        obtain ⟨_, _, _, _, _, _, m0, m1, _⟩ := HP8.out.cells
        have hS0 : w8.drew.cell? ⟨hm, 0, none⟩ = some (.pointer (some ⟨am, 0, none⟩)) ∧ w8.drew.cell? ⟨hm, 1, none⟩ = some (.int .i64 (ci + 1)) := ⟨m0, m1⟩
        have hrs := pw_reset (HP8.out.below (Below.refl _ _).drew) (ci + 1)
        clear m0 m1
        go_region_held3 (fun w' => w'.cell? ⟨hm, 0, none⟩ = some (.pointer (some ⟨am, 0, none⟩)) ∧ w'.cell? ⟨hm, 1, none⟩ = some (.int .i64 (ci + 1)))
          (first | exact hS0 | exact hS1 | go_keep)
          (first
            | (go_at_call 21; refine hrs.mono ?_; rintro e' w9 ⟨rfl, HP9⟩
               have hS1 : w9.cell? ⟨hm, 0, none⟩ = some (.pointer (some ⟨am, 0, none⟩)) ∧ w9.cell? ⟨hm, 1, none⟩ = some (.int .i64 (ci + 1)) := (by obtain ⟨_, _, _, _, _, _, m0, m1, _⟩ := HP9.out.cells; exact ⟨m0, m1⟩)
               clear hrs))
        clear hS0 hS1
        obtain ⟨A1, C1, A2, C2, A3, C3, m0, m1, m2, m3, m4, mf⟩ := HP9.out.cells
        have hml : hm < w9.heap.size := World.block_lt_of_cell? w9 _ m0
        have HF : Hid (RelA w1 ((w9.setCell ⟨hm, 2, none⟩ (.slice none 0 0)).setCell ⟨hm, 3, none⟩ (.slice none 0 0)) h0 h1 a b sb (j + 1) T) := by
          obtain ⟨e1, e2⟩ := HV.out.mta.reset (by omega)
          have q := HP9.out.noRows
          simp only [e1] at q
          exact HV.out.back _ _ _ _ _ _ _ _ q e2
        go_wp2_with fail
        go_roundw
        case rel => exact ⟨j + 1, T, by omega, by go_num, rfl, by omega, HF⟩
        case measure => simp [intOf]; omega
      · obtain ⟨r, hr, hr5⟩ : ∃ r : Nat, ((k : Int)).tmod 8 = (r : Int) ∧ 5 ≤ r := ⟨k % 8, by rw [Int.tmod_eq_emod_of_nonneg (by omega)]; omega, hcs⟩
        have r0 : ¬ (r : Int) = 0 := by omega
        have r1 : ¬ (r : Int) = 1 := by omega
        have r2 : ¬ (r : Int) = 2 := by omega
        have r3 : ¬ (r : Int) = 3 := by omega
        have r4 : ¬ (r : Int) = 4 := by omega
        have q0 : ¬ r = 0 := by omega
        have q1 : ¬ r = 1 := by omega
        have q2 : ¬ r = 2 := by omega
        have q3 : ¬ r = 3 := by omega
        have q4 : ¬ r = 4 := by omega
        have hr2 : (k : Int) % 8 = (r : Int) := by rw [← hr, Int.tmod_eq_emod_of_nonneg (by omega)]
        clear hcs hr5
        obtain ⟨n, hn⟩ : ∃ n, n = O.outs.length := ⟨_, rfl⟩
        rw [← hn] at n4
        by_cases hn0 : n = 0
        · subst hn0
          clear m0 m1 m2 m3 m4 mf n0 n1 n2 n3 nf hn
          have HF : Hid (RelA w1 w7 h0 h1 a b sb (j + 1) T) := HV.out.back _ _ _ _ _ _ _ _ HV7.out HV.out.mta.idle
          go_wp2_with fail
          go_roundw
          case rel => exact ⟨j + 1, T, by omega, by go_num, rfl, by omega, HF⟩
          case measure => simp [intOf]; omega
        · obtain ⟨i, hi⟩ : ∃ i, i = k / 8 % n := ⟨_, rfl⟩
          have hin : i < n := by rw [hi]; exact Nat.mod_lt _ (by omega)
          have hdv : ((k : Int)).tdiv 8 = ((k / 8 : Nat) : Int) := by rw [Int.tdiv_eq_ediv_of_nonneg (by omega)]; omega
          have hdv2 : (k : Int) / 8 = ((k / 8 : Nat) : Int) := by omega
          obtain ⟨q, hq⟩ : ∃ q, q = k / 8 := ⟨_, rfl⟩
          rw [← hq] at hi hdv hdv2
          have hwr : IntKind.i64.wrap (q : Int) = (q : Int) := by rw [IntKind.wrap_i64]; omega
          have hmo : ((q : Int)).tmod (n : Int) = (i : Int) := by rw [Int.tmod_eq_emod_of_nonneg (by omega), hi]; rfl
          have hmo2 : (q : Int) % (n : Int) = (i : Int) := by rw [hi]; rfl
          have hio : i < O.outs.length := by omega
          obtain ⟨g5, A5, C5, hB3, p0, p1, p2, p3, p4, hpw⟩ := (HV7.out.below (Below.refl _ _).drew).swap.outAt (A3 := B3) (C3 := D3) (n := n) n4 i hio
          obtain ⟨p, hp⟩ : ∃ p, p = O.outs[i]'hio := ⟨_, rfl⟩
          rw [← hp] at p0 p1 p2 p3 p4 hpw
          have HPO : Hid (p ∈ O.outs) := by rw [hp]; exact List.getElem_mem hio
          have hpl : p.load.length ≤ 4 := by
            rcases HV.out.mta.ot.lds p HPO.out with ⟨_, e⟩ | ⟨_, e⟩
            · rw [e]; decide
            · rw [e.len]; decide
          have htk := pw_tookA hpw.swap (p := p) (A := A5) (C := C5) (.head _) (by have := HV.out.mta.ot.frs p HPO.out; have := HV.out.mta.ot.inc; unfold i64; omega) (by omega) (by have := HV.out.mta.me.cnt; omega) (by have := HV.out.mta.me.cnt; omega)
          subst hB3
          have HST : Hid (w7.drew.cell? ⟨ho, 4, none⟩ = some (.slice (some ⟨g5, 0, none⟩) n D3) ∧ w7.drew.cell? ⟨hm, 0, none⟩ = some (.pointer (some ⟨am, 0, none⟩)) ∧ w7.drew.cell? ⟨g5, i * 5, none⟩ = some (.int .i64 p.fr) ∧ w7.drew.cell? ⟨g5, i * 5 + 1, none⟩ = some (.int .i64 p.to) ∧ w7.drew.cell? ⟨g5, i * 5 + 2, none⟩ = some (.int .i64 p.seq) ∧ w7.drew.cell? ⟨g5, i * 5 + 3, none⟩ = some (.int .i64 p.ack) ∧ w7.drew.cell? ⟨g5, i * 5 + 4, none⟩ = some (.slice A5 p.load.length C5)) := ⟨n4, m0, p0, p1, p2, p3, p4⟩
          have hS0 := HST.out
          have hpos : 0 < n := by omega
          clear m1 m2 m3 m4 mf n0 n1 n2 n3 nf hn hpl hp hpw hi hq hio m0 p0 p1 p2 p3 p4
          go_wp2_with fail
          as_aux_lemma =>
          go_region_held3 (fun w' => w'.cell? ⟨ho, 4, none⟩ = some (.slice (some ⟨g5, 0, none⟩) n D3) ∧ w'.cell? ⟨hm, 0, none⟩ = some (.pointer (some ⟨am, 0, none⟩)) ∧ w'.cell? ⟨g5, i * 5, none⟩ = some (.int .i64 p.fr) ∧ w'.cell? ⟨g5, i * 5 + 1, none⟩ = some (.int .i64 p.to) ∧ w'.cell? ⟨g5, i * 5 + 2, none⟩ = some (.int .i64 p.seq) ∧ w'.cell? ⟨g5, i * 5 + 3, none⟩ = some (.int .i64 p.ack) ∧ w'.cell? ⟨g5, i * 5 + 4, none⟩ = some (.slice A5 p.load.length C5))
            (first | exact hS0 | exact hS1 | go_keep)
            (first
              | (go_at_call 17; refine htk.mono ?_; rintro e' w8 ⟨A', C', L', ok, br, rfl, hkp, HOB, HP8⟩
                 have hS1 : w8.cell? ⟨ho, 4, none⟩ = some (.slice (some ⟨g5, 0, none⟩) n D3) ∧ w8.cell? ⟨hm, 0, none⟩ = some (.pointer (some ⟨am, 0, none⟩)) ∧ w8.cell? ⟨g5, i * 5, none⟩ = some (.int .i64 p.fr) ∧ w8.cell? ⟨g5, i * 5 + 1, none⟩ = some (.int .i64 p.to) ∧ w8.cell? ⟨g5, i * 5 + 2, none⟩ = some (.int .i64 p.seq) ∧ w8.cell? ⟨g5, i * 5 + 3, none⟩ = some (.int .i64 p.ack) ∧ w8.cell? ⟨g5, i * 5 + 4, none⟩ = some (.slice A5 p.load.length C5) := took_keeps hkp HST.out
                 clear htk))
          clear hS0 hS1 HST hkp hpos hin hdv hdv2 hwr hmo hmo2 n4 hml hol r0 r1 r2 r3 r4 q0 q1 q2 q3 q4 hr hr2
          as_aux_lemma =>
          cases br with
          | true =>
            obtain ⟨A1, C1, A2, C2, A3, C3, m0, m1, m2, m3, m4, mf⟩ := HP8.out.cells
            have hml : hm < w8.heap.size := World.block_lt_of_cell? w8 _ m0
            obtain ⟨V, hV⟩ : ∃ V, V = (w8.setCell ⟨hm, 2, none⟩ (.slice none 0 0)).setCell ⟨hm, 3, none⟩ (.slice none 0 0) := ⟨_, rfl⟩
            have HPV : Hid (PW w1 V hm ho am ao ci cj (pins h0 h1 sb) ⟨(takeR M.s p).st, brs M p, brk M p, M.outs⟩ O [(.slice A' L' C', (takeR M.s p).load)]) := by
              have q := HP8.out.noRows
              rw [← hV] at q
              unfold brs brk
              rw [← HOB.out.2.1]
              exact q
            cases ok with
            | false =>
              have HF : Hid (RelA w1 V h0 h1 a b sb (j + 1) T) := by
                have q2 := (HV.out.mta.took HPO.out).1
                unfold tookA at q2
                rw [← HOB.out.1] at q2
                exact HV.out.back _ _ _ _ _ _ _ _ HPV.out q2
              rw [hV] at HF
              clear hV HPV
              go_wp2_with fail
              go_roundw
              case rel => exact ⟨j + 1, T, by omega, by go_num, rfl, by omega, HF⟩
              case measure => simp [intOf]; omega
            | true => 
              go_wp2_with fail
              rw [← hV]
              clear hV HP8 m0 m1 m2 m3 m4 mf hml
              obtain ⟨⟨t, ht, hld⟩, hbk, hlast⟩ := (HV.out.mta.took HPO.out).2 HOB.out.1.symm
              have hb := HPV.out.hold (v := .slice A' L' C') (.head _)
              rw [hld] at hb hlast
              rw [tagA_ld (by omega)] at hlast
              obtain ⟨hL4, gx, ox, hAx, x0, x1, x2, x3⟩ := ld_cells hb hf2 (by omega)
              obtain ⟨_, vt, _, z3, _, r3⟩ := HPV.out.rows
              obtain ⟨P2, Q2, e2⟩ := r3.form
              obtain ⟨N, hN⟩ : ∃ N, N = (brk M p).length := ⟨_, rfl⟩
              have HNN : Hid (N = (brk M p).length ∧ N ≤ 1000) := by
                refine ⟨hN, ?_⟩
                have := HV.out.mta.me.cnt
                rw [hN]; unfold brk; split
                · simp
                · omega
              have e2' : vt = .slice P2 N Q2 := by rw [e2, hN]
              subst e2'
              obtain ⟨_, _, _, _, _, _, m0, _⟩ := HPV.out.cells
              have s0 := fun d os => cell_regrown z3 d os
              have s1 := fun d os => cell_regrown x0 d os
              have s2 := fun d os => cell_regrown x1 d os
              have s3 := fun d os => cell_regrown x2 d os
              have s4 := fun d os => cell_regrown x3 d os
              have HOK : Hid (true = (takeR M.s p).ok) := HOB.out.1
              obtain ⟨X2, hX2⟩ : ∃ X2 : Int, X2 = ((t % 256 : Nat) : Int) := ⟨_, rfl⟩
              obtain ⟨X3, hX3⟩ : ∃ X3 : Int, X3 = ((t / 256 : Nat) : Int) := ⟨_, rfl⟩
              obtain ⟨X1, hX1⟩ : ∃ X1 : Int, X1 = ((p.fr.toNat % 256 : Nat) : Int) := ⟨_, rfl⟩
              have HT : Hid (X2 + 256 * X3 = (t : Int)) := by unfold Hid; omega
              have bx2 : 0 ≤ X2 ∧ X2 < 256 := by omega
              have bx3 : 0 ≤ X3 ∧ X3 < 256 := by omega
              have bx1 : 0 ≤ X1 ∧ X1 < 256 := by omega
              rw [← hX2] at s3
              rw [← hX3] at s4
              rw [← hX1] at s2
              subst hL4 hAx
              have hwf : IntKind.i64.wrap ((1 : Int) - (e : Int)) = (f : Int) := by rw [IntKind.wrap_i64]; rcases HV.out.ef with q | q <;> omega
              have hef : (1 : Int) - (e : Int) = (f : Int) := by rcases HV.out.ef with q | q <;> omega
              have hwu : IntKind.u8.wrap (f : Int) = (f : Int) := by rw [IntKind.wrap_u8]; omega
              have hf0 : (f : Int) % 256 = (f : Int) := by omega
              by_cases hN0 : N = 0
              · subst hN0
                clear hlast hbk r3 hb hld e2 hN x0 x1 x2 x3 z3 hX1 hX2 hX3
                as_aux_lemma =>
                refine wp_region_quiet_below (by kernel_rfl) (by kernel_rfl) ?_
                repeat (go_big_quiet_step (fail))
                refine wpQuiet_nil ?_
                intro _ hw'
                obtain ⟨⟨dq, osq⟩, hw''⟩ := hw'
                subst hw''
                obtain ⟨V2, hV2⟩ : ∃ V2, V2 = grow (redrawn V dq) osq := ⟨_, rfl⟩
                have HP2 : Hid (PW w1 V2 hm ho am ao ci cj (pins h0 h1 sb) ⟨(takeR M.s p).st, brs M p, brk M p, M.outs⟩ O [(.slice (some ⟨gx, ox, none⟩) 4 C', (takeR M.s p).load)]) := by rw [hV2]; exact HPV.out.below (below_regrown V dq osq)
                rw [← hV2]
                clear hV2 HPV s0 s1 s2 s3 s4 hwf hef hwu hf0 bx1 bx2 bx3 HT HOK
                as_aux_lemma =>
                have hL : (takeR M.s p).load.length = 4 := HOB.out.2.2.symm
                have hps := pw_told HP2.out (A6 := some ⟨gx, ox, none⟩) (C6 := C') (b := (takeR M.s p).load) (by rw [hL]; exact .head _) (by have := HNN.out; show (brk M p).length ≤ 1000; omega)
                rw [hL] at hps
                obtain ⟨P1, Q1, P8, Q8, w9, ⟨k1, k2, k3, k4⟩, hrun, HF9⟩ := hps
                have k0 : V2.cell? ⟨hm, 3, none⟩ = some (.slice P1 (brk M p).length Q1) := k1
                have hml8 : hm < V2.heap.size := World.block_lt_of_cell? V2 _ k0
                have HF : Hid (RelA w1 (w9.setCell ⟨hm, 3, none⟩ (.slice P8 ((brk M p).length + 1) Q8)) h0 h1 a b sb (j + 1) T) := by
                  have q2 := (HV.out.mta.took HPO.out).1
                  unfold tookA at q2
                  rw [← HOB.out.1, if_pos rfl] at q2
                  exact HV.out.back _ _ _ _ _ _ _ _ HF9.out q2
                obtain ⟨Z, hZ⟩ : ∃ Z, Z = (brk M p).length := ⟨_, rfl⟩
                rw [← hZ] at k0 k1 k2 k3 hrun HF
                clear hZ HF9 HP2 hL
                go_wp2_with (first
                  | (at_builtin; refine wpList_appr 47 rfl (.tmp 174) (.tmp 176) rfl _ _ _ (by simp [Act.eval]) (by simp [Act.eval]) hrun ?_)
                  | fail)
                clear hrun k0 k1 k2 k3 k4 hml8
                go_roundw
                case rel => exact ⟨j + 1, T, by omega, by go_num, rfl, by omega, HF⟩
                case measure => simp [intOf]; omega
              · exfalso
                apply hN0
                rw [hN]; unfold brk; rw [← HOB.out.2.1]; rfl
          | false =>
            have HPV : Hid (PW w1 w8 hm ho am ao ci cj (pins h0 h1 sb) ⟨(takeR M.s p).st, brs M p, brk M p, M.outs⟩ O [(.slice A' L' C', (takeR M.s p).load)]) := by
              have q := HP8.out
              unfold brs brk
              rw [← HOB.out.2.1]
              exact q
            cases ok with
            | false =>
              have HF : Hid (RelA w1 w8 h0 h1 a b sb (j + 1) T) := by
                have q2 := (HV.out.mta.took HPO.out).1
                unfold tookA at q2
                rw [← HOB.out.1] at q2
                exact HV.out.back _ _ _ _ _ _ _ _ HPV.out q2
              clear HPV
              go_wp2_with fail
              go_roundw
              case rel => exact ⟨j + 1, T, by omega, by go_num, rfl, by omega, HF⟩
              case measure => simp [intOf]; omega
            | true =>
              obtain ⟨⟨t, ht, hld⟩, hbk, hlast⟩ := (HV.out.mta.took HPO.out).2 HOB.out.1.symm
              have hb := HPV.out.hold (v := .slice A' L' C') (.head _)
              rw [hld] at hb hlast
              rw [tagA_ld (by omega)] at hlast
              obtain ⟨hL4, gx, ox, hAx, x0, x1, x2, x3⟩ := ld_cells hb hf2 (by omega)
              obtain ⟨_, vt, _, z3, _, r3⟩ := HPV.out.rows
              obtain ⟨P2, Q2, e2⟩ := r3.form
              obtain ⟨N, hN⟩ : ∃ N, N = (brk M p).length := ⟨_, rfl⟩
              have HNN : Hid (N = (brk M p).length ∧ N ≤ 1000) := by
                refine ⟨hN, ?_⟩
                have := HV.out.mta.me.cnt
                rw [hN]; unfold brk; split
                · simp
                · omega
              have e2' : vt = .slice P2 N Q2 := by rw [e2, hN]
              subst e2'
              obtain ⟨_, _, _, _, _, _, m0, _⟩ := HPV.out.cells
              have s0 := fun d os => cell_regrown z3 d os
              have s1 := fun d os => cell_regrown x0 d os
              have s2 := fun d os => cell_regrown x1 d os
              have s3 := fun d os => cell_regrown x2 d os
              have s4 := fun d os => cell_regrown x3 d os
              have HOK : Hid (true = (takeR M.s p).ok) := HOB.out.1
              obtain ⟨X2, hX2⟩ : ∃ X2 : Int, X2 = ((t % 256 : Nat) : Int) := ⟨_, rfl⟩
              obtain ⟨X3, hX3⟩ : ∃ X3 : Int, X3 = ((t / 256 : Nat) : Int) := ⟨_, rfl⟩
              obtain ⟨X1, hX1⟩ : ∃ X1 : Int, X1 = ((p.fr.toNat % 256 : Nat) : Int) := ⟨_, rfl⟩
              have HT : Hid (X2 + 256 * X3 = (t : Int)) := by unfold Hid; omega
              have bx2 : 0 ≤ X2 ∧ X2 < 256 := by omega
              have bx3 : 0 ≤ X3 ∧ X3 < 256 := by omega
              have bx1 : 0 ≤ X1 ∧ X1 < 256 := by omega
              rw [← hX2] at s3
              rw [← hX3] at s4
              rw [← hX1] at s2
              subst hL4 hAx
              have hwf : IntKind.i64.wrap ((1 : Int) - (e : Int)) = (f : Int) := by rw [IntKind.wrap_i64]; rcases HV.out.ef with q | q <;> omega
              have hef : (1 : Int) - (e : Int) = (f : Int) := by rcases HV.out.ef with q | q <;> omega
              have hwu : IntKind.u8.wrap (f : Int) = (f : Int) := by rw [IntKind.wrap_u8]; omega
              have hf0 : (f : Int) % 256 = (f : Int) := by omega
              by_cases hN0 : N = 0
              · subst hN0
                clear hlast hbk r3 hb hld e2 hN x0 x1 x2 x3 z3 hX1 hX2 hX3
                go_wp2_with fail
                as_aux_lemma =>
                refine wp_region_quiet_below (by kernel_rfl) (by kernel_rfl) ?_
                repeat (go_big_quiet_step (fail))
                refine wpQuiet_nil ?_
                intro _ hw'
                obtain ⟨⟨dq, osq⟩, hw''⟩ := hw'
                subst hw''
                obtain ⟨V2, hV2⟩ : ∃ V2, V2 = grow (redrawn w8 dq) osq := ⟨_, rfl⟩
                have HP2 : Hid (PW w1 V2 hm ho am ao ci cj (pins h0 h1 sb) ⟨(takeR M.s p).st, brs M p, brk M p, M.outs⟩ O [(.slice (some ⟨gx, ox, none⟩) 4 C', (takeR M.s p).load)]) := by rw [hV2]; exact HPV.out.below (below_regrown w8 dq osq)
                rw [← hV2]
                clear hV2 HPV s0 s1 s2 s3 s4 hwf hef hwu hf0 bx1 bx2 bx3 HT HOK
                as_aux_lemma =>
                have hL : (takeR M.s p).load.length = 4 := HOB.out.2.2.symm
                have hps := pw_told HP2.out (A6 := some ⟨gx, ox, none⟩) (C6 := C') (b := (takeR M.s p).load) (by rw [hL]; exact .head _) (by have := HNN.out; show (brk M p).length ≤ 1000; omega)
                rw [hL] at hps
                obtain ⟨P1, Q1, P8, Q8, w9, ⟨k1, k2, k3, k4⟩, hrun, HF9⟩ := hps
                have k0 : V2.cell? ⟨hm, 3, none⟩ = some (.slice P1 (brk M p).length Q1) := k1
                have hml8 : hm < V2.heap.size := World.block_lt_of_cell? V2 _ k0
                have HF : Hid (RelA w1 (w9.setCell ⟨hm, 3, none⟩ (.slice P8 ((brk M p).length + 1) Q8)) h0 h1 a b sb (j + 1) T) := by
                  have q2 := (HV.out.mta.took HPO.out).1
                  unfold tookA at q2
                  rw [← HOB.out.1, if_pos rfl] at q2
                  exact HV.out.back _ _ _ _ _ _ _ _ HF9.out q2
                obtain ⟨Z, hZ⟩ : ∃ Z, Z = (brk M p).length := ⟨_, rfl⟩
                rw [← hZ] at k0 k1 k2 k3 hrun HF
                clear hZ HF9 HP2 hL
                go_wp2_with (first
                  | (at_builtin; refine wpList_appr 47 rfl (.tmp 174) (.tmp 176) rfl _ _ _ (by simp [Act.eval]) (by simp [Act.eval]) hrun ?_)
                  | fail)
                clear hrun k0 k1 k2 k3 k4 hml8
                go_roundw
                case rel => exact ⟨j + 1, T, by omega, by go_num, rfl, by omega, HF⟩
                case measure => simp [intOf]; omega
              · obtain ⟨m, hNm⟩ : ∃ m, N = m + 1 := ⟨N - 1, by omega⟩
                have r3' : Rr w8 (.slice P2 N Q2) (brk M p) := r3
                obtain ⟨g2, o2, hP2, g3, o3, C3, g4, o4, C4, t0, y0, y1, y4, y2, y3, htt, ht3⟩ := told_cells r3' hNm hbk hlast hf2 (by omega)
                have v1 : (N : Int) - 1 = (m : Int) := by omega
                have v2 : IntKind.i64.wrap ((N : Int) - 1) = (m : Int) := by rw [IntKind.wrap_i64]; have := HNN.out; omega
                have v3 : m < N := by omega
                have v4 : (m : Int) < (N : Int) := by omega
                have v5 : (0 : Int) ≤ (m : Int) := by omega
                have v6 : 0 < N := by omega
                have v7 : (0 : Int) < (N : Int) := by omega
                have v8 : IntKind.i64.wrap (m : Int) = (m : Int) := by rw [IntKind.wrap_i64]; have := HNN.out; omega
                subst hP2
                obtain ⟨Y2, hY2⟩ : ∃ Y2 : Int, Y2 = ((t0 % 256 : Nat) : Int) := ⟨_, rfl⟩
                obtain ⟨Y3, hY3⟩ : ∃ Y3 : Int, Y3 = ((t0 / 256 : Nat) : Int) := ⟨_, rfl⟩
                rw [← hX1] at y1
                rw [← hY2] at y2
                rw [← hY3] at y3
                have htag : ¬ (X2 + 256 * X3 ≤ Y2 + 256 * Y3) := by omega
                have by2 : 0 ≤ Y2 ∧ Y2 < 256 := by omega
                have by3 : 0 ≤ Y3 ∧ Y3 < 256 := by omega
                have t0 := fun d os => cell_regrown y0 d os
                have t1 := fun d os => cell_regrown y1 d os
                have t2 := fun d os => cell_regrown y2 d os
                have t3 := fun d os => cell_regrown y3 d os
                have t4 := fun d os => cell_regrown y4 d os
                clear hNm hN0 hlast hbk r3 r3' hb hld e2 hN x0 x1 x2 x3 z3 hX1 hX2 hX3 hY2 hY3 y0 y1 y2 y3 y4 htt ht3
                go_wp2_with fail
                as_aux_lemma =>
                refine wp_region_quiet_below (by kernel_rfl) (by kernel_rfl) ?_
                repeat (go_big_quiet_step (fail))
                refine wpQuiet_nil ?_
                intro _ hw'
                obtain ⟨⟨dq, osq⟩, hw''⟩ := hw'
                subst hw''
                obtain ⟨V2, hV2⟩ : ∃ V2, V2 = grow (redrawn w8 dq) osq := ⟨_, rfl⟩
                have HP2 : Hid (PW w1 V2 hm ho am ao ci cj (pins h0 h1 sb) ⟨(takeR M.s p).st, brs M p, brk M p, M.outs⟩ O [(.slice (some ⟨gx, ox, none⟩) 4 C', (takeR M.s p).load)]) := by rw [hV2]; exact HPV.out.below (below_regrown w8 dq osq)
                rw [← hV2]
                clear hV2 HPV s0 s1 s2 s3 s4 hwf hef hwu hf0 bx1 bx2 bx3 HT HOK t0 t1 t2 t3 t4 by2 by3 v1 v2 v3 v4 v5 v6 v7 v8
                as_aux_lemma =>
                have hL : (takeR M.s p).load.length = 4 := HOB.out.2.2.symm
                have hps := pw_told HP2.out (A6 := some ⟨gx, ox, none⟩) (C6 := C') (b := (takeR M.s p).load) (by rw [hL]; exact .head _) (by have := HNN.out; show (brk M p).length ≤ 1000; omega)
                rw [hL] at hps
                obtain ⟨P1, Q1, P8, Q8, w9, ⟨k1, k2, k3, k4⟩, hrun, HF9⟩ := hps
                have k0 : V2.cell? ⟨hm, 3, none⟩ = some (.slice P1 (brk M p).length Q1) := k1
                have hml8 : hm < V2.heap.size := World.block_lt_of_cell? V2 _ k0
                have HF : Hid (RelA w1 (w9.setCell ⟨hm, 3, none⟩ (.slice P8 ((brk M p).length + 1) Q8)) h0 h1 a b sb (j + 1) T) := by
                  have q2 := (HV.out.mta.took HPO.out).1
                  unfold tookA at q2
                  rw [← HOB.out.1, if_pos rfl] at q2
                  exact HV.out.back _ _ _ _ _ _ _ _ HF9.out q2
                obtain ⟨Z, hZ⟩ : ∃ Z, Z = (brk M p).length := ⟨_, rfl⟩
                rw [← hZ] at k0 k1 k2 k3 hrun HF
                clear hZ HF9 HP2 hL
                go_wp2_with (first
                  | (at_builtin; refine wpList_appr 47 rfl (.tmp 174) (.tmp 176) rfl _ _ _ (by simp [Act.eval]) (by simp [Act.eval]) hrun ?_)
                  | fail)
                clear hrun k0 k1 k2 k3 k4 hml8
                go_roundw
                case rel => exact ⟨j + 1, T, by omega, by go_num, rfl, by omega, HF⟩
                case measure => simp [intOf]; omega
    · go_wp2_with fail
      go_ret
      obtain ⟨X, Y, k, k', q, _⟩ := HR.out
      exact ⟨rfl, HB1.out.trans (q.bel.mono HB1.out.size)⟩
theorem apart_any {w : World} {A : Option Addr} {C len : Nat} {l : List Int} (hN : len = l.length) (h : Ns w (.slice A l.length C) l) :
    Calls Try.prog 6 #[.slice A len C] w fun e w' => e = .returned (.bool true) ∧ Below w.heap.size w w' := by
  subst hN
  by_cases hl : l.length ≤ 300
  · exact apart_short h hl
  · exact apart_long (by omega)
end Go.Proofs.Ytpmbkncakbcmbaa
