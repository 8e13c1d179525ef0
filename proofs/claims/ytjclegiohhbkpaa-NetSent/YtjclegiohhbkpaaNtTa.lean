/- The walk of NetSent. -/
import Derived.Test.YtjclegiohhbkpaaNtT3
namespace Go.Proofs.Ytjclegiohhbkpaa
open Go.RowKit Go.MapKept

set_option maxRecDepth 100000 in
set_option maxHeartbeats 40000000 in
theorem sent_short {w : World} {A : Option Addr} {C : Nat} {l : List Do1} (h : Dos w (.slice A l.length C) l) (hl : l.length ≤ 200) :
    Calls Try.prog 5 #[.slice A l.length C] w fun e w' => e = .returned (.bool true) ∧ Below w.heap.size w w' := by
  have HD : Hid (Dos w (.slice A l.length C) l) := h
  clear h
  obtain ⟨K, hK⟩ : ∃ K, K = l.length := ⟨_, rfl⟩
  have HK : Hid (K = l.length) := hK
  rw [← hK] at hl ⊢
  clear hK
  go_enter Try.func5, Try.ntmps5
  go_wp2_with fail
  refine (awake_any _).mono ?_
  rintro e wa ⟨rfl, hb⟩
  have HB0 : Hid (Below w.heap.size w wa) := hb
  clear hb
  go_wp2_with fail
  refine (new_any wa).mono ?_
  rintro e wb ⟨n, rfl, hn, hb⟩
  obtain ⟨T0, hs0, hp0⟩ := Sn.start HB0.out hn hb
  obtain ⟨h, hh⟩ : ∃ h, h = wb.heap.size := ⟨_, rfl⟩
  rw [← hh] at hs0
  have HS0 : Hid (Sn w (wb.alloc (.cells nil16 43)) n h [] V0 T0 ∧ PermAll [] V0) := ⟨hs0, hp0⟩
  clear hn hb hs0 hp0
  go_wp2_with fail
  rw [← hh]
  clear hh
  go_loopw [5] (fun i wr => ∃ (j : Nat) (p : List Pk) (V : Vs) (T : Nat → Prop), j ≤ K ∧ i = .int .i64 j ∧ Hid (Sn w wr n h p V T ∧ PermAll p V)) (fun i _ => K - (intOf i).toNat)
  case atStart => exact ⟨0, [], V0, T0, Nat.zero_le _, rfl, HS0⟩
  case round =>
    obtain ⟨j, p, V, T, hj, rfl, HR⟩ := hrel
    by_cases hlt : j < K
    · have hj' : j < l.length := by have := HK.out; omega
      obtain ⟨x, hx⟩ : ∃ x : Do1, x = l[j]'hj' := ⟨_, rfl⟩
      obtain ⟨g, o, A', C', hA, a0, a1, a2, a3, a4, a5⟩ := HD.out.at j hj'
      rw [← hx] at a0 a1 a2 a3 a4 a5
      have hxr : i64 x.op ∧ i64 x.fr ∧ i64 x.tt ∧ i64 x.pl := by rw [hx]; obtain ⟨_, _, _, _, h2, _⟩ := HD.out; exact h2 _ (List.getElem_mem hj')
      have hB := HR.out.1.bel
      have hlc : ∀ {i : Nat} {u : Value}, w.cell? ⟨g, i, none⟩ = some u → wr.cell? ⟨g, i, none⟩ = some u := by
        intro i u hu
        rw [World.cell?_of_block (hB.block g (World.block_lt_of_cell? w _ hu))]; exact hu
      have c0 := hlc a0
      have c1 := hlc a1
      have c2 := hlc a2
      have c3 := hlc a3
      have c4 := hlc a4
      have HBX : Hid (∀ w', Below w.heap.size w w' → Bs w' (.slice A' x.b.length C') x.b) := fun w' hw' => a5.keep (Chg.of_below hw') (fun _ _ => id)
      have HBL : Hid (∀ k, bk (.slice A' x.b.length C') = some k → k < w.heap.size) := fun k hk => a5.lt hk
      have HXR : Hid (i64 x.op ∧ i64 x.fr ∧ i64 x.tt ∧ i64 x.pl) := hxr
      clear hx a0 a1 a2 a3 a4 a5 hlc hxr hB
      subst hA
      go_wp2_with fail
      have hW : ∀ W : World, W = (wr.alloc (stepB x A' C')).drew → W.cell? ⟨wr.heap.size, 1, none⟩ = some (.int .i64 x.fr) ∧ W.cell? ⟨wr.heap.size, 2, none⟩ = some (.int .i64 x.tt) := by
        intro W hW
        subst hW
        have hb : Box (wr.alloc (stepB x A' C')).drew wr.heap.size (stepC x A' C') := ⟨_, heap_alloc_new wr _⟩
        exact ⟨hb.at 1, hb.at 2⟩
      have hS0 := hW _ rfl
      clear hW
      obtain ⟨a, ha, ea⟩ : ∃ a : Nat, a < 4 ∧ x.fr % 4 = a := ⟨(x.fr % 4).toNat, by omega, by omega⟩
      obtain ⟨b, hb, eb⟩ : ∃ b : Nat, b < 4 ∧ x.tt % 4 = b := ⟨(x.tt % 4).toNat, by omega, by omega⟩
      obtain ⟨c, hc, ec⟩ : ∃ c : Nat, c < 6 ∧ x.op % 6 = c := ⟨(x.op % 6).toNat, by omega, by omega⟩
      have hp1 := pick_any x.fr 4 HXR.out.2.1 (by omega) (by omega) (wr.alloc (stepB x A' C')).drew
      have hp2 := pick_any x.tt 4 HXR.out.2.2.1 (by omega) (by omega) (wr.alloc (stepB x A' C')).drew
      rw [ea] at hp1
      rw [eb] at hp2
      go_region_held3 (fun w' => w'.cell? ⟨wr.heap.size, 1, none⟩ = some (.int .i64 x.fr) ∧ w'.cell? ⟨wr.heap.size, 2, none⟩ = some (.int .i64 x.tt))
        (first | exact hS0 | go_keep)
        (first
          | (go_at_call 16; refine hp1.mono ?_; rintro e w1 ⟨rfl, rfl⟩; clear hp1)
          | (go_at_call 16; refine hp2.mono ?_; rintro e w1 ⟨rfl, rfl⟩))
      clear hp2 hS0 ea eb
      obtain ⟨W, hW⟩ : ∃ W, W = (wr.alloc (stepB x A' C')).drew := ⟨_, rfl⟩
      have hbW : Below wr.heap.size wr W := by rw [hW]; exact (below1 wr (stepB x A' C')).drew
      have hbx : Box W wr.heap.size (stepC x A' C') := by rw [hW]; exact ⟨_, heap_alloc_new wr _⟩
      obtain ⟨T1, hT1⟩ : ∃ T1 : Nat → Prop, T1 = fun k => T k ∨ (wr.heap.size ≤ k ∧ k < W.heap.size) := ⟨_, rfl⟩
      have HS : Hid (Sn w W n h p V T1) := by rw [hT1]; exact HR.out.1.more hbW
      have HP : Hid (PermAll p V) := HR.out.2
      have HTx : Hid (T1 wr.heap.size) := by rw [hT1]; obtain ⟨U, q⟩ := hbx; exact .inr ⟨Nat.le_refl _, heap_lt q⟩
      have HX : Hid (Box W wr.heap.size (stepC x A' C')) := hbx
      have HXB : Hid (Bs W (.slice A' x.b.length C') x.b) := HBX.out W HS.out.bel
      obtain ⟨bx, hbx'⟩ : ∃ bx, bx = wr.heap.size := ⟨_, rfl⟩
      simp only [stepB] at hW
      rw [← hW, ← hbx']
      rw [← hbx'] at HTx HX
      have d0 := HX.out.at 0
      have d3 := HX.out.at 3
      have d4 := HX.out.at 4
      simp only [stepC] at d0 d3 d4
      clear hW hbW hbx hT1 hbx' HR c0 c1 c2 c3 c4
      by_cases hbl : 1000 < x.b.length
      · have hbl' : (1000 : Int) < (x.b.length : Int) := by omega
        go_wp2_with fail
        go_ret
        exact ⟨rfl, HS.out.bel⟩
      · have hbl' : ¬ (1000 : Int) < (x.b.length : Int) := by omega
        have hp3 := pick_any x.op 6 HXR.out.1 (by omega) (by omega) W
        rw [ec] at hp3
        go_wp2_with fail
        refine hp3.mono ?_
        rintro e w1 ⟨rfl, rfl⟩
        clear hp3
        rename_i kA aA kB aB kC aC
        have key : Hid (∀ (z10 z11 z12 z13 z14 z15 z24 z25 z26 z27 z28 z29 z30 z31 z32 z33 z34 z35 z36 z37 z38 z39 z40 z41 z42 z43 z44 z45 z46 z47 z48 z49 z50 z51 z52 z53 z54 z55 z56 z57 z58 z59 z60 z61 z62 z63 z64 z65 z66 z67 z68 z69 z70 z71 z72 z73 z74 z75 z76 z77 z78 z79 z80 z81 z82 z83 z84 z85 z86 z87 z88 z89 z90 z91 z92 z93 z94 z95 z96 z97 z98 z99 z100 z101 z102 z103 z104 z105 z106 z107 z108 z109 z110 z111 z112 z113 z114 z115 z116 z117 z118 z119 z120 z121 z122 z123 z124 z125 z126 z127 z128 z129 z130 z131 z132 z133 z134 z135 z136 z137 z138 z139 z140 z141 z142 z143 z144 z145 z146 z147 z148 z149 z150 z151 z152 z153 z154 z155 z156 z157 z158 z159 z160 z161 z162 z163 z164 z165 z166 z167 z168 z169 z170 z171 z172 z173 z174 z175 z176 z177 z178 z179 z180 z181 z182 z183 z184 z185 z186 z187 z188 z189 z190 z191 z192 z193 z194 z195 z196 z197 z198 z199 : Value) (WT : World) (pz : List Pk) (Vz : Vs) (T4 : Nat → Prop), Hid (Sn w WT n h pz Vz T4 ∧ PermAll pz Vz) → kA ⟨#[.slice (some ⟨g, o, none⟩) K C, undef, u2, .pointer (some ⟨n, 0, none⟩), .pointer (some ⟨h, 0, none⟩), .int .i64 j, .pointer (some ⟨bx, 0, none⟩), .int .i64 a, .int .i64 b, .int .i64 (4 * a + b), z10, z11, z12, z13, z14, z15, .bool true, .bool false, .slice (some ⟨g, o, none⟩) K C, .int .i64 K, .bool (decide ((200 : Int) < (K : Int))), undef, undef, .pointer (some ⟨n, 0, none⟩), z24, z25, z26, z27, z28, z29, z30, z31, z32, z33, z34, z35, z36, z37, z38, z39, z40, z41, z42, z43, z44, z45, z46, z47, z48, z49, z50, z51, z52, z53, z54, z55, z56, z57, z58, z59, z60, z61, z62, z63, z64, z65, z66, z67, z68, z69, z70, z71, z72, z73, z74, z75, z76, z77, z78, z79, z80, z81, z82, z83, z84, z85, z86, z87, z88, z89, z90, z91, z92, z93, z94, z95, z96, z97, z98, z99, z100, z101, z102, z103, z104, z105, z106, z107, z108, z109, z110, z111, z112, z113, z114, z115, z116, z117, z118, z119, z120, z121, z122, z123, z124, z125, z126, z127, z128, z129, z130, z131, z132, z133, z134, z135, z136, z137, z138, z139, z140, z141, z142, z143, z144, z145, z146, z147, z148, z149, z150, z151, z152, z153, z154, z155, z156, z157, z158, z159, z160, z161, z162, z163, z164, z165, z166, z167, z168, z169, z170, z171, z172, z173, z174, z175, z176, z177, z178, z179, z180, z181, z182, z183, z184, z185, z186, z187, z188, z189, z190, z191, z192, z193, z194, z195, z196, z197, z198, z199], []⟩ WT) := by
          as_aux_lemma =>
          intro z10 z11 z12 z13 z14 z15 z24 z25 z26 z27 z28 z29 z30 z31 z32 z33 z34 z35 z36 z37 z38 z39 z40 z41 z42 z43 z44 z45 z46 z47 z48 z49 z50 z51 z52 z53 z54 z55 z56 z57 z58 z59 z60 z61 z62 z63 z64 z65 z66 z67 z68 z69 z70 z71 z72 z73 z74 z75 z76 z77 z78 z79 z80 z81 z82 z83 z84 z85 z86 z87 z88 z89 z90 z91 z92 z93 z94 z95 z96 z97 z98 z99 z100 z101 z102 z103 z104 z105 z106 z107 z108 z109 z110 z111 z112 z113 z114 z115 z116 z117 z118 z119 z120 z121 z122 z123 z124 z125 z126 z127 z128 z129 z130 z131 z132 z133 z134 z135 z136 z137 z138 z139 z140 z141 z142 z143 z144 z145 z146 z147 z148 z149 z150 z151 z152 z153 z154 z155 z156 z157 z158 z159 z160 z161 z162 z163 z164 z165 z166 z167 z168 z169 z170 z171 z172 z173 z174 z175 z176 z177 z178 z179 z180 z181 z182 z183 z184 z185 z186 z187 z188 z189 z190 z191 z192 z193 z194 z195 z196 z197 z198 z199 WT pz Vz T4 HF
          clear d0 d3 d4 HS HX HXB HP aB aC kB kC
          refine aA _ _ ?_
          clear aA
          go_wp2_with fail
          go_loopw [15] (fun i wz => ∃ (q : Nat), q ≤ 16 ∧ i = .int .i64 q ∧ Hid (Sn w wz n h pz Vz T4)) (fun i _ => 16 - (intOf i).toNat)
          case atStart => exact ⟨0, by omega, rfl, HF.out.1⟩
          case round =>
            obtain ⟨q, hq, rfl, HZ⟩ := hrel
            by_cases hq16 : q < 16
            · have hzd : Sn w wr.drew n h pz Vz T4 := HZ.out.below (Below.refl _ _).drew
              have hct := at_cnt hzd q
              have e1 : IntKind.i64.wrap ((q : Int) / 4) = ((q / 4 : Nat) : Int) := by rw [IntKind.wrap_i64]; omega
              have e2 : ((q : Int)).tmod 4 = ((q % 4 : Nat) : Int) := by rw [Int.tmod_eq_emod_of_nonneg (by omega)]; omega
              rw [← e1, ← e2] at hct
              clear e1 e2
              obtain ⟨Aq, Cq, hVq⟩ := (HZ.out.rows q hq16).form
              rw [HF.out.2.len q hq16] at hVq
              generalize (bagOf pz (kj q)).length = N at hct hVq
              have HC : Hid (∀ ww, Sn w ww n h pz Vz T4 → ww.cell? ⟨h, q, none⟩ = some (.slice Aq N Cq)) := fun ww hs => by rw [hs.cell q hq16, hVq]
              have hS0 := HC.out _ hzd
              clear hzd hVq
              go_wp2_with fail
              go_region_held3 (fun w' => w'.cell? ⟨h, q, none⟩ = some (.slice Aq N Cq))
                (first | exact hS0 | exact hS1 | go_keep)
                (first
                  | (go_at_call 9; refine hct.mono ?_; rintro e wy ⟨rfl, HZ2⟩; have hS1 := HC.out wy HZ2.out))
              go_wp2_with fail
              go_roundw
              case rel => exact ⟨q + 1, by omega, by go_num, HZ2⟩
              case measure => simp [intOf]; omega
            · go_wp2_with fail
              go_roundw
              case rel => exact ⟨j + 1, pz, Vz, T4, by omega, by go_num, HZ.out, HF.out.2⟩
              case measure => simp [intOf]; omega
        clear aA
        have hcs : (c = 0 ∨ c = 1 ∨ c = 2) ∨ c = 3 ∨ c = 4 ∨ c = 5 := by omega
        rcases hcs with hcs | rfl | rfl | rfl
        · rcases hcs with rfl | rfl | rfl
          · as_aux_lemma =>
            have hsn := at_snd HS.out a b ha hb HXB.out (by omega)
            go_wp2_with fail
            refine hsn.mono ?_
            rintro e w2 (⟨rfl, hlt32, HS2, hk⟩ | ⟨rfl, hge, HS2, hk⟩)
            · clear hsn
              obtain ⟨k, hkk⟩ : ∃ k, k = 4 * a + b := ⟨_, rfl⟩
              have hk16 : k < 16 := by omega
              have hsd : Sn w w2.drew n h (p ++ [(kj k, x.b)]) V T1 := by rw [hkk]; exact HS2.out.below (Below.refl _ _).drew
              have hbd : Box w2.drew bx (stepC x A' C') := (HX.out.kp hk HTx.out).chg (Chg.drew Non w2) (fun e => e)
              have hNl : (V k).2.length < 32 := by rw [HP.out.len k hk16, hkk]; exact hlt32
              obtain ⟨Ak, Ck, hVk⟩ := (hsd.rows k hk16).form
              obtain ⟨N, hN⟩ : ∃ N, N = (V k).2.length := ⟨_, rfl⟩
              rw [← hN] at hVk hNl
              have f4 := hbd.at 4
              simp only [stepC] at f4
              have q0 := hsd.cell k hk16
              rw [hVk] at q0
              have hcp := copyB_any (HBX.out _ hsd.bel) (by omega)
              have HAP : Hid (∀ (w3 : World) (A6 : Option Addr) (C6 : Nat), w3.ownsRow w2.drew.heap.size 5 1 (.slice A6 x.b.length C6) x.b.length (bv x.b) → Below w2.drew.heap.size w2.drew w3 → ∃ A8 C8 w8, (Builtin.append_ #[42, 42] 42 #[.slice Ak N Ck, .slice (some ⟨w3.heap.size, 0, none⟩) 1 1]).run Try.prog (w3.alloc (.cells #[.slice A6 x.b.length C6] 27)) = .ok (.slice A8 (N + 1) C8) w8 ∧ (w3.cell? ⟨h, k, none⟩ = some (.slice Ak N Ck) ∧ (w3.alloc (.cells #[.slice A6 x.b.length C6] 27)).cell? ⟨h, k, none⟩ = some (.slice Ak N Ck) ∧ w8.cell? ⟨h, k, none⟩ = some (.slice Ak N Ck) ∧ w8.frozen? ⟨h, k, none⟩ = false) ∧
                  Hid (∃ p' V' T', Sn w (w8.setCell ⟨h, k, none⟩ (.slice A8 (N + 1) C8)) n h p' V' T' ∧ PermAll p' V')) := by
                intro w3 A6 C6 ho hB3
                obtain ⟨A8, C8, w8, r1, r2, T', r3⟩ := app_step hsd hk16 (by omega) hB3 (owns_lowT ho (Nat.zero_le _)) (fun g hg => by obtain ⟨cur, q, hle⟩ := owns_blockT ho hg; exact .inr hle)
                rw [← hN, hVk] at r1
                rw [← hN] at r3
                rw [hVk] at r2
                exact ⟨A8, C8, w8, r1, r2, _, _, T', r3, perm_send HP.out k x.b _ _⟩
              rw [hkk] at q0 HAP
              have hi0 : ¬ (4 * (a : Int) + (b : Int)) < 0 := by omega
              have hi1 : (4 * (a : Int) + (b : Int)) < 16 := by omega
              have hi2 : (0 : Int) ≤ 4 * (a : Int) + (b : Int) := by omega
              have hi3 : (4 * (a : Int) + (b : Int)).toNat = 4 * a + b := by omega
              have hi4 : ¬ (16 : Int) ≤ 4 * (a : Int) + (b : Int) := by omega
              clear hsd hbd hVk hN hkk HS HS2 d0 d3 d4 hk
              go_wp2_with fail
              go_region_law (first
                | (go_simp; go_at_call 18; refine hcp.mono ?_; rintro e w3 ⟨A6, C6, rfl, ho, hB3⟩; obtain ⟨A8, C8, w8, hrun, ⟨k1, k2, k3, k4⟩, HF⟩ := HAP.out w3 A6 C6 ho hB3)
                | (refine step_app2 rfl (.tmp 64) (.tmp 68) rfl _ _ _ _ (by simp [Act.eval]) (by simp [Act.eval]) hrun ?_))
              all_goals
                obtain ⟨WT, hWT⟩ : ∃ WT, WT = w8.setCell ⟨h, 4 * a + b, none⟩ (.slice A8 (N + 1) C8) := ⟨_, rfl⟩
                rw [← hWT]
                rw [← hWT] at HF
                obtain ⟨pz, Vz, T4, HF'⟩ := HF.out
                replace HF : Hid (Sn w WT n h pz Vz T4 ∧ PermAll pz Vz) := HF'
                clear hWT HF' HAP hcp ho hB3 hrun k1 k2 k3 k4 q0 f4 hi0 hi1 hi2 hi3 hi4
                go_wp2_with fail
                exact key.out _ _ _ _ _ _ _ _ _ _ _ _ _ _ _ _ _ _ _ _ _ _ _ _ _ _ _ _ _ _ _ _ _ _ _ _ _ _ _ _ _ _ _ _ _ _ _ _ _ _ _ _ _ _ _ _ _ _ _ _ _ _ _ _ _ _ _ _ _ _ _ _ _ _ _ _ _ _ _ _ _ _ _ _ _ _ _ _ _ _ _ _ _ _ _ _ _ _ _ _ _ _ _ _ _ _ _ _ _ _ _ _ _ _ _ _ _ _ _ _ _ _ _ _ _ _ _ _ _ _ _ _ _ _ _ _ _ _ _ _ _ _ _ _ _ _ _ _ _ _ _ _ _ _ _ _ _ _ _ _ _ _ _ _ _ _ _ _ _ _ _ _ _ _ _ _ _ _ _ _ _ _ _ _ _ _ HF
            · clear hsn
              have hN : (V (4 * a + b)).2.length = 32 := by
                have h1 := HP.out.len (4 * a + b) (by omega)
                have h2 := (HS.out.nx.bag (kj (4 * a + b))).1
                omega
              obtain ⟨Ak, Ck, hVk⟩ := (HS2.out.rows (4 * a + b) (by omega)).form
              rw [hN] at hVk
              have q0 := HS2.out.cell (4 * a + b) (by omega)
              rw [hVk] at q0
              have hi0 : ¬ (4 * (a : Int) + (b : Int)) < 0 := by omega
              have hi1 : (4 * (a : Int) + (b : Int)) < 16 := by omega
              have hi2 : (0 : Int) ≤ 4 * (a : Int) + (b : Int) := by omega
              have hi3 : (4 * (a : Int) + (b : Int)).toNat = 4 * a + b := by omega
              have hi4 : ¬ (16 : Int) ≤ 4 * (a : Int) + (b : Int) := by omega
              obtain ⟨pz, hpz⟩ : ∃ pz, pz = p := ⟨_, rfl⟩
              obtain ⟨Vz, hVz⟩ : ∃ Vz, Vz = V := ⟨_, rfl⟩
              obtain ⟨T4, hT4⟩ : ∃ T4, T4 = T1 := ⟨_, rfl⟩
              have HF : Hid (Sn w w2 n h pz Vz T4 ∧ PermAll pz Vz) := by rw [hpz, hVz, hT4]; exact ⟨HS2.out, HP.out⟩
              clear hN hVk HS HS2 d0 d3 d4 hk hpz hVz hT4
              go_wp2_with fail
              exact key.out _ _ _ _ _ _ _ _ _ _ _ _ _ _ _ _ _ _ _ _ _ _ _ _ _ _ _ _ _ _ _ _ _ _ _ _ _ _ _ _ _ _ _ _ _ _ _ _ _ _ _ _ _ _ _ _ _ _ _ _ _ _ _ _ _ _ _ _ _ _ _ _ _ _ _ _ _ _ _ _ _ _ _ _ _ _ _ _ _ _ _ _ _ _ _ _ _ _ _ _ _ _ _ _ _ _ _ _ _ _ _ _ _ _ _ _ _ _ _ _ _ _ _ _ _ _ _ _ _ _ _ _ _ _ _ _ _ _ _ _ _ _ _ _ _ _ _ _ _ _ _ _ _ _ _ _ _ _ _ _ _ _ _ _ _ _ _ _ _ _ _ _ _ _ _ _ _ _ _ _ _ _ _ _ _ _ HF
          · as_aux_lemma =>
            have hsn := at_snd HS.out a b ha hb HXB.out (by omega)
            go_wp2_with fail
            refine hsn.mono ?_
            rintro e w2 (⟨rfl, hlt32, HS2, hk⟩ | ⟨rfl, hge, HS2, hk⟩)
            · clear hsn
              obtain ⟨k, hkk⟩ : ∃ k, k = 4 * a + b := ⟨_, rfl⟩
              have hk16 : k < 16 := by omega
              have hsd : Sn w w2.drew n h (p ++ [(kj k, x.b)]) V T1 := by rw [hkk]; exact HS2.out.below (Below.refl _ _).drew
              have hbd : Box w2.drew bx (stepC x A' C') := (HX.out.kp hk HTx.out).chg (Chg.drew Non w2) (fun e => e)
              have hNl : (V k).2.length < 32 := by rw [HP.out.len k hk16, hkk]; exact hlt32
              obtain ⟨Ak, Ck, hVk⟩ := (hsd.rows k hk16).form
              obtain ⟨N, hN⟩ : ∃ N, N = (V k).2.length := ⟨_, rfl⟩
              rw [← hN] at hVk hNl
              have f4 := hbd.at 4
              simp only [stepC] at f4
              have q0 := hsd.cell k hk16
              rw [hVk] at q0
              have hcp := copyB_any (HBX.out _ hsd.bel) (by omega)
              have HAP : Hid (∀ (w3 : World) (A6 : Option Addr) (C6 : Nat), w3.ownsRow w2.drew.heap.size 5 1 (.slice A6 x.b.length C6) x.b.length (bv x.b) → Below w2.drew.heap.size w2.drew w3 → ∃ A8 C8 w8, (Builtin.append_ #[42, 42] 42 #[.slice Ak N Ck, .slice (some ⟨w3.heap.size, 0, none⟩) 1 1]).run Try.prog (w3.alloc (.cells #[.slice A6 x.b.length C6] 27)) = .ok (.slice A8 (N + 1) C8) w8 ∧ (w3.cell? ⟨h, k, none⟩ = some (.slice Ak N Ck) ∧ (w3.alloc (.cells #[.slice A6 x.b.length C6] 27)).cell? ⟨h, k, none⟩ = some (.slice Ak N Ck) ∧ w8.cell? ⟨h, k, none⟩ = some (.slice Ak N Ck) ∧ w8.frozen? ⟨h, k, none⟩ = false) ∧
                  Hid (∃ p' V' T', Sn w (w8.setCell ⟨h, k, none⟩ (.slice A8 (N + 1) C8)) n h p' V' T' ∧ PermAll p' V')) := by
                intro w3 A6 C6 ho hB3
                obtain ⟨A8, C8, w8, r1, r2, T', r3⟩ := app_step hsd hk16 (by omega) hB3 (owns_lowT ho (Nat.zero_le _)) (fun g hg => by obtain ⟨cur, q, hle⟩ := owns_blockT ho hg; exact .inr hle)
                rw [← hN, hVk] at r1
                rw [← hN] at r3
                rw [hVk] at r2
                exact ⟨A8, C8, w8, r1, r2, _, _, T', r3, perm_send HP.out k x.b _ _⟩
              rw [hkk] at q0 HAP
              have hi0 : ¬ (4 * (a : Int) + (b : Int)) < 0 := by omega
              have hi1 : (4 * (a : Int) + (b : Int)) < 16 := by omega
              have hi2 : (0 : Int) ≤ 4 * (a : Int) + (b : Int) := by omega
              have hi3 : (4 * (a : Int) + (b : Int)).toNat = 4 * a + b := by omega
              have hi4 : ¬ (16 : Int) ≤ 4 * (a : Int) + (b : Int) := by omega
              clear hsd hbd hVk hN hkk HS HS2 d0 d3 d4 hk
              go_wp2_with fail
              go_region_law (first
                | (go_simp; go_at_call 18; refine hcp.mono ?_; rintro e w3 ⟨A6, C6, rfl, ho, hB3⟩; obtain ⟨A8, C8, w8, hrun, ⟨k1, k2, k3, k4⟩, HF⟩ := HAP.out w3 A6 C6 ho hB3)
                | (refine step_app2 rfl (.tmp 64) (.tmp 68) rfl _ _ _ _ (by simp [Act.eval]) (by simp [Act.eval]) hrun ?_))
              all_goals
                obtain ⟨WT, hWT⟩ : ∃ WT, WT = w8.setCell ⟨h, 4 * a + b, none⟩ (.slice A8 (N + 1) C8) := ⟨_, rfl⟩
                rw [← hWT]
                rw [← hWT] at HF
                obtain ⟨pz, Vz, T4, HF'⟩ := HF.out
                replace HF : Hid (Sn w WT n h pz Vz T4 ∧ PermAll pz Vz) := HF'
                clear hWT HF' HAP hcp ho hB3 hrun k1 k2 k3 k4 q0 f4 hi0 hi1 hi2 hi3 hi4
                go_wp2_with fail
                exact key.out _ _ _ _ _ _ _ _ _ _ _ _ _ _ _ _ _ _ _ _ _ _ _ _ _ _ _ _ _ _ _ _ _ _ _ _ _ _ _ _ _ _ _ _ _ _ _ _ _ _ _ _ _ _ _ _ _ _ _ _ _ _ _ _ _ _ _ _ _ _ _ _ _ _ _ _ _ _ _ _ _ _ _ _ _ _ _ _ _ _ _ _ _ _ _ _ _ _ _ _ _ _ _ _ _ _ _ _ _ _ _ _ _ _ _ _ _ _ _ _ _ _ _ _ _ _ _ _ _ _ _ _ _ _ _ _ _ _ _ _ _ _ _ _ _ _ _ _ _ _ _ _ _ _ _ _ _ _ _ _ _ _ _ _ _ _ _ _ _ _ _ _ _ _ _ _ _ _ _ _ _ _ _ _ _ _ HF
            · clear hsn
              have hN : (V (4 * a + b)).2.length = 32 := by
                have h1 := HP.out.len (4 * a + b) (by omega)
                have h2 := (HS.out.nx.bag (kj (4 * a + b))).1
                omega
              obtain ⟨Ak, Ck, hVk⟩ := (HS2.out.rows (4 * a + b) (by omega)).form
              rw [hN] at hVk
              have q0 := HS2.out.cell (4 * a + b) (by omega)
              rw [hVk] at q0
              have hi0 : ¬ (4 * (a : Int) + (b : Int)) < 0 := by omega
              have hi1 : (4 * (a : Int) + (b : Int)) < 16 := by omega
              have hi2 : (0 : Int) ≤ 4 * (a : Int) + (b : Int) := by omega
              have hi3 : (4 * (a : Int) + (b : Int)).toNat = 4 * a + b := by omega
              have hi4 : ¬ (16 : Int) ≤ 4 * (a : Int) + (b : Int) := by omega
              obtain ⟨pz, hpz⟩ : ∃ pz, pz = p := ⟨_, rfl⟩
              obtain ⟨Vz, hVz⟩ : ∃ Vz, Vz = V := ⟨_, rfl⟩
              obtain ⟨T4, hT4⟩ : ∃ T4, T4 = T1 := ⟨_, rfl⟩
              have HF : Hid (Sn w w2 n h pz Vz T4 ∧ PermAll pz Vz) := by rw [hpz, hVz, hT4]; exact ⟨HS2.out, HP.out⟩
              clear hN hVk HS HS2 d0 d3 d4 hk hpz hVz hT4
              go_wp2_with fail
              exact key.out _ _ _ _ _ _ _ _ _ _ _ _ _ _ _ _ _ _ _ _ _ _ _ _ _ _ _ _ _ _ _ _ _ _ _ _ _ _ _ _ _ _ _ _ _ _ _ _ _ _ _ _ _ _ _ _ _ _ _ _ _ _ _ _ _ _ _ _ _ _ _ _ _ _ _ _ _ _ _ _ _ _ _ _ _ _ _ _ _ _ _ _ _ _ _ _ _ _ _ _ _ _ _ _ _ _ _ _ _ _ _ _ _ _ _ _ _ _ _ _ _ _ _ _ _ _ _ _ _ _ _ _ _ _ _ _ _ _ _ _ _ _ _ _ _ _ _ _ _ _ _ _ _ _ _ _ _ _ _ _ _ _ _ _ _ _ _ _ _ _ _ _ _ _ _ _ _ _ _ _ _ _ _ _ _ _ HF
          · as_aux_lemma =>
            have hsn := at_snd HS.out a b ha hb HXB.out (by omega)
            go_wp2_with fail
            refine hsn.mono ?_
            rintro e w2 (⟨rfl, hlt32, HS2, hk⟩ | ⟨rfl, hge, HS2, hk⟩)
            · clear hsn
              obtain ⟨k, hkk⟩ : ∃ k, k = 4 * a + b := ⟨_, rfl⟩
              have hk16 : k < 16 := by omega
              have hsd : Sn w w2.drew n h (p ++ [(kj k, x.b)]) V T1 := by rw [hkk]; exact HS2.out.below (Below.refl _ _).drew
              have hbd : Box w2.drew bx (stepC x A' C') := (HX.out.kp hk HTx.out).chg (Chg.drew Non w2) (fun e => e)
              have hNl : (V k).2.length < 32 := by rw [HP.out.len k hk16, hkk]; exact hlt32
              obtain ⟨Ak, Ck, hVk⟩ := (hsd.rows k hk16).form
              obtain ⟨N, hN⟩ : ∃ N, N = (V k).2.length := ⟨_, rfl⟩
              rw [← hN] at hVk hNl
              have f4 := hbd.at 4
              simp only [stepC] at f4
              have q0 := hsd.cell k hk16
              rw [hVk] at q0
              have hcp := copyB_any (HBX.out _ hsd.bel) (by omega)
              have HAP : Hid (∀ (w3 : World) (A6 : Option Addr) (C6 : Nat), w3.ownsRow w2.drew.heap.size 5 1 (.slice A6 x.b.length C6) x.b.length (bv x.b) → Below w2.drew.heap.size w2.drew w3 → ∃ A8 C8 w8, (Builtin.append_ #[42, 42] 42 #[.slice Ak N Ck, .slice (some ⟨w3.heap.size, 0, none⟩) 1 1]).run Try.prog (w3.alloc (.cells #[.slice A6 x.b.length C6] 27)) = .ok (.slice A8 (N + 1) C8) w8 ∧ (w3.cell? ⟨h, k, none⟩ = some (.slice Ak N Ck) ∧ (w3.alloc (.cells #[.slice A6 x.b.length C6] 27)).cell? ⟨h, k, none⟩ = some (.slice Ak N Ck) ∧ w8.cell? ⟨h, k, none⟩ = some (.slice Ak N Ck) ∧ w8.frozen? ⟨h, k, none⟩ = false) ∧
                  Hid (∃ p' V' T', Sn w (w8.setCell ⟨h, k, none⟩ (.slice A8 (N + 1) C8)) n h p' V' T' ∧ PermAll p' V')) := by
                intro w3 A6 C6 ho hB3
                obtain ⟨A8, C8, w8, r1, r2, T', r3⟩ := app_step hsd hk16 (by omega) hB3 (owns_lowT ho (Nat.zero_le _)) (fun g hg => by obtain ⟨cur, q, hle⟩ := owns_blockT ho hg; exact .inr hle)
                rw [← hN, hVk] at r1
                rw [← hN] at r3
                rw [hVk] at r2
                exact ⟨A8, C8, w8, r1, r2, _, _, T', r3, perm_send HP.out k x.b _ _⟩
              rw [hkk] at q0 HAP
              have hi0 : ¬ (4 * (a : Int) + (b : Int)) < 0 := by omega
              have hi1 : (4 * (a : Int) + (b : Int)) < 16 := by omega
              have hi2 : (0 : Int) ≤ 4 * (a : Int) + (b : Int) := by omega
              have hi3 : (4 * (a : Int) + (b : Int)).toNat = 4 * a + b := by omega
              have hi4 : ¬ (16 : Int) ≤ 4 * (a : Int) + (b : Int) := by omega
              clear hsd hbd hVk hN hkk HS HS2 d0 d3 d4 hk
              go_wp2_with fail
              go_region_law (first
                | (go_simp; go_at_call 18; refine hcp.mono ?_; rintro e w3 ⟨A6, C6, rfl, ho, hB3⟩; obtain ⟨A8, C8, w8, hrun, ⟨k1, k2, k3, k4⟩, HF⟩ := HAP.out w3 A6 C6 ho hB3)
                | (refine step_app2 rfl (.tmp 64) (.tmp 68) rfl _ _ _ _ (by simp [Act.eval]) (by simp [Act.eval]) hrun ?_))
              all_goals
                obtain ⟨WT, hWT⟩ : ∃ WT, WT = w8.setCell ⟨h, 4 * a + b, none⟩ (.slice A8 (N + 1) C8) := ⟨_, rfl⟩
                rw [← hWT]
                rw [← hWT] at HF
                obtain ⟨pz, Vz, T4, HF'⟩ := HF.out
                replace HF : Hid (Sn w WT n h pz Vz T4 ∧ PermAll pz Vz) := HF'
                clear hWT HF' HAP hcp ho hB3 hrun k1 k2 k3 k4 q0 f4 hi0 hi1 hi2 hi3 hi4
                go_wp2_with fail
                exact key.out _ _ _ _ _ _ _ _ _ _ _ _ _ _ _ _ _ _ _ _ _ _ _ _ _ _ _ _ _ _ _ _ _ _ _ _ _ _ _ _ _ _ _ _ _ _ _ _ _ _ _ _ _ _ _ _ _ _ _ _ _ _ _ _ _ _ _ _ _ _ _ _ _ _ _ _ _ _ _ _ _ _ _ _ _ _ _ _ _ _ _ _ _ _ _ _ _ _ _ _ _ _ _ _ _ _ _ _ _ _ _ _ _ _ _ _ _ _ _ _ _ _ _ _ _ _ _ _ _ _ _ _ _ _ _ _ _ _ _ _ _ _ _ _ _ _ _ _ _ _ _ _ _ _ _ _ _ _ _ _ _ _ _ _ _ _ _ _ _ _ _ _ _ _ _ _ _ _ _ _ _ _ _ _ _ _ HF
            · clear hsn
              have hN : (V (4 * a + b)).2.length = 32 := by
                have h1 := HP.out.len (4 * a + b) (by omega)
                have h2 := (HS.out.nx.bag (kj (4 * a + b))).1
                omega
              obtain ⟨Ak, Ck, hVk⟩ := (HS2.out.rows (4 * a + b) (by omega)).form
              rw [hN] at hVk
              have q0 := HS2.out.cell (4 * a + b) (by omega)
              rw [hVk] at q0
              have hi0 : ¬ (4 * (a : Int) + (b : Int)) < 0 := by omega
              have hi1 : (4 * (a : Int) + (b : Int)) < 16 := by omega
              have hi2 : (0 : Int) ≤ 4 * (a : Int) + (b : Int) := by omega
              have hi3 : (4 * (a : Int) + (b : Int)).toNat = 4 * a + b := by omega
              have hi4 : ¬ (16 : Int) ≤ 4 * (a : Int) + (b : Int) := by omega
              obtain ⟨pz, hpz⟩ : ∃ pz, pz = p := ⟨_, rfl⟩
              obtain ⟨Vz, hVz⟩ : ∃ Vz, Vz = V := ⟨_, rfl⟩
              obtain ⟨T4, hT4⟩ : ∃ T4, T4 = T1 := ⟨_, rfl⟩
              have HF : Hid (Sn w w2 n h pz Vz T4 ∧ PermAll pz Vz) := by rw [hpz, hVz, hT4]; exact ⟨HS2.out, HP.out⟩
              clear hN hVk HS HS2 d0 d3 d4 hk hpz hVz hT4
              go_wp2_with fail
              exact key.out _ _ _ _ _ _ _ _ _ _ _ _ _ _ _ _ _ _ _ _ _ _ _ _ _ _ _ _ _ _ _ _ _ _ _ _ _ _ _ _ _ _ _ _ _ _ _ _ _ _ _ _ _ _ _ _ _ _ _ _ _ _ _ _ _ _ _ _ _ _ _ _ _ _ _ _ _ _ _ _ _ _ _ _ _ _ _ _ _ _ _ _ _ _ _ _ _ _ _ _ _ _ _ _ _ _ _ _ _ _ _ _ _ _ _ _ _ _ _ _ _ _ _ _ _ _ _ _ _ _ _ _ _ _ _ _ _ _ _ _ _ _ _ _ _ _ _ _ _ _ _ _ _ _ _ _ _ _ _ _ _ _ _ _ _ _ _ _ _ _ _ _ _ _ _ _ _ _ _ _ _ _ _ _ _ _ HF
        · have hk16 : 4 * a + b < 16 := by omega
          have hkq : kj (4 * a + b) = ((a : Int), (b : Int)) := kj_at a b hb
          obtain ⟨Ak, Ck, hVk⟩ := (HS.out.rows (4 * a + b) hk16).form
          obtain ⟨N, hN⟩ : ∃ N, N = (V (4 * a + b)).2.length := ⟨_, rfl⟩
          rw [← hN] at hVk
          have HNV : Hid (N = (V (4 * a + b)).2.length) := hN
          have HNB : Hid (N = (bagOf p ((a : Int), (b : Int))).length ∧ N ≤ 32) := by
            have h1 := HP.out.len (4 * a + b) hk16
            have h2 := (HS.out.nx.bag (kj (4 * a + b))).1
            rw [hkq] at h1 h2
            exact ⟨by omega, by omega⟩
          have HLE : Hid (∀ y ∈ (V (4 * a + b)).2, y.1.length ≤ 1048576) := by
            intro y hy
            have h2 := (HS.out.nx.bag (kj (4 * a + b))).2
            exact h2 _ ((HP.out (4 * a + b) hk16).mem_iff.1 (List.mem_map.2 ⟨y, hy, rfl⟩))
          have hi0 : ¬ (4 * (a : Int) + (b : Int)) < 0 := by omega
          have hi1 : (4 * (a : Int) + (b : Int)) < 16 := by omega
          have hi2 : (0 : Int) ≤ 4 * (a : Int) + (b : Int) := by omega
          have hi3 : (4 * (a : Int) + (b : Int)).toNat = 4 * a + b := by omega
          have hi4 : ¬ (16 : Int) ≤ 4 * (a : Int) + (b : Int) := by omega
          clear hN
          cases hp : peek p ((a : Int), (b : Int)) x.pl with
          | none =>
            as_aux_lemma =>
            have htk := take_none HS.out.nx ((a : Int), (b : Int)) x.pl hp
            have hno : x.pl < 0 ∨ (0 ≤ x.pl ∧ (N : Int) ≤ x.pl) := by
              have := peek_none hp
              have := HNB.out.1
              omega
            have HX2 : Hid _ := HX
            clear hp
            go_wp2_with fail
            refine htk.mono ?_
            rintro e w2 ⟨rfl, hB2⟩
            have HS2 : Hid (Sn w w2 n h p V T1) := HS.out.below hB2
            have hbx2 : Box w2 bx (stepC x A' C') := HX.out.chg (Chg.of_below hB2) (fun e => e)
            have q0 := HS2.out.cell (4 * a + b) hk16
            rw [hVk] at q0
            have hRw := HS2.out.rows (4 * a + b) hk16
            rw [hVk] at hRw
            have hpl := place_any hRw HLE.out (Bs.nil w2) (by have := HNB.out.2; have := HNV.out; omega)
            clear htk hB2 HS HX2
            go_wp2_with fail
            refine hpl.mono ?_
            rintro e w3 ⟨r, rfl, _, q3, rfl⟩
            have HS3 : Hid (Sn w (w2.drewN q3) n h p V T1) := HS2.out.below (below_drewN (Below.refl _ _) q3)
            have hbx3 : Box (w2.drewN q3) bx (stepC x A' C') := hbx2.chg (Chg.drewN Non _ q3) (fun e => e)
            have q0' := HS3.out.cell (4 * a + b) hk16
            rw [hVk] at q0'
            have e3 := hbx3.at 3
            simp only [stepC] at e3
            obtain ⟨W3, hW3⟩ : ∃ W3, W3 = w2.drewN q3 := ⟨_, rfl⟩
            rw [← hW3] at HS3 q0' e3 ⊢
            clear hpl q0 hbx2 hbx3 hRw HS2 hW3 d0 d3 d4
            rcases hno with hno | hno
            · have hno2 : ¬ (0 : Int) ≤ x.pl := by omega
              have hno3 : decide ((0 : Int) ≤ x.pl) = false := decide_eq_false hno2
              clear hno
              go_wp2_with fail
              go_quiet (fail)
              obtain ⟨WT, hWT⟩ : ∃ WT, WT = W3.drewN nq := ⟨_, rfl⟩
              obtain ⟨pz, hpz⟩ : ∃ pz, pz = p := ⟨_, rfl⟩
              obtain ⟨Vz, hVz⟩ : ∃ Vz, Vz = V := ⟨_, rfl⟩
              obtain ⟨T4, hT4⟩ : ∃ T4, T4 = T1 := ⟨_, rfl⟩
              have HF : Hid (Sn w WT n h pz Vz T4 ∧ PermAll pz Vz) := by rw [hpz, hVz, hT4, hWT]; exact ⟨HS3.out.below (below_drewN (Below.refl _ _) nq), HP.out⟩
              rw [← hWT]
              clear hVk HS3 q0' e3 hpz hVz hT4 hWT hno2 hno3 HLE
              go_wp2_with fail
              exact key.out _ _ _ _ _ _ _ _ _ _ _ _ _ _ _ _ _ _ _ _ _ _ _ _ _ _ _ _ _ _ _ _ _ _ _ _ _ _ _ _ _ _ _ _ _ _ _ _ _ _ _ _ _ _ _ _ _ _ _ _ _ _ _ _ _ _ _ _ _ _ _ _ _ _ _ _ _ _ _ _ _ _ _ _ _ _ _ _ _ _ _ _ _ _ _ _ _ _ _ _ _ _ _ _ _ _ _ _ _ _ _ _ _ _ _ _ _ _ _ _ _ _ _ _ _ _ _ _ _ _ _ _ _ _ _ _ _ _ _ _ _ _ _ _ _ _ _ _ _ _ _ _ _ _ _ _ _ _ _ _ _ _ _ _ _ _ _ _ _ _ _ _ _ _ _ _ _ _ _ _ _ _ _ _ _ _ HF
            · obtain ⟨hn1, hn2⟩ := hno
              have hn3 : ¬ x.pl < (N : Int) := by omega
              have hn4 : ¬ x.pl < 0 := by omega
              go_wp2_with fail
              go_quiet (fail)
              obtain ⟨WT, hWT⟩ : ∃ WT, WT = W3.drewN nq := ⟨_, rfl⟩
              obtain ⟨pz, hpz⟩ : ∃ pz, pz = p := ⟨_, rfl⟩
              obtain ⟨Vz, hVz⟩ : ∃ Vz, Vz = V := ⟨_, rfl⟩
              obtain ⟨T4, hT4⟩ : ∃ T4, T4 = T1 := ⟨_, rfl⟩
              have HF : Hid (Sn w WT n h pz Vz T4 ∧ PermAll pz Vz) := by rw [hpz, hVz, hT4, hWT]; exact ⟨HS3.out.below (below_drewN (Below.refl _ _) nq), HP.out⟩
              rw [← hWT]
              clear hVk HS3 q0' e3 hpz hVz hT4 hWT HLE
              go_wp2_with fail
              exact key.out _ _ _ _ _ _ _ _ _ _ _ _ _ _ _ _ _ _ _ _ _ _ _ _ _ _ _ _ _ _ _ _ _ _ _ _ _ _ _ _ _ _ _ _ _ _ _ _ _ _ _ _ _ _ _ _ _ _ _ _ _ _ _ _ _ _ _ _ _ _ _ _ _ _ _ _ _ _ _ _ _ _ _ _ _ _ _ _ _ _ _ _ _ _ _ _ _ _ _ _ _ _ _ _ _ _ _ _ _ _ _ _ _ _ _ _ _ _ _ _ _ _ _ _ _ _ _ _ _ _ _ _ _ _ _ _ _ _ _ _ _ _ _ _ _ _ _ _ _ _ _ _ _ _ _ _ _ _ _ _ _ _ _ _ _ _ _ _ _ _ _ _ _ _ _ _ _ _ _ _ _ _ _ _ _ _ HF
          | some bb =>
            have htk := take_some HS.out.nx ((a : Int), (b : Int)) x.pl hp
            obtain ⟨hp0, hpi, hpb⟩ := peek_some hp
            have hpl1 : x.pl < (N : Int) := by have := HNB.out.1; omega
            have hpl2 : ¬ x.pl < 0 := by omega
            have HMB : Hid (bb ∈ bagOf p ((a : Int), (b : Int)) ∧ bb.length ≤ 1048576) := by
              have hm : bb ∈ bagOf p ((a : Int), (b : Int)) := by rw [← hpb]; exact List.getElem_mem hpi
              exact ⟨hm, (HS.out.nx.bag _).2 bb hm⟩
            have HPK : Hid (peek p ((a : Int), (b : Int)) x.pl = some bb) := hp
            clear hpb hpi hp
            go_wp2_with fail
            refine htk.mono ?_
            rintro e w2 ⟨A2, C2, rfl, ho2, hn2, hx2, hk2⟩
            have HS2 : Hid (Sn w w2 n h (takeP p ((a : Int), (b : Int)) x.pl.toNat) V (fun g => T1 g ∨ blk (.slice A2 bb.length C2) = some g)) := HS.out.net hx2 (fun _ => .inl) hk2
            obtain ⟨T2, HS2⟩ : ∃ T2, Hid (Sn w w2 n h (takeP p ((a : Int), (b : Int)) x.pl.toNat) V T2) := ⟨_, HS2⟩
            have hbx2 : Box w2 bx (stepC x A' C') := HX.out.kp hk2 HTx.out
            have q0 := HS2.out.cell (4 * a + b) hk16
            rw [hVk] at q0
            have hRw := HS2.out.rows (4 * a + b) hk16
            rw [hVk] at hRw
            have hpl := place_any hRw HLE.out (Bs.of_owns ho2) (by have := HNB.out.2; have := HNV.out; omega)
            clear htk hk2 hx2 hn2 ho2 HS
            go_wp2_with fail
            refine hpl.mono ?_
            rintro e w3 ⟨r, rfl, hr, q3, rfl⟩
            obtain ⟨i, y, rfl, hiy, hyb⟩ : ∃ (i : Nat) (y : List UInt8 × Value), r = i ∧ (V (4 * a + b)).2[i]? = some y ∧ y.1 = bb := by
              rcases hr with ⟨_, hall⟩ | hr
              · exfalso
                have hm := (HP.out (4 * a + b) hk16).mem_iff.2 (by rw [hkq]; exact HMB.out.1)
                obtain ⟨y, hy, e⟩ := List.mem_map.1 hm
                exact hall y hy e
              · exact hr
            have hiN : i < N := by rw [HNV.out]; exact (List.getElem?_eq_some_iff.1 hiy).1
            have HS3 : Hid (Sn w (w2.drewN q3) n h (takeP p ((a : Int), (b : Int)) x.pl.toNat) V T2) := HS2.out.below (below_drewN (Below.refl _ _) q3)
            have hbx3 : Box (w2.drewN q3) bx (stepC x A' C') := hbx2.chg (Chg.drewN Non _ q3) (fun e => e)
            have q0' := HS3.out.cell (4 * a + b) hk16
            rw [hVk] at q0'
            have e3 := hbx3.at 3
            simp only [stepC] at e3
            obtain ⟨W3, hW3⟩ : ∃ W3, W3 = w2.drewN q3 := ⟨_, rfl⟩
            rw [← hW3] at HS3 q0' e3 ⊢
            have HIY : Hid ((V (4 * a + b)).2[i]? = some y ∧ y.1 = bb ∧ N = (V (4 * a + b)).2.length) := ⟨hiy, hyb, HNV.out⟩
            have HVK : Hid ((V (4 * a + b)).1 = .slice Ak N Ck) := hVk
            have hid : ¬ (i : Int) < 0 := by omega
            clear hpl q0 hbx2 hbx3 hRw HS2 hW3 d0 d3 d4 hr hiy hyb hVk
            go_wp2_with fail
            go_quiet (fail)
            obtain ⟨W4, hW4⟩ : ∃ W4, W4 = W3.drewN nq := ⟨_, rfl⟩
            have HS4 : Hid (Sn w W4 n h (takeP p ((a : Int), (b : Int)) x.pl.toNat) V T2) := by rw [hW4]; exact HS3.out.below (below_drewN (Below.refl _ _) nq)
            rw [← hW4]
            clear hW4 HS3 q0' e3
            have q1 := HS4.out.cell (4 * a + b) hk16
            rw [HVK.out] at q1
            have f1 : W4.frozen? ⟨h, 4 * a + b, none⟩ = false := by obtain ⟨cs, q, _⟩ := HS4.out.box; exact frozen_at q _
            obtain ⟨g1, hg1⟩ : ∃ g1, Ak = some ⟨g1, 0, none⟩ := by
              have hR := HS4.out.rows (4 * a + b) hk16
              obtain ⟨g', _, _, e1, _⟩ := (show Rw W4 (.slice Ak N Ck) _ by rw [← HVK.out]; exact hR).at i (by rw [← HIY.out.2.2]; exact hiN)
              exact ⟨g', e1⟩
            subst hg1
            have hRd : Rw W4.drew (.slice (some ⟨g1, 0, none⟩) (V (4 * a + b)).2.length Ck) (V (4 * a + b)).2 := by
              have hR := (HS4.out.rows (4 * a + b) hk16).below (Below.refl _ _).drew
              rw [HVK.out, HIY.out.2.2] at hR; exact hR
            have hCk : N ≤ Ck := by
              rcases hRd.row.2 with ⟨e, _⟩ | ⟨_, _, _, e, _, _, e2, _⟩
              · cases e
              · cases e; have := HIY.out.2.2; omega
            have hNl : (V (4 * a + b)).2.length ≤ 1000 := by have := HNB.out.2; have := HIY.out.2.2; omega
            obtain ⟨v1, w5, A6, C6, w6, hr1, hr2, hR6, hb5, hb6, hbk6⟩ := hRd.cut (i := i) (by have := HIY.out.2.2; omega) hNl (if Ck = i + 1 then 0 else i + 1) (Ck - (i + 1)) (by
              by_cases e : Ck = i + 1
              · exact .inr (by have := HIY.out.2.2; omega)
              · rw [if_neg e]; exact .inl rfl)
            rw [← HIY.out.2.2] at hr2 hR6 hbk6
            clear HX
            have k1 : W4.drew.cell? ⟨h, 4 * a + b, none⟩ = some (.slice (some ⟨g1, 0, none⟩) N Ck) := q1
            have k2 : (W4.drew.alloc (.cells #[] 27)).cell? ⟨h, 4 * a + b, none⟩ = some (.slice (some ⟨g1, 0, none⟩) N Ck) := by
              rw [World.cell?_of_block (Below.heap_alloc W4.drew _ h (World.block_lt_of_cell? W4.drew _ k1))]; exact k1
            have k3 : w5.cell? ⟨h, 4 * a + b, none⟩ = some (.slice (some ⟨g1, 0, none⟩) N Ck) := by
              rw [World.cell?_of_block (hb5.block h (World.block_lt_of_cell? W4.drew _ k1))]; exact k1
            have k4 : w6.frozen? ⟨h, 4 * a + b, none⟩ = false := by
              obtain ⟨cs, q, _⟩ := (HS4.out.below (Below.refl _ _).drew).box
              exact frozen_at (by rw [hb6.block h (heap_lt q)]; exact q) _
            have k5 : w6.cell? ⟨h, 4 * a + b, none⟩ = some (.slice (some ⟨g1, 0, none⟩) N Ck) := by
              rw [World.cell?_of_block (hb6.block h (World.block_lt_of_cell? W4.drew _ k1))]; exact k1
            obtain ⟨T4, HF⟩ : ∃ T4, Hid (Sn w (w6.setCell ⟨h, 4 * a + b, none⟩ (.slice A6 (N - 1) C6)) n h (takeP p ((a : Int), (b : Int)) x.pl.toNat) (updV V (4 * a + b) (.slice A6 (N - 1) C6, (V (4 * a + b)).2.eraseIdx i)) T4 ∧ PermAll (takeP p ((a : Int), (b : Int)) x.pl.toNat) (updV V (4 * a + b) (.slice A6 (N - 1) C6, (V (4 * a + b)).2.eraseIdx i))) := by
              have s5 := HS4.out.below (Below.refl _ _).drew
              obtain ⟨T4, s6⟩ := s5.put hk16 (v' := .slice A6 (N - 1) C6) (L' := (V (4 * a + b)).2.eraseIdx i) ((Chg.of_below hb6).weak (fun _ _ e => e.elim)) hR6 (fun g hg => .inr (hbk6 g hg)) (fun x hx g hg => .inl (s5.te _ hk16 x (List.mem_of_mem_eraseIdx hx) g hg))
              refine ⟨T4, s6, ?_⟩
              have hpp := HPK.out
              rw [← hkq] at hpp ⊢
              exact perm_take HP.out (4 * a + b) hk16 hpp HIY.out.1 HIY.out.2.1 _
            replace hr1 : (Builtin.append_ #[42, 42] 42 #[.slice (some ⟨W4.heap.size, 0, none⟩) 0 0, .slice (some ⟨g1, 0, none⟩) i Ck]).run Try.prog (W4.alloc (.cells #[] 27)).drew = .ok v1 w5 := hr1
            replace k2 : (W4.alloc (.cells #[] 27)).drew.cell? ⟨h, 4 * a + b, none⟩ = some (.slice (some ⟨g1, 0, none⟩) N Ck) := k2
            obtain ⟨O7, hO7⟩ : ∃ O7, O7 = (if Ck = i + 1 then 0 else i + 1) := ⟨_, rfl⟩
            rw [← hO7] at hr2
            have hif : (if Ck = i + 1 then some (⟨g1, 0, none⟩ : Addr) else some ⟨g1, i + 1, none⟩) = some ⟨g1, O7, none⟩ := by
              rw [hO7]; split <;> rfl
            have hiC : i ≤ Ck := by omega
            have hiC2 : i + 1 ≤ N := by omega
            have hiC3 : i + 1 ≤ Ck := by omega
            clear hO7
            have hi5 : (i : Int) ≤ (N : Int) := by omega
            have hi6 : (i : Int) + 1 ≤ (N : Int) := by omega
            have hi7 : (0 : Int) ≤ (i : Int) := by omega
            have hi9 : (0 : Int) ≤ (i : Int) + 1 := by omega
            have hi8 : IntKind.i64.wrap ((i : Int) + 1) = (i : Int) + 1 := by rw [IntKind.wrap_i64]; have := HNB.out.2; omega
            clear hRd hR6 hbk6 hb5 hb6 hNl HS4 q1 f1 HMB HPK
            go_wp2_with fail
            go_region_law (first
              | (refine step_app2 rfl (.tmp 115) (.tmp 120) rfl _ _ _ _ (by first | (simp [Act.eval]; done) | (simp [Act.eval, Act.put]; done) | rfl) (by first | (simp [Act.eval]; done) | (simp [Act.eval, Act.put]; done) | rfl) hr1 ?_)
              | (refine step_app2 rfl (.tmp 121) (.tmp 127) rfl _ _ _ _ (by first | (simp [Act.eval]; done) | (simp [Act.eval, Act.put]; done) | rfl) (by first | (simp [Act.eval]; done) | (simp [Act.eval, Act.put]; done) | rfl) hr2 ?_))
            all_goals
              show kA _ _
              exact key.out _ _ _ _ _ _ _ _ _ _ _ _ _ _ _ _ _ _ _ _ _ _ _ _ _ _ _ _ _ _ _ _ _ _ _ _ _ _ _ _ _ _ _ _ _ _ _ _ _ _ _ _ _ _ _ _ _ _ _ _ _ _ _ _ _ _ _ _ _ _ _ _ _ _ _ _ _ _ _ _ _ _ _ _ _ _ _ _ _ _ _ _ _ _ _ _ _ _ _ _ _ _ _ _ _ _ _ _ _ _ _ _ _ _ _ _ _ _ _ _ _ _ _ _ _ _ _ _ _ _ _ _ _ _ _ _ _ _ _ _ _ _ _ _ _ _ _ _ _ _ _ _ _ _ _ _ _ _ _ _ _ _ _ _ _ _ _ _ _ _ _ _ _ _ _ _ _ _ _ _ _ _ _ _ _ _ HF
        · as_aux_lemma =>
          have hk16 : 4 * a + b < 16 := by omega
          have hkq : kj (4 * a + b) = ((a : Int), (b : Int)) := kj_at a b hb
          obtain ⟨Ak, Ck, hVk⟩ := (HS.out.rows (4 * a + b) hk16).form
          obtain ⟨N, hN⟩ : ∃ N, N = (V (4 * a + b)).2.length := ⟨_, rfl⟩
          rw [← hN] at hVk
          have HNV : Hid (N = (V (4 * a + b)).2.length ∧ (V (4 * a + b)).1 = .slice Ak N Ck) := ⟨hN, hVk⟩
          have HNB : Hid (N = (bagOf p ((a : Int), (b : Int))).length ∧ N ≤ 32) := by
            have h1 := HP.out.len (4 * a + b) hk16
            have h2 := (HS.out.nx.bag (kj (4 * a + b))).1
            rw [hkq] at h1 h2
            exact ⟨by omega, by omega⟩
          have hi0 : ¬ (4 * (a : Int) + (b : Int)) < 0 := by omega
          have hi1 : (4 * (a : Int) + (b : Int)) < 16 := by omega
          have hi2 : (0 : Int) ≤ 4 * (a : Int) + (b : Int) := by omega
          have hi3 : (4 * (a : Int) + (b : Int)).toNat = 4 * a + b := by omega
          have hi4 : ¬ (16 : Int) ≤ 4 * (a : Int) + (b : Int) := by omega
          have hpk := peeked_any HS.out.nx ((a : Int), (b : Int)) x.pl HXR.out.2.2.2
          clear hN hVk
          go_wp2_with fail
          refine hpk.mono ?_
          rintro e w2 (⟨rfl, hpn, T2, hT2, hnx2, hkp2⟩ | ⟨A2, C2, bb, rfl, hps, ho2, T2, hT2, hnx2, hb2, hkp2⟩)
          · have HS2 : Hid (Sn w w2 n h p V T2) := HS.out.net hnx2 hT2 hkp2
            have hbx2 : Box w2 bx (stepC x A' C') := HX.out.kp hkp2 HTx.out
            have e3 := hbx2.at 3
            simp only [stepC] at e3
            have htw := at_twc HS2.out a b x.pl
            have hz : twiceR p ((a : Int), (b : Int)) x.pl = (false, p) := by unfold twiceR; rw [hpn]
            rw [hz] at htw
            clear hpk hpn hT2 hnx2 hkp2 hz HS d0 d3 d4 hbx2
            go_wp2_with fail
            refine htw.mono ?_
            rintro e w3 ⟨rfl, HS3, hk3⟩
            clear htw
            have HF : Hid (Sn w w3 n h p V T2 ∧ PermAll p V) := ⟨HS3.out, HP.out⟩
            go_wp2_with fail
            exact key.out _ _ _ _ _ _ _ _ _ _ _ _ _ _ _ _ _ _ _ _ _ _ _ _ _ _ _ _ _ _ _ _ _ _ _ _ _ _ _ _ _ _ _ _ _ _ _ _ _ _ _ _ _ _ _ _ _ _ _ _ _ _ _ _ _ _ _ _ _ _ _ _ _ _ _ _ _ _ _ _ _ _ _ _ _ _ _ _ _ _ _ _ _ _ _ _ _ _ _ _ _ _ _ _ _ _ _ _ _ _ _ _ _ _ _ _ _ _ _ _ _ _ _ _ _ _ _ _ _ _ _ _ _ _ _ _ _ _ _ _ _ _ _ _ _ _ _ _ _ _ _ _ _ _ _ _ _ _ _ _ _ _ _ _ _ _ _ _ _ _ _ _ _ _ _ _ _ _ _ _ _ _ _ _ _ _ HF
          · have HS2 : Hid (Sn w w2 n h p V T2) := HS.out.net hnx2 hT2 hkp2
            have hbx2 : Box w2 bx (stepC x A' C') := HX.out.kp hkp2 HTx.out
            have e3 := hbx2.at 3
            simp only [stepC] at e3
            have htw := at_twc HS2.out a b x.pl
            have HO2 : Hid (w2.ownsRow 0 5 1 (.slice A2 bb.length C2) bb.length (bv bb) ∧ ∀ g, blk (.slice A2 bb.length C2) = some g → T2 g) := ⟨ho2, hb2⟩
            by_cases h32 : N < 32
            · have hz : twiceR p ((a : Int), (b : Int)) x.pl = (true, p ++ [(kj (4 * a + b), bb)]) := by unfold twiceR; rw [hps]; simp only; rw [if_pos (by have := HNB.out; omega), hkq]
              rw [hz] at htw
              clear hpk hps hT2 hnx2 hkp2 hz HS d0 d3 d4 hbx2 ho2 hb2
              go_wp2_with fail
              refine htw.mono ?_
              rintro e w3 ⟨rfl, HS3, hk3⟩
              clear htw
              have q0 := HS3.out.cell (4 * a + b) hk16
              rw [HNV.out.2] at q0
              have ho3 : w3.ownsRow 0 5 1 (.slice A2 bb.length C2) bb.length (bv bb) := owns_keepT HO2.out.1 hk3 (fun g hg e => e (HO2.out.2 g hg))
              obtain ⟨A8, C8, w8, hrun, ⟨k1, k2, k3, k4⟩, HFx⟩ := app_step HS3.out hk16 (by have := HNB.out.2; have := HNV.out.1; omega) (Below.refl _ _) ho3 (fun g hg => .inl (HO2.out.2 g hg))
              rw [HNV.out.2, ← HNV.out.1] at hrun
              rw [HNV.out.2] at k1 k2 k3
              rw [← HNV.out.1] at HFx
              have hh3 : h < w3.heap.size := World.block_lt_of_cell? w3 _ q0
              obtain ⟨T4, HFy⟩ := HFx.out
              obtain ⟨Vz, HF⟩ : ∃ Vz, Hid (Sn w (w8.setCell ⟨h, 4 * a + b, none⟩ (.slice A8 (N + 1) C8)) n h (p ++ [(kj (4 * a + b), bb)]) Vz T4 ∧ PermAll (p ++ [(kj (4 * a + b), bb)]) Vz) := ⟨_, HFy, perm_send HP.out (4 * a + b) bb (.slice A8 (N + 1) C8) (.slice A2 bb.length C2)⟩
              have hn32 : (N : Int) < 32 := by omega
              clear HFx HFy HS3 HS2 ho3 hk3
              go_wp2_with (first
                | (at_builtin; refine wpList_appr 42 rfl (.tmp 167) (.tmp 169) rfl _ _ _ (by simp [Act.eval]) (by simp [Act.eval]) hrun ?_)
                | fail)
              clear hrun k1 k2 k3 k4 hh3 q0
              exact key.out _ _ _ _ _ _ _ _ _ _ _ _ _ _ _ _ _ _ _ _ _ _ _ _ _ _ _ _ _ _ _ _ _ _ _ _ _ _ _ _ _ _ _ _ _ _ _ _ _ _ _ _ _ _ _ _ _ _ _ _ _ _ _ _ _ _ _ _ _ _ _ _ _ _ _ _ _ _ _ _ _ _ _ _ _ _ _ _ _ _ _ _ _ _ _ _ _ _ _ _ _ _ _ _ _ _ _ _ _ _ _ _ _ _ _ _ _ _ _ _ _ _ _ _ _ _ _ _ _ _ _ _ _ _ _ _ _ _ _ _ _ _ _ _ _ _ _ _ _ _ _ _ _ _ _ _ _ _ _ _ _ _ _ _ _ _ _ _ _ _ _ _ _ _ _ _ _ _ _ _ _ _ _ _ _ _ HF
            · have hz : twiceR p ((a : Int), (b : Int)) x.pl = (false, p) := by unfold twiceR; rw [hps]; simp only; rw [if_neg (by have := HNB.out; omega)]
              rw [hz] at htw
              clear hpk hps hT2 hnx2 hkp2 hz HS d0 d3 d4 hbx2 ho2 hb2
              go_wp2_with fail
              refine htw.mono ?_
              rintro e w3 ⟨rfl, HS3, hk3⟩
              clear htw
              have q0 := HS3.out.cell (4 * a + b) hk16
              rw [HNV.out.2] at q0
              have HF : Hid (Sn w w3 n h p V T2 ∧ PermAll p V) := ⟨HS3.out, HP.out⟩
              have hn32 : ¬ (N : Int) < 32 := by omega
              clear HS3 HS2 hk3
              go_wp2_with fail
              exact key.out _ _ _ _ _ _ _ _ _ _ _ _ _ _ _ _ _ _ _ _ _ _ _ _ _ _ _ _ _ _ _ _ _ _ _ _ _ _ _ _ _ _ _ _ _ _ _ _ _ _ _ _ _ _ _ _ _ _ _ _ _ _ _ _ _ _ _ _ _ _ _ _ _ _ _ _ _ _ _ _ _ _ _ _ _ _ _ _ _ _ _ _ _ _ _ _ _ _ _ _ _ _ _ _ _ _ _ _ _ _ _ _ _ _ _ _ _ _ _ _ _ _ _ _ _ _ _ _ _ _ _ _ _ _ _ _ _ _ _ _ _ _ _ _ _ _ _ _ _ _ _ _ _ _ _ _ _ _ _ _ _ _ _ _ _ _ _ _ _ _ _ _ _ _ _ _ _ _ _ _ _ _ _ _ _ _ HF
        · as_aux_lemma =>
          have hcl := at_clr HS.out a b
          go_wp2_with fail
          refine hcl.mono ?_
          rintro e w2 ⟨rfl, HS2⟩
          clear hcl HS
          obtain ⟨T3, s3⟩ := HS2.out.put (k := 4 * a + b) (by omega) (v' := .slice none 0 0) (L' := []) (Chg.refl _ _) (Rw.nil _) (fun g e => by cases e) (fun x hx => by simp at hx)
          obtain ⟨T4, s4⟩ := s3.put (k := 4 * b + a) (by omega) (v' := .slice none 0 0) (L' := []) (Chg.refl _ _) (Rw.nil _) (fun g e => by cases e) (fun x hx => by simp at hx)
          have fz : ∀ i, w2.frozen? ⟨h, i, none⟩ = false := fun i => by obtain ⟨cs, q, _⟩ := HS2.out.box; exact frozen_at q i
          have fz3 : ∀ i, (w2.setCell ⟨h, 4 * a + b, none⟩ (.slice none 0 0)).frozen? ⟨h, i, none⟩ = false := fun i => by obtain ⟨cs, q, _⟩ := s3.box; exact frozen_at q i
          have q1 := HS2.out.cell (4 * a + b) (by omega)
          have q2 := s3.cell (4 * b + a) (by omega)
          obtain ⟨pz, hpz⟩ : ∃ pz, pz = clearP p a b := ⟨_, rfl⟩
          have HF : Hid (Sn w ((w2.setCell ⟨h, 4 * a + b, none⟩ (.slice none 0 0)).setCell ⟨h, 4 * b + a, none⟩ (.slice none 0 0)) n h (clearP p a b) (updV (updV V (4 * a + b) (.slice none 0 0, [])) (4 * b + a) (.slice none 0 0, [])) T4 ∧ PermAll (clearP p a b) (updV (updV V (4 * a + b) (.slice none 0 0, [])) (4 * b + a) (.slice none 0 0, []))) := ⟨s4, perm_clear HP.out a b ha hb _⟩
          clear s3 s4
          go_wp2_with fail
          clear q1 q2 fz fz3 HS2 d0 d3 d4
          obtain ⟨WT, hWT⟩ : ∃ WT, WT = (w2.setCell ⟨h, 4 * a + b, none⟩ (.slice none 0 0)).setCell ⟨h, 4 * b + a, none⟩ (.slice none 0 0) := ⟨_, rfl⟩
          rw [← hWT]
          rw [← hWT] at HF
          obtain ⟨Vz, hVz⟩ : ∃ Vz, Vz = updV (updV V (4 * a + b) (.slice none 0 0, [])) (4 * b + a) (.slice none 0 0, []) := ⟨_, rfl⟩
          rw [← hVz, ← hpz] at HF
          clear hWT hVz hpz
          exact key.out _ _ _ _ _ _ _ _ _ _ _ _ _ _ _ _ _ _ _ _ _ _ _ _ _ _ _ _ _ _ _ _ _ _ _ _ _ _ _ _ _ _ _ _ _ _ _ _ _ _ _ _ _ _ _ _ _ _ _ _ _ _ _ _ _ _ _ _ _ _ _ _ _ _ _ _ _ _ _ _ _ _ _ _ _ _ _ _ _ _ _ _ _ _ _ _ _ _ _ _ _ _ _ _ _ _ _ _ _ _ _ _ _ _ _ _ _ _ _ _ _ _ _ _ _ _ _ _ _ _ _ _ _ _ _ _ _ _ _ _ _ _ _ _ _ _ _ _ _ _ _ _ _ _ _ _ _ _ _ _ _ _ _ _ _ _ _ _ _ _ _ _ _ _ _ _ _ _ _ _ _ _ _ _ _ _ HF
    · go_wp2_with fail
      go_ret
      exact ⟨rfl, HR.out.1.bel⟩
end Go.Proofs.Ytjclegiohhbkpaa
