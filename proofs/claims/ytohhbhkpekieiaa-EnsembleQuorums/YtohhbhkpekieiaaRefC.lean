/- The document's config: the walk of Check. -/
import Derived.Test.YtohhbhkpekieiaaRefE
import Derived.Test.YtohhbhkpekieiaaKeptE
import Derived.Lib.QuietBelow
import Derived.BigQuiet
namespace Go.Proofs.Ytohhbhkpekieiaa
open Go.RowKit Go.Sort
set_option linter.unusedSimpArgs false
set_option maxRecDepth 100000 in
set_option maxHeartbeats 4000000 in
theorem rf4Check_any {w : World} {v : Value} {l : List Mem} (h : Mems w v l) (ver : Int) :
    Calls Try.prog 11 #[.agg #[.int .i64 ver, v]] w fun e w' => e = .returned (.int .i64 (chk ver l)) ∧ Below w.heap.size w w' := by
  have HM : Hid (Mems w v l) := h
  obtain ⟨A, C, rfl⟩ := h.form
  clear h
  by_cases h7 : 7 < l.length
  · have h7' : (7 : Int) < l.length := by omega
    rw [show chk ver l = 3 by simp [chk, h7]]
    go_enter Try.func11, Try.ntmps11
    go_wp2
    go_ret
    exact ⟨rfl, (Below.refl _ _).alloc (Nat.le_refl _) _⟩
  · have h7' : ¬ (7 : Int) < l.length := by omega
    generalize hK : chk ver l = K
    have HK : Hid (chk ver l = K) := hK
    clear hK
    go_enter Try.func11, Try.ntmps11
    go_wp2_with fail
    go_loopw [3, 4] (fun wt i wr => ∃ k : Nat, i = .int .i64 k ∧ k ≤ l.length ∧ wt = .int .i64 (wsum (fun _ => true) (l.take k)) ∧ fitAll 0 (l.take k) = true ∧ wr.heap[w.heap.size]? = some (.cells #[.int .i64 ver, .slice A l.length C] 25 (0, 0)) ∧ Below w.heap.size w wr) (fun _ i _ => l.length - (intOf i).toNat)
    case atStart =>
      exact ⟨0, rfl, by omega, rfl, rfl, heap_alloc_new w _, (Below.refl _ _).alloc (Nat.le_refl _) _⟩
    case round =>
      obtain ⟨k, rfl, hk, rfl, hfit, hc, hB⟩ := hrel
      have HB : Hid (Below w.heap.size w wr) := hB
      have HC : Hid (wr.heap[w.heap.size]? = some (.cells #[.int .i64 ver, .slice A l.length C] 25 (0, 0))) := hc
      have HFT : Hid (fitAll 0 (l.take k) = true) := hfit
      have hlt1 := heap_lt hc
      have z0 : wr.cell? ⟨w.heap.size, 0, none⟩ = some (.int .i64 ver) := by rw [cell_at hc]; rfl
      have z1 : wr.cell? ⟨w.heap.size, 1, none⟩ = some (.slice A l.length C) := by rw [cell_at hc]; rfl
      clear hB hc hfit
      by_cases hlt : k < l.length
      · obtain ⟨b, o, rfl, hb, c0, c1, c2, c3⟩ := (HM.out.below' HB.out).at' k hlt
        have HF1 : Hid (fitOne (lastId 0 (l.take k)) (l[k]'hlt) = false → K = 140) := fun he => HK.out.symm.trans (chk_bad h7 (fit_bad hlt he))
        have HF2 : Hid (fitOne (lastId 0 (l.take k)) (l[k]'hlt) = true → fitAll 0 (l.take (k + 1)) = true) := fun he => fit_next hlt HFT.out he
        have HSN : Hid (wsum (fun _ => true) (l.take (k + 1)) = wsum (fun _ => true) (l.take k) + (l[k]'hlt).weight) := by show _ = _; rw [take_snoc hlt, sum_snoc]
        have hwb := wsum_bd (fun _ => true) (l.take k) (fitAll_w _ 0 HFT.out)
        have htl : (l.take k).length = k := by rw [List.length_take]; omega
        rw [htl] at hwb
        have hmw : memOk (l[k]'hlt) = true → 0 ≤ (l[k]'hlt).weight ∧ (l[k]'hlt).weight ≤ 1000 := fun he => fitRole_w (by simp only [memOk, Bool.and_eq_true] at he; exact he.2)
        have HPREV : Hid (∀ j : Nat, k = j + 1 → ∃ p : Int, wr.cell? ⟨b, o + j * 4, none⟩ = some (.int .i64 p) ∧ fitOne (lastId 0 (l.take k)) (l[k]'hlt) = (memOk (l[k]'hlt) && decide (p < (l[k]'hlt).id))) := by
          intro j hj
          subst hj
          obtain ⟨b', o', he, _, d0, _⟩ := (HM.out.below' HB.out).at' j (by omega)
          cases he
          exact ⟨_, d0, fit_more hlt HFT.out _⟩
        have HZ : Hid (k = 0 → fitOne (lastId 0 (l.take k)) (l[k]'hlt) = memOk (l[k]'hlt)) := by
          intro hj
          subst hj
          exact fit_zero _
        generalize wsum (fun _ => true) (l.take k) = W at *
        generalize fitOne (lastId 0 (l.take k)) (l[k]'hlt) = FO at HF1 HF2 HPREV HZ
        generalize (l[k]'hlt) = m at c0 c1 c2 c3 HSN hmw HPREV HZ
        obtain ⟨mi, mr, mw, mg⟩ := m
        dsimp only at c0 c1 c2 c3 hmw HSN HPREV
        have mQ := fun d os => Calls.regrown_of (rf4member_any (grow (redrawn wr d) os) mi mr mw mg)
        generalize memOk ⟨mi, mr, mw, mg⟩ = MO at hmw mQ HPREV HZ
        have y1 := fun d os => cell_regrown z1 d os
        clear htl z0
        rcases Nat.eq_zero_or_pos k with hk0 | hkp
        · have HZ0 : Hid (FO = MO) := HZ.out hk0
          clear HPREV HZ
          subst hk0
          simp only [Nat.zero_mul, Nat.add_zero] at c0 c1 c2 c3
          have e0 := fun d os => cell_regrown c0 d os
          have e1 := fun d os => cell_regrown c1 d os
          have e2 := fun d os => cell_regrown c2 d os
          have e3 := fun d os => cell_regrown c3 d os
          clear c0 c1 c2 c3
          cases MO with
          | false =>
            obtain rfl : K = 140 := HF1.out HZ0.out
            clear HF1 HF2 hmw hwb
            go_wp2_with fail
            refine wp_region_quiet_below (by kernel_rfl) (by kernel_rfl) ?_
            repeat (go_big_quiet_step ((go_at_call 34; exact mQ _ _)))
            refine wpQuiet_nil ?_
            intro _ hw'
            obtain ⟨⟨dq, osq⟩, hw''⟩ := hw'
            subst hw''
            go_wp2
            go_ret
            exact ⟨rfl, below_rg HB.out dq osq⟩
          | true =>
            obtain ⟨g1, g2⟩ := hmw rfl
            have HF3 : Hid (fitAll 0 (l.take (0 + 1)) = true) := HF2.out HZ0.out
            clear HF1 HF2 hmw
            go_wp2_with fail
            refine wp_region_quiet_below (by kernel_rfl) (by kernel_rfl) ?_
            repeat (go_big_quiet_step ((go_at_call 34; exact mQ _ _)))
            refine wpQuiet_nil ?_
            intro _ hw'
            obtain ⟨⟨dq, osq⟩, hw''⟩ := hw'
            subst hw''
            have hB3 := below_rg HB.out dq osq
            have HC3 : Hid ((grow (redrawn wr dq) osq).heap[w.heap.size]? = some (.cells #[.int .i64 ver, .slice (some ⟨b, o, none⟩) l.length C] 25 (0, 0))) := by show _ = _; rw [(below_regrown wr dq osq).block _ hlt1]; exact HC.out
            go_wp2
            exact ⟨⟨0 + 1, by go_num, by omega, by rw [HSN.out], HF3.out, HC3.out, hB3⟩, by simp [intOf]; omega⟩
        · obtain ⟨j, hj⟩ : ∃ j, k = j + 1 := ⟨k - 1, by omega⟩
          obtain ⟨p, d0, hp⟩ := HPREV.out j hj
          have HP : Hid (FO = (MO && decide (p < mi))) := hp
          have hkp' : (0 : Int) < k := by omega
          have hjk : (k : Int) - 1 = (j : Int) := by omega
          have hjl : j < l.length := by omega
          have HJ : Hid (k = j + 1) := hj
          clear hj hp HPREV HZ
          have e0 := fun d os => cell_regrown c0 d os
          have e1 := fun d os => cell_regrown c1 d os
          have e2 := fun d os => cell_regrown c2 d os
          have e3 := fun d os => cell_regrown c3 d os
          have e4 := fun d os => cell_regrown d0 d os
          clear c0 c1 c2 c3 d0
          cases MO with
          | false =>
            obtain rfl : K = 140 := HF1.out (by rw [HP.out]; rfl)
            clear HF1 HF2 hmw hwb
            go_wp2_with fail
            refine wp_region_quiet_below (by kernel_rfl) (by kernel_rfl) ?_
            repeat (go_big_quiet_step ((go_at_call 34; exact mQ _ _)))
            refine wpQuiet_nil ?_
            intro _ hw'
            obtain ⟨⟨dq, osq⟩, hw''⟩ := hw'
            subst hw''
            go_wp2
            go_ret
            exact ⟨rfl, below_rg HB.out dq osq⟩
          | true =>
            obtain ⟨g1, g2⟩ := hmw rfl
            by_cases hlp : p < mi
            · have HF3 : Hid (fitAll 0 (l.take (k + 1)) = true) := HF2.out (by rw [HP.out]; simp [hlp])
              have hlp' : ¬ mi ≤ p := by omega
              clear HF1 HF2 hmw
              go_wp2_with fail
              refine wp_region_quiet_below (by kernel_rfl) (by kernel_rfl) ?_
              repeat (go_big_quiet_step ((go_at_call 34; exact mQ _ _)))
              refine wpQuiet_nil ?_
              intro _ hw'
              obtain ⟨⟨dq, osq⟩, hw''⟩ := hw'
              subst hw''
              have hB3 := below_rg HB.out dq osq
              have HC3 : Hid ((grow (redrawn wr dq) osq).heap[w.heap.size]? = some (.cells #[.int .i64 ver, .slice (some ⟨b, o, none⟩) l.length C] 25 (0, 0))) := by show _ = _; rw [(below_regrown wr dq osq).block _ hlt1]; exact HC.out
              go_wp2
              exact ⟨⟨k + 1, by go_num, by omega, by rw [HSN.out], HF3.out, HC3.out, hB3⟩, by simp [intOf]; omega⟩
            · obtain rfl : K = 140 := HF1.out (by rw [HP.out]; simp [hlp])
              have hlp' : mi ≤ p := by omega
              clear HF1 HF2 hmw
              go_wp2_with fail
              refine wp_region_quiet_below (by kernel_rfl) (by kernel_rfl) ?_
              repeat (go_big_quiet_step ((go_at_call 34; exact mQ _ _)))
              refine wpQuiet_nil ?_
              intro _ hw'
              obtain ⟨⟨dq, osq⟩, hw''⟩ := hw'
              subst hw''
              go_wp2
              go_ret
              exact ⟨rfl, below_rg HB.out dq osq⟩
      · have hkk : k = l.length := by omega
        subst hkk
        have hce := chk_end (ver := ver) h7 (by have := HFT.out; rwa [List.take_length] at this)
        rw [HK.out] at hce
        rw [List.take_length]
        generalize wsum (fun _ => true) l = W at *
        by_cases hW : W = 0
        · obtain rfl : K = 140 := hce.trans (if_pos (Or.inl hW))
          clear hce
          subst hW
          go_wp2
          go_ret
          exact ⟨rfl, HB.out⟩
        · have hWb : (W == 0) = false := by simpa using hW
          by_cases hv : ver < 0
          · obtain rfl : K = 140 := hce.trans (if_pos (Or.inr (Or.inl hv)))
            clear hce
            go_wp2
            go_ret
            exact ⟨rfl, HB.out⟩
          · by_cases hv2 : 4611686018427387904 < ver
            · obtain rfl : K = 140 := hce.trans (if_pos (Or.inr (Or.inr hv2)))
              clear hce
              go_wp2
              go_ret
              exact ⟨rfl, HB.out⟩
            · obtain rfl : K = 0 := hce.trans (if_neg (by omega))
              clear hce
              go_wp2
              go_ret
              exact ⟨rfl, HB.out⟩
end Go.Proofs.Ytohhbhkpekieiaa
