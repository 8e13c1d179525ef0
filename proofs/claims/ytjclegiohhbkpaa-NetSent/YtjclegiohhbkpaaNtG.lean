/- The walk of Take, where there is a packet. -/
import Derived.Test.YtjclegiohhbkpaaNtF
namespace Go.Proofs.Ytjclegiohhbkpaa
open Go.RowKit Go.MapKept
open Go.Sort (Holds putRow)

theorem zero27 (w : World) : (zeroValue 27).run Try.prog w = .ok (encS (none, 0, 0)) w := Try.zeroValue27 w
theorem step_del {w : World} {ops : Array Oper} {o : Oper} {a : Act} {K : Act → World → Prop} {Q : Exit → Act → World → Prop} {E : Prop} (hgd : o.guard = none) (m x : Operand) (ho : o.op = Op.call { callee := Callee.builtin Builtin.delete, args := #[m, x], argTypes := #[38, 56] })
    (vm vx v' : Value) (w' : World) (hs : a.eval m = vm) (hx : a.eval x = vx) (hrun : (Builtin.delete_ #[38, 56] o.type #[vm, vx]).run Try.prog w = .ok v' w') (h : K (a.put o.dst v') w') :
    if Region.wanted o (yielded ops a.tmps) = true then Oper.wp Try.prog o a w K Q else E := by
  have hw : Region.wanted o (yielded ops a.tmps) = true := by simp [Region.wanted, hgd]
  rw [if_pos hw]
  unfold Oper.wp execOp
  simp only [ho, resolve, invoke, builtin, Sem.run_bind, Sem.run_pure, Result.andThen_ok, List.map_toArray, List.map_cons, List.map_nil, hs, hx, hrun]
  exact h
set_option maxRecDepth 100000 in
theorem take_in {w : World} {base n m : Nat} {L : List Bg} (h0 : Nk w base n m L) {l : List Pk} (hf : Fit L l) {k : Int × Int} {q : Bg} (hq : look k L = some q) (i : Nat) (hi : i < q.ps.length) {A : Option Addr} {N C : Nat} (hA : (q.ps[i]'hi).2 = .slice A N C) :
    Calls Try.prog 19 #[.pointer (some ⟨n, 0, none⟩), .int .i64 k.1, .int .i64 k.2, .int .i64 i] w fun e w' => e = .returned (.tuple #[.slice A N C, .bool true]) ∧ TakeEnd base n m L l k i (.slice A N C) w w' := by
  have h := h0.alloc (kB k)
  have hfi := find_in h hq i hi
  simp only [keyV] at hfi
  rw [hA] at hfi
  obtain ⟨i0, hi0, hz0, hz1, hz2⟩ := info_parts info27
  have hle := (h.fits q (look_some hq).1).2.1
  have hwr : IntKind.i64.wrap ((i : Int) + 1) = ((i + 1 : Nat) : Int) := by rw [Go.IntWalk.i64_in _ (by omega)]; omega
  go_enter Try.func19, Try.ntmps19
  go_wp2_with fail
  refine hfi.mono ?_
  rintro e w1 ⟨rfl, hB⟩
  obtain ⟨x0, x1⟩ := box_cells k hB
  have h1 := h.below hB
  have hc0 := cell_at h1.cell 0
  simp at hc0
  have hbw : Below w.heap.size w w1 := (below1 w (kB k)).trans (hB.mono (by simp))
  obtain ⟨g, cap, cur, hv, hb, hg, hc, hm, hs, ht⟩ := bag_form h1.drew hq
  have hlk := h1.drew.map.lookup k
  have hv' : valAt k L = .slice (some ⟨g, 0, none⟩) q.ps.length cap := by simp [valAt, hq, hv]
  rw [hv'] at hlk
  simp only [keyV] at hlk
  have hHold : Holds encS w1.drew g 0 ((q.ps.map Prod.snd).map partsOf).toArray := by
    refine holds_block encS hg ?_
    rw [parts_enc h1.drew (look_some hq).1]
    have ho := h1.drew.bags q (look_some hq).1
    rcases ho.2 with ⟨_, h0⟩ | ⟨g', cap', cur', hv2, _, hg', _, _, _, ht'⟩
    · omega
    · rw [hv] at hv2
      injection hv2 with e1
      injection e1 with e1
      injection e1 with e1
      subst e1
      rw [hg] at hg'
      cases hg'
      rw [Nat.mul_one] at ht'
      simpa using ht'
  have hdel := Try.slices_Delete encS (fun _ => rfl) (none, 0, 0) zero27 i0 hi0 hz1 g 0 cap i (i + 1) ((q.ps.map Prod.snd).map partsOf).toArray w1.drew hHold (by simpa using hc) (by unfold maxLen at hm; omega) (by omega) (by simp; omega)
  have HD : Hid (∀ {w6 : World} {j : Nat}, w6 = putRow encS (Go.Sort.ahead w1.drew j) g 0 (((q.ps.map Prod.snd).map partsOf).take i ++ ((q.ps.map Prod.snd).map partsOf).drop (i + 1) ++ List.replicate 1 (none, 0, 0)).toArray → _) := fun hw => del_math h1.drew hq i hi hv hw
  simp only [List.size_toArray, List.length_map, show i + 1 - i = 1 by omega] at hdel
  have HK : Hid (w.heap.size ≠ g ∧ n ≠ g ∧ m ≠ g ∧ w.heap.size < w1.heap.size ∧ n < w1.heap.size ∧ w.heap.size ≠ m ∧ n ≠ m) := by
    have a1 := (h1.bag_ne (look_some hq).1 (show blk q.v = some g by rw [hv]; rfl))
    have a2 := h0.lt g (.inr (.inr (.inl ⟨q, (look_some hq).1, by rw [hv]; rfl⟩)))
    have a3 := h0.map.lt
    have a4 := hB.size
    simp at a4
    exact ⟨by omega, Ne.symm a1.1, Ne.symm a1.2.1, by omega, heap_lt h1.cell, by omega, h1.ne⟩
  have HH : Hid (Nk w1.drew base n m L) := h1.drew
  have HV : Hid (q.v = .slice (some ⟨g, 0, none⟩) q.ps.length cap) := hv
  have HBW : Hid (Below w.heap.size w w1) := hbw
  go_wp2_with fail
  have HHF : Hid (Fit L l) := hf
  have HHQ : Hid (look k L = some q) := hq
  have HA : Hid ((q.ps[i]'hi).2 = .slice A N C) := hA
  have HX : Hid (w1.cell? ⟨w.heap.size, 0, none⟩ = some (.int .i64 k.1) ∧ w1.cell? ⟨w.heap.size, 1, none⟩ = some (.int .i64 k.2) ∧ w1.cell? ⟨n, 0, none⟩ = some (.map (some m))) := ⟨x0, x1, hc0⟩
  clear hf hq hA h0 h hfi h1 hbw hv hg ht hv' hHold hB
  go_region_with (go_at_call 34; refine hdel.mono ?_; rintro e w6 ⟨rfl, j6, hw6⟩; obtain ⟨c6, ho6⟩ := HD.out hw6; clear hw6)
  all_goals
    have y0 := (c6.cell (a := ⟨w.heap.size, 0, none⟩) HK.out.2.2.2.1 HK.out.1).trans HX.out.1
    have y1 := (c6.cell (a := ⟨w.heap.size, 1, none⟩) HK.out.2.2.2.1 HK.out.1).trans HX.out.2.1
    have y2 := (c6.cell (a := ⟨n, 0, none⟩) HK.out.2.2.2.2.1 HK.out.2.1).trans HX.out.2.2
    have hM6 := HH.out.map.keep c6 HK.out.2.2.1
    have c6' : Chg (fun x => x = g) w1.drew w6.drew := c6.trans (Chg.drew _ _)
    have ho6' := owns_keepT ho6 (Chg.drew Non _) (fun _ _ => id)
    have HE : Hid (∀ {w7 : World}, (1 < q.ps.length ∧ MapIs w7 m (putL ⟨k, .slice (some ⟨g, 0, none⟩) (q.ps.length - 1) cap, q.ps.eraseIdx i⟩ L)) ∨ (q.ps.length = 1 ∧ MapIs w7 m (delL k L)) → Chg (fun x => x = m) w6.drew w7 → TakeEnd base n m L l k i (.slice A N C) w w7) := by
      intro w7 hM7 c7
      have := take_bag HH.out HHF.out HHQ.out i hi HV.out c6' ho6' hM7 c7
      rw [HA.out] at this
      obtain ⟨L', g1, g2, g3, g4⟩ := this
      have gB : Chg (fun g => Sx n m L g ∧ blk (.slice A N C) ≠ some g) w w1.drew := ((Chg.of_below HBW.out).weak fun _ _ e => e.elim).trans (Chg.drew _ _)
      exact ⟨L', g1, g2, gB.trans g3, g4⟩
    have HKK : Hid (∀ w7, Chg (fun x => x = m) w6.drew w7 → w7.cell? ⟨w.heap.size, 0, none⟩ = some (.int .i64 k.1) ∧ w7.cell? ⟨w.heap.size, 1, none⟩ = some (.int .i64 k.2) ∧ w7.cell? ⟨n, 0, none⟩ = some (.map (some m))) := by
      intro w7 c7
      have e1 := c6.lt_of HK.out.2.2.2.1
      have e2 := c6.lt_of HK.out.2.2.2.2.1
      exact ⟨(c7.cell (a := ⟨w.heap.size, 0, none⟩) e1 HK.out.2.2.2.2.2.1).trans y0, (c7.cell (a := ⟨w.heap.size, 1, none⟩) e1 HK.out.2.2.2.2.2.1).trans y1, (c7.cell (a := ⟨n, 0, none⟩) e2 HK.out.2.2.2.2.2.2).trans y2⟩
    clear hdel HD x0 x1 hc0 hlk HX c6 c6' ho6 ho6'
    by_cases h1 : q.ps.length = 1
    · have HL1 : Hid (q.ps.length = 1) := h1
      have e0 : q.ps.length - 1 = 0 := by omega
      rw [e0]
      obtain ⟨w7, hrun7, hm7, hc7, hs7⟩ := (hM6.keep (Chg.drew Non w6) id).delete k 0
      simp only [keyV] at hrun7
      obtain ⟨z0, z1, z2⟩ := HKK.out w7 hc7
      have HF := HE.out (.inr ⟨HL1.out, hm7⟩) hc7
      clear HE hM6 hm7 hc7 hs7
      go_wp2_with fail
      go_region_held3 (fun w' => w'.cell? ⟨n, 0, none⟩ = some (.map (some m)) ∧ w'.cell? ⟨w.heap.size, 0, none⟩ = some (.int .i64 k.1) ∧ w'.cell? ⟨w.heap.size, 1, none⟩ = some (.int .i64 k.2))
        (first | exact ⟨y2, y0, y1⟩ | exact ⟨z2, z0, z1⟩ | go_keep)
        (first
          | (refine step_del rfl (.tmp 42) (.tmp 43) rfl _ _ _ _ (by simp [Act.eval]) (by simp [Act.eval]) hrun7 ?_))
      go_wp2_with fail
      go_ret2
      exact ⟨rfl, HF⟩
    · have HL1 : Hid (1 < q.ps.length) := by unfold Hid; omega
      have e0 : ¬ q.ps.length - 1 = 0 := by omega
      obtain ⟨w7, hrun7, hm7, hc7, hs7⟩ := (hM6.keep (Chg.drew Non w6) id).update ⟨k, .slice (some ⟨g, 0, none⟩) (q.ps.length - 1) cap, q.ps.eraseIdx i⟩
      simp only [keyV] at hrun7
      obtain ⟨z0, z1, z2⟩ := HKK.out w7 hc7
      have HF := HE.out (.inl ⟨HL1.out, hm7⟩) hc7
      clear HE hM6 hm7 hc7 hs7
      go_wp2_with fail
      go_region_held3 (fun w' => w'.cell? ⟨n, 0, none⟩ = some (.map (some m)) ∧ w'.cell? ⟨w.heap.size, 0, none⟩ = some (.int .i64 k.1) ∧ w'.cell? ⟨w.heap.size, 1, none⟩ = some (.int .i64 k.2))
        (first | exact ⟨y2, y0, y1⟩ | exact ⟨z2, z0, z1⟩ | go_keep)
        (fail)
      go_wp2_with fail
      go_ret2
      exact ⟨rfl, HF⟩
end Go.Proofs.Ytjclegiohhbkpaa
