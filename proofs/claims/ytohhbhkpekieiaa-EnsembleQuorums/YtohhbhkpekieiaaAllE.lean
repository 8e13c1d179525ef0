/- The walks of All: of the program's, and of the document's. -/
import Derived.Test.YtohhbhkpekieiaaRefQ
namespace Go.Proofs.Ytohhbhkpekieiaa
open Go.RowKit

theorem all_take {cs : List Cfg} {ids : List Int} {k : Nat} (h : k < cs.length) (ht : (cs.take k).all (fun c => quoB c.1 c.2 ids) = true) : (cs.take (k + 1)).all (fun c => quoB c.1 c.2 ids) = quoB (cs[k]'h).1 (cs[k]'h).2 ids := by
  rw [List.take_succ_eq_append_getElem h, List.all_append, ht]
  simp
theorem all_bad {cs : List Cfg} {ids : List Int} {k : Nat} (h : k < cs.length) (hq : quoB (cs[k]'h).1 (cs[k]'h).2 ids = false) : allQ cs ids = false := by
  unfold allQ
  have : cs.all (fun c => quoB c.1 c.2 ids) = false := by
    rw [List.all_eq_false]
    exact ⟨_, List.getElem_mem h, by simp [hq]⟩
  rw [this]; simp
theorem all_end {cs : List Cfg} {ids : List Int} (ht : (cs.take cs.length).all (fun c => quoB c.1 c.2 ids) = true) : allQ cs ids = decide (0 < cs.length) := by
  rw [List.take_length] at ht
  unfold allQ
  rw [ht]; simp
set_option maxRecDepth 100000 in
set_option maxHeartbeats 2000000 in
theorem rf4All_any {w : World} {v x : Value} {cs : List Cfg} {ids : List Int} (h : Cfgs w w.heap.size v cs) (hx : Ns w x ids) (hl : ids.length ≤ 9223372036854775807) (hc : cs.length ≤ 9223372036854775807) :
    Calls Try.prog 20 #[v, x] w fun e w' => e = .returned (.bool (allQ cs ids)) ∧ Below w.heap.size w w' := by
  have HC : Hid (Cfgs w w.heap.size v cs) := h
  have HX : Hid (Ns w x ids) := hx
  obtain ⟨A, C, rfl⟩ := h.form
  obtain ⟨AX, CX, rfl⟩ := hx.form
  clear h hx
  generalize hO : allQ cs ids = O
  have HO : Hid (allQ cs ids = O) := hO
  clear hO
  go_enter Try.func20, Try.ntmps20
  go_wp2_with fail
  go_loopw [5] (fun i wr => ∃ k : Nat, i = .int .i64 k ∧ k ≤ cs.length ∧ (cs.take k).all (fun c => quoB c.1 c.2 ids) = true ∧ Below w.heap.size w wr) (fun i _ => cs.length - (intOf i).toNat)
  case atStart => exact ⟨0, rfl, by omega, rfl, Below.refl _ _⟩
  case round =>
    obtain ⟨k, rfl, hk, ht, hb⟩ := hrel
    have HT : Hid ((cs.take k).all (fun c => quoB c.1 c.2 ids) = true) := ht
    have HB : Hid (Below w.heap.size w wr) := hb
    clear ht hb
    by_cases hlt : k < cs.length
    · obtain ⟨b, o, rfl, -, -, c0, A1, C1, c1, m1, -⟩ := (HC.out.below HB.out).at' k hlt
      have hq := rf4Quorum_any m1 (cs[k]'hlt).1 (HX.out.below' HB.out) hl
      have HS : Hid ((cs.take (k + 1)).all (fun c => quoB c.1 c.2 ids) = quoB (cs[k]'hlt).1 (cs[k]'hlt).2 ids) := all_take hlt HT.out
      have HN : Hid (quoB (cs[k]'hlt).1 (cs[k]'hlt).2 ids = false → O = false) := fun h => by rw [← HO.out]; exact all_bad hlt h
      generalize quoB (cs[k]'hlt).1 (cs[k]'hlt).2 ids = Q at hq HS HN
      generalize (cs[k]'hlt).1 = ver at c0 hq
      generalize (cs[k]'hlt).2.length = n1 at c1 hq
      clear m1
      cases Q with
      | false =>
        obtain rfl : O = false := HN.out rfl
        go_wp2_with fail
        refine hq.mono ?_
        rintro e w1 ⟨rfl, b1⟩
        have HB1 : Hid (Below w.heap.size w w1) := HB.out.trans (b1.mono HB.out.size)
        clear hq b1
        go_wp2
        go_ret
        exact ⟨rfl, HB1.out⟩
      | true =>
        go_wp2_with fail
        refine hq.mono ?_
        rintro e w1 ⟨rfl, b1⟩
        have HB1 : Hid (Below w.heap.size w w1) := HB.out.trans (b1.mono HB.out.size)
        clear hq b1
        go_wp2
        exact ⟨⟨k + 1, by go_num, by omega, HS.out, HB1.out⟩, by simp [intOf]; omega⟩
    · obtain rfl : k = cs.length := by omega
      have hO : decide (0 < cs.length) = O := by rw [← HO.out]; exact (all_end HT.out).symm
      have HO2 : Hid (decide (0 < cs.length) = O) := hO
      clear hO
      go_wp2
      go_ret
      exact ⟨ret_b HO2.out, HB.out⟩
set_option maxRecDepth 100000 in
set_option maxHeartbeats 2000000 in
theorem All_any {w : World} {v x : Value} {cs : List Cfg} {ids : List Int} (h : Cfgs w w.heap.size v cs) (hx : Ns w x ids) (hl : ids.length ≤ 9223372036854775807) (hc : cs.length ≤ 9223372036854775807) :
    Calls Try.prog 19 #[v, x] w fun e w' => e = .returned (.bool (allQ cs ids)) ∧ Below w.heap.size w w' := by
  have HC : Hid (Cfgs w w.heap.size v cs) := h
  have HX : Hid (Ns w x ids) := hx
  obtain ⟨A, C, rfl⟩ := h.form
  obtain ⟨AX, CX, rfl⟩ := hx.form
  clear h hx
  generalize hO : allQ cs ids = O
  have HO : Hid (allQ cs ids = O) := hO
  clear hO
  have ha := among_any HX.out hl
  unfold thA at ha
  go_enter Try.func19, Try.ntmps19
  go_wp2_with fail
  refine ha.mono ?_
  rintro e w1 ⟨rfl, b1⟩
  have HT1 : Hid ((w1.alloc (.cells (thA ids) 62)).heap[w1.heap.size]? = some (.cells (thA ids) 62 (0, 0))) := heap_alloc_new w1 _
  have HB1 : Hid (Below w.heap.size w (w1.alloc (.cells (thA ids) 62))) := (b1.alloc b1.size _)
  clear ha b1
  obtain ⟨p1, hp1⟩ : ∃ p, p = w1.heap.size := ⟨_, rfl⟩
  rw [← hp1] at HT1
  go_wp2_with fail
  rw [← hp1]
  clear hp1
  go_loopw [12] (fun i wr => ∃ k : Nat, i = .int .i64 k ∧ k ≤ cs.length ∧ (cs.take k).all (fun c => quoB c.1 c.2 ids) = true ∧ wr.heap[p1]? = some (.cells (thA ids) 62 (0, 0)) ∧ Below w.heap.size w wr) (fun i _ => cs.length - (intOf i).toNat)
  case atStart => exact ⟨0, rfl, by omega, rfl, HT1.out, HB1.out⟩
  case round =>
    clear HT1 HB1
    obtain ⟨k, rfl, hk, ht, hp, hb⟩ := hrel
    have HT : Hid ((cs.take k).all (fun c => quoB c.1 c.2 ids) = true) := ht
    have HB : Hid (Below w.heap.size w wr) := hb
    have HP : Hid (wr.heap[p1]? = some (.cells (thA ids) 62 (0, 0))) := hp
    clear ht hb
    by_cases hlt : k < cs.length
    · obtain ⟨b, o, rfl, -, -, c0, A1, C1, c1, m1, -⟩ := (HC.out.below HB.out).at' k hlt
      have hq := fun ver n1 => quorum_any (m1.below' ((Below.refl _ _).alloc (Nat.le_refl _) (.cells #[.int .i64 ver, .slice A1 n1 C1] 25))) ver ids
      have hq := hq (cs[k]'hlt).1 (cs[k]'hlt).2.length
      have HS : Hid ((cs.take (k + 1)).all (fun c => quoB c.1 c.2 ids) = quoB (cs[k]'hlt).1 (cs[k]'hlt).2 ids) := all_take hlt HT.out
      have HN : Hid (quoB (cs[k]'hlt).1 (cs[k]'hlt).2 ids = false → O = false) := fun h => by rw [← HO.out]; exact all_bad hlt h
      generalize quoB (cs[k]'hlt).1 (cs[k]'hlt).2 ids = Q at hq HS HN
      generalize (cs[k]'hlt).1 = ver at c0 hq
      generalize (cs[k]'hlt).2.length = n1 at c1 hq
      have hp1 : p1 < wr.heap.size := heap_lt hp
      have y0 : wr.cell? ⟨p1, 0, none⟩ = some (.bool (th ids 0)) := by rw [cell_at hp]; rfl
      have y1 : wr.cell? ⟨p1, 1, none⟩ = some (.bool (th ids 1)) := by rw [cell_at hp]; rfl
      have y2 : wr.cell? ⟨p1, 2, none⟩ = some (.bool (th ids 2)) := by rw [cell_at hp]; rfl
      have y3 : wr.cell? ⟨p1, 3, none⟩ = some (.bool (th ids 3)) := by rw [cell_at hp]; rfl
      have y4 : wr.cell? ⟨p1, 4, none⟩ = some (.bool (th ids 4)) := by rw [cell_at hp]; rfl
      have y5 : wr.cell? ⟨p1, 5, none⟩ = some (.bool (th ids 5)) := by rw [cell_at hp]; rfl
      have y6 : wr.cell? ⟨p1, 6, none⟩ = some (.bool (th ids 6)) := by rw [cell_at hp]; rfl
      have y7 : wr.cell? ⟨p1, 7, none⟩ = some (.bool (th ids 7)) := by rw [cell_at hp]; rfl
      unfold thA at hq
      clear m1 hp
      cases Q with
      | false =>
        obtain rfl : O = false := HN.out rfl
        go_wp2_with fail
        refine hq.mono ?_
        rintro e w2 ⟨rfl, b2⟩
        have HB1 : Hid (Below w.heap.size w w2) := (HB.out.alloc HB.out.size _).trans (b2.mono (by have := HB.out.size; simp; omega))
        clear hq b2
        go_wp2
        go_ret
        exact ⟨rfl, HB1.out⟩
      | true =>
        go_wp2_with fail
        refine hq.mono ?_
        rintro e w2 ⟨rfl, b2⟩
        have HB1 : Hid (Below w.heap.size w w2) := (HB.out.alloc HB.out.size _).trans (b2.mono (by have := HB.out.size; simp; omega))
        have HP1 : Hid (w2.heap[p1]? = some (.cells (thA ids) 62 (0, 0))) := by show _ = _; rw [b2.block _ (by simp; omega), Below.heap_alloc _ _ _ hp1]; exact HP.out
        clear hq b2
        go_wp2
        exact ⟨⟨k + 1, by go_num, by omega, HS.out, HP1.out, HB1.out⟩, by simp [intOf]; omega⟩
    · obtain rfl : k = cs.length := by omega
      have hO : decide (0 < cs.length) = O := by rw [← HO.out]; exact (all_end HT.out).symm
      have HO2 : Hid (decide (0 < cs.length) = O) := hO
      clear hO
      go_wp2
      go_ret
      exact ⟨ret_b HO2.out, HB.out⟩
end Go.Proofs.Ytohhbhkpekieiaa
