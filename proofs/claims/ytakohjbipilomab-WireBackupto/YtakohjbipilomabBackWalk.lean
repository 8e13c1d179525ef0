/- The walk of the stage's theorem: what was put is read back, of a beginning not all, behind other bytes as well. -/
import Derived.Test.YtakohjbipilomabReadWalk
namespace Go.Proofs.Ytakohjbipilomab
open Go.RowKit

theorem Deeds.grow {w : World} {B B' : Nat} {v : Value} {l : List Th} (h : Deeds w B v l) (hb : B ≤ B') (hB : B' ≤ w.heap.size := by exact Nat.le_refl _) : Deeds w B' v l := by
  rcases h with h | ⟨b, o, c, rfl, h1, h2, h3, h4⟩
  · exact .inl h
  · refine .inr ⟨b, o, c, rfl, h1, by omega, hB, fun j hj => ?_⟩
    obtain ⟨c1, c2, A, C, c3, c4, c5⟩ := h4 j hj
    exact ⟨c1, c2, A, C, c3, c4, fun k hk => Nat.lt_of_lt_of_le (c5 k hk) hb⟩
theorem Bs.prefix {w : World} {A : Option Addr} {n C : Nat} {l : List UInt8} (h : Bs w (.slice A n C) l) (k : Nat) (hk : k ≤ l.length) (hp : 0 < l.length) : ∃ b o, A = some ⟨b, o, none⟩ ∧ l.length ≤ C ∧ Bs w (.slice (some ⟨b, o, none⟩) k C) (l.take k) := by
  rcases h with ⟨_, rfl⟩ | ⟨_, _, _, rfl⟩ | ⟨_, b, o, c, he, h1, h2, h3⟩
  · simp at hp
  · simp at hp
  · cases he
    exact ⟨b, o, rfl, h1, Bs.head h3 h2 k hk (by omega)⟩
set_option maxRecDepth 100000 in
set_option maxHeartbeats 4000000 in
theorem back_any {w : World} {v x : Value} {l : List Th} {M : List UInt8} {cut : Int} (hd : Deeds w w.heap.size v l) (hl60 : l.length ≤ 9223372036854775807) (hf : Fit l) (hm : Bs w x M) (hcut : -9223372036854775808 ≤ cut ∧ cut < 9223372036854775808)
    (hb : (allB (l.take 60)).length ≤ 35184372088832) (hM : M.length ≤ 35184372088832) :
    Calls Try.prog 3 #[v, .int .i64 cut, x] w fun e w' => e = .returned (.bool true) ∧ Below w.heap.size w w' := by
  have HM0 : Hid (Bs w x M) := hm
  have HD0 : Hid (Deeds w w.heap.size v l) := hd
  obtain ⟨A, C, rfl⟩ := hd.form
  obtain ⟨AM, CM, rfl⟩ := bs_form hm
  clear hd hm
  by_cases h60 : 60 < l.length
  · obtain ⟨b0, o0, rfl, hC0, hD⟩ := HD0.out.take 60 (by omega) (by omega)
    have hF : Fit (l.take 60) := fun y hy => hf y (List.mem_of_mem_take hy)
    have hL : (l.take 60).length ≤ 60 := by rw [List.length_take]; omega
    have HM : Hid (Bs w (.slice AM M.length CM) M) := HM0.out
    have h60' : (60 : Int) < l.length := by omega
    have hC1 : 60 ≤ C := by omega
    generalize hLL : l.take 60 = L at *
    clear hLL HD0 HM0 hf
    go_enter Try.func3, Try.ntmps3
    go_wp2_with fail
    refine (awake_any w).mono ?_
    rintro e w1 ⟨rfl, hB1⟩
    have hD1 : Deeds w1 w1.heap.size (.slice (some ⟨b0, o0, none⟩) 60 C) L := (hD.below hB1).grow hB1.size
    go_wp2_with fail
    refine (written_any hD1 hL hF (by omega)).mono ?_
    rintro e w2 ⟨v2, rfl, hn2⟩
    have HN2 : Hid (New w1 w2 v2 (allB L)) := hn2
    have hB2 : Below w.heap.size w w2 := hB1.trans (hn2.below.mono hB1.size)
    obtain ⟨A2, C2, rfl⟩ := bs_form hn2.bs
    clear hn2
    go_wp2_with fail
    refine (newReader_any HN2.out.bs (by omega)).mono ?_
    rintro e w3 ⟨g3, q3, rfl, hr3, hB3, hg3, hq3⟩
    have hB3' := hB2.trans (hB3.mono hB2.size)
    have hX3 : Bs w3 (.slice A2 (allB L).length C2) (allB L) := HN2.out.bs.below hB3 (fun k hk => HN2.out.bs.lt hk)
    have h4 := read_any hr3 (hD.below hB3') hL hF (by have := hB2.size; omega)
    have e4 := rdAll_put L hF []
    rw [List.append_nil] at e4
    rw [e4] at h4
    clear e4
    go_wp2_with fail
    refine h4.mono ?_
    rintro e w4 ⟨rfl, hr4, hc4⟩
    clear h4
    have hB4 : Below w.heap.size w w4 := hB3'.trans (hc4.below (fun k e => by have : k = g3 := e; have := hB2.size; omega) hB3'.size)
    have hX4 : Bs w4 (.slice A2 (allB L).length C2) (allB L) := hX3.keep hc4 (fun k hk e => by have := HN2.out.bs.lt hk; have : k = g3 := e; omega)
    go_wp2_with fail
    refine (whole_any hr4).mono ?_
    rintro e w5 ⟨rfl, rfl⟩
    rw [decide_eq_true rfl]
    go_wp2_with fail
    refine (copy_any hX4 (by omega)).mono ?_
    rintro e w6 ⟨v6, rfl, hn6⟩
    have HO6 : Hid (w6.ownsRow w5.heap.size 5 1 v6 (allB L).length (bv (allB L))) := hn6.owns
    have hB6 : Below w.heap.size w w6 := hB4.trans (hn6.below.mono hB4.size)
    have hX6 : Bs w6 (.slice A2 (allB L).length C2) (allB L) := hX4.below hn6.below (fun k hk => hX4.lt hk)
    have HX6 : Hid (Bs w6 (.slice A2 (allB L).length C2) (allB L)) := hX6
    have hM6 := HM.out.below hB6 (fun k hk => HM.out.lt hk)
    have HM6 : Hid (Bs w6 (.slice AM M.length CM) M) := hM6
    have hle6 : w5.heap.size ≤ w6.heap.size := hn6.below.size
    obtain ⟨A6, C6, rfl⟩ := bs_form hn6.bs
    clear hn6 hX6 hM6 hX4 hX3 hr3 hr4
    go_wp2_with (at_builtin; refine wpList_app rfl (.tmp 32) (.tmp 33) rfl (.slice A6 (allB L).length C6) (.slice AM M.length CM) rfl rfl HO6.out HM6.out hle6 (by omega) ?_; intro A7 C7 w7 ho7 hg7 hat7 _; (have HO7 : Hid (w7.ownsRow w5.heap.size 5 1 (.slice A7 ((allB L).length + M.length) C7) ((allB L).length + M.length) (bv (allB L ++ M))) := ho7); clear ho7)
    have hc67 : Chg (fun k => blk (.slice A6 (allB L).length C6) = some k) w6 w7 := Chg.of_grown hg7
    have hB7 : Below w.heap.size w w7 := hB6.grown hg7 hB6.size (fun k hk => by have := (HO6.out.lt k hk).1; have := hB4.size; omega)
    have hX7 : Bs w7 (.slice A2 (allB L).length C2) (allB L) := HX6.out.keep hc67 (fun k hk e => by have := (HO6.out.lt k e).1; have := HN2.out.bs.lt hk; have := hB3.size; have := hc4.size; omega)
    refine (newReader_any (Bs.of_owns HO7.out) (by simp; omega)).mono ?_
    rintro e w8 ⟨g8, q8, rfl, hr8, hB8, hg8, hq8⟩
    have hB8' := hB7.trans (hB8.mono hB7.size)
    have hX8 : Bs w8 (.slice A2 (allB L).length C2) (allB L) := hX7.below hB8 (fun k hk => hX7.lt hk)
    have h9 := read_any hr8 (hD.below hB8') hL hF (by have := hB7.size; omega)
    rw [rdAll_put L hF M] at h9
    go_wp2_with fail
    refine h9.mono ?_
    rintro e w9 ⟨rfl, hr9, hc9⟩
    clear h9
    have hB9 : Below w.heap.size w w9 := hB8'.trans (hc9.below (fun k e => by have : k = g8 := e; have := hB7.size; omega) hB8'.size)
    have hX9 : Bs w9 (.slice A2 (allB L).length C2) (allB L) := hX8.keep hc9 (fun k hk e => by have := hX7.lt hk; have : k = g8 := e; omega)
    have hwm : decide ((some M : Rd) = some []) = ((M.length : Int) == 0) := by cases M <;> simp <;> omega
    have h10 := whole_any hr9
    rw [hwm] at h10
    clear hwm
    go_wp2_with fail
    refine h10.mono ?_
    rintro e w10 ⟨rfl, rfl⟩
    have hmm : (((M.length : Int) == 0) != ((M.length : Int) == 0)) = false := by simp
    by_cases hz : (allB L).length = 0
    · have hz2 : ((allB L).length : Int) = 0 := by omega
      have hz1 : (((allB L).length : Int) == 0) = true := beq_iff_eq.2 hz2
      clear h10 hz
      go_wp2
      go_ret
      exact ⟨rfl, hB9⟩
    · have hz2 : ¬ ((allB L).length : Int) = 0 := by omega
      have hz1 : (((allB L).length : Int) == 0) = false := beq_eq_false_iff_ne.2 hz2
      have hp11 := pick_any cut ((allB L).length : Int) hcut.1 hcut.2 (by omega) (by omega)
      have hb1 := Int.emod_nonneg cut (show ((allB L).length : Int) ≠ 0 by omega)
      have hb2 := Int.emod_lt_of_pos cut (show (0 : Int) < (allB L).length by omega)
      generalize cut % ((allB L).length : Int) = c at hp11 hb1 hb2
      obtain ⟨m, rfl⟩ := Int.eq_ofNat_of_zero_le hb1
      obtain ⟨bb, oo, rfl, hLC, hpre⟩ := hX9.prefix m (by omega) (by omega)
      have HP : Hid (Bs w10 (.slice (some ⟨bb, oo, none⟩) m C2) ((allB L).take m)) := hpre
      have hmC : m ≤ C2 := by omega
      clear h10 hz hX9 hX8 hX7 hpre hc67
      go_wp2_with fail
      refine (hp11 _).mono ?_
      rintro e w11 ⟨rfl, rfl⟩
      clear hp11
      go_wp2_with fail
      refine (newReader_any HP.out (by rw [List.length_take]; omega)).mono ?_
      rintro e w12 ⟨g12, q12, rfl, hr12, hB12, hg12, hq12⟩
      have hB12' := hB9.trans (hB12.mono hB9.size)
      have h13 := read_any hr12 (hD.below hB12') hL hF (by have := hB9.size; omega)
      rw [rdAll_short L hF m (by omega)] at h13
      go_wp2_with fail
      refine h13.mono ?_
      rintro e w13 ⟨rfl, hr13, hc13⟩
      clear h13
      have hB13 : Below w.heap.size w w13 := hB12'.trans (hc13.below (fun k e => by have : k = g12 := e; have := hB9.size; omega) hB12'.size)
      go_wp2_with fail
      refine (good_any hr13).mono ?_
      rintro e w14 ⟨rfl, rfl⟩
      go_wp2
      go_ret
      exact ⟨rfl, hB13⟩
  · have hD : Deeds w w.heap.size (.slice A l.length C) l := HD0.out
    have hL : l.length ≤ 60 := by omega
    rw [List.take_of_length_le hL] at hb
    have HM : Hid (Bs w (.slice AM M.length CM) M) := HM0.out
    have h60' : ¬ (60 : Int) < l.length := by omega
    clear HD0 HM0
    have hF : Fit l := hf
    clear hf
    go_enter Try.func3, Try.ntmps3
    go_wp2_with fail
    refine (awake_any w).mono ?_
    rintro e w1 ⟨rfl, hB1⟩
    have hD1 : Deeds w1 w1.heap.size (.slice A l.length C) l := (hD.below hB1).grow hB1.size
    go_wp2_with fail
    refine (written_any hD1 hL hF (by omega)).mono ?_
    rintro e w2 ⟨v2, rfl, hn2⟩
    have HN2 : Hid (New w1 w2 v2 (allB l)) := hn2
    have hB2 : Below w.heap.size w w2 := hB1.trans (hn2.below.mono hB1.size)
    obtain ⟨A2, C2, rfl⟩ := bs_form hn2.bs
    clear hn2
    go_wp2_with fail
    refine (newReader_any HN2.out.bs (by omega)).mono ?_
    rintro e w3 ⟨g3, q3, rfl, hr3, hB3, hg3, hq3⟩
    have hB3' := hB2.trans (hB3.mono hB2.size)
    have hX3 : Bs w3 (.slice A2 (allB l).length C2) (allB l) := HN2.out.bs.below hB3 (fun k hk => HN2.out.bs.lt hk)
    have h4 := read_any hr3 (hD.below hB3') hL hF (by have := hB2.size; omega)
    have e4 := rdAll_put l hF []
    rw [List.append_nil] at e4
    rw [e4] at h4
    clear e4
    go_wp2_with fail
    refine h4.mono ?_
    rintro e w4 ⟨rfl, hr4, hc4⟩
    clear h4
    have hB4 : Below w.heap.size w w4 := hB3'.trans (hc4.below (fun k e => by have : k = g3 := e; have := hB2.size; omega) hB3'.size)
    have hX4 : Bs w4 (.slice A2 (allB l).length C2) (allB l) := hX3.keep hc4 (fun k hk e => by have := HN2.out.bs.lt hk; have : k = g3 := e; omega)
    go_wp2_with fail
    refine (whole_any hr4).mono ?_
    rintro e w5 ⟨rfl, rfl⟩
    rw [decide_eq_true rfl]
    go_wp2_with fail
    refine (copy_any hX4 (by omega)).mono ?_
    rintro e w6 ⟨v6, rfl, hn6⟩
    have HO6 : Hid (w6.ownsRow w5.heap.size 5 1 v6 (allB l).length (bv (allB l))) := hn6.owns
    have hB6 : Below w.heap.size w w6 := hB4.trans (hn6.below.mono hB4.size)
    have hX6 : Bs w6 (.slice A2 (allB l).length C2) (allB l) := hX4.below hn6.below (fun k hk => hX4.lt hk)
    have HX6 : Hid (Bs w6 (.slice A2 (allB l).length C2) (allB l)) := hX6
    have hM6 := HM.out.below hB6 (fun k hk => HM.out.lt hk)
    have HM6 : Hid (Bs w6 (.slice AM M.length CM) M) := hM6
    have hle6 : w5.heap.size ≤ w6.heap.size := hn6.below.size
    obtain ⟨A6, C6, rfl⟩ := bs_form hn6.bs
    clear hn6 hX6 hM6 hX4 hX3 hr3 hr4
    go_wp2_with (at_builtin; refine wpList_app rfl (.tmp 32) (.tmp 33) rfl (.slice A6 (allB l).length C6) (.slice AM M.length CM) rfl rfl HO6.out HM6.out hle6 (by omega) ?_; intro A7 C7 w7 ho7 hg7 hat7 _; (have HO7 : Hid (w7.ownsRow w5.heap.size 5 1 (.slice A7 ((allB l).length + M.length) C7) ((allB l).length + M.length) (bv (allB l ++ M))) := ho7); clear ho7)
    have hc67 : Chg (fun k => blk (.slice A6 (allB l).length C6) = some k) w6 w7 := Chg.of_grown hg7
    have hB7 : Below w.heap.size w w7 := hB6.grown hg7 hB6.size (fun k hk => by have := (HO6.out.lt k hk).1; have := hB4.size; omega)
    have hX7 : Bs w7 (.slice A2 (allB l).length C2) (allB l) := HX6.out.keep hc67 (fun k hk e => by have := (HO6.out.lt k e).1; have := HN2.out.bs.lt hk; have := hB3.size; have := hc4.size; omega)
    refine (newReader_any (Bs.of_owns HO7.out) (by simp; omega)).mono ?_
    rintro e w8 ⟨g8, q8, rfl, hr8, hB8, hg8, hq8⟩
    have hB8' := hB7.trans (hB8.mono hB7.size)
    have hX8 : Bs w8 (.slice A2 (allB l).length C2) (allB l) := hX7.below hB8 (fun k hk => hX7.lt hk)
    have h9 := read_any hr8 (hD.below hB8') hL hF (by have := hB7.size; omega)
    rw [rdAll_put l hF M] at h9
    go_wp2_with fail
    refine h9.mono ?_
    rintro e w9 ⟨rfl, hr9, hc9⟩
    clear h9
    have hB9 : Below w.heap.size w w9 := hB8'.trans (hc9.below (fun k e => by have : k = g8 := e; have := hB7.size; omega) hB8'.size)
    have hX9 : Bs w9 (.slice A2 (allB l).length C2) (allB l) := hX8.keep hc9 (fun k hk e => by have := hX7.lt hk; have : k = g8 := e; omega)
    have hwm : decide ((some M : Rd) = some []) = ((M.length : Int) == 0) := by cases M <;> simp <;> omega
    have h10 := whole_any hr9
    rw [hwm] at h10
    clear hwm
    go_wp2_with fail
    refine h10.mono ?_
    rintro e w10 ⟨rfl, rfl⟩
    have hmm : (((M.length : Int) == 0) != ((M.length : Int) == 0)) = false := by simp
    by_cases hz : (allB l).length = 0
    · have hz2 : ((allB l).length : Int) = 0 := by omega
      have hz1 : (((allB l).length : Int) == 0) = true := beq_iff_eq.2 hz2
      clear h10 hz
      go_wp2
      go_ret
      exact ⟨rfl, hB9⟩
    · have hz2 : ¬ ((allB l).length : Int) = 0 := by omega
      have hz1 : (((allB l).length : Int) == 0) = false := beq_eq_false_iff_ne.2 hz2
      have hp11 := pick_any cut ((allB l).length : Int) hcut.1 hcut.2 (by omega) (by omega)
      have hb1 := Int.emod_nonneg cut (show ((allB l).length : Int) ≠ 0 by omega)
      have hb2 := Int.emod_lt_of_pos cut (show (0 : Int) < (allB l).length by omega)
      generalize cut % ((allB l).length : Int) = c at hp11 hb1 hb2
      obtain ⟨m, rfl⟩ := Int.eq_ofNat_of_zero_le hb1
      obtain ⟨bb, oo, rfl, hLC, hpre⟩ := hX9.prefix m (by omega) (by omega)
      have HP : Hid (Bs w10 (.slice (some ⟨bb, oo, none⟩) m C2) ((allB l).take m)) := hpre
      have hmC : m ≤ C2 := by omega
      clear h10 hz hX9 hX8 hX7 hpre hc67
      go_wp2_with fail
      refine (hp11 _).mono ?_
      rintro e w11 ⟨rfl, rfl⟩
      clear hp11
      go_wp2_with fail
      refine (newReader_any HP.out (by rw [List.length_take]; omega)).mono ?_
      rintro e w12 ⟨g12, q12, rfl, hr12, hB12, hg12, hq12⟩
      have hB12' := hB9.trans (hB12.mono hB9.size)
      have h13 := read_any hr12 (hD.below hB12') hL hF (by have := hB9.size; omega)
      rw [rdAll_short l hF m (by omega)] at h13
      go_wp2_with fail
      refine h13.mono ?_
      rintro e w13 ⟨rfl, hr13, hc13⟩
      clear h13
      have hB13 : Below w.heap.size w w13 := hB12'.trans (hc13.below (fun k e => by have : k = g12 := e; have := hB9.size; omega) hB12'.size)
      go_wp2_with fail
      refine (good_any hr13).mono ?_
      rintro e w14 ⟨rfl, rfl⟩
      go_wp2
      go_ret
      exact ⟨rfl, hB13⟩
end Go.Proofs.Ytakohjbipilomab
