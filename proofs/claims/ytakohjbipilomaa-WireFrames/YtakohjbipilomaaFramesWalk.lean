/- The walk of the statement on sums, frames and what bytes begin with. -/
import Derived.Test.YtakohjbipilomaaRefU
namespace Go.Proofs.Ytakohjbipilomaa
open Go.RowKit

theorem same_yes {x y : Value} {l : List UInt8} {w : World} (hA : Bs w x l) (hB : Bs w y l) (hm : l.length ≤ 140737488355328) :
    Calls Try.prog 11 #[x, y] w fun e w' => e = .returned (.bool true) ∧ ∃ q, w' = w.drewN q := by
  have := same_any hA hB hm
  rwa [decide_eq_true rfl] at this
theorem frames_big {w : World} {A : Option Addr} {n c : Nat} (h : 4000 < n) : Calls Try.prog 5 #[.slice A n c] w fun e w' => e = .returned (.bool true) ∧ Below w.heap.size w w' := by
  have h' : (4000 : Int) < n := by omega
  go_enter Try.func5, Try.ntmps5
  go_wp2_with fail
  refine (awake_any w).mono ?_
  rintro e w1 ⟨rfl, hB1⟩
  go_wp2
  go_ret
  exact ⟨rfl, hB1⟩
set_option maxRecDepth 100000 in
set_option maxHeartbeats 2000000 in
theorem frames_small {w : World} {x : Value} {l : List UInt8} (hx : Bs w x l) (hl : l.length ≤ 4000) : Calls Try.prog 5 #[x] w fun e w' => e = .returned (.bool true) ∧ Below w.heap.size w w' := by
  have HX : Hid (Bs w x l) := hx
  obtain ⟨A, C, rfl⟩ := bs_form hx
  have h' : ¬ (4000 : Int) < l.length := by omega
  clear hx
  go_enter Try.func5, Try.ntmps5
  go_wp2_with fail
  refine (frame_any HX.out (by omega)).mono ?_
  rintro e w1 ⟨v1, rfl, hn1⟩
  have hX1 := HX.out.below hn1.below (fun k hk => HX.out.lt hk)
  have H1 : Hid (Bs w1 v1 (frameOf l)) := hn1.bs
  have hB1 := hn1.below
  obtain ⟨A1, C1, rfl⟩ := bs_form hn1.bs
  clear hn1
  go_wp2_with fail
  refine (refFrame_any hX1 (by omega)).mono ?_
  rintro e w2 ⟨v2, rfl, hn2⟩
  have hB2 := hB1.trans (hn2.below.mono hB1.size)
  have hX2 := HX.out.below hB2 (fun k hk => HX.out.lt hk)
  have H1' : Hid (Bs w2 _ (frameOf l)) := H1.out.below hn2.below (fun k hk => H1.out.lt hk)
  have H2 : Hid (Bs w2 v2 (frameOf l)) := hn2.bs
  obtain ⟨A2, C2, rfl⟩ := bs_form hn2.bs
  clear hn2 H1
  cases hu : unframe l with
  | none =>
    have h3 := unframe_any hX2 (by omega)
    rw [hu] at h3
    go_wp2_with fail
    refine h3.mono ?_
    rintro e w3 ⟨rfl, hB3⟩
    have hB3' := hB2.trans (hB3.mono hB2.size)
    have hX3 := HX.out.below hB3' (fun k hk => HX.out.lt hk)
    have h4 := refUnframe_any hX3 (by omega)
    rw [hu] at h4
    clear h3
    go_wp2_with fail
    refine h4.mono ?_
    rintro e w4 ⟨rfl, hB4⟩
    have hB4' := hB3'.trans (hB4.mono hB3'.size)
    have hX4 := HX.out.below hB4' (fun k hk => HX.out.lt hk)
    have hF1 := (H1'.out.below hB3 (fun k hk => H1'.out.lt hk)).below hB4 (fun k hk => (H1'.out.below hB3 (fun k hk => H1'.out.lt hk)).lt hk)
    have hF2 := (H2.out.below hB3 (fun k hk => H2.out.lt hk)).below hB4 (fun k hk => (H2.out.below hB3 (fun k hk => H2.out.lt hk)).lt hk)
    have HF1 : Hid (Bs w4 _ (frameOf l)) := hF1
    have HF2 : Hid (Bs w4 _ (frameOf l)) := hF2
    clear h4 hF1 hF2 H1' H2 hu
    go_wp2_with fail
    refine (sum_any hX4 (by omega)).mono ?_
    rintro e w5 ⟨rfl, rfl⟩
    go_wp2_with fail
    refine (refSum_any hX4 (by omega)).mono ?_
    rintro e w6 ⟨rfl, rfl⟩
    have hse : (((sumOf l : Nat) : Int) == ((sumOf l : Nat) : Int)) = true := by simp
    go_wp2_with fail
    have hq7 : (frameOf l).length ≤ 140737488355328 := by rw [frameOf_len]; omega
    have h7 := same_yes HF1.out HF2.out hq7
    refine h7.mono ?_
    clear h7 hq7
    rintro e w7 ⟨rfl, n7, rfl⟩
    go_wp2_with fail
    have h8 := fun (w : World) => same_yes (Bs.nil w) (Bs.nil w) (by simp)
    refine (h8 _).mono ?_
    clear h8
    rintro e w8 ⟨rfl, n8, rfl⟩
    go_wp2_with fail
    refine (awake_any _).mono ?_
    rintro e w9 ⟨rfl, hB9⟩
    go_wp2
    go_ret
    have hB8 := below_drewN hB4' (n7 + n8)
    exact ⟨rfl, hB8.trans (hB9.mono hB8.size)⟩
  | some hd =>
    have h3 := unframe_any hX2 (by omega)
    rw [hu] at h3
    have u2 : hd.length + 8 ≤ l.length := (unframe_some hu).2.1
    go_wp2_with fail
    refine h3.mono ?_
    rintro e w3 ⟨v3, w3a, rfl, hn3, hB3, _⟩
    have hB3' := hB2.trans (hB3.mono hB2.size)
    have hX3 := HX.out.below hB3' (fun k hk => HX.out.lt hk)
    have h4 := refUnframe_any hX3 (by omega)
    rw [hu] at h4
    have H3 : Hid (Bs w3 v3 hd) := hn3.bs
    obtain ⟨A3, C3, rfl⟩ := bs_form hn3.bs
    clear h3 hn3
    go_wp2_with fail
    refine h4.mono ?_
    rintro e w4 ⟨v4, w4a, rfl, hn4, hB4, _⟩
    have hB4' := hB3'.trans (hB4.mono hB3'.size)
    have hX4 := HX.out.below hB4' (fun k hk => HX.out.lt hk)
    have hF1 := (H1'.out.below hB3 (fun k hk => H1'.out.lt hk)).below hB4 (fun k hk => (H1'.out.below hB3 (fun k hk => H1'.out.lt hk)).lt hk)
    have hF2 := (H2.out.below hB3 (fun k hk => H2.out.lt hk)).below hB4 (fun k hk => (H2.out.below hB3 (fun k hk => H2.out.lt hk)).lt hk)
    have HF1 : Hid (Bs w4 _ (frameOf l)) := hF1
    have HF2 : Hid (Bs w4 _ (frameOf l)) := hF2
    have H3' : Hid (Bs w4 _ hd) := H3.out.below hB4 (fun k hk => H3.out.lt hk)
    have H4 : Hid (Bs w4 v4 hd) := hn4.bs
    obtain ⟨A4, C4, rfl⟩ := bs_form hn4.bs
    clear h4 hF1 hF2 H1' H2 hu hn4 H3
    go_wp2_with fail
    refine (sum_any hX4 (by omega)).mono ?_
    rintro e w5 ⟨rfl, rfl⟩
    go_wp2_with fail
    refine (refSum_any hX4 (by omega)).mono ?_
    rintro e w6 ⟨rfl, rfl⟩
    have hse : (((sumOf l : Nat) : Int) == ((sumOf l : Nat) : Int)) = true := by simp
    go_wp2_with fail
    have hq7 : (frameOf l).length ≤ 140737488355328 := by rw [frameOf_len]; omega
    have h7 := same_yes HF1.out HF2.out hq7
    refine h7.mono ?_
    clear h7 hq7
    rintro e w7 ⟨rfl, n7, rfl⟩
    go_wp2_with fail
    have hq8 : hd.length ≤ 140737488355328 := by omega
    have h8 := same_yes (H3'.out.drewN n7) (H4.out.drewN n7) hq8
    refine h8.mono ?_
    clear h8 hq8
    rintro e w8 ⟨rfl, n8, rfl⟩
    have hne : ((8 + (hd.length : Int)) == (8 + (hd.length : Int))) = true := by simp
    go_wp2_with fail
    refine (awake_any _).mono ?_
    rintro e w9 ⟨rfl, hB9⟩
    go_wp2
    go_ret
    have hB8 := below_drewN hB4' (n7 + n8)
    exact ⟨rfl, hB8.trans (hB9.mono hB8.size)⟩
theorem frames_any {w : World} {x : Value} {l : List UInt8} (hx : Bs w x l) : Calls Try.prog 5 #[x] w fun e w' => e = .returned (.bool true) ∧ Below w.heap.size w w' := by
  by_cases h : l.length ≤ 4000
  · exact frames_small hx h
  · obtain ⟨A, C, rfl⟩ := bs_form hx
    exact frames_big (by omega)
end Go.Proofs.Ytakohjbipilomaa
