/- The walk of putting some things, one behind the other. -/
import Derived.Test.YtakohjbipilomabDeeds
namespace Go.Proofs.Ytakohjbipilomab
open Go.RowKit

theorem allB_take {l : List Th} {k : Nat} (h : k < l.length) : allB (l.take (k + 1)) = allB (l.take k) ++ putB (l[k]'h) := by
  unfold allB
  rw [List.take_succ_eq_append_getElem h, List.map_append, List.flatten_append]
  simp
theorem allB_le (l : List Th) (k : Nat) : (allB (l.take k)).length ≤ (allB l).length := by
  have : allB l = allB (l.take k) ++ allB (l.drop k) := by
    unfold allB
    rw [← List.flatten_append, ← List.map_append, List.take_append_drop]
  rw [this]; simp
theorem pick_four (s : Int) : ∃ p : Nat, s % 4 = (p : Int) ∧ p < 4 ∧ pick 4 s = p := by
  have h1 := Int.emod_nonneg s (show (4 : Int) ≠ 0 by decide)
  have h2 := Int.emod_lt_of_pos s (show (0 : Int) < 4 by decide)
  refine ⟨(s % 4).toNat, by omega, by omega, ?_⟩
  unfold pick
  rfl
theorem u8_val (n : Int) : n % 256 = ((u8 n).toNat : Int) := by
  unfold u8
  rw [ofNat_small (by omega)]
  omega
theorem num_len (n : Int) (h1 : -9223372036854775808 ≤ n) (h2 : n < 9223372036854775808) : (numB n).length ≤ 10 := by
  have := dec_num n h1 h2 []
  rw [List.append_nil] at this
  have := dec_some _ 0 _ _ (by omega) this
  omega
set_option maxRecDepth 100000 in
set_option maxHeartbeats 1000000 in
theorem written_any {w : World} {v : Value} {l : List Th} (h : Deeds w w.heap.size v l) (hl : l.length ≤ 60) (hf : Fit l) (hb : (allB l).length ≤ 70368744177664) :
    Calls Try.prog 7 #[v] w fun e w' => ∃ v, e = .returned v ∧ New w w' v (allB l) := by
  have HH : Hid (Deeds w w.heap.size v l) := h
  have HF : Hid (Fit l) := hf
  obtain ⟨A, C, rfl⟩ := h.form
  clear h hf
  go_enter Try.func7, Try.ntmps7
  go_wp2_with fail
  refine (newWriter_any w w.heap.size (Nat.le_refl _)).mono ?_
  rintro e w1 ⟨rfl, hw1, hB1, -⟩
  go_wp2_with fail
  go_loopw [4] (fun i wr => ∃ (k : Nat) (q : Option Nat), i = .int .i64 k ∧ k ≤ l.length ∧ WrAt wr w.heap.size w.heap.size q (allB (l.take k)) ∧ Below w.heap.size w wr) (fun i _ => l.length - (intOf i).toNat)
  case atStart => exact ⟨0, none, rfl, by omega, hw1, hB1⟩
  case round =>
    obtain ⟨k, q, rfl, hk, hw, hB⟩ := hrel
    have HW : Hid (WrAt wr w.heap.size w.heap.size q (allB (l.take k))) := hw
    have HB : Hid (Below w.heap.size w wr) := hB
    clear hw hB hw1 hB1
    by_cases hlt : k < l.length
    · obtain ⟨b, o, rfl, hbB, c1, c2, A2, C2, c3, c4, c5⟩ := (HH.out.below HB.out).at' k hlt
      obtain ⟨⟨f1, f2⟩, f3, f4, f5⟩ := HF.out _ (List.getElem_mem hlt)
      have ht := allB_take hlt
      have hle := allB_le l (k + 1)
      have hpk := pick_any (l[k]'hlt).sort 4 f1 f2 (by omega) (by omega)
      obtain ⟨p, hp1, hp2, hp3⟩ := pick_four (l[k]'hlt).sort
      have hput : putB (l[k]'hlt) = if p = 0 then [Go.Proofs.Ytakohjbipilomab.u8 (l[k]'hlt).n] else if p = 1 then numB (l[k]'hlt).n else textB (l[k]'hlt).b := by
        unfold putB; rw [hp3]
      have hnl := num_len (l[k]'hlt).n f3 f4
      rw [ht, hput] at hle
      rw [hput] at ht
      rw [hp1] at hpk
      have hcv := fun (hbs : Bs wr (.slice A2 (l[k]'hlt).b.length C2) (l[k]'hlt).b) => convert_bytes hbs
      clear hput hp3 hp1
      generalize (l[k]'hlt) = x at *
      obtain ⟨xs, xn, xb⟩ := x
      dsimp only at *
      have HT : Hid (allB (l.take (k + 1)) = allB (l.take k) ++ if p = 0 then [Go.Proofs.Ytakohjbipilomab.u8 xn] else if p = 1 then numB xn else textB xb) := ht
      have HL : Hid ((allB (l.take k) ++ if p = 0 then [Go.Proofs.Ytakohjbipilomab.u8 xn] else if p = 1 then numB xn else textB xb).length ≤ (allB l).length) := hle
      have H4 : Hid (Bs wr (.slice A2 xb.length C2) xb) := c4
      have H5 : Hid (∀ k, bk (.slice A2 xb.length C2) = some k → k < w.heap.size) := c5
      have hcv2 := hcv c4
      clear ht hle c4 c5 hcv
      have hp : p = 0 ∨ p = 1 ∨ p = 2 ∨ p = 3 := by omega
      rcases hp with rfl | rfl | rfl | rfl
      · simp only [if_true, List.length_append, List.length_singleton] at HT HL
        go_wp2_with fail
        refine (hpk _).mono ?_
        rintro e w2 ⟨rfl, rfl⟩
        go_wp2_with fail
        refine (wByte_any HW.out _ (Go.Proofs.Ytakohjbipilomab.u8 xn) (u8_val xn) (by have := HL.out; omega)).mono ?_
        rintro e w3 ⟨rfl, q3, hw3, hp3⟩
        have hB3 := HB.out.trans (hp3.far HW.out (Nat.le_refl _))
        go_wp2
        go_roundw
        case rel => exact ⟨k + 1, q3, by go_num, by omega, by rw [HT.out]; exact hw3, hB3⟩
        case measure => simp [intOf]; omega
      · simp only [Nat.one_ne_zero, if_false, if_true, List.length_append] at HT HL
        go_wp2_with fail
        refine (hpk _).mono ?_
        rintro e w2 ⟨rfl, rfl⟩
        go_wp2_with fail
        refine (wInt_any HW.out xn f3 f4 (by have := HL.out; omega)).mono ?_
        rintro e w3 ⟨rfl, q3, hw3, hp3⟩
        have hB3 := HB.out.trans (hp3.far HW.out (Nat.le_refl _))
        go_wp2
        go_roundw
        case rel => exact ⟨k + 1, q3, by go_num, by omega, by rw [HT.out]; exact hw3, hB3⟩
        case measure => simp [intOf]; omega
      · simp only [show ¬ (2 : Nat) = 0 by decide, show ¬ (2 : Nat) = 1 by decide, if_false, List.length_append] at HT HL
        go_wp2_with fail
        refine (hpk _).mono ?_
        rintro e w2 ⟨rfl, rfl⟩
        go_wp2_with fail
        refine (wText_any HW.out xb f5 (by have := HL.out; omega)).mono ?_
        rintro e w3 ⟨rfl, q3, hw3, hp3⟩
        have hB3 := HB.out.trans (hp3.far HW.out (Nat.le_refl _))
        go_wp2
        go_roundw
        case rel => exact ⟨k + 1, q3, by go_num, by omega, by rw [HT.out]; exact hw3, hB3⟩
        case measure => simp [intOf]; omega
      · simp only [show ¬ (3 : Nat) = 0 by decide, show ¬ (3 : Nat) = 1 by decide, if_false, List.length_append] at HT HL
        go_wp2_with fail
        refine (hpk _).mono ?_
        rintro e w2 ⟨rfl, rfl⟩
        go_wp2_with fail
        refine (wBytes_any HW.out H4.out f5 (by have := HL.out; omega) (fun e => by have := H5.out _ e; omega) (fun j hj e => by have := H5.out _ e; have := (HW.out.qlt j hj).1; omega)).mono ?_
        rintro e w3 ⟨rfl, q3, hw3, hp3⟩
        have hB3 := HB.out.trans (hp3.far HW.out (Nat.le_refl _))
        go_wp2
        go_roundw
        case rel => exact ⟨k + 1, q3, by go_num, by omega, by rw [HT.out]; exact hw3, hB3⟩
        case measure => simp [intOf]; omega
    · go_wp2_with fail
      have hkk : k = l.length := by omega
      have HW2 := HW.out
      rw [hkk, List.take_length] at HW2
      refine (wDone_any HW2 (by omega)).mono ?_
      rintro e w3 ⟨v3, rfl, hn3⟩
      obtain ⟨A3, C3, rfl⟩ := bs_form hn3.bs
      go_wp2
      go_ret
      exact ⟨_, rfl, owns_base' hn3.owns HB.out.size, HB.out.trans (hn3.below.mono HB.out.size)⟩
end Go.Proofs.Ytakohjbipilomab
