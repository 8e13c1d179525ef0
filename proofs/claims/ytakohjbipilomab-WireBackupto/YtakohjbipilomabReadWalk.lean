/- The walk of reading some things, one behind the other. -/
import Derived.Deep.RegionHeld3
import Derived.Deep.DrawnRows
import Derived.Test.YtakohjbipilomabWrittenWalk
namespace Go.Proofs.Ytakohjbipilomab
open Go.RowKit
attribute [local go_sem ↓] Go.wp_at_zero Go.wp_at_succ

theorem rdAll_step {r : Rd} {l : List Th} {k : Nat} (h : k < l.length) : rdAll r (l.drop k) = if (rdOne r (l[k]'h)).1 = true ∧ (rdOne r (l[k]'h)).2.isSome = true then rdAll (rdOne r (l[k]'h)).2 (l.drop (k + 1)) else (false, (rdOne r (l[k]'h)).2) := by
  rw [List.drop_eq_getElem_cons h, rdAll]
theorem mkS_toList (t : List UInt8) : (mkS t).toList = t := by
  rw [ByteArray.toList_eq]; simp [mkS]
theorem rdCount_len (r : Rd) (most : Int) {b : Nat} (h : (r.getD []).length ≤ b) : (((rdCount r most).2).getD []).length ≤ b := by
  unfold rdCount
  split
  · simp
  · cases r with
    | none => simp [rdInt]
    | some l =>
      cases hd : dec 0 l with
      | none => simp [rdInt, hd]
      | some p =>
        simp [rdInt, hd] at h ⊢
        omega
set_option maxRecDepth 100000 in
set_option maxHeartbeats 4000000 in
theorem read_any {w : World} {g : Nat} {q : Option Nat} {r : Rd} (hr : Rdr w g q r) {v : Value} {l : List Th} {B : Nat} (hd : Deeds w B v l) (hl : l.length ≤ 60) (hf : Fit l) (hg : B ≤ g) :
    Calls Try.prog 9 #[.pointer (some ⟨g, 0, none⟩), v] w fun e w' => e = .returned (.bool (rdAll r l).1) ∧ Rdr w' g q (rdAll r l).2 ∧ Chg (One g) w w' := by
  have HD : Hid (Deeds w B v l) := hd
  have HF : Hid (Fit l) := hf
  obtain ⟨A, C, rfl⟩ := hd.form
  have HR : Hid (Rdr w g q r) := hr
  clear hd hf hr
  go_enter Try.func9, Try.ntmps9
  go_wp2_with fail
  go_loopw [5] (fun i wr => ∃ (k : Nat) (r1 : Rd), i = .int .i64 k ∧ k ≤ l.length ∧ Rdr wr g q r1 ∧ Chg (One g) w wr ∧ rdAll r l = rdAll r1 (l.drop k)) (fun i _ => l.length - (intOf i).toNat)
  case atStart => exact ⟨0, r, rfl, by omega, HR.out, Chg.refl _ _, rfl⟩
  case round =>
    obtain ⟨k, r1, rfl, hk, hr1, hc, hall⟩ := hrel
    have HR1 : Hid (Rdr wr g q r1) := hr1
    have HC : Hid (Chg (One g) w wr) := hc
    have hBw : B ≤ w.heap.size ∨ l = [] := by
      rcases HD.out with ⟨_, h⟩ | ⟨_, _, _, _, _, _, h, _⟩
      · exact .inr h
      · exact .inl h
    by_cases hlt : k < l.length
    · have hBw' : B ≤ w.heap.size := by
        rcases hBw with h | h
        · exact h
        · rw [h] at hlt; simp at hlt
      have hbel : Below B w wr := HC.out.below (fun k e => by have : k = g := e; omega) hBw'
      obtain ⟨b, o, rfl, hbB, c1, c2, A2, C2, c3, c4, c5⟩ := (HD.out.below hbel).at' k hlt
      obtain ⟨⟨f1, f2⟩, f3, f4, f5⟩ := HF.out _ (List.getElem_mem hlt)
      have hpk := pick_any (l[k]'hlt).sort 4 f1 f2 (by omega) (by omega)
      obtain ⟨p, hp1, hp2, hp3⟩ := pick_four (l[k]'hlt).sort
      rw [rdAll_step hlt] at hall
      have hone : rdOne r1 (l[k]'hlt) = if p = 0 then (decide ((rdByte r1).1 = Go.Proofs.Ytakohjbipilomab.u8 (l[k]'hlt).n), (rdByte r1).2) else if p = 1 then (decide ((rdInt r1).1 = (l[k]'hlt).n), (rdInt r1).2) else (decide ((rdText r1 (l[k]'hlt).b.length).1 = (l[k]'hlt).b), (rdText r1 (l[k]'hlt).b.length).2) := by
        unfold rdOne; rw [hp3]
      rw [hone] at hall
      rw [hp1] at hpk
      have hcv := fun (hbs : Bs wr (.slice A2 (l[k]'hlt).b.length C2) (l[k]'hlt).b) => convert_bytes hbs
      clear hone hp3 hp1 hr1 hc hBw
      generalize (l[k]'hlt) = x at *
      obtain ⟨xs, xn, xb⟩ := x
      dsimp only at *
      have hbg : b ≠ g := by omega
      have hbl : b < wr.heap.size := by have := hbel.size; omega
      have hp : p = 0 ∨ p = 1 ∨ p = 2 ∨ p = 3 := by omega
      have H5 : Hid (∀ k, bk (.slice A2 xb.length C2) = some k → k < B) := c5
      have H4 : Hid (Bs wr (.slice A2 xb.length C2) xb) := c4
      clear c4 c5 hcv
      rcases hp with rfl | rfl | rfl | rfl
      · simp only [if_true] at hall
        have h1 := rByte_any (HR1.out.keep (Chg.drew Non wr) id (fun _ _ => id))
        generalize rdByte r1 = p1 at hall h1
        obtain ⟨y, r2⟩ := p1
        dsimp only at hall h1
        have HA : Hid (rdAll r l = if decide (y = Go.Proofs.Ytakohjbipilomab.u8 xn) = true ∧ r2.isSome = true then rdAll r2 (l.drop (k + 1)) else (false, r2)) := hall
        have H1 : Hid (Calls Try.prog 27 #[.pointer (some ⟨g, 0, none⟩)] wr.drew fun e w' => e = .returned (.int .u8 (y.toNat : Nat)) ∧ Rdr w' g q r2 ∧ Chg (One g) wr.drew w') := h1
        clear hall h1
        by_cases hy : y = Go.Proofs.Ytakohjbipilomab.u8 xn
        · have hyb : ((y.toNat : Int) == xn % 256) = true := by rw [hy, u8_val]; simp
          have HY : Hid (y = Go.Proofs.Ytakohjbipilomab.u8 xn) := hy
          clear hy
          go_wp2_with fail
          refine (hpk _).mono ?_
          rintro e w2 ⟨rfl, rfl⟩
          go_wp2_with fail
          go_region_held3 (fun w' => w'.cell? ⟨b, o + k * 3 + 1, none⟩ = some (.int .i64 xn)) (first | go_keep | (rw [hc3.cell (a := ⟨b, o + k * 3 + 1, none⟩) hbl (fun e => hbg e)]; exact c2)) ((go_at_call 27; refine H1.out.mono ?_; rintro e w3 ⟨rfl, hr3, hc3⟩))
          go_wp2_with fail
          refine (good_any hr3).mono ?_
          rintro e w4 ⟨rfl, rfl⟩
          cases r2 with
          | none =>
            go_wp2
            go_ret
            rw [HA.out, if_neg (by simp)]
            exact ⟨rfl, hr3, HC.out.trans ((Chg.drew _ _).trans hc3)⟩
          | some t =>
            go_wp2
            go_roundw
            case rel => exact ⟨k + 1, some t, by go_num, by omega, hr3, HC.out.trans ((Chg.drew _ _).trans hc3), by rw [HA.out, if_pos ⟨decide_eq_true HY.out, rfl⟩]⟩
            case measure => simp [intOf]; omega
        · have hyb : ((y.toNat : Int) == xn % 256) = false := by rw [u8_val]; simp; intro e; exact hy (u8_inj (by omega))
          have HY : Hid (¬ y = Go.Proofs.Ytakohjbipilomab.u8 xn) := hy
          clear hy
          go_wp2_with fail
          refine (hpk _).mono ?_
          rintro e w2 ⟨rfl, rfl⟩
          go_wp2_with fail
          go_region_held3 (fun w' => w'.cell? ⟨b, o + k * 3 + 1, none⟩ = some (.int .i64 xn)) (first | go_keep | (rw [hc3.cell (a := ⟨b, o + k * 3 + 1, none⟩) hbl (fun e => hbg e)]; exact c2)) ((go_at_call 27; refine H1.out.mono ?_; rintro e w3 ⟨rfl, hr3, hc3⟩))
          go_wp2
          go_ret
          rw [HA.out, if_neg (by rw [decide_eq_false HY.out]; simp)]
          exact ⟨rfl, hr3, HC.out.trans ((Chg.drew _ _).trans hc3)⟩
      · simp only [Nat.one_ne_zero, if_false, if_true] at hall
        have h1 := rInt_any (HR1.out.keep (Chg.drew Non wr) id (fun _ _ => id))
        generalize rdInt r1 = p1 at hall h1
        obtain ⟨y, r2⟩ := p1
        dsimp only at hall h1
        have HA : Hid (rdAll r l = if decide (y = xn) = true ∧ r2.isSome = true then rdAll r2 (l.drop (k + 1)) else (false, r2)) := hall
        have H1 : Hid (Calls Try.prog 14 #[.pointer (some ⟨g, 0, none⟩)] wr.drew fun e w' => e = .returned (.int .i64 y) ∧ Rdr w' g q r2 ∧ Chg (One g) wr.drew w') := h1
        clear hall h1
        by_cases hy : y = xn
        · have hyb : (y == xn) = true := by simpa using hy
          have HY : Hid (y = xn) := hy
          clear hy
          go_wp2_with fail
          refine (hpk _).mono ?_
          rintro e w2 ⟨rfl, rfl⟩
          go_wp2_with fail
          go_region_held3 (fun w' => w'.cell? ⟨b, o + k * 3 + 1, none⟩ = some (.int .i64 xn)) (first | go_keep | (rw [hc3.cell (a := ⟨b, o + k * 3 + 1, none⟩) hbl (fun e => hbg e)]; exact c2)) ((go_at_call 14; refine H1.out.mono ?_; rintro e w3 ⟨rfl, hr3, hc3⟩))
          go_wp2_with fail
          refine (good_any hr3).mono ?_
          rintro e w4 ⟨rfl, rfl⟩
          cases r2 with
          | none =>
            go_wp2
            go_ret
            rw [HA.out, if_neg (by simp)]
            exact ⟨rfl, hr3, HC.out.trans ((Chg.drew _ _).trans hc3)⟩
          | some t =>
            go_wp2
            go_roundw
            case rel => exact ⟨k + 1, some t, by go_num, by omega, hr3, HC.out.trans ((Chg.drew _ _).trans hc3), by rw [HA.out, if_pos ⟨decide_eq_true HY.out, rfl⟩]⟩
            case measure => simp [intOf]; omega
        · have hyb : (y == xn) = false := by simpa using hy
          have HY : Hid (¬ y = xn) := hy
          clear hy
          go_wp2_with fail
          refine (hpk _).mono ?_
          rintro e w2 ⟨rfl, rfl⟩
          go_wp2_with fail
          go_region_held3 (fun w' => w'.cell? ⟨b, o + k * 3 + 1, none⟩ = some (.int .i64 xn)) (first | go_keep | (rw [hc3.cell (a := ⟨b, o + k * 3 + 1, none⟩) hbl (fun e => hbg e)]; exact c2)) ((go_at_call 14; refine H1.out.mono ?_; rintro e w3 ⟨rfl, hr3, hc3⟩))
          go_wp2
          go_ret
          rw [HA.out, if_neg (by rw [decide_eq_false HY.out]; simp)]
          exact ⟨rfl, hr3, HC.out.trans ((Chg.drew _ _).trans hc3)⟩
      · simp only [show ¬ (2 : Nat) = 0 by decide, show ¬ (2 : Nat) = 1 by decide, if_false] at hall
        have h1 := rText_any (HR1.out.keep (Chg.drew Non wr) id (fun _ _ => id)) (xb.length : Int)
        generalize rdText r1 (xb.length : Int) = p1 at hall h1
        obtain ⟨y, r2⟩ := p1
        dsimp only at hall h1
        have HA : Hid (rdAll r l = if decide (y = xb) = true ∧ r2.isSome = true then rdAll r2 (l.drop (k + 1)) else (false, r2)) := hall
        have H1 : Hid (Calls Try.prog 23 #[.pointer (some ⟨g, 0, none⟩), .int .i64 (xb.length : Int)] wr.drew fun e w' => e = .returned (.string (mkS y)) ∧ Rdr w' g q r2 ∧ Chg (One g) wr.drew w') := h1
        have hcvA := convert_bytes H4.out.drew
        clear hall h1
        by_cases hy : y = xb
        · have hyb : ((mkS y).toList == (mkS xb).toList) = true := by rw [mkS_toList, mkS_toList]; simpa using hy
          have HY : Hid (y = xb) := hy
          clear hy
          go_wp2_with fail
          refine (hpk _).mono ?_
          rintro e w2 ⟨rfl, rfl⟩
          go_wp2_with fail
          go_region_held3 (fun w' => w'.cell? ⟨b, o + k * 3 + 2, none⟩ = some (.slice A2 xb.length C2) ∧ (convert 23 9 (.slice A2 xb.length C2)).run Try.prog w' = .ok (.string (mkS xb)) w') (first | go_keep | (refine ⟨?_, ?_⟩; rw [hc3.cell (a := ⟨b, o + k * 3 + 2, none⟩) hbl (fun e => hbg e)]; exact c3; exact convert_bytes (H4.out.drew.keep hc3 (fun j hj e => by have := H5.out j hj; have : j = g := e; omega)))) ((go_at_call 23; refine H1.out.mono ?_; rintro e w3 ⟨rfl, hr3, hc3⟩))
          go_wp2_with fail
          refine (good_any hr3).mono ?_
          rintro e w5 ⟨rfl, rfl⟩
          cases r2 with
          | none =>
            go_wp2
            go_ret
            rw [HA.out, if_neg (by simp)]
            exact ⟨rfl, hr3, HC.out.trans ((Chg.drew _ _).trans hc3)⟩
          | some t =>
            go_wp2
            go_roundw
            case rel => exact ⟨k + 1, some t, by go_num, by omega, hr3, HC.out.trans ((Chg.drew _ _).trans hc3), by rw [HA.out, if_pos ⟨decide_eq_true HY.out, rfl⟩]⟩
            case measure => simp [intOf]; omega
        · have hyb : ((mkS y).toList == (mkS xb).toList) = false := by rw [mkS_toList, mkS_toList]; simpa using hy
          have HY : Hid (¬ y = xb) := hy
          clear hy
          go_wp2_with fail
          refine (hpk _).mono ?_
          rintro e w2 ⟨rfl, rfl⟩
          go_wp2_with fail
          go_region_held3 (fun w' => w'.cell? ⟨b, o + k * 3 + 2, none⟩ = some (.slice A2 xb.length C2) ∧ (convert 23 9 (.slice A2 xb.length C2)).run Try.prog w' = .ok (.string (mkS xb)) w') (first | go_keep | (refine ⟨?_, ?_⟩; rw [hc3.cell (a := ⟨b, o + k * 3 + 2, none⟩) hbl (fun e => hbg e)]; exact c3; exact convert_bytes (H4.out.drew.keep hc3 (fun j hj e => by have := H5.out j hj; have : j = g := e; omega)))) ((go_at_call 23; refine H1.out.mono ?_; rintro e w3 ⟨rfl, hr3, hc3⟩))
          go_wp2
          go_ret
          rw [HA.out, if_neg (by rw [decide_eq_false HY.out]; simp)]
          exact ⟨rfl, hr3, HC.out.trans ((Chg.drew _ _).trans hc3)⟩
      · simp only [show ¬ (3 : Nat) = 0 by decide, show ¬ (3 : Nat) = 1 by decide, if_false] at hall
        have h1 := rBytes_any (HR1.out.keep (Chg.drew Non wr) id (fun _ _ => id)) (xb.length : Int)
        have hyl : (rdText r1 (xb.length : Int)).1.length ≤ 140737488355328 := by
          have hlen := rdCount_len r1 (xb.length : Int) (b := 140737488355328) (by obtain ⟨_, _, _, _, _, h⟩ := HR1.out; exact h)
          exact rdTake_len _ _ hlen
        generalize rdText r1 (xb.length : Int) = p1 at hall h1 hyl
        obtain ⟨y, r2⟩ := p1
        dsimp only at hall h1 hyl
        have HA : Hid (rdAll r l = if decide (y = xb) = true ∧ r2.isSome = true then rdAll r2 (l.drop (k + 1)) else (false, r2)) := hall
        have H1 : Hid (Calls Try.prog 28 #[.pointer (some ⟨g, 0, none⟩), .int .i64 (xb.length : Int)] wr.drew fun e w' => ∃ v w1, e = .returned v ∧ New w1 w' v y ∧ Rdr w' g q r2 ∧ Chg (One g) wr.drew w' ∧ wr.drew.heap.size ≤ w1.heap.size) := h1
        clear hall h1
        by_cases hy : y = xb
        · have hyb : decide (y = xb) = true := decide_eq_true hy
          have HY : Hid (y = xb) := hy
          clear hy
          go_wp2_with fail
          refine (hpk _).mono ?_
          rintro e w2 ⟨rfl, rfl⟩
          go_wp2_with fail
          go_region_held3 (fun w' => w'.cell? ⟨b, o + k * 3 + 2, none⟩ = some (.slice A2 xb.length C2)) (first | go_keep | (rw [hc3.cell (a := ⟨b, o + k * 3 + 2, none⟩) hbl (fun e => hbg e)]; exact c3)) ((first | (go_at_call 28; refine H1.out.mono ?_; rintro e w3 ⟨v3, w3a, rfl, hn3, hr3, hc3, _⟩) | (go_at_call 18; refine (same_any hn3.bs (H4.out.drew.keep hc3 (fun j hj e => by have := H5.out j hj; have : j = g := e; omega)) hyl).mono ?_; rintro e w4 ⟨rfl, n4, rfl⟩)))
          go_wp2_with fail
          refine (good_any (hr3.keep (Chg.drewN Non _ n4) id (fun _ _ => id))).mono ?_
          rintro e w5 ⟨rfl, rfl⟩
          cases r2 with
          | none =>
            go_wp2
            go_ret
            rw [HA.out, if_neg (by simp)]
            exact ⟨rfl, (hr3.keep (Chg.drewN Non _ n4) id (fun _ _ => id)), HC.out.trans (((Chg.drew _ _).trans hc3).trans (Chg.drewN _ _ n4))⟩
          | some t =>
            go_wp2
            go_roundw
            case rel => exact ⟨k + 1, some t, by go_num, by omega, (hr3.keep (Chg.drewN Non _ n4) id (fun _ _ => id)), HC.out.trans (((Chg.drew _ _).trans hc3).trans (Chg.drewN _ _ n4)), by rw [HA.out, if_pos ⟨decide_eq_true HY.out, rfl⟩]⟩
            case measure => simp [intOf]; omega
        · have hyb : decide (y = xb) = false := decide_eq_false hy
          have HY : Hid (¬ y = xb) := hy
          clear hy
          go_wp2_with fail
          refine (hpk _).mono ?_
          rintro e w2 ⟨rfl, rfl⟩
          go_wp2_with fail
          go_region_held3 (fun w' => w'.cell? ⟨b, o + k * 3 + 2, none⟩ = some (.slice A2 xb.length C2)) (first | go_keep | (rw [hc3.cell (a := ⟨b, o + k * 3 + 2, none⟩) hbl (fun e => hbg e)]; exact c3)) ((first | (go_at_call 28; refine H1.out.mono ?_; rintro e w3 ⟨v3, w3a, rfl, hn3, hr3, hc3, _⟩) | (go_at_call 18; refine (same_any hn3.bs (H4.out.drew.keep hc3 (fun j hj e => by have := H5.out j hj; have : j = g := e; omega)) hyl).mono ?_; rintro e w4 ⟨rfl, n4, rfl⟩)))
          go_wp2
          go_ret
          rw [HA.out, if_neg (by rw [decide_eq_false HY.out]; simp)]
          exact ⟨rfl, (hr3.keep (Chg.drewN Non _ n4) id (fun _ _ => id)), HC.out.trans (((Chg.drew _ _).trans hc3).trans (Chg.drewN _ _ n4))⟩
    · go_wp2
      go_ret
      have hkk : k = l.length := by omega
      subst hkk
      rw [List.drop_length] at hall
      rw [hall]
      exact ⟨rfl, HR1.out, HC.out⟩
end Go.Proofs.Ytakohjbipilomab
