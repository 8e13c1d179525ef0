/- The walk of the document's own answer on what bytes begin with. -/
import Derived.Test.YtegcchakfabpiaaGreatRefA
namespace Go.Proofs.YtegcchakfabpiaaGreat
open Go.RowKit

theorem unf_no {l : List UInt8} (h : l.length < 8 ∨ 1048576 < numOf l ∨ l.length - 8 < numOf l ∨ sumOf ((l.drop 8).take (numOf l)) ≠ numOf (l.drop 4)) : unframe l = none := by
  unfold unframe; rw [if_pos h]
theorem unf_yes {l : List UInt8} (h : ¬ (l.length < 8 ∨ 1048576 < numOf l ∨ l.length - 8 < numOf l ∨ sumOf ((l.drop 8).take (numOf l)) ≠ numOf (l.drop 4))) : unframe l = some ((l.drop 8).take (numOf l)) := by
  unfold unframe; rw [if_neg h]
theorem owns_emptyN (w : World) (n : Nat) : ((w.alloc (.cells #[] 5)).drewN n).ownsRow w.heap.size 5 1 (.slice (some ⟨w.heap.size, 0, none⟩) 0 0) 0 (bv []) := owns_empty w
theorem wrap_id {n : Int} (h1 : -9223372036854775808 ≤ n) (h2 : n < 9223372036854775808) : IntKind.i64.wrap n = n := by
  rw [IntKind.wrap_i64]; omega
theorem wrap32_id {n : Int} (h1 : 0 ≤ n) (h2 : n < 4294967296) : IntKind.u32.wrap n = n := by
  rw [u32_wrap]; omega
set_option maxRecDepth 100000 in
set_option maxHeartbeats 1000000 in
theorem refUnframe_any {w : World} {x : Value} {l : List UInt8} (hx : Bs w x l) (hl : l.length ≤ 140737488355328) :
    Calls Tryz.prog 22 #[x] w fun e w' => Unf w w' e (unframe l) := by
  by_cases h8 : l.length < 8
  · rw [unf_no (.inl h8)]
    obtain ⟨A, C, rfl⟩ := bs_form hx
    have h8' : (l.length : Int) < 8 := by omega
    go_enter Tryz.func22, Tryz.ntmps22
    go_wp2
    go_ret3
    exact Unf.no (Below.refl _ _)
  · obtain ⟨A, C, rfl⟩ := bs_form hx
    obtain ⟨b, o, rfl, hLC, hb, hcl⟩ := hx.some' (by omega)
    have h8' : ¬ (l.length : Int) < 8 := by omega
    have HN : Hid (∀ w', (∀ j (h : j < l.length), w'.cell? ⟨b, o + j, none⟩ = some (.int .u8 ((l[j]'h).toNat : Int))) → Calls Tryz.prog 44 #[.slice (some ⟨b, o, none⟩) l.length C] w' fun e w'' => e = .returned (.int .u32 (numOf l : Nat)) ∧ ∃ n, w'' = w'.drewN n) := fun w' h => number_ref (by omega) hl h
    have HC : Hid (∀ j (h : j < l.length), w.cell? ⟨b, o + j, none⟩ = some (.int .u8 ((l[j]'h).toNat : Int))) := hcl
    clear hcl hx
    have hnl := numOf_lt l
    by_cases hm : 1048576 < numOf l
    · rw [unf_no (.inr (.inl hm))]
      generalize numOf l = n at *
      have hm' : (1048576 : Int) < n := by omega
      go_enter Tryz.func22, Tryz.ntmps22
      go_wp2_with fail
      refine (HN.out w HC.out).mono ?_
      rintro e w1 ⟨rfl, n1, rfl⟩
      go_wp2_with fail
      go_quiet (fail)
      go_wp2
      go_ret3
      exact Unf.no (below_drewN (below_drewN (Below.refl _ _) _) _)
    · by_cases hk : l.length - 8 < numOf l
      · rw [unf_no (.inr (.inr (.inl hk)))]
        generalize numOf l = n at *
        have hm' : ¬ (1048576 : Int) < n := by omega
        have hk' : decide ((l.length : Int) - 8 < n) = true := by simp; omega
        have hd1 : decide ((1048576 : Int) < n) = false := by simp; omega
        have hw1 : IntKind.i64.wrap (n : Int) = n := wrap_id (by omega) (by omega)
        have hw2 : IntKind.i64.wrap ((l.length : Int) - 8) = (l.length : Int) - 8 := wrap_id (by omega) (by omega)
        go_enter Tryz.func22, Tryz.ntmps22
        go_wp2_with fail
        refine (HN.out w HC.out).mono ?_
        rintro e w1 ⟨rfl, n1, rfl⟩
        go_wp2_with fail
        go_quiet (fail)
        go_wp2
        go_ret3
        exact Unf.no (below_drewN (below_drewN (Below.refl _ _) _) _)
      · have hm' : ¬ (1048576 : Int) < (numOf l : Nat) := by omega
        have hk' : ¬ (l.length : Int) - 8 < (numOf l : Nat) := by omega
        have h4C : Bs w (.slice (some ⟨b, o + 4, none⟩) (l.length - 4) (C - 4)) (l.drop 4) := Bs.tail HC.out hb 4 rfl (by omega)
        have number4 : ∀ (wq : World), Bs wq (.slice (some ⟨b, o + 4, none⟩) (l.length - 4) (C - 4)) (l.drop 4) → Calls Tryz.prog 44 #[.slice (some ⟨b, o + 4, none⟩) (l.length - 4) (C - 4)] wq fun e w'' => e = .returned (.int .u32 (numOf (l.drop 4) : Nat)) ∧ ∃ n, w'' = wq.drewN n := fun wq hd => by
          obtain ⟨b', o', he, _, _, h3⟩ := hd.some' (by rw [List.length_drop]; omega)
          have e1 : b' = b := by have := congrArg (fun x => (x.map Addr.block).getD 0) he; simpa using this.symm
          have e2 : o' = o + 4 := by have := congrArg (fun x => (x.map Addr.off).getD 0) he; simpa using this.symm
          subst e1; subst e2
          have := number_ref (c := C - 4) (by rw [List.length_drop]; omega) (by rw [List.length_drop]; omega) h3
          rw [List.length_drop] at this
          exact this
        have H4 : Hid (∀ (n1 : Nat) (w1 : World), w1 = w.drewN n1 → ∀ m, Calls Tryz.prog 44 #[.slice (some ⟨b, o + 4, none⟩) (l.length - 4) (C - 4)] (w1.drewN m) fun e w'' => e = .returned (.int .u32 (numOf (l.drop 4) : Nat)) ∧ ∃ n, w'' = (w1.drewN m).drewN n) := fun n1 w1 e m => number4 _ (by rw [e]; exact (h4C.drewN n1).drewN m)
        have hd1 : decide ((1048576 : Int) < (numOf l : Nat)) = false := by simp; omega
        have hd2 : decide ((l.length : Int) - 8 < (numOf l : Nat)) = false := by simp; omega
        have hw1 : IntKind.i64.wrap ((numOf l : Nat) : Int) = (numOf l : Nat) := wrap_id (by omega) (by omega)
        have hw2 : IntKind.i64.wrap ((l.length : Int) - 8) = (l.length : Int) - 8 := wrap_id (by omega) (by omega)
        have hw3 : IntKind.u32.wrap (8 + ((numOf l : Nat) : Int)) = 8 + ((numOf l : Nat) : Int) := wrap32_id (by omega) (by omega)
        by_cases hC8 : C = 8
        · have hn0 : numOf l = 0 := by omega
          have hheld : Bs w (.slice (some ⟨b, o, none⟩) 0 0) ((l.drop 8).take (numOf l)) := by rw [hn0]; exact Bs.none'
          have hhl : ((l.drop 8).take (numOf l)).length = numOf l := by rw [List.length_take, List.length_drop]; omega
          have HS : Hid (∀ (n1 : Nat) (w1 : World), w1 = w.drewN n1 → ∀ m, Calls Tryz.prog 43 #[.slice (some ⟨b, o, none⟩) 0 0] (w1.drewN m) fun e w'' => e = .returned (.int .u32 (sumOf ((l.drop 8).take (numOf l)) : Nat)) ∧ w'' = w1.drewN m) := fun n1 w1 e m => refSum_any (by rw [e]; exact (hheld.drewN n1).drewN m) (by rw [hhl]; omega)
          have HH : Hid (Bs w (.slice (some ⟨b, o, none⟩) 0 0) ((l.drop 8).take (numOf l))) := hheld
          have HHL : Hid (((l.drop 8).take (numOf l)).length = numOf l) := hhl
          clear number4 hheld h4C hhl
          by_cases hs : sumOf ((l.drop 8).take (numOf l)) = numOf (l.drop 4)
          · rw [unf_yes (by rintro (h | h | h | h); exact h8 h; exact hm h; exact hk h; exact h hs)]
            have hsb : (((sumOf ((l.drop 8).take (numOf l)) : Nat) : Int) != ((numOf (l.drop 4) : Nat) : Int)) = false := by rw [hs]; simp
            generalize sumOf ((l.drop 8).take (numOf l)) = S1 at *
            generalize numOf (l.drop 4) = S2 at *
            generalize (l.drop 8).take (numOf l) = held at *
            generalize numOf l = n at *
            subst hn0
            subst hC8
            have hl8 : l.length = 8 := by omega
            have HL8 : Hid (l.length = 8) := hl8
            clear hl8
            have HSS : Hid (S1 = S2) := hs
            have hz0 : IntKind.i64.wrap 0 = 0 := wrap_id (by omega) (by omega)
            have hz1 : decide ((l.length : Int) - 8 < 0) = false := by simp; omega
            have hz2 : IntKind.u32.wrap 8 = 8 := wrap32_id (by omega) (by omega)
            have hq3 : (4 : Int) ≤ (l.length : Int) := by omega
            have hq4 : (l.length : Int) ≤ 8 := by omega
            clear hs hm hk
            go_enter Tryz.func22, Tryz.ntmps22
            go_wp2_with fail
            refine (HN.out w HC.out).mono ?_
            rintro e w1 ⟨rfl, n1, hn1⟩
            have HW : Hid (w1 = w.drewN n1) := hn1
            clear hn1
            go_wp2_with fail
            go_quiet ((first | (go_at_call 43; exact Calls.quiet_of_same (HS.out n1 w1 HW.out _)) | (go_at_call 44; exact Calls.quiet_of (H4.out n1 w1 HW.out _))))
            have hB1 : Below w.heap.size w w1 := by rw [HW.out]; exact below_drewN (Below.refl _ _) _
            have hH1 : Bs w1 (.slice (some ⟨b, o, none⟩) 0 0) held := by rw [HW.out]; exact HH.out.drewN n1
            have HH1 : Hid (Bs w1 (.slice (some ⟨b, o, none⟩) 0 0) held) := hH1
            clear hH1
            go_wp2_with (at_builtin; refine wpList_app rfl (.tmp 32) (.tmp 36) rfl (.slice (some ⟨w1.heap.size, 0, none⟩) 0 0) (.slice (some ⟨b, o, none⟩) 0 0) rfl rfl (owns_emptyN w1 nq) ((HH1.out.alloc _).drewN nq) (by simp) (by have := HHL.out; simp only [List.length_nil]; omega) ?_; intro A5 C5 w5 ho5 hg5 hat5 _)
            have hB5 : Below w1.heap.size w1 w5 := (below_drewN ((Below.refl _ _).alloc (Nat.le_refl _) _) nq).grown hg5 (by simp) (fun k hk => by simp [blk, Value.ownBlock] at hk; omega)
            go_ret3
            refine ⟨.slice A5 held.length C5, w1, ?_, ⟨by simpa using ho5, hB5⟩, hB1.trans (hB5.mono hB1.size), hB1.size⟩
            rw [HHL.out]
            first | rfl | simp
          · rw [unf_no (.inr (.inr (.inr hs)))]
            have hsb : (((sumOf ((l.drop 8).take (numOf l)) : Nat) : Int) != ((numOf (l.drop 4) : Nat) : Int)) = true := by simp; omega
            generalize sumOf ((l.drop 8).take (numOf l)) = S1 at *
            generalize numOf (l.drop 4) = S2 at *
            generalize (l.drop 8).take (numOf l) = held at *
            generalize numOf l = n at *
            subst hn0
            subst hC8
            have hl8 : l.length = 8 := by omega
            have HL8 : Hid (l.length = 8) := hl8
            clear hl8
            have hz0 : IntKind.i64.wrap 0 = 0 := wrap_id (by omega) (by omega)
            have hz1 : decide ((l.length : Int) - 8 < 0) = false := by simp; omega
            have hz2 : IntKind.u32.wrap 8 = 8 := wrap32_id (by omega) (by omega)
            have hq3 : (4 : Int) ≤ (l.length : Int) := by omega
            have hq4 : (l.length : Int) ≤ 8 := by omega
            clear hs hm hk
            go_enter Tryz.func22, Tryz.ntmps22
            go_wp2_with fail
            refine (HN.out w HC.out).mono ?_
            rintro e w1 ⟨rfl, n1, hn1⟩
            have HW : Hid (w1 = w.drewN n1) := hn1
            clear hn1
            go_wp2_with fail
            go_quiet ((first | (go_at_call 43; exact Calls.quiet_of_same (HS.out n1 w1 HW.out _)) | (go_at_call 44; exact Calls.quiet_of (H4.out n1 w1 HW.out _))))
            have hB1 : Below w.heap.size w w1 := by rw [HW.out]; exact below_drewN (Below.refl _ _) _
            go_wp2
            go_ret3
            exact Unf.no (below_drewN hB1 _)
        · have hC8' : 8 < C := by omega
          have h1 := Bs.tail (m := l.length - 8) (c := C - 8) HC.out hb 8 rfl (by omega)
          have hheld : Bs w (.slice (some ⟨b, o + 8, none⟩) (numOf l) (C - 8)) ((l.drop 8).take (numOf l)) := by
            by_cases hz : 0 < (l.drop 8).length
            · obtain ⟨b', o', he, _, _, h3⟩ := h1.some' hz
              have e1 : b' = b := by have := congrArg (fun x => (x.map Addr.block).getD 0) he; simpa using this.symm
              have e2 : o' = o + 8 := by have := congrArg (fun x => (x.map Addr.off).getD 0) he; simpa using this.symm
              subst e1; subst e2
              exact Bs.head h3 hb _ (by rw [List.length_drop]; omega) (by omega)
            · rw [List.length_drop] at hz
              have e0 : numOf l = 0 := by omega
              rw [e0]
              exact Bs.none'
          have hhl : ((l.drop 8).take (numOf l)).length = numOf l := by rw [List.length_take, List.length_drop]; omega
          have HS : Hid (∀ (n1 : Nat) (w1 : World), w1 = w.drewN n1 → ∀ m, Calls Tryz.prog 43 #[.slice (some ⟨b, o + 8, none⟩) (numOf l) (C - 8)] (w1.drewN m) fun e w'' => e = .returned (.int .u32 (sumOf ((l.drop 8).take (numOf l)) : Nat)) ∧ w'' = w1.drewN m) := fun n1 w1 e m => refSum_any (by rw [e]; exact (hheld.drewN n1).drewN m) (by rw [hhl]; omega)
          have HH : Hid (Bs w (.slice (some ⟨b, o + 8, none⟩) (numOf l) (C - 8)) ((l.drop 8).take (numOf l))) := hheld
          have HHL : Hid (((l.drop 8).take (numOf l)).length = numOf l) := hhl
          clear number4 h1 hheld h4C hhl
          by_cases hs : sumOf ((l.drop 8).take (numOf l)) = numOf (l.drop 4)
          · rw [unf_yes (by rintro (h | h | h | h); exact h8 h; exact hm h; exact hk h; exact h hs)]
            have hsb : (((sumOf ((l.drop 8).take (numOf l)) : Nat) : Int) != ((numOf (l.drop 4) : Nat) : Int)) = false := by rw [hs]; simp
            generalize sumOf ((l.drop 8).take (numOf l)) = S1 at *
            generalize numOf (l.drop 4) = S2 at *
            generalize (l.drop 8).take (numOf l) = held at *
            generalize numOf l = n at *
            have HSS : Hid (S1 = S2) := hs
            have hq1 : (8 : Int) ≤ 8 + (n : Int) := by omega
            have hq2 : 8 + (n : Int) ≤ (C : Int) := by omega
            have hq3 : (4 : Int) ≤ (l.length : Int) := by omega
            have hq4 : (l.length : Int) ≤ (C : Int) := by omega
            have hq5 : (0 : Int) ≤ 8 + (n : Int) := by omega
            have hq6 : (8 + (n : Int)).toNat - 8 = n := by omega
            have hq7 : (8 + (n : Int)).toNat = 8 + n := by omega
            have hq8 : 8 + n - 8 = n := by omega
            clear hs hm hk
            go_enter Tryz.func22, Tryz.ntmps22
            go_wp2_with fail
            refine (HN.out w HC.out).mono ?_
            rintro e w1 ⟨rfl, n1, hn1⟩
            have HW : Hid (w1 = w.drewN n1) := hn1
            clear hn1
            go_wp2_with fail
            go_quiet ((first | (go_at_call 43; exact Calls.quiet_of_same (HS.out n1 w1 HW.out _)) | (go_at_call 44; exact Calls.quiet_of (H4.out n1 w1 HW.out _))))
            have hB1 : Below w.heap.size w w1 := by rw [HW.out]; exact below_drewN (Below.refl _ _) _
            have hH1 : Bs w1 (.slice (some ⟨b, o + 8, none⟩) n (C - 8)) held := by rw [HW.out]; exact HH.out.drewN n1
            have HH1 : Hid (Bs w1 (.slice (some ⟨b, o + 8, none⟩) n (C - 8)) held) := hH1
            clear hH1
            go_wp2_with (at_builtin; refine wpList_app rfl (.tmp 32) (.tmp 36) rfl (.slice (some ⟨w1.heap.size, 0, none⟩) 0 0) (.slice (some ⟨b, o + 8, none⟩) n (C - 8)) rfl rfl (owns_emptyN w1 nq) ((HH1.out.alloc _).drewN nq) (by simp) (by have := HHL.out; simp only [List.length_nil]; omega) ?_; intro A5 C5 w5 ho5 hg5 hat5 _)
            have hB5 : Below w1.heap.size w1 w5 := (below_drewN ((Below.refl _ _).alloc (Nat.le_refl _) _) nq).grown hg5 (by simp) (fun k hk => by simp [blk, Value.ownBlock] at hk; omega)
            go_ret3
            refine ⟨.slice A5 held.length C5, w1, ?_, ⟨by simpa using ho5, hB5⟩, hB1.trans (hB5.mono hB1.size), hB1.size⟩
            rw [HHL.out]
            first | rfl | simp
          · rw [unf_no (.inr (.inr (.inr hs)))]
            have hsb : (((sumOf ((l.drop 8).take (numOf l)) : Nat) : Int) != ((numOf (l.drop 4) : Nat) : Int)) = true := by simp; omega
            generalize sumOf ((l.drop 8).take (numOf l)) = S1 at *
            generalize numOf (l.drop 4) = S2 at *
            generalize (l.drop 8).take (numOf l) = held at *
            generalize numOf l = n at *
            have hq1 : (8 : Int) ≤ 8 + (n : Int) := by omega
            have hq2 : 8 + (n : Int) ≤ (C : Int) := by omega
            have hq3 : (4 : Int) ≤ (l.length : Int) := by omega
            have hq4 : (l.length : Int) ≤ (C : Int) := by omega
            have hq5 : (0 : Int) ≤ 8 + (n : Int) := by omega
            have hq6 : (8 + (n : Int)).toNat - 8 = n := by omega
            have hq7 : (8 + (n : Int)).toNat = 8 + n := by omega
            have hq8 : 8 + n - 8 = n := by omega
            clear hs hm hk
            go_enter Tryz.func22, Tryz.ntmps22
            go_wp2_with fail
            refine (HN.out w HC.out).mono ?_
            rintro e w1 ⟨rfl, n1, hn1⟩
            have HW : Hid (w1 = w.drewN n1) := hn1
            clear hn1
            go_wp2_with fail
            go_quiet ((first | (go_at_call 43; exact Calls.quiet_of_same (HS.out n1 w1 HW.out _)) | (go_at_call 44; exact Calls.quiet_of (H4.out n1 w1 HW.out _))))
            have hB1 : Below w.heap.size w w1 := by rw [HW.out]; exact below_drewN (Below.refl _ _) _
            go_wp2
            go_ret3
            exact Unf.no (below_drewN hB1 _)
end Go.Proofs.YtegcchakfabpiaaGreat
