/- The walk of the statement that a number has one row of bytes alone. -/
import Derived.Test.YtakohjbipilomabWalksJ
namespace Go.Proofs.Ytakohjbipilomab
open Go.RowKit

theorem rdInt_form (l : List UInt8) : rdInt (some l) = (0, none) ∨ ∃ u s, dec 0 l = some (u, s) ∧ rdInt (some l) = (unzz u, some (l.drop s)) := by
  cases hd : dec 0 l with
  | none => left; simp [rdInt, hd]
  | some p => obtain ⟨u, s⟩ := p; right; exact ⟨u, s, rfl, by simp [rdInt, hd]⟩
theorem Bs.prefix {w : World} {A : Option Addr} {n C : Nat} {l : List UInt8} (h : Bs w (.slice A n C) l) (k : Nat) (hk : k ≤ l.length) (hp : 0 < l.length) : ∃ b o, A = some ⟨b, o, none⟩ ∧ l.length ≤ C ∧ Bs w (.slice (some ⟨b, o, none⟩) k C) (l.take k) := by
  rcases h with ⟨_, rfl⟩ | ⟨_, _, _, rfl⟩ | ⟨_, b, o, c, he, h1, h2, h3⟩
  · simp at hp
  · simp at hp
  · cases he
    exact ⟨b, o, rfl, h1, Bs.head h3 h2 k hk (by omega)⟩
set_option maxRecDepth 100000 in
set_option maxHeartbeats 1000000 in
theorem one_any {w : World} {x : Value} {l : List UInt8} (hx : Bs w x l) (hl : l.length ≤ 140737488355328) : Calls Try.prog 4 #[x] w fun e w' => e = .returned (.bool true) ∧ Below w.heap.size w w' := by
  have HX : Hid (Bs w x l) := hx
  obtain ⟨A, C, rfl⟩ := bs_form hx
  clear hx
  go_enter Try.func4, Try.ntmps4
  go_wp2_with fail
  refine (awake_any w).mono ?_
  rintro e w1 ⟨rfl, hB1⟩
  have hX1 := HX.out.below hB1 (fun k hk => HX.out.lt hk)
  go_wp2_with fail
  refine (newReader_any hX1 hl).mono ?_
  rintro e w2 ⟨g, q, rfl, hr2, hB2, hg, hq⟩
  have hB2' := hB1.trans (hB2.mono hB1.size)
  have h3 := rInt_any hr2
  rcases rdInt_form l with e3 | ⟨u, s, hd, e3⟩
  · rw [e3] at h3
    go_wp2_with fail
    refine h3.mono ?_
    rintro e w3 ⟨rfl, hr3, hc3⟩
    have hB3 := hB2'.trans (hc3.below (fun k e => by have : k = g := e; have := hB1.size; omega) hB2'.size)
    clear h3
    go_wp2_with fail
    refine (good_any hr3).mono ?_
    rintro e w4 ⟨rfl, rfl⟩
    go_wp2
    go_ret
    exact ⟨rfl, hB3⟩
  · rw [e3] at h3
    obtain ⟨d1, -, d3, d4, d5, d6, d7⟩ := dec_some l 0 u s (by omega) hd
    rw [cap_vals.1] at d1
    obtain ⟨u1, u2⟩ := unzz_range u d1
    have hnum : numB (unzz u) = l.take s := by unfold numB; rw [zz_unzz, d3]
    have hlen : (l.take s).length = s := by rw [List.length_take]; omega
    clear d3 d4 hd e3
    generalize unzz u = z at *
    obtain ⟨B, O, rfl, hLC, hpre⟩ := HX.out.prefix s d5 (by omega)
    have HP : Hid (Bs w (.slice (some ⟨B, O, none⟩) s C) (l.take s)) := hpre
    have HNUM : Hid (numB z = l.take s) := hnum
    have HLEN : Hid ((l.take s).length = s) := hlen
    clear hpre hnum hlen
    go_wp2_with fail
    refine h3.mono ?_
    rintro e w3 ⟨rfl, hr3, hc3⟩
    have hB3 := hB2'.trans (hc3.below (fun k e => by have : k = g := e; have := hB1.size; omega) hB2'.size)
    clear h3
    go_wp2_with fail
    refine (good_any hr3).mono ?_
    rintro e w4 ⟨rfl, rfl⟩
    go_wp2_with fail
    refine (newWriter_any w4 w4.heap.size (Nat.le_refl _)).mono ?_
    rintro e w5 ⟨rfl, hw5, hB5, -⟩
    have h6 := wInt_any hw5 z u1 u2 (by rw [HNUM.out, HLEN.out]; simp; omega)
    rw [HNUM.out, List.nil_append] at h6
    go_wp2_with fail
    refine h6.mono ?_
    rintro e w6 ⟨rfl, q6, hw6, hp6⟩
    clear h6
    have hB6 := hB5.trans (hp6.far hw5 (Nat.le_refl _))
    go_wp2_with fail
    refine (wDone_any hw6 (by rw [HLEN.out]; omega)).mono ?_
    rintro e w7 ⟨v7, rfl, hn7⟩
    have HB7 : Hid (Bs w7 v7 (l.take s)) := hn7.bs
    obtain ⟨A7, C7, rfl⟩ := bs_form hn7.bs
    have hB7 := hB6.trans (hn7.below.mono hB6.size)
    have hB7' := hB3.trans (hB7.mono hB3.size)
    have hP7 := HP.out.below hB7' (fun k hk => HP.out.lt hk)
    have HN7 : Hid (New w6 w7 (.slice A7 (l.take s).length C7) (l.take s)) := hn7
    clear hn7
    rw [HLEN.out] at HB7 ⊢
    clear HN7
    have hs1 : (0 : Int) < s := by omega
    have hs2 : (s : Int) ≤ 10 := by omega
    have hs3 : (s : Int) ≤ l.length := by omega
    have hs4 : s ≤ C := by omega
    go_wp2_with fail
    refine (same_any HB7.out hP7 (by rw [HLEN.out]; omega)).mono ?_
    rintro e w8 ⟨rfl, n8, rfl⟩
    rw [decide_eq_true rfl]
    go_wp2
    go_ret
    exact ⟨rfl, below_drewN hB7' n8⟩
end Go.Proofs.Ytakohjbipilomab
