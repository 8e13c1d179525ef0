/- The walk of beadlekit's comparing of bytes. -/
import Derived.Test.YtcdnfgibcochhaaGreatDoorWalksG
namespace Go.Proofs.YtcdnfgibcochhaaGreatDoor
open Go.RowKit

theorem take_step {α : Type} (k : Nat) (a b : List α) {ha : k < a.length} {hb : k < b.length} (h : a.take k = b.take k) (he : a[k]'ha = b[k]'hb) : a.take (k + 1) = b.take (k + 1) := by
  rw [List.take_succ_eq_append_getElem ha, List.take_succ_eq_append_getElem hb, h, he]
theorem ne_at {α : Type} (k : Nat) (a b : List α) {ha : k < a.length} {hb : k < b.length} (he : ¬ a[k]'ha = b[k]'hb) : a ≠ b := by
  rintro rfl; exact he rfl
theorem eq_of_take {α : Type} {a b : List α} (hl : a.length = b.length) (k : Nat) (hk : a.length ≤ k) (h : a.take k = b.take k) : a = b := by
  rw [List.take_of_length_le hk, List.take_of_length_le (by omega)] at h
  exact h
theorem ret_bool {a b : Bool} (h : a = b) : Ending.returned (.bool a) = .returned (.bool b) := by rw [h]
theorem Bs.at' {w : World} {A : Option Addr} {n C : Nat} {l : List UInt8} (h : Bs w (.slice A n C) l) (k : Nat) (hk : k < l.length) : ∃ b o, A = some ⟨b, o, none⟩ ∧ w.cell? ⟨b, o + k, none⟩ = some (.int .u8 ((l[k]'hk).toNat : Int)) := by
  rcases h with ⟨_, rfl⟩ | ⟨_, _, _, rfl⟩ | ⟨_, b, o, c, he, _, _, h3⟩
  · simp at hk
  · simp at hk
  · cases he
    exact ⟨b, o, rfl, h3 k hk⟩
theorem u8_inj {x y : UInt8} (h : (x.toNat : Int) = (y.toNat : Int)) : x = y := UInt8.toNat.inj (by omega)
theorem same_len {a1 a2 : Option Addr} {c1 c2 : Nat} {la lb : List UInt8} {w : World} (hA : Bs w (.slice a1 la.length c1) la) (hB : Bs w (.slice a2 lb.length c2) lb) (hl : la.length = lb.length) (hm : la.length ≤ 140737488355328) :
    Calls Tryz.prog 56 #[.slice a1 la.length c1, .slice a2 lb.length c2] w fun e w' => e = .returned (.bool (decide (la = lb))) ∧ ∃ q, w' = w.drewN q := by
  have HA : Hid (Bs w (.slice a1 la.length c1) la) := hA
  have HB : Hid (Bs w (.slice a2 lb.length c2) lb) := hB
  have HL : Hid (la.length = lb.length) := hl
  clear hA hB
  rw [← hl]
  obtain ⟨n, hn⟩ : ∃ n, n = la.length := ⟨_, rfl⟩
  rw [← hn] at hm ⊢
  have HN : Hid (n = la.length) := hn
  clear hl hn
  go_enter Tryz.func56, Tryz.ntmps56
  go_wp2
  go_loopw [5] (fun i wr => ∃ (k q : Nat), k ≤ n ∧ i = .int .i64 k ∧ la.take k = lb.take k ∧ wr = w.drewN q) (fun i _ => n - (intOf i).toNat)
  case atStart => exact ⟨0, 0, Nat.zero_le _, rfl, rfl, rfl⟩
  case round =>
    obtain ⟨k, q, hk, rfl, ht, rfl⟩ := hrel
    have HT : Hid (la.take k = lb.take k) := ht
    clear ht
    by_cases hlt : k < n
    · obtain ⟨b1, o1, e1, x1⟩ := HA.out.at' k (by have := HN.out; omega)
      obtain ⟨b2, o2, e2, x2⟩ := HB.out.at' k (by have := HN.out; have := HL.out; omega)
      obtain ⟨x, hx⟩ : ∃ x : Int, x = ((la[k]'(by have := HN.out; omega)).toNat : Int) := ⟨_, rfl⟩
      obtain ⟨y, hy⟩ : ∃ y : Int, y = ((lb[k]'(by have := HN.out; have := HL.out; omega)).toNat : Int) := ⟨_, rfl⟩
      rw [← hx] at x1
      rw [← hy] at x2
      have HX : Hid (x = ((la[k]'(by have := HN.out; omega)).toNat : Int)) := hx
      have HY : Hid (y = ((lb[k]'(by have := HN.out; have := HL.out; omega)).toNat : Int)) := hy
      clear hx hy
      subst e1 e2
      by_cases hne : x = y
      · have hb : (x != y) = false := by simpa using hne
        have HE : Hid (x = y) := hne
        clear hne
        go_wp2_with fail
        go_quiet (fail)
        go_wp2
        go_roundw
        case rel => exact ⟨k + 1, q + nq, by omega, by go_num, take_step k _ _ HT.out (u8_inj (by rw [← HX.out, ← HY.out]; exact HE.out)), rfl⟩
        case measure => simp [intOf]; omega
      · have hb : (x != y) = true := by simpa using hne
        have HE : Hid (¬ x = y) := hne
        clear hne
        go_wp2_with fail
        go_quiet (fail)
        go_wp2
        go_ret
        exact ⟨ret_bool (by rw [decide_eq_false (ne_at k _ _ (fun e => HE.out (by rw [HX.out, HY.out, e])))]), q + nq, by simp⟩
    · go_wp2
      go_ret
      exact ⟨ret_bool (by rw [decide_eq_true (eq_of_take HL.out k (by have := HN.out; omega) HT.out)]), q, rfl⟩
theorem same_any {x y : Value} {la lb : List UInt8} {w : World} (hA : Bs w x la) (hB : Bs w y lb) (hm : la.length ≤ 140737488355328) :
    Calls Tryz.prog 56 #[x, y] w fun e w' => e = .returned (.bool (decide (la = lb))) ∧ ∃ q, w' = w.drewN q := by
  obtain ⟨a1, c1, rfl⟩ := bs_form hA
  obtain ⟨a2, c2, rfl⟩ := bs_form hB
  by_cases hl : la.length = lb.length
  · exact same_len hA hB hl hm
  · have hd : decide (la = lb) = false := decide_eq_false (fun h => hl (by rw [h]))
    rw [hd]
    clear hd hA hB
    generalize la.length = n at *
    generalize lb.length = m at *
    have hb : ((n : Int) != (m : Int)) = true := by simp; omega
    clear hl
    go_enter Tryz.func56, Tryz.ntmps56
    go_wp2
    go_ret
    exact ⟨rfl, 0, rfl⟩
theorem Bs_lit (w : World) (l : List UInt8) : Bs (w.alloc (.cells (bv l).toArray 5)) (.slice (some ⟨w.heap.size, 0, none⟩) l.length l.length) l :=
  Bs_new w l _ _ _ (Nat.le_refl _) (fun j hj => by simp [bv, hj])
theorem Bs.drewN {w : World} {v : Value} {l : List UInt8} (h : Bs w v l) (n : Nat) : Bs (w.drewN n) v l := h.keep (Chg.drewN Non w n) (fun _ _ => id)
theorem below_drewN {B : Nat} {a w : World} (h : Below B a w) (n : Nat) : Below B a (w.drewN n) := ⟨h.os, h.tape, h.output, by cases n <;> exact h.size, by cases n <;> exact h.block⟩
theorem num65 : numB (-65) = [129, 1] := by
  unfold numB
  rw [show zz (-65) = 129 by decide, digs_big (by omega), digs_small (by omega)]
  rfl
theorem text_ab : textB [97, 98] = [4, 97, 98] := by
  unfold textB numB
  rw [show zz ([97, 98] : List UInt8).length = 4 by decide, digs_small (by omega)]
  rfl
theorem Bs.below {w w' : World} {B : Nat} {v : Value} {l : List UInt8} (h : Bs w v l) (hb : Below B w w') (hk : ∀ k, bk v = some k → k < B) : Bs w' v l := by
  rcases h with h | h | ⟨h0, b, o, c, rfl, h1, h2, h3⟩
  · exact .inl h
  · exact .inr (.inl h)
  · refine .inr (.inr ⟨h0, b, o, c, rfl, h1, Nat.lt_of_lt_of_le h2 hb.size, fun j hj => ?_⟩)
    rw [hb.cell (p := ⟨b, o + j, none⟩) (hk b (bk_pos h0))]
    exact h3 j hj
theorem Put.far {w w' : World} {base g T : Nat} {tl : List Value} {q q' : Option Nat} {l : List UInt8} (h : RowAt w base g T tl q l) (hg : base ≤ g) (hp : Put g q w w' q') : Below base w w' := by
  refine hp.chg.below ?_ ?_
  · rintro k (rfl | e)
    · exact hg
    · exact (h.qlt k e).1
  · exact Nat.le_trans hg (Nat.le_of_lt h.lt)
theorem Below.chg {B : Nat} {w w' : World} (h : Below B w w') (hB : B = w.heap.size) : Chg Non w w' := Chg.of_below (hB ▸ h)
theorem Chg.none_to {S : Nat → Prop} {w w' : World} (h : Chg Non w w') : Chg S w w' := h.weak (fun _ _ e => e.elim)
end Go.Proofs.YtcdnfgibcochhaaGreatDoor
