/- The walks of beadlekit's comparing of bytes and of texts, its copying of bytes, its picking. -/
import Derived.Test.YtndjlnlmlgimlaaDkD
namespace Go.Proofs.Ytndjlnlmlgimlaa
open Go.RowKit

theorem Bs_new (w : World) (l : List UInt8) (cs : Array Value) (fr : Nat × Nat) (c : Nat) (hc : l.length ≤ c) (h : ∀ j (h : j < l.length), cs[j]? = some (.int .u8 ((l[j]'h).toNat : Int))) :
    Bs (w.alloc (.cells cs 5 fr)) (.slice (some ⟨w.heap.size, 0, none⟩) l.length c) l := by
  refine Bs.mk _ _ c rfl hc (by simp) fun j hj => ?_
  rw [cell_at (heap_alloc_new w _), Nat.zero_add]
  exact h j hj
theorem bs_form {w : World} {x : Value} {l : List UInt8} (h : Bs w x l) : ∃ A C, x = .slice A l.length C := by
  rcases h with ⟨rfl, rfl⟩ | ⟨ad, c, rfl, rfl⟩ | ⟨_, b, o, c, rfl, _⟩
  · exact ⟨none, 0, rfl⟩
  · exact ⟨_, _, rfl⟩
  · exact ⟨_, _, rfl⟩
theorem take_step {α : Type} (k : Nat) (a b : List α) {ha : k < a.length} {hb : k < b.length} (h : a.take k = b.take k) (he : a[k]'ha = b[k]'hb) : a.take (k + 1) = b.take (k + 1) := by
  rw [List.take_succ_eq_append_getElem ha, List.take_succ_eq_append_getElem hb, h, he]
theorem ne_at {α : Type} (k : Nat) (a b : List α) {ha : k < a.length} {hb : k < b.length} (he : ¬ a[k]'ha = b[k]'hb) : a ≠ b := by
  rintro rfl; exact he rfl
theorem eq_of_take {α : Type} {a b : List α} (hl : a.length = b.length) (k : Nat) (hk : a.length ≤ k) (h : a.take k = b.take k) : a = b := by
  rw [List.take_of_length_le hk, List.take_of_length_le (by omega)] at h
  exact h
theorem ret_bool {a b : Bool} (h : a = b) : Ending.returned (.bool a) = .returned (.bool b) := by rw [h]
theorem Bs.at' {w : World} {A : Option Addr} {n C : Nat} {l : List UInt8} (h : Bs w (.slice A n C) l) (k : Nat) (hk : k < l.length) : ∃ b o, A = some ⟨b, o, none⟩ ∧ w.cell? ⟨b, o + k, none⟩ = some (.int .u8 ((l[k]'hk).toNat : Int)) := by
  rcases h with ⟨_, rfl⟩ | ⟨_, _, _, rfl⟩ | ⟨_, b, o, c, he, _, _, h3⟩
  · simp at hk
  · simp at hk
  · cases he
    exact ⟨b, o, rfl, h3 k hk⟩
theorem u8_inj {x y : UInt8} (h : (x.toNat : Int) = (y.toNat : Int)) : x = y := UInt8.toNat.inj (by omega)
set_option maxRecDepth 100000 in
theorem same_len {a1 a2 : Option Addr} {c1 c2 : Nat} {la lb : List UInt8} {w : World} (hA : Bs w (.slice a1 la.length c1) la) (hB : Bs w (.slice a2 lb.length c2) lb) (hl : la.length = lb.length) (hm : la.length ≤ 140737488355328) :
    Calls Try.prog 11 #[.slice a1 la.length c1, .slice a2 lb.length c2] w fun e w' => e = .returned (.bool (decide (la = lb))) ∧ ∃ q, w' = w.drewN q := by
  have HA : Hid (Bs w (.slice a1 la.length c1) la) := hA
  have HB : Hid (Bs w (.slice a2 lb.length c2) lb) := hB
  have HL : Hid (la.length = lb.length) := hl
  clear hA hB
  rw [← hl]
  obtain ⟨n, hn⟩ : ∃ n, n = la.length := ⟨_, rfl⟩
  rw [← hn] at hm ⊢
  have HN : Hid (n = la.length) := hn
  clear hl hn
  go_enter Try.func11, Try.ntmps11
  go_wp2
  go_loopw [5] (fun i wr => ∃ (k q : Nat), k ≤ n ∧ i = .int .i64 k ∧ la.take k = lb.take k ∧ wr = w.drewN q) (fun i _ => n - (intOf i).toNat)
  case atStart => exact ⟨0, 0, Nat.zero_le _, rfl, rfl, rfl⟩
  case round =>
    obtain ⟨k, q, hk, rfl, ht, rfl⟩ := hrel
    have HT : Hid (la.take k = lb.take k) := ht
    clear ht
    by_cases hlt : k < n
    · obtain ⟨b1, o1, e1, x1⟩ := HA.out.at' k (by have := HN.out; omega)
      obtain ⟨b2, o2, e2, x2⟩ := HB.out.at' k (by have := HN.out; have := HL.out; omega)
      obtain ⟨x, hx⟩ : ∃ x : Int, x = ((la[k]'(by have := HN.out; omega)).toNat : Int) := ⟨_, rfl⟩
      obtain ⟨y, hy⟩ : ∃ y : Int, y = ((lb[k]'(by have := HN.out; have := HL.out; omega)).toNat : Int) := ⟨_, rfl⟩
      rw [← hx] at x1
      rw [← hy] at x2
      have HX : Hid (x = ((la[k]'(by have := HN.out; omega)).toNat : Int)) := hx
      have HY : Hid (y = ((lb[k]'(by have := HN.out; have := HL.out; omega)).toNat : Int)) := hy
      clear hx hy
      subst e1 e2
      by_cases hne : x = y
      · have hb : (x != y) = false := by simpa using hne
        have HE : Hid (x = y) := hne
        clear hne
        go_wp2_with fail
        go_quiet (fail)
        go_wp2
        go_roundw
        case rel => exact ⟨k + 1, q + nq, by omega, by go_num, take_step k _ _ HT.out (u8_inj (by rw [← HX.out, ← HY.out]; exact HE.out)), rfl⟩
        case measure => simp [intOf]; omega
      · have hb : (x != y) = true := by simpa using hne
        have HE : Hid (¬ x = y) := hne
        clear hne
        go_wp2_with fail
        go_quiet (fail)
        go_wp2
        go_ret
        exact ⟨ret_bool (by rw [decide_eq_false (ne_at k _ _ (fun e => HE.out (by rw [HX.out, HY.out, e])))]), q + nq, by simp⟩
    · go_wp2
      go_ret
      exact ⟨ret_bool (by rw [decide_eq_true (eq_of_take HL.out k (by have := HN.out; omega) HT.out)]), q, rfl⟩
set_option maxRecDepth 100000 in
theorem same_any {x y : Value} {la lb : List UInt8} {w : World} (hA : Bs w x la) (hB : Bs w y lb) (hm : la.length ≤ 140737488355328) :
    Calls Try.prog 11 #[x, y] w fun e w' => e = .returned (.bool (decide (la = lb))) ∧ ∃ q, w' = w.drewN q := by
  obtain ⟨a1, c1, rfl⟩ := bs_form hA
  obtain ⟨a2, c2, rfl⟩ := bs_form hB
  by_cases hl : la.length = lb.length
  · exact same_len hA hB hl hm
  · have hd : decide (la = lb) = false := decide_eq_false (fun h => hl (by rw [h]))
    rw [hd]
    clear hd hA hB
    generalize la.length = n at *
    generalize lb.length = m at *
    have hb : ((n : Int) != (m : Int)) = true := by simp; omega
    clear hl
    go_enter Try.func11, Try.ntmps11
    go_wp2
    go_ret
    exact ⟨rfl, 0, rfl⟩
theorem Bs_lit (w : World) (l : List UInt8) : Bs (w.alloc (.cells (bv l).toArray 5)) (.slice (some ⟨w.heap.size, 0, none⟩) l.length l.length) l :=
  Bs_new w l _ _ _ (Nat.le_refl _) (fun j hj => by simp [bv, hj])
theorem Bs.drewN {w : World} {v : Value} {l : List UInt8} (h : Bs w v l) (n : Nat) : Bs (w.drewN n) v l := h.keep (Chg.drewN Non w n) (fun _ _ => id)
theorem below_drewN {B : Nat} {a w : World} (h : Below B a w) (n : Nat) : Below B a (w.drewN n) := ⟨h.os, h.tape, h.output, by cases n <;> exact h.size, by cases n <;> exact h.block⟩
theorem owns_nil (w : World) (base : Nat) : w.ownsRow base 5 1 (.slice none 0 0) 0 (bv []) := World.ownsRow_nil _ _ _ _
theorem Bs.below' {w w' : World} {v : Value} {l : List UInt8} (h : Bs w v l) (hb : Below w.heap.size w w') : Bs w' v l := h.keep (Chg.of_below hb) (fun _ _ => id)
set_option maxRecDepth 100000 in
theorem pick_any (x n : Int) (_hx : -9223372036854775808 ≤ x ∧ x < 9223372036854775808) (hn : n < 9223372036854775808) (h1 : 1 ≤ n) (w : World) : Calls Try.prog 13 #[.int .i64 x, .int .i64 n] w fun e w' => e = .returned (.int .i64 (x % n)) ∧ w' = w := by
  have hm : Int.tmod x n = if Int.tmod x n < 0 then x % n - n else x % n := by
    rw [Int.tmod_eq_emod]
    have := Int.emod_nonneg x (show n ≠ 0 by omega)
    have := Int.emod_lt_of_pos x (show 0 < n by omega)
    by_cases hx0 : 0 ≤ x ∨ n ∣ x
    · simp only [hx0, if_true]
      split <;> omega
    · simp only [hx0, if_false]
      have : (n.natAbs : Int) = n := by omega
      split <;> omega
  have hlo := Int.emod_nonneg x (show n ≠ 0 by omega)
  have hhi := Int.emod_lt_of_pos x (show 0 < n by omega)
  go_enter Try.func13, Try.ntmps13
  by_cases h : Int.tmod x n < 0
  · rw [if_pos h] at hm
    go_wp2
    go_ret
    exact ⟨by simp, rfl⟩
  · rw [if_neg h] at hm
    go_wp2
    go_ret
    exact ⟨by simp, rfl⟩


/- The slice v holds the texts l. -/
def Txs (w : World) (v : Value) (l : List (List UInt8)) : Prop :=
  (v = .slice none 0 0 ∧ l = []) ∨ (∃ ad c, v = .slice (some ad) 0 c ∧ l = []) ∨ (0 < l.length ∧ ∃ b o c, v = .slice (some ⟨b, o, none⟩) l.length c ∧ l.length ≤ c ∧ b < w.heap.size ∧ ∀ j (h : j < l.length), w.cell? ⟨b, o + j, none⟩ = some (.string (mkS (l[j]'h))))
theorem Txs.form {w : World} {v : Value} {l : List (List UInt8)} (h : Txs w v l) : ∃ A C, v = .slice A l.length C := by
  rcases h with ⟨rfl, rfl⟩ | ⟨ad, c, rfl, rfl⟩ | ⟨_, b, o, c, rfl, _⟩
  · exact ⟨none, 0, rfl⟩
  · exact ⟨_, _, rfl⟩
  · exact ⟨_, c, rfl⟩
theorem Txs.at' {w : World} {A : Option Addr} {n C : Nat} {l : List (List UInt8)} (h : Txs w (.slice A n C) l) (k : Nat) (hk : k < l.length) : ∃ b o, A = some ⟨b, o, none⟩ ∧ w.cell? ⟨b, o + k, none⟩ = some (.string (mkS (l[k]'hk))) := by
  rcases h with ⟨_, rfl⟩ | ⟨_, _, _, rfl⟩ | ⟨_, b, o, c, he, _, _, h3⟩
  · simp at hk
  · simp at hk
  · cases he
    exact ⟨b, o, rfl, h3 k hk⟩
theorem Txs.keep {S : Nat → Prop} {w w' : World} {v : Value} {l : List (List UInt8)} (h : Txs w v l) (hc : Chg S w w') (hn : ∀ k, bk v = some k → ¬ S k) : Txs w' v l := by
  rcases h with h | h | ⟨h0, b, o, c, rfl, h1, h2, h3⟩
  · exact .inl h
  · exact .inr (.inl h)
  · refine .inr (.inr ⟨h0, b, o, c, rfl, h1, hc.lt_of h2, fun j hj => ?_⟩)
    rw [hc.cell (a := ⟨b, o + j, none⟩) h2 (hn b (bk_pos h0))]
    exact h3 j hj
theorem Txs.of_owns {w : World} {base : Nat} {v : Value} {n : Nat} {l : List (List UInt8)} (h : w.ownsRow base 9 1 v n (l.map fun x => Value.string (mkS x))) : Txs w v l := by
  have hn : n = l.length := by have := h.1; simp at this; omega
  subst hn
  rcases h.2 with ⟨rfl, h0⟩ | ⟨g, cap, cur, rfl, hb, hg, hc, hm, hs, ht⟩
  · exact .inl ⟨rfl, List.length_eq_zero_iff.1 h0⟩
  · by_cases hl : 0 < l.length
    · refine .inr (.inr ⟨hl, g, 0, cap, rfl, hc, heap_lt hg, fun j hj => ?_⟩)
      have := h.cells (g := g) rfl j (.string (mkS (l[j]'hj))) (by simp [hj])
      rw [show (⟨g, 0, none⟩ : Addr).add j = ⟨g, 0 + j, none⟩ by simp only [Addr.add]; split <;> simp_all] at this
      exact this
    · have : l = [] := List.length_eq_zero_iff.1 (by omega)
      subst this
      exact .inr (.inl ⟨_, cap, rfl, rfl⟩)
theorem Txs.new (w : World) (l : List (List UInt8)) : Txs (w.alloc (.cells (l.map fun x => Value.string (mkS x)).toArray 9)) (.slice (some ⟨w.heap.size, 0, none⟩) l.length l.length) l := by
  by_cases hl : 0 < l.length
  · refine .inr (.inr ⟨hl, w.heap.size, 0, l.length, rfl, Nat.le_refl _, by simp, fun j hj => ?_⟩)
    rw [cell_at (heap_alloc_new w _)]
    simp [hj]
  · have : l = [] := List.length_eq_zero_iff.1 (by omega)
    subst this
    exact .inr (.inl ⟨_, _, rfl, rfl⟩)
set_option maxRecDepth 100000 in
theorem texts_len {a1 a2 : Option Addr} {c1 c2 : Nat} {la lb : List (List UInt8)} {w : World} (hA : Txs w (.slice a1 la.length c1) la) (hB : Txs w (.slice a2 lb.length c2) lb) (hl : la.length = lb.length) (hm : la.length ≤ 140737488355328) :
    Calls Try.prog 29 #[.slice a1 la.length c1, .slice a2 lb.length c2] w fun e w' => e = .returned (.bool (decide (la = lb))) ∧ ∃ q, w' = w.drewN q := by
  have HA : Hid (Txs w (.slice a1 la.length c1) la) := hA
  have HB : Hid (Txs w (.slice a2 lb.length c2) lb) := hB
  have HL : Hid (la.length = lb.length) := hl
  clear hA hB
  rw [← hl]
  obtain ⟨n, hn⟩ : ∃ n, n = la.length := ⟨_, rfl⟩
  rw [← hn] at hm ⊢
  have HN : Hid (n = la.length) := hn
  clear hl hn
  go_enter Try.func29, Try.ntmps29
  go_wp2
  go_loopw [5] (fun i wr => ∃ (k q : Nat), k ≤ n ∧ i = .int .i64 k ∧ la.take k = lb.take k ∧ wr = w.drewN q) (fun i _ => n - (intOf i).toNat)
  case atStart => exact ⟨0, 0, Nat.zero_le _, rfl, rfl, rfl⟩
  case round =>
    obtain ⟨k, q, hk, rfl, ht, rfl⟩ := hrel
    have HT : Hid (la.take k = lb.take k) := ht
    clear ht
    by_cases hlt : k < n
    · obtain ⟨b1, o1, e1, x1⟩ := HA.out.at' k (by have := HN.out; omega)
      obtain ⟨b2, o2, e2, x2⟩ := HB.out.at' k (by have := HN.out; have := HL.out; omega)
      obtain ⟨x, hx⟩ : ∃ x : List UInt8, x = (la[k]'(by have := HN.out; omega)) := ⟨_, rfl⟩
      obtain ⟨y, hy⟩ : ∃ y : List UInt8, y = (lb[k]'(by have := HN.out; have := HL.out; omega)) := ⟨_, rfl⟩
      rw [← hx] at x1
      rw [← hy] at x2
      have HX : Hid (x = (la[k]'(by have := HN.out; omega))) := hx
      have HY : Hid (y = (lb[k]'(by have := HN.out; have := HL.out; omega))) := hy
      clear hx hy
      subst e1 e2
      by_cases hne : x = y
      · have HE : Hid (x = y) := hne
        go_wp2_with fail
        go_quiet (fail)
        go_wp2
        go_roundw
        case rel => exact ⟨k + 1, q + nq, by omega, by go_num, take_step k _ _ HT.out (by rw [← HX.out, ← HY.out]; exact HE.out), rfl⟩
        case measure => simp [intOf]; omega
      · have HE : Hid (¬ x = y) := hne
        have hb : ((mkS x).toList == (mkS y).toList) = false := by
          simp only [ByteArray.toList_eq]
          simpa [mkS] using hne
        clear hne
        go_wp2_with fail
        go_quiet (fail)
        go_wp2
        go_ret
        exact ⟨ret_bool (by rw [decide_eq_false (ne_at k _ _ (fun e => HE.out (by rw [HX.out, HY.out, e])))]), q + nq, by simp⟩
    · go_wp2
      go_ret
      exact ⟨ret_bool (by rw [decide_eq_true (eq_of_take HL.out k (by have := HN.out; omega) HT.out)]), q, rfl⟩
set_option maxRecDepth 100000 in
theorem texts_any {x y : Value} {la lb : List (List UInt8)} {w : World} (hA : Txs w x la) (hB : Txs w y lb) (hm : la.length ≤ 140737488355328) :
    Calls Try.prog 29 #[x, y] w fun e w' => e = .returned (.bool (decide (la = lb))) ∧ ∃ q, w' = w.drewN q := by
  obtain ⟨a1, c1, rfl⟩ := hA.form
  obtain ⟨a2, c2, rfl⟩ := hB.form
  by_cases hl : la.length = lb.length
  · exact texts_len hA hB hl hm
  · have hd : decide (la = lb) = false := decide_eq_false (fun h => hl (by rw [h]))
    rw [hd]
    clear hd hA hB
    generalize la.length = n at *
    generalize lb.length = m at *
    have hb : ((n : Int) != (m : Int)) = true := by simp; omega
    clear hl
    go_enter Try.func29, Try.ntmps29
    go_wp2
    go_ret
    exact ⟨rfl, 0, rfl⟩
end Go.Proofs.Ytndjlnlmlgimlaa
