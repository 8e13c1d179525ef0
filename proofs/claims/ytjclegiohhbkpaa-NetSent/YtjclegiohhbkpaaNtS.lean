/- The walks of beadlekit's comparing of bytes, its copying of bytes, its picking. -/
import Derived.Test.YtjclegiohhbkpaaNtK
namespace Go.Proofs.Ytjclegiohhbkpaa
open Go.RowKit

theorem Bs.at' {w : World} {A : Option Addr} {n C : Nat} {l : List UInt8} (h : Bs w (.slice A n C) l) (k : Nat) (hk : k < l.length) : ∃ b o, A = some ⟨b, o, none⟩ ∧ w.cell? ⟨b, o + k, none⟩ = some (.int .u8 ((l[k]'hk).toNat : Int)) := by
  rcases h with ⟨_, rfl⟩ | ⟨_, _, _, rfl⟩ | ⟨_, b, o, c, he, _, _, h3⟩
  · simp at hk
  · simp at hk
  · cases he
    exact ⟨b, o, rfl, h3 k hk⟩
theorem u8_inj {x y : UInt8} (h : (x.toNat : Int) = (y.toNat : Int)) : x = y := UInt8.toNat.inj (by omega)
set_option maxRecDepth 100000 in
theorem same_len {a1 a2 : Option Addr} {c1 c2 : Nat} {la lb : List UInt8} {w : World} (hA : Bs w (.slice a1 la.length c1) la) (hB : Bs w (.slice a2 lb.length c2) lb) (hl : la.length = lb.length) (hm : la.length ≤ 140737488355328) :
    Calls Try.prog 26 #[.slice a1 la.length c1, .slice a2 lb.length c2] w fun e w' => e = .returned (.bool (decide (la = lb))) ∧ ∃ q, w' = w.drewN q := by
  have HA : Hid (Bs w (.slice a1 la.length c1) la) := hA
  have HB : Hid (Bs w (.slice a2 lb.length c2) lb) := hB
  have HL : Hid (la.length = lb.length) := hl
  clear hA hB
  rw [← hl]
  obtain ⟨n, hn⟩ : ∃ n, n = la.length := ⟨_, rfl⟩
  rw [← hn] at hm ⊢
  have HN : Hid (n = la.length) := hn
  clear hl hn
  go_enter Try.func26, Try.ntmps26
  go_wp2
  go_loopw [5] (fun i wr => ∃ (k q : Nat), k ≤ n ∧ i = .int .i64 k ∧ la.take k = lb.take k ∧ wr = w.drewN q) (fun i _ => n - (intOf i).toNat)
  case atStart => exact ⟨0, 0, Nat.zero_le _, rfl, rfl, rfl⟩
  case round =>
    obtain ⟨k, q, hk, rfl, ht, rfl⟩ := hrel
    have HT : Hid (la.take k = lb.take k) := ht
    clear ht
    by_cases hlt : k < n
    · obtain ⟨b1, o1, e1, x1⟩ := HA.out.at' k (by have := HN.out; omega)
      obtain ⟨b2, o2, e2, x2⟩ := HB.out.at' k (by have := HN.out; have := HL.out; omega)
      obtain ⟨x, hx⟩ : ∃ x : Int, x = ((la[k]'(by have := HN.out; omega)).toNat : Int) := ⟨_, rfl⟩
      obtain ⟨y, hy⟩ : ∃ y : Int, y = ((lb[k]'(by have := HN.out; have := HL.out; omega)).toNat : Int) := ⟨_, rfl⟩
      rw [← hx] at x1
      rw [← hy] at x2
      have HX : Hid (x = ((la[k]'(by have := HN.out; omega)).toNat : Int)) := hx
      have HY : Hid (y = ((lb[k]'(by have := HN.out; have := HL.out; omega)).toNat : Int)) := hy
      clear hx hy
      subst e1 e2
      by_cases hne : x = y
      · have hb : (x != y) = false := by simpa using hne
        have HE : Hid (x = y) := hne
        clear hne
        go_wp2_with fail
        go_quiet (fail)
        go_wp2
        go_roundw
        case rel => exact ⟨k + 1, q + nq, by omega, by go_num, take_step k _ _ HT.out (u8_inj (by rw [← HX.out, ← HY.out]; exact HE.out)), rfl⟩
        case measure => simp [intOf]; omega
      · have hb : (x != y) = true := by simpa using hne
        have HE : Hid (¬ x = y) := hne
        clear hne
        go_wp2_with fail
        go_quiet (fail)
        go_wp2
        go_ret
        exact ⟨ret_bool (by rw [decide_eq_false (ne_at k _ _ (fun e => HE.out (by rw [HX.out, HY.out, e])))]), q + nq, by simp⟩
    · go_wp2
      go_ret
      exact ⟨ret_bool (by rw [decide_eq_true (eq_of_take HL.out k (by have := HN.out; omega) HT.out)]), q, rfl⟩
set_option maxRecDepth 100000 in
theorem same_any {x y : Value} {la lb : List UInt8} {w : World} (hA : Bs w x la) (hB : Bs w y lb) (hm : la.length ≤ 140737488355328) :
    Calls Try.prog 26 #[x, y] w fun e w' => e = .returned (.bool (decide (la = lb))) ∧ ∃ q, w' = w.drewN q := by
  obtain ⟨a1, c1, rfl⟩ := bs_form hA
  obtain ⟨a2, c2, rfl⟩ := bs_form hB
  by_cases hl : la.length = lb.length
  · exact same_len hA hB hl hm
  · have hd : decide (la = lb) = false := decide_eq_false (fun h => hl (by rw [h]))
    rw [hd]
    clear hd hA hB
    generalize la.length = n at *
    generalize lb.length = m at *
    have hb : ((n : Int) != (m : Int)) = true := by simp; omega
    clear hl
    go_enter Try.func26, Try.ntmps26
    go_wp2
    go_ret
    exact ⟨rfl, 0, rfl⟩
theorem Bs.drewN {w : World} {v : Value} {l : List UInt8} (h : Bs w v l) (n : Nat) : Bs (w.drewN n) v l := h.keep (Chg.drewN Non w n) (fun _ _ => id)
theorem owns_nil (w : World) (base : Nat) : w.ownsRow base 5 1 (.slice none 0 0) 0 (bv []) := World.ownsRow_nil _ _ _ _
theorem Bs.below' {w w' : World} {v : Value} {l : List UInt8} (h : Bs w v l) (hb : Below w.heap.size w w') : Bs w' v l := h.keep (Chg.of_below hb) (fun _ _ => id)
set_option maxRecDepth 100000 in
theorem copyB_any {w : World} {x : Value} {l : List UInt8} (hx : Bs w x l) (hl : l.length ≤ 140737488355328) :
    Calls Try.prog 18 #[x] w fun e w' => ∃ A C, e = .returned (.slice A l.length C) ∧ w'.ownsRow w.heap.size 5 1 (.slice A l.length C) l.length (bv l) ∧ Below w.heap.size w w' := by
  have HX : Hid (Bs w x l) := hx
  obtain ⟨A, C, rfl⟩ := bs_form hx
  clear hx
  go_enter Try.func18, Try.ntmps18
  go_wp2_with (at_builtin; refine wpList_app rfl (.tmp 4) (.tmp 5) rfl (.slice none 0 0) (.slice A l.length C) rfl rfl (owns_nil w w.heap.size) HX.out (Nat.le_refl _) (by simp; omega) ?_; intro A1 C1 w1 ho hg hat _)
  go_ret
  simp only [List.length_nil, Nat.zero_add, List.nil_append] at ho
  exact ⟨A1, C1, by simp, ho, (Below.refl _ _).grown hg (Nat.le_refl _) (fun k hk => by simp [blk, Value.ownBlock] at hk)⟩
set_option maxRecDepth 100000 in
theorem pick_any (x n : Int) (_hx : -9223372036854775808 ≤ x ∧ x < 9223372036854775808) (hn : n < 9223372036854775808) (h1 : 1 ≤ n) (w : World) : Calls Try.prog 16 #[.int .i64 x, .int .i64 n] w fun e w' => e = .returned (.int .i64 (x % n)) ∧ w' = w := by
  have hm : Int.tmod x n = if Int.tmod x n < 0 then x % n - n else x % n := by
    rw [Int.tmod_eq_emod]
    have := Int.emod_nonneg x (show n ≠ 0 by omega)
    have := Int.emod_lt_of_pos x (show 0 < n by omega)
    by_cases hx0 : 0 ≤ x ∨ n ∣ x
    · simp only [hx0, if_true]
      split <;> omega
    · simp only [hx0, if_false]
      have : (n.natAbs : Int) = n := by omega
      split <;> omega
  have hlo := Int.emod_nonneg x (show n ≠ 0 by omega)
  have hhi := Int.emod_lt_of_pos x (show 0 < n by omega)
  go_enter Try.func16, Try.ntmps16
  by_cases h : Int.tmod x n < 0
  · rw [if_pos h] at hm
    go_wp2
    go_ret
    exact ⟨by simp, rfl⟩
  · rw [if_neg h] at hm
    go_wp2
    go_ret
    exact ⟨by simp, rfl⟩


end Go.Proofs.Ytjclegiohhbkpaa
