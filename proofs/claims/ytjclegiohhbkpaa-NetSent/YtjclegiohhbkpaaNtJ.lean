/- The walk of links (the comparing of two rows of links). -/
import Derived.Test.YtjclegiohhbkpaaNtI
namespace Go.Proofs.Ytjclegiohhbkpaa
open Go.RowKit Go.MapKept

/- The slice v holds the links l. -/
def Ls (w : World) (v : Value) (l : List (Int × Int)) : Prop :=
  ∃ A C, v = .slice A l.length C ∧ ∀ j (h : j < l.length), ∃ b o, A = some ⟨b, o, none⟩ ∧ w.cell? ⟨b, o + j * 2, none⟩ = some (.int .i64 (l[j]'h).1) ∧ w.cell? ⟨b, o + j * 2 + 1, none⟩ = some (.int .i64 (l[j]'h).2)
theorem flat_at (l : List (Int × Int)) (j : Nat) (h : j < l.length) : (l.flatMap encK)[j * 2]? = some (.int .i64 (l[j]'h).1) ∧ (l.flatMap encK)[j * 2 + 1]? = some (.int .i64 (l[j]'h).2) := by
  induction l generalizing j with
  | nil => simp at h
  | cons x l ih =>
    cases j with
    | zero => exact ⟨rfl, rfl⟩
    | succ j =>
      have := ih j (by simpa using h)
      rw [List.flatMap_cons, show (j + 1) * 2 = j * 2 + 2 by omega, show j * 2 + 2 + 1 = j * 2 + 1 + 2 by omega]
      rw [List.getElem?_append_right (by simp [encK]), List.getElem?_append_right (by simp [encK])]
      simpa [encK] using this
theorem Ls.of_owns {w : World} {base : Nat} {v : Value} {l : List (Int × Int)} (h : w.ownsRow base 56 2 v l.length (l.flatMap encK)) : Ls w v l := by
  rcases h.2 with ⟨rfl, h0⟩ | ⟨g, cap, cur, rfl, hb, hg, hc, hm, hs, ht⟩
  · have : l = [] := List.length_eq_zero_iff.1 h0
    subst this
    exact ⟨none, 0, rfl, fun j hj => by simp at hj⟩
  · refine ⟨_, cap, rfl, fun j hj => ⟨g, 0, rfl, ?_, ?_⟩⟩
    · have := h.cells (g := g) rfl (j * 2) _ (flat_at l j hj).1
      rw [show (⟨g, 0, none⟩ : Addr).add (j * 2) = ⟨g, 0 + j * 2, none⟩ by simp only [Addr.add]; split <;> simp_all] at this
      exact this
    · have := h.cells (g := g) rfl (j * 2 + 1) _ (flat_at l j hj).2
      rw [show (⟨g, 0, none⟩ : Addr).add (j * 2 + 1) = ⟨g, 0 + j * 2 + 1, none⟩ by simp only [Addr.add]; split <;> simp_all] at this
      exact this
theorem Ls.lit (w : World) (l : List (Int × Int)) {cs : Array Value} (hc : (l.flatMap encK).toArray = cs) {n : Nat} (hn : l.length = n) : Ls (w.alloc (.cells cs 56)) (.slice (some ⟨w.heap.size, 0, none⟩) n n) l := by
  subst hc; subst hn
  refine ⟨_, _, rfl, fun j hj => ⟨w.heap.size, 0, rfl, ?_, ?_⟩⟩
  · rw [cell_at (heap_alloc_new w _)]
    simpa using (flat_at l j hj).1
  · rw [cell_at (heap_alloc_new w _)]
    simpa using (flat_at l j hj).2
theorem Ls.at' {w : World} {A : Option Addr} {n C : Nat} {l : List (Int × Int)} (h : Ls w (.slice A n C) l) (k : Nat) (hk : k < l.length) : ∃ b o, A = some ⟨b, o, none⟩ ∧ w.cell? ⟨b, o + k * 2, none⟩ = some (.int .i64 (l[k]'hk).1) ∧ w.cell? ⟨b, o + k * 2 + 1, none⟩ = some (.int .i64 (l[k]'hk).2) := by
  obtain ⟨A', C', e, h⟩ := h
  injection e with e
  subst e
  exact h k hk
theorem Ls.keep {S : Nat → Prop} {w w' : World} {v : Value} {l : List (Int × Int)} (h : Ls w v l) (hc : Chg S w w') (hn : ∀ k, bk v = some k → ¬ S k) : Ls w' v l := by
  obtain ⟨A, C, rfl, h⟩ := h
  refine ⟨A, C, rfl, fun j hj => ?_⟩
  obtain ⟨b, o, rfl, h1, h2⟩ := h j hj
  have hb : ¬ S b := hn b (bk_pos (by omega))
  refine ⟨b, o, rfl, ?_, ?_⟩
  · rw [hc.cell (a := ⟨b, o + j * 2, none⟩) (World.block_lt_of_cell? w _ h1) hb]; exact h1
  · rw [hc.cell (a := ⟨b, o + j * 2 + 1, none⟩) (World.block_lt_of_cell? w _ h2) hb]; exact h2
theorem Ls.below {w w' : World} {v : Value} {l : List (Int × Int)} (h : Ls w v l) (hb : Below w.heap.size w w') : Ls w' v l := h.keep (Chg.of_below hb) (fun _ _ => id)
theorem Ls.drewN {w : World} {v : Value} {l : List (Int × Int)} (h : Ls w v l) (n : Nat) : Ls (w.drewN n) v l := h.keep (Chg.drewN Non w n) (fun _ _ => id)
theorem take_step {α : Type} (k : Nat) (a b : List α) {ha : k < a.length} {hb : k < b.length} (h : a.take k = b.take k) (he : a[k]'ha = b[k]'hb) : a.take (k + 1) = b.take (k + 1) := by
  rw [List.take_succ_eq_append_getElem ha, List.take_succ_eq_append_getElem hb, h, he]
theorem ne_at {α : Type} (k : Nat) (a b : List α) {ha : k < a.length} {hb : k < b.length} (he : ¬ a[k]'ha = b[k]'hb) : a ≠ b := by
  rintro rfl; exact he rfl
theorem eq_of_take {α : Type} {a b : List α} (hl : a.length = b.length) (k : Nat) (hk : a.length ≤ k) (h : a.take k = b.take k) : a = b := by
  rw [List.take_of_length_le hk, List.take_of_length_le (by omega)] at h
  exact h
theorem ret_bool {a b : Bool} (h : a = b) : Ending.returned (.bool a) = .returned (.bool b) := by rw [h]
set_option maxRecDepth 100000 in
theorem links_len_eq {a1 a2 : Option Addr} {c1 c2 : Nat} {la lb : List (Int × Int)} {w : World} (hA : Ls w (.slice a1 la.length c1) la) (hB : Ls w (.slice a2 lb.length c2) lb) (hl : la.length = lb.length) (hm : la.length ≤ 1000000) :
    Calls Try.prog 11 #[.slice a1 la.length c1, .slice a2 lb.length c2] w fun e w' => e = .returned (.bool (decide (la = lb))) ∧ ∃ q, w' = w.drewN q := by
  have HA : Hid (Ls w (.slice a1 la.length c1) la) := hA
  have HB : Hid (Ls w (.slice a2 lb.length c2) lb) := hB
  have HL : Hid (la.length = lb.length) := hl
  clear hA hB
  rw [← hl]
  obtain ⟨n, hn⟩ : ∃ n, n = la.length := ⟨_, rfl⟩
  rw [← hn] at hm ⊢
  have HN : Hid (n = la.length) := hn
  clear hl hn
  have hneq : ∀ (w : World) (a b : Int × Int), (Op.equalIn 10000 56 (keyV a) (keyV b)).run Try.prog w = .ok (decide (a = b)) w := fun w a b => run_eqAgg 9998 a b w
  simp only [keyV] at hneq
  go_enter Try.func11, Try.ntmps11
  go_wp2
  go_loopw [5] (fun i wr => ∃ (k q : Nat), k ≤ n ∧ i = .int .i64 k ∧ la.take k = lb.take k ∧ wr = w.drewN q) (fun i _ => n - (intOf i).toNat)
  case atStart => exact ⟨0, 0, Nat.zero_le _, rfl, rfl, rfl⟩
  case round =>
    obtain ⟨k, q, hk, rfl, ht, rfl⟩ := hrel
    have HT : Hid (la.take k = lb.take k) := ht
    clear ht
    by_cases hlt : k < n
    · obtain ⟨b1, o1, e1, x1, x1'⟩ := HA.out.at' k (by have := HN.out; omega)
      obtain ⟨b2, o2, e2, x2, x2'⟩ := HB.out.at' k (by have := HN.out; have := HL.out; omega)
      obtain ⟨x, hx⟩ : ∃ x : Int × Int, x = (la[k]'(by have := HN.out; omega)) := ⟨_, rfl⟩
      obtain ⟨y, hy⟩ : ∃ y : Int × Int, y = (lb[k]'(by have := HN.out; have := HL.out; omega)) := ⟨_, rfl⟩
      rw [← hx] at x1 x1'
      rw [← hy] at x2 x2'
      have HX : Hid (x = (la[k]'(by have := HN.out; omega))) := hx
      have HY : Hid (y = (lb[k]'(by have := HN.out; have := HL.out; omega))) := hy
      clear hx hy
      subst e1 e2
      have hq := fun q => hneq (w.drewN q) x y
      by_cases hne : x = y
      · have HE : Hid (x = y) := hne
        rw [decide_eq_true hne] at hq
        clear hne hneq
        go_wp2_with fail
        go_quiet (fail)
        go_wp2
        go_roundw
        case rel => exact ⟨k + 1, q + nq, by omega, by go_num, take_step k _ _ HT.out (by rw [← HX.out, ← HY.out]; exact HE.out), rfl⟩
        case measure => simp [intOf]; omega
      · have HE : Hid (¬ x = y) := hne
        rw [decide_eq_false hne] at hq
        clear hne hneq
        go_wp2_with fail
        go_quiet (fail)
        go_wp2
        go_ret
        exact ⟨ret_bool (by rw [decide_eq_false (ne_at k _ _ (fun e => HE.out (by rw [HX.out, HY.out, e])))]), q + nq, by simp⟩
    · go_wp2
      go_ret
      exact ⟨ret_bool (by rw [decide_eq_true (eq_of_take HL.out k (by have := HN.out; omega) HT.out)]), q, rfl⟩
set_option maxRecDepth 100000 in
theorem links_eq {x y : Value} {la lb : List (Int × Int)} {w : World} (hA : Ls w x la) (hB : Ls w y lb) (hm : la.length ≤ 1000000) :
    Calls Try.prog 11 #[x, y] w fun e w' => e = .returned (.bool (decide (la = lb))) ∧ ∃ q, w' = w.drewN q := by
  have hA' := hA
  have hB' := hB
  obtain ⟨a1, c1, rfl, -⟩ := hA'
  obtain ⟨a2, c2, rfl, -⟩ := hB'
  by_cases hl : la.length = lb.length
  · exact links_len_eq hA hB hl hm
  · have hd : decide (la = lb) = false := decide_eq_false (fun h => hl (by rw [h]))
    rw [hd]
    clear hd hA hB
    generalize la.length = n at *
    generalize lb.length = m at *
    have hb : ((n : Int) != (m : Int)) = true := by simp; omega
    clear hl
    go_enter Try.func11, Try.ntmps11
    go_wp2
    go_ret
    exact ⟨rfl, 0, rfl⟩
end Go.Proofs.Ytjclegiohhbkpaa
