/- The walks of servers that are there, of weights by groups, and of quorums. -/
import Derived.BigQuiet
import Derived.Deep.QuietTactic
import Derived.Deep.RegionHeld3
import Derived.Test.YtohhbhkpekieiaaEnsA
namespace Go.Proofs.Ytohhbhkpekieiaa
open Go.RowKit

/- Numbers in memory. -/
def Ns (w : World) (v : Value) (l : List Int) : Prop :=
  (v = .slice none 0 0 ∧ l = []) ∨ (∃ ad c, v = .slice (some ad) 0 c ∧ l = []) ∨ (0 < l.length ∧ ∃ b o c, v = .slice (some ⟨b, o, none⟩) l.length c ∧ l.length ≤ c ∧ b < w.heap.size ∧
    ∀ j (h : j < l.length), w.cell? ⟨b, o + j, none⟩ = some (.int .i64 (l[j]'h)))
theorem Ns.nil (w : World) : Ns w (.slice none 0 0) [] := .inl ⟨rfl, rfl⟩
theorem Ns.form {w : World} {v : Value} {l : List Int} (h : Ns w v l) : ∃ A C, v = .slice A l.length C := by
  rcases h with ⟨rfl, rfl⟩ | ⟨ad, c, rfl, rfl⟩ | ⟨_, b, o, c, rfl, _⟩
  · exact ⟨none, 0, rfl⟩
  · exact ⟨_, _, rfl⟩
  · exact ⟨_, _, rfl⟩
theorem Ns.keep {S : Nat → Prop} {w w' : World} {v : Value} {l : List Int} (h : Ns w v l) (hc : Chg S w w') (hn : ∀ k, bk v = some k → ¬ S k) : Ns w' v l := by
  rcases h with h | h | ⟨h0, b, o, c, rfl, h1, h2, h3⟩
  · exact .inl h
  · exact .inr (.inl h)
  · refine .inr (.inr ⟨h0, b, o, c, rfl, h1, hc.lt_of h2, fun j hj => ?_⟩)
    rw [hc.cell (a := ⟨b, o + j, none⟩) h2 (hn b (bk_pos h0))]
    exact h3 j hj
theorem Ns.lt {w : World} {v : Value} {l : List Int} (h : Ns w v l) {k : Nat} (hk : bk v = some k) : k < w.heap.size := by
  rcases h with ⟨rfl, _⟩ | ⟨ad, c, rfl, _⟩ | ⟨h0, b, o, c, rfl, _, h2, _⟩
  · exact absurd hk (bk_zero _ _ _)
  · exact absurd hk (bk_zero _ _ _)
  · rw [bk_pos h0] at hk; cases hk; exact h2
theorem Ns.below {w w' : World} {B : Nat} {v : Value} {l : List Int} (h : Ns w v l) (hb : Below B w w') (hk : ∀ k, bk v = some k → k < B) : Ns w' v l := by
  rcases h with h | h | ⟨h0, b, o, c, rfl, h1, h2, h3⟩
  · exact .inl h
  · exact .inr (.inl h)
  · refine .inr (.inr ⟨h0, b, o, c, rfl, h1, Nat.lt_of_lt_of_le h2 hb.size, fun j hj => ?_⟩)
    rw [hb.cell (p := ⟨b, o + j, none⟩) (hk b (bk_pos h0))]
    exact h3 j hj
theorem Ns.below' {w w' : World} {v : Value} {l : List Int} (h : Ns w v l) (hb : Below w.heap.size w w') : Ns w' v l := h.below hb (fun _ hk => h.lt hk)
theorem Ns.drew {w : World} {v : Value} {l : List Int} (h : Ns w v l) : Ns w.drew v l := h.keep (Chg.drew Non w) (fun _ _ => id)
theorem Mems.drew {w : World} {v : Value} {l : List Mem} (h : Mems w v l) : Mems w.drew v l := h.keep (Chg.drew Non w) (fun _ _ => id)
theorem Ns.at' {w : World} {A : Option Addr} {n C : Nat} {l : List Int} (h : Ns w (.slice A n C) l) (j : Nat) (hj : j < l.length) : ∃ b o, A = some ⟨b, o, none⟩ ∧ b < w.heap.size ∧ w.cell? ⟨b, o + j, none⟩ = some (.int .i64 (l[j]'hj)) := by
  rcases h with ⟨_, rfl⟩ | ⟨_, _, _, rfl⟩ | ⟨_, b, o, c, he, _, h2, h3⟩
  · simp at hj
  · simp at hj
  · cases he
    exact ⟨b, o, rfl, h2, h3 j hj⟩
/- Which of the servers 1 to 7 are there. -/
def th (l : List Int) (i : Nat) : Bool := decide (0 < i) && l.contains (i : Int)
def thA (l : List Int) : Array Value := #[.bool (th l 0), .bool (th l 1), .bool (th l 2), .bool (th l 3), .bool (th l 4), .bool (th l 5), .bool (th l 6), .bool (th l 7)]
theorem lt8 {P : Nat → Prop} (h0 : P 0) (h1 : P 1) (h2 : P 2) (h3 : P 3) (h4 : P 4) (h5 : P 5) (h6 : P 6) (h7 : P 7) (n : Nat) (hn : n < 8) : P n := by
  have : n = 0 ∨ n = 1 ∨ n = 2 ∨ n = 3 ∨ n = 4 ∨ n = 5 ∨ n = 6 ∨ n = 7 := by omega
  rcases this with rfl | rfl | rfl | rfl | rfl | rfl | rfl | rfl <;> assumption
theorem thA_get (l : List Int) (n : Nat) (hn : n < 8) : (thA l)[n]? = some (.bool (th l n)) := by
  revert hn; exact fun hn => lt8 (P := fun n => (thA l)[n]? = some (.bool (th l n))) rfl rfl rfl rfl rfl rfl rfl rfl n hn
theorem thA_ext {l : List Int} {a : Array Value} (hs : a.size = 8) (h : ∀ n, n < 8 → a[n]? = some (.bool (th l n))) : a = thA l := by
  apply Array.ext_getElem?
  intro i
  by_cases hi : i < 8
  · rw [h i hi, thA_get l i hi]
  · rw [Array.getElem?_eq_none (by omega), Array.getElem?_eq_none (by show 8 ≤ i; omega)]
theorem th_snoc (l : List Int) (x : Int) (i : Nat) : th (l ++ [x]) i = (th l i || (decide (0 < i) && decide ((i : Int) = x))) := by
  unfold th
  rw [Bool.eq_iff_iff]
  simp
  by_cases h : 0 < i <;> simp [h]
theorem thA_set (l : List Int) (n : Nat) (h0 : 0 < n) (hn : n < 8) : (thA l).setIfInBounds n (.bool true) = thA (l ++ [(n : Int)]) := by
  refine thA_ext (by rw [Array.size_setIfInBounds]; rfl) fun i hi => ?_
  rw [Array.getElem?_setIfInBounds, th_snoc]
  by_cases e : n = i
  · subst e
    rw [if_pos rfl, if_pos (by show n < 8; exact hn)]
    simp [h0]
  · rw [if_neg e, thA_get l i hi]
    have : decide ((i : Int) = (n : Int)) = false := decide_eq_false (by omega)
    rw [this]; simp
theorem thA_skip (l : List Int) (x : Int) (h : ¬ (0 < x ∧ x ≤ 7)) : thA (l ++ [x]) = thA l := by
  symm
  refine thA_ext rfl fun i hi => ?_
  rw [thA_get l i hi, th_snoc]
  have : (decide (0 < i) && decide ((i : Int) = x)) = false := by
    rw [Bool.and_eq_false_iff]
    by_cases h1 : 0 < i
    · exact .inr (decide_eq_false (by omega))
    · exact .inl (decide_eq_false h1)
  rw [this, Bool.or_false]
theorem takeN {l : List Int} {k : Nat} (h : k < l.length) : l.take (k + 1) = l.take k ++ [l[k]'h] := List.take_succ_eq_append_getElem h
set_option maxRecDepth 100000 in
theorem among_any {w : World} {v : Value} {l : List Int} (h : Ns w v l) (hl : l.length ≤ 9223372036854775807) :
    Calls Try.prog 39 #[v] w fun e w' => e = .returned (.agg (thA l)) ∧ Below w.heap.size w w' := by
  have HM : Hid (Ns w v l) := h
  obtain ⟨A, C, rfl⟩ := h.form
  clear h
  go_enter Try.func39, Try.ntmps39
  go_wp2_with fail
  go_loopw [5, 8] (fun _ i wr => ∃ k : Nat, i = .int .i64 k ∧ k ≤ l.length ∧ wr.heap[w.heap.size]? = some (.cells (thA []) 62 (0, 0)) ∧ wr.heap[w.heap.size + 1]? = some (.cells (thA (l.take k)) 62 (0, 0)) ∧ Below w.heap.size w wr) (fun _ i _ => l.length - (intOf i).toNat)
  case atStart =>
    refine ⟨0, rfl, by omega, ?_, ?_, ((Below.refl _ _).alloc (Nat.le_refl _) _).alloc (by simp) _⟩
    · have := heap_alloc_new w (.cells (thA []) 62 (0, 0))
      rw [Below.heap_alloc _ _ _ (by simp)]
      exact this
    · have := heap_alloc_new (w.alloc (.cells (thA []) 62 (0, 0))) (.cells (thA []) 62 (0, 0))
      rw [show (w.alloc (.cells (thA []) 62 (0, 0))).heap.size = w.heap.size + 1 by simp] at this
      exact this
  case round =>
    obtain ⟨k, rfl, hk, hc0, hc, hB⟩ := hrel
    have HB : Hid (Below w.heap.size w wr) := hB
    have HC : Hid (wr.heap[w.heap.size + 1]? = some (.cells (thA (l.take k)) 62 (0, 0))) := hc
    have HC0 : Hid (wr.heap[w.heap.size]? = some (.cells (thA []) 62 (0, 0))) := hc0
    have hlt1 := heap_lt hc
    by_cases hlt : k < l.length
    · obtain ⟨b, o, rfl, hb, c0⟩ := (HM.out.below' HB.out).at' k hlt
      have HT : Hid (l.take (k + 1) = l.take k ++ [l[k]'hlt]) := takeN hlt
      generalize (l[k]'hlt) = x at c0 HT
      by_cases hx : 0 < x ∧ x ≤ 7
      · obtain ⟨n, rfl⟩ := Int.eq_ofNat_of_zero_le (show 0 ≤ x by omega)
        obtain ⟨hx1, hx2⟩ := hx
        have hcn : wr.cell? ⟨w.heap.size + 1, n, none⟩ = some (.bool (th (l.take k) n)) := by rw [cell_at hc n]; exact thA_get _ n (by omega)
        have hfn : wr.frozen? ⟨w.heap.size + 1, n, none⟩ = false := frozen_at hc n
        clear hc hB hc0
        go_wp2_with fail
        have hch : Chg (fun j => j = w.heap.size + 1) wr (wr.setCell ⟨w.heap.size + 1, n, none⟩ (.bool true)) := Chg.setCell wr ⟨w.heap.size + 1, n, none⟩ _ rfl
        refine ⟨⟨k + 1, by go_num, by omega, ?_, ?_, HB.out.trans (hch.below (fun j e => by have : j = w.heap.size + 1 := e; omega) HB.out.size)⟩, by simp [intOf]; omega⟩
        · rw [hch.block _ (by omega) (fun e => by have : w.heap.size = w.heap.size + 1 := e; omega)]; exact HC0.out
        · rw [heap_set HC.out n, HT.out, thA_set _ n (by omega) (by omega)]
      · have hx' : (x ≤ 0) ∨ (0 < x ∧ 7 < x) := by omega
        have HX : Hid (¬ (0 < x ∧ x ≤ 7)) := hx
        clear hx hc hB hc0
        rcases hx' with hx | ⟨hx, hx2⟩
        all_goals
          go_wp2_with fail
          exact ⟨⟨k + 1, by go_num, by omega, HC0.out, by rw [HT.out, thA_skip _ _ HX.out]; exact HC.out, HB.out⟩, by simp [intOf]; omega⟩
    · have hkk : k = l.length := by omega
      subst hkk
      rw [List.take_length] at HC hc
      have hd : ∀ n, n < 8 → wr.cell? ⟨w.heap.size + 1, n, none⟩ = some (.bool (th l n)) := fun n hn => by rw [cell_at hc n]; exact thA_get _ n hn
      have d0 := hd 0 (by omega)
      have d1 := hd 1 (by omega)
      have d2 := hd 2 (by omega)
      have d3 := hd 3 (by omega)
      have d4 := hd 4 (by omega)
      have d5 := hd 5 (by omega)
      have d6 := hd 6 (by omega)
      have d7 := hd 7 (by omega)
      have f := fun n => frozen_at hc0 n
      have f0 := f 0
      have f1 := f 1
      have f2 := f 2
      have f3 := f 3
      have f4 := f 4
      have f5 := f 5
      have f6 := f 6
      have f7 := f 7
      have hz : ∀ n, n < 8 → wr.cell? ⟨w.heap.size, n, none⟩ = some (.bool (th [] n)) := fun n hn => by rw [cell_at hc0 n]; exact thA_get _ n hn
      have z0 := hz 0 (by omega)
      have z1 := hz 1 (by omega)
      have z2 := hz 2 (by omega)
      have z3 := hz 3 (by omega)
      have z4 := hz 4 (by omega)
      have z5 := hz 5 (by omega)
      have z6 := hz 6 (by omega)
      have z7 := hz 7 (by omega)
      clear hd f hz hc hB hc0
      go_wp2
      refine bodyPost_ret (v := .agg (thA l)) (by simp [results, Try.results39, go_sem, thA, z0, z1, z2, z3, z4, z5, z6, z7]) rfl ⟨rfl, ?_⟩
      exact (((((((HB.out.setCell (Nat.le_refl _) _).setCell (Nat.le_refl _) _).setCell (Nat.le_refl _) _).setCell (Nat.le_refl _) _).setCell (Nat.le_refl _) _).setCell (Nat.le_refl _) _).setCell (Nat.le_refl _) _).setCell (Nat.le_refl _) _
/- Weights by groups. -/
def wtA (f : Nat → Int) : Array Value := #[.int .i64 (f 0), .int .i64 (f 1), .int .i64 (f 2), .int .i64 (f 3), .int .i64 (f 4), .int .i64 (f 5), .int .i64 (f 6)]
theorem lt7 {P : Nat → Prop} (h0 : P 0) (h1 : P 1) (h2 : P 2) (h3 : P 3) (h4 : P 4) (h5 : P 5) (h6 : P 6) (n : Nat) (hn : n < 7) : P n := by
  have : n = 0 ∨ n = 1 ∨ n = 2 ∨ n = 3 ∨ n = 4 ∨ n = 5 ∨ n = 6 := by omega
  rcases this with rfl | rfl | rfl | rfl | rfl | rfl | rfl <;> assumption
theorem wtA_get (f : Nat → Int) (n : Nat) (hn : n < 7) : (wtA f)[n]? = some (.int .i64 (f n)) :=
  lt7 (P := fun n => (wtA f)[n]? = some (.int .i64 (f n))) rfl rfl rfl rfl rfl rfl rfl n hn
theorem wtA_ext {f : Nat → Int} {a : Array Value} (hs : a.size = 7) (h : ∀ n, n < 7 → a[n]? = some (.int .i64 (f n))) : a = wtA f := by
  apply Array.ext_getElem?
  intro i
  by_cases hi : i < 7
  · rw [h i hi, wtA_get f i hi]
  · rw [Array.getElem?_eq_none (by omega), Array.getElem?_eq_none (by show 7 ≤ i; omega)]
theorem wtA_set (f g : Nat → Int) (n : Nat) (hn : n < 7) (h1 : ∀ i, i ≠ n → g i = f i) : (wtA f).setIfInBounds n (.int .i64 (g n)) = wtA g := by
  refine wtA_ext (by rw [Array.size_setIfInBounds]; rfl) fun i hi => ?_
  rw [Array.getElem?_setIfInBounds]
  by_cases e : n = i
  · subst e
    rw [if_pos rfl, if_pos (by show n < 7; exact hn)]
  · rw [if_neg e, wtA_get f i hi, h1 i (fun h => e h.symm)]
set_option maxRecDepth 100000 in
set_option maxHeartbeats 1000000 in
theorem wins_any (w : World) (f p : Nat → Int) (hf : ∀ n, 0 ≤ f n ∧ f n ≤ 7000) (hp : ∀ n, 0 ≤ p n ∧ p n ≤ 7000) :
    Calls Try.prog 59 #[.agg (wtA f), .agg (wtA p)] w fun e w' => e = .returned (.bool (winsB f p)) ∧ Below w.heap.size w w' := by
  have HFN : Hid (∀ n, 0 ≤ f n ∧ f n ≤ 7000) := hf
  have HPN : Hid (∀ n, 0 ≤ p n ∧ p n ≤ 7000) := hp
  clear hf hp
  unfold wtA
  go_enter Try.func59, Try.ntmps59
  go_wp2_with fail
  go_loopw [5, 6, 8] (fun s t i wr => ∃ k q : Nat, i = .int .i64 k ∧ s = .int .i64 (cnt (fun g => decide (0 < f g)) k : Nat) ∧ t = .int .i64 (cnt (fun g => decide (f g < 2 * p g)) k : Nat) ∧ k ≤ 7 ∧ wr = ((w.alloc (.cells (wtA f) 86 (0, 0))).alloc (.cells (wtA p) 86 (0, 0))).drewN q) (fun _ _ i _ => 7 - (intOf i).toNat)
  case atStart => exact ⟨0, 0, rfl, rfl, rfl, by omega, rfl⟩
  case round =>
    obtain ⟨k, q, rfl, rfl, rfl, hk, hw⟩ := hrel
    have HW : Hid (wr = ((w.alloc (.cells (wtA f) 86 (0, 0))).alloc (.cells (wtA p) 86 (0, 0))).drewN q) := hw
    have hc1 := cnt_le (fun g => decide (0 < f g)) k
    have hc2 := cnt_le (fun g => decide (f g < 2 * p g)) k
    have hs1 : cnt (fun g => decide (0 < f g)) (k + 1) = cnt (fun g => decide (0 < f g)) k + if decide (0 < f k) then 1 else 0 := rfl
    have hs2 : cnt (fun g => decide (f g < 2 * p g)) (k + 1) = cnt (fun g => decide (f g < 2 * p g)) k + if decide (f k < 2 * p k) then 1 else 0 := rfl
    generalize hC1 : cnt (fun g => decide (0 < f g)) k = c1 at hc1 hs1
    generalize hC2 : cnt (fun g => decide (f g < 2 * p g)) k = c2 at hc2 hs2
    have HS1 : Hid (cnt (fun g => decide (0 < f g)) (k + 1) = c1 + if decide (0 < f k) then 1 else 0) := hs1
    have HS2 : Hid (cnt (fun g => decide (f g < 2 * p g)) (k + 1) = c2 + if decide (f k < 2 * p k) then 1 else 0) := hs2
    have HC1 : Hid (cnt (fun g => decide (0 < f g)) k = c1) := hC1
    have HC2 : Hid (cnt (fun g => decide (f g < 2 * p g)) k = c2) := hC2
    clear hs1 hs2 hC1 hC2
    by_cases hk7 : k < 7
    · have hcf : wr.cell? ⟨w.heap.size, k, none⟩ = some (.int .i64 (f k)) := by
        rw [hw]
        have h1 := heap_alloc_new w (.cells (wtA f) 86 (0, 0))
        have h2 : (((w.alloc (.cells (wtA f) 86 (0, 0))).alloc (.cells (wtA p) 86 (0, 0))).drewN q).heap[w.heap.size]? = some (.cells (wtA f) 86 (0, 0)) := by
          rw [(Chg.drewN Non _ q).block _ (by simp; omega) id, Below.heap_alloc _ _ _ (by simp)]
          exact h1
        rw [cell_at h2]
        exact wtA_get f k hk7
      have hcp : wr.cell? ⟨w.heap.size + 1, k, none⟩ = some (.int .i64 (p k)) := by
        rw [hw]
        have h1 := heap_alloc_new (w.alloc (.cells (wtA f) 86 (0, 0))) (.cells (wtA p) 86 (0, 0))
        rw [show (w.alloc (.cells (wtA f) 86 (0, 0))).heap.size = w.heap.size + 1 by simp] at h1
        have h2 : (((w.alloc (.cells (wtA f) 86 (0, 0))).alloc (.cells (wtA p) 86 (0, 0))).drewN q).heap[w.heap.size + 1]? = some (.cells (wtA p) 86 (0, 0)) := by
          rw [(Chg.drewN Non _ q).block _ (by simp) id]
          exact h1
        rw [cell_at h2]
        exact wtA_get p k hk7
      obtain ⟨hf1, hf2⟩ := HFN.out k
      obtain ⟨hp1, hp2⟩ := HPN.out k
      generalize f k = x at *
      generalize p k = y at *
      clear hw
      have hcase : (0 < x ∧ x < 2 * y) ∨ (0 < x ∧ ¬ x < 2 * y) ∨ (¬ 0 < x ∧ x < 2 * y) ∨ (¬ 0 < x ∧ ¬ x < 2 * y) := by omega
      rcases hcase with ⟨hx, hy⟩ | ⟨hx, hy⟩ | ⟨hx, hy⟩ | ⟨hx, hy⟩
      all_goals
        go_wp2_with fail
        go_quiet (fail)
        go_wp2
        refine ⟨⟨k + 1, q + nq, by go_num, by rw [HS1.out]; simp only [decide_eq_true_eq]; split <;> first | omega | go_num | rfl, by rw [HS2.out]; simp only [decide_eq_true_eq]; split <;> first | omega | go_num | rfl, by omega, by rw [HW.out]; simp⟩, by simp [intOf]; omega⟩
    · have hkk : k = 7 := by omega
      subst hkk
      clear hw
      go_wp2
      go_ret
      refine ⟨ret_b ?_, ?_⟩
      · unfold winsB
        rw [HC1.out, HC2.out, Bool.eq_iff_iff]
        simp
        omega
      · rw [HW.out]
        exact ⟨rfl, rfl, rfl, by cases q <;> simp <;> omega, fun j hj => by
          rw [(Chg.drewN Non _ q).block _ (by simp; omega) id, Below.heap_alloc _ _ _ (by simp; omega), Below.heap_alloc _ _ _ hj]⟩
/- What the groups weigh behind one member more. -/
theorem wsum_snoc (p : Mem → Bool) : ∀ (a : List Mem) (m : Mem), wsum p (a ++ [m]) = wsum p a + if p m then m.weight else 0
  | [], m => by simp [wsum]
  | x :: a, m => by rw [List.cons_append, wsum, wsum_snoc p a m, wsum]; omega
theorem wsum_bd (p : Mem → Bool) : ∀ (l : List Mem), (∀ m ∈ l, 0 ≤ m.weight ∧ m.weight ≤ 1000) → 0 ≤ wsum p l ∧ wsum p l ≤ 1000 * (l.length : Int)
  | [], _ => by simp [wsum]
  | m :: l, h => by
    have h1 := wsum_bd p l (fun x hx => h x (List.mem_cons_of_mem _ hx))
    have h2 := h m List.mem_cons_self
    simp only [wsum, List.length_cons]
    split <;> omega
theorem whole_snoc (a : List Mem) (m : Mem) (g : Nat) : whole (a ++ [m]) g = whole a g + if m.group = (g : Int) then m.weight else 0 := by
  unfold whole; rw [wsum_snoc]; simp
theorem part_snoc (ids : List Int) (a : List Mem) (m : Mem) (g : Nat) : part ids (a ++ [m]) g = part ids a g + if m.group = (g : Int) ∧ ids.contains m.id = true then m.weight else 0 := by
  unfold part; rw [wsum_snoc]; simp
theorem th_in (ids : List Int) (n : Nat) (h : 0 < n) : th ids n = ids.contains (n : Int) := by unfold th; simp [h]
theorem wt_turn {wr : World} {G g : Nat} {f f' : Nat → Int} {v : Int} (h : wr.heap[G]? = some (.cells (wtA f) 86 (0, 0))) (hg : g < 7) (h1 : ∀ i, i ≠ g → f' i = f i) (hv : v = f' g) :
    (wr.setCell ⟨G, g, none⟩ (.int .i64 v)).heap[G]? = some (.cells (wtA f') 86 (0, 0)) := by
  rw [heap_set h g, hv, wtA_set f f' g hg h1]
set_option maxRecDepth 100000 in
set_option maxHeartbeats 4000000 in
theorem quorum_any {w : World} {v : Value} {l : List Mem} (h : Mems w v l) (ver : Int) (ids : List Int) :
    Calls Try.prog 38 #[.agg #[.int .i64 ver, v], .agg (thA ids)] w fun e w' => e = .returned (.bool (quoB ver l ids)) ∧ Below w.heap.size w w' := by
  have HM : Hid (Mems w v l) := h
  obtain ⟨A, C, rfl⟩ := h.form
  clear h
  have hB1 : Below w.heap.size w ((w.alloc (.cells #[.int .i64 ver, .slice A l.length C] 25)).alloc (.cells #[.bool (th ids 0), .bool (th ids 1), .bool (th ids 2), .bool (th ids 3), .bool (th ids 4), .bool (th ids 5), .bool (th ids 6), .bool (th ids 7)] 62)) := ((Below.refl _ _).alloc (Nat.le_refl _) _).alloc (by simp) _
  have hck := check_any (HM.out.below' hB1) ver
  have HCK : Hid (Calls Try.prog 10 #[.agg #[.int .i64 ver, .slice A l.length C]] ((w.alloc (.cells #[.int .i64 ver, .slice A l.length C] 25)).alloc (.cells #[.bool (th ids 0), .bool (th ids 1), .bool (th ids 2), .bool (th ids 3), .bool (th ids 4), .bool (th ids 5), .bool (th ids 6), .bool (th ids 7)] 62)) fun e w' => e = .returned (.int .i64 (chk ver l)) ∧ Below ((w.alloc (.cells #[.int .i64 ver, .slice A l.length C] 25)).alloc (.cells #[.bool (th ids 0), .bool (th ids 1), .bool (th ids 2), .bool (th ids 3), .bool (th ids 4), .bool (th ids 5), .bool (th ids 6), .bool (th ids 7)] 62)).heap.size ((w.alloc (.cells #[.int .i64 ver, .slice A l.length C] 25)).alloc (.cells #[.bool (th ids 0), .bool (th ids 1), .bool (th ids 2), .bool (th ids 3), .bool (th ids 4), .bool (th ids 5), .bool (th ids 6), .bool (th ids 7)] 62)) w') := hck
  clear hck
  by_cases hc : chk ver l = 0
  · obtain ⟨h7, -, -, hfa, -⟩ := chk_ok hc
    have hq : quoB ver l ids = winsB (whole l) (part ids l) := by unfold quoB; rw [decide_eq_true hc, Bool.true_and]
    rw [hq]
    rw [hc] at HCK
    have hall : ∀ m ∈ l, fitRole m = true ∧ 0 < m.id ∧ m.id ≤ 7 := fun m hm => ⟨(fitAll_mem hfa m hm).1, (fitAll_mem hfa m hm).2⟩
    have HALL : Hid (∀ m ∈ l, fitRole m = true ∧ 0 < m.id ∧ m.id ≤ 7) := hall
    have hwt : ∀ m ∈ l, 0 ≤ m.weight ∧ m.weight ≤ 1000 := fun m hm => ⟨(fitRole_weight (hall m hm).1).1, (fitRole_weight (hall m hm).1).2.1⟩
    have HWT : Hid (∀ m ∈ l, 0 ≤ m.weight ∧ m.weight ≤ 1000) := hwt
    have HB1 : Hid (Below w.heap.size w ((w.alloc (.cells #[.int .i64 ver, .slice A l.length C] 25)).alloc (.cells #[.bool (th ids 0), .bool (th ids 1), .bool (th ids 2), .bool (th ids 3), .bool (th ids 4), .bool (th ids 5), .bool (th ids 6), .bool (th ids 7)] 62))) := hB1
    have ht1 : ((w.alloc (.cells #[.int .i64 ver, .slice A l.length C] 25)).alloc (.cells #[.bool (th ids 0), .bool (th ids 1), .bool (th ids 2), .bool (th ids 3), .bool (th ids 4), .bool (th ids 5), .bool (th ids 6), .bool (th ids 7)] 62)).heap[w.heap.size + 1]? = some (.cells (thA ids) 62 (0, 0)) := by
      have := heap_alloc_new (w.alloc (.cells #[.int .i64 ver, .slice A l.length C] 25)) (.cells (thA ids) 62 (0, 0))
      rw [show (w.alloc (.cells #[.int .i64 ver, .slice A l.length C] 25)).heap.size = w.heap.size + 1 by simp] at this
      exact this
    have HT1 : Hid (((w.alloc (.cells #[.int .i64 ver, .slice A l.length C] 25)).alloc (.cells #[.bool (th ids 0), .bool (th ids 1), .bool (th ids 2), .bool (th ids 3), .bool (th ids 4), .bool (th ids 5), .bool (th ids 6), .bool (th ids 7)] 62)).heap[w.heap.size + 1]? = some (.cells (thA ids) 62 (0, 0))) := ht1
    have hv1 : ((w.alloc (.cells #[.int .i64 ver, .slice A l.length C] 25)).alloc (.cells #[.bool (th ids 0), .bool (th ids 1), .bool (th ids 2), .bool (th ids 3), .bool (th ids 4), .bool (th ids 5), .bool (th ids 6), .bool (th ids 7)] 62)).cell? ⟨w.heap.size, 1, none⟩ = some (.slice A l.length C) := by
      have h1 := heap_alloc_new w (.cells #[.int .i64 ver, .slice A l.length C] 25)
      have h2 : ((w.alloc (.cells #[.int .i64 ver, .slice A l.length C] 25)).alloc (.cells #[.bool (th ids 0), .bool (th ids 1), .bool (th ids 2), .bool (th ids 3), .bool (th ids 4), .bool (th ids 5), .bool (th ids 6), .bool (th ids 7)] 62)).heap[w.heap.size]? = some (.cells #[.int .i64 ver, .slice A l.length C] 25) := by rw [Below.heap_alloc _ _ _ (by simp)]; exact h1
      rw [cell_at h2]; rfl
    have HV1 : Hid (((w.alloc (.cells #[.int .i64 ver, .slice A l.length C] 25)).alloc (.cells #[.bool (th ids 0), .bool (th ids 1), .bool (th ids 2), .bool (th ids 3), .bool (th ids 4), .bool (th ids 5), .bool (th ids 6), .bool (th ids 7)] 62)).cell? ⟨w.heap.size, 1, none⟩ = some (.slice A l.length C)) := hv1
    clear hc hfa hq hall hwt hB1 ht1 hv1
    go_enter Try.func38, Try.ntmps38
    unfold thA
    go_wp2_with fail
    refine HCK.out.mono ?_
    rintro e w2 ⟨rfl, hB2⟩
    have hs2 : w.heap.size + 2 ≤ w2.heap.size := by have := hB2.size; simp at this; omega
    have hB2' : Below w.heap.size w w2 := HB1.out.trans (hB2.mono (by simp; omega))
    have ht2 : w2.heap[w.heap.size + 1]? = some (.cells (thA ids) 62 (0, 0)) := by rw [hB2.block _ (by simp)]; exact HT1.out
    have hv2 : w2.cell? ⟨w.heap.size, 1, none⟩ = some (.slice A l.length C) := by rw [hB2.cell (p := ⟨w.heap.size, 1, none⟩) (by simp; omega)]; exact HV1.out
    have HT2 : Hid (w2.heap[w.heap.size + 1]? = some (.cells (thA ids) 62 (0, 0))) := ht2
    have HB2 : Hid (Below w.heap.size w w2) := hB2'
    clear ht2 hB2 HT1 HV1 HB1 HCK hB2'
    have hs3 : w.heap.size < w2.heap.size := by omega
    have hs4 : w.heap.size + 1 < w2.heap.size := by omega
    go_wp2_with fail
    go_loopw [15] (fun i wr => ∃ k : Nat, i = .int .i64 k ∧ k ≤ l.length ∧ wr.heap[w2.heap.size]? = some (.cells (wtA (whole (l.take k))) 86 (0, 0)) ∧ wr.heap[w2.heap.size + 1]? = some (.cells (wtA (part ids (l.take k))) 86 (0, 0)) ∧ wr.heap[w.heap.size + 1]? = some (.cells (thA ids) 62 (0, 0)) ∧ Below w.heap.size w wr) (fun i _ => l.length - (intOf i).toNat)
    case atStart =>
      refine ⟨0, rfl, by omega, ?_, ?_, ?_, ((HB2.out.alloc (by omega) _).alloc (by simp; omega) _)⟩
      · have := heap_alloc_new w2 (.cells (wtA (whole [])) 86 (0, 0))
        rw [Below.heap_alloc _ _ _ (by simp)]
        exact this
      · have := heap_alloc_new (w2.alloc (.cells (wtA (whole [])) 86 (0, 0))) (.cells (wtA (part ids [])) 86 (0, 0))
        rw [show (w2.alloc (.cells (wtA (whole [])) 86 (0, 0))).heap.size = w2.heap.size + 1 by simp] at this
        exact this
      · rw [Below.heap_alloc _ _ _ (by simp; omega), Below.heap_alloc _ _ _ hs4]
        exact HT2.out
    case round =>
      obtain ⟨k, rfl, hk, hW, hP, hT, hB⟩ := hrel
      have HWW : Hid (wr.heap[w2.heap.size]? = some (.cells (wtA (whole (l.take k))) 86 (0, 0))) := hW
      have HPP : Hid (wr.heap[w2.heap.size + 1]? = some (.cells (wtA (part ids (l.take k))) 86 (0, 0))) := hP
      have HTT : Hid (wr.heap[w.heap.size + 1]? = some (.cells (thA ids) 62 (0, 0))) := hT
      have HB : Hid (Below w.heap.size w wr) := hB
      have hlt1 := heap_lt hP
      have hlt2 : w2.heap.size < wr.heap.size := by omega
      have hlt3 : w.heap.size + 1 < wr.heap.size := by omega
      by_cases hlt : k < l.length
      · obtain ⟨b, o, rfl, hb, c0, c1, c2, c3⟩ := (HM.out.below' HB.out).at' k hlt
        have hmem : (l[k]'hlt) ∈ l := List.getElem_mem hlt
        have hx := HALL.out _ hmem
        have hr := fitRole_weight hx.1
        have HT : Hid (l.take (k + 1) = l.take k ++ [l[k]'hlt]) := take_snoc hlt
        generalize (l[k]'hlt) = m at c0 c1 c2 c3 HT hx hr
        obtain ⟨mi, mr, mw, mg⟩ := m
        dsimp only at c0 c1 c2 c3 hx hr
        obtain ⟨-, hi1, hi2⟩ := hx
        obtain ⟨hw1, hw2, hg1, hg2, -, -⟩ := hr
        obtain ⟨n, rfl⟩ := Int.eq_ofNat_of_zero_le (show 0 ≤ mi by omega)
        obtain ⟨g, rfl⟩ := Int.eq_ofNat_of_zero_le hg1
        have hbW := wsum_bd (fun m => decide (m.group = (g : Int))) (l.take k) (fun m hm => HWT.out m (List.mem_of_mem_take hm))
        have hbP := wsum_bd (fun m => decide (m.group = (g : Int)) && ids.contains m.id) (l.take k) (fun m hm => HWT.out m (List.mem_of_mem_take hm))
        have hcW : wr.cell? ⟨w2.heap.size, g, none⟩ = some (.int .i64 (whole (l.take k) g)) := by rw [cell_at hW g]; exact wtA_get _ g (by omega)
        have hfW : wr.frozen? ⟨w2.heap.size, g, none⟩ = false := frozen_at hW g
        have hcP : wr.cell? ⟨w2.heap.size + 1, g, none⟩ = some (.int .i64 (part ids (l.take k) g)) := by rw [cell_at hP g]; exact wtA_get _ g (by omega)
        have hfP : wr.frozen? ⟨w2.heap.size + 1, g, none⟩ = false := frozen_at hP g
        have hcT : wr.cell? ⟨w.heap.size + 1, n, none⟩ = some (.bool (th ids n)) := by rw [cell_at hT n]; exact thA_get _ n (by omega)
        have HTN : Hid (th ids n = ids.contains (n : Int)) := th_in ids n (by omega)
        change 0 ≤ whole (l.take k) g ∧ whole (l.take k) g ≤ _ at hbW
        change 0 ≤ part ids (l.take k) g ∧ part ids (l.take k) g ≤ _ at hbP
        have hlk : ((l.take k).length : Int) ≤ 7 := by rw [List.length_take]; omega
        generalize hwh : whole (l.take k) g = x at hcW hbW
        generalize hpt : part ids (l.take k) g = y at hcP hbP
        have HWH : Hid (whole (l.take k) g = x) := hwh
        have HPT : Hid (part ids (l.take k) g = y) := hpt
        have hx1 : 0 ≤ x := hbW.1
        have hx2 : x ≤ 7000 := by omega
        have hy1 : 0 ≤ y := hbP.1
        have hy2 : y ≤ 7000 := by omega
        clear hW hP hT hB hwh hpt hbW hbP hlk hmem
        have HW1 : Hid (∀ i, i ≠ g → whole (l.take (k + 1)) i = whole (l.take k) i) := fun i hi => by rw [HT.out, whole_snoc, if_neg (by show ¬ (g : Int) = (i : Int); omega)]; omega
        have HW2 : Hid (x + mw = whole (l.take (k + 1)) g) := by
          have := whole_snoc (l.take k) ⟨(n : Int), mr, mw, (g : Int)⟩ g
          rw [← HT.out, if_pos rfl, HWH.out] at this
          exact this.symm
        have HP1 : Hid (∀ i, i ≠ g → part ids (l.take (k + 1)) i = part ids (l.take k) i) := fun i hi => by rw [HT.out, part_snoc, if_neg (by show ¬ ((g : Int) = (i : Int) ∧ _); omega)]; omega
        have HP2 : Hid (part ids (l.take (k + 1)) g = y + if ids.contains (n : Int) = true then mw else 0) := by
          have := part_snoc ids (l.take k) ⟨(n : Int), mr, mw, (g : Int)⟩ g
          rw [← HT.out, HPT.out] at this
          show part ids (l.take (k + 1)) g = _
          rw [this]
          simp
        cases hth : th ids n with
        | false =>
          rw [hth] at hcT HTN
          clear hth
          go_wp2_with fail
          go_region
          go_wp2
          refine ⟨⟨k + 1, by go_num, by omega, ?_, ?_, ?_, ?_⟩, by simp [intOf]; omega⟩
          · show ((wr.setCell ⟨w2.heap.size, g, none⟩ _).alloc _).heap[_]? = _
            rw [Below.heap_alloc _ _ _ (by simp; omega)]
            exact wt_turn HWW.out (by omega) HW1.out HW2.out
          · show ((wr.setCell ⟨w2.heap.size, g, none⟩ _).alloc _).heap[_]? = _
            rw [Below.heap_alloc _ _ _ (by simp; omega), (Chg.setCell (S := fun j => j = w2.heap.size) wr ⟨w2.heap.size, g, none⟩ _ rfl).block _ hlt1 (fun e => by have : w2.heap.size + 1 = w2.heap.size := e; omega)]
            have e : part ids (l.take (k + 1)) = part ids (l.take k) := by
              funext i
              by_cases hi : i = g
              · subst hi
                rw [HP2.out, ← HTN.out, HPT.out]; simp
              · exact HP1.out i hi
            rw [e]
            exact HPP.out
          · show ((wr.setCell ⟨w2.heap.size, g, none⟩ _).alloc _).heap[_]? = _
            rw [Below.heap_alloc _ _ _ (by simp; omega), (Chg.setCell (S := fun j => j = w2.heap.size) wr ⟨w2.heap.size, g, none⟩ _ rfl).block _ hlt3 (fun e => by have : w.heap.size + 1 = w2.heap.size := e; omega)]
            exact HTT.out
          · exact ((HB.out.setCell (by show w.heap.size ≤ w2.heap.size; omega) _).alloc (by simp; omega) _).drew
        | true =>
          rw [hth] at hcT HTN
          clear hth
          go_wp2_with fail
          go_region
          go_wp2_with fail
          go_region
          go_wp2
          have hch2 : Chg (fun j => j = w2.heap.size + 1) (wr.setCell ⟨w2.heap.size, g, none⟩ (.int .i64 (x + mw))) ((wr.setCell ⟨w2.heap.size, g, none⟩ (.int .i64 (x + mw))).setCell ⟨w2.heap.size + 1, g, none⟩ (.int .i64 (y + mw))) := Chg.setCell _ ⟨w2.heap.size + 1, g, none⟩ _ rfl
          have hch1 : Chg (fun j => j = w2.heap.size) wr (wr.setCell ⟨w2.heap.size, g, none⟩ (.int .i64 (x + mw))) := Chg.setCell _ ⟨w2.heap.size, g, none⟩ _ rfl
          refine ⟨⟨k + 1, by go_num, by omega, ?_, ?_, ?_, ?_⟩, by simp [intOf]; omega⟩
          · show (((wr.setCell ⟨w2.heap.size, g, none⟩ _).setCell ⟨w2.heap.size + 1, g, none⟩ _).alloc _).heap[_]? = _
            rw [Below.heap_alloc _ _ _ (by simp; omega), hch2.block _ (by simp; omega) (fun e => by have : w2.heap.size = w2.heap.size + 1 := e; omega)]
            exact wt_turn HWW.out (by omega) HW1.out HW2.out
          · show (((wr.setCell ⟨w2.heap.size, g, none⟩ _).setCell ⟨w2.heap.size + 1, g, none⟩ _).alloc _).heap[_]? = _
            rw [Below.heap_alloc _ _ _ (by simp; omega)]
            refine wt_turn (f := part ids (l.take k)) ?_ (by omega) HP1.out (by rw [HP2.out, ← HTN.out]; simp)
            rw [hch1.block _ hlt1 (fun e => by have : w2.heap.size + 1 = w2.heap.size := e; omega)]
            exact HPP.out
          · show (((wr.setCell ⟨w2.heap.size, g, none⟩ _).setCell ⟨w2.heap.size + 1, g, none⟩ _).alloc _).heap[_]? = _
            rw [Below.heap_alloc _ _ _ (by simp; omega), hch2.block _ (by simp; omega) (fun e => by have : w.heap.size + 1 = w2.heap.size + 1 := e; omega), hch1.block _ hlt3 (fun e => by have : w.heap.size + 1 = w2.heap.size := e; omega)]
            exact HTT.out
          · exact ((((HB.out.setCell (by show w.heap.size ≤ w2.heap.size; omega) _).setCell (by show w.heap.size ≤ w2.heap.size + 1; omega) _).alloc (by simp; omega) _).drew).drew
      · have hkk : k = l.length := by omega
        subst hkk
        rw [List.take_length] at HWW HPP hW hP
        have hd : ∀ n, n < 7 → wr.cell? ⟨w2.heap.size, n, none⟩ = some (.int .i64 (whole l n)) := fun n hn => by rw [cell_at hW n]; exact wtA_get _ n hn
        have d0 := hd 0 (by omega)
        have d1 := hd 1 (by omega)
        have d2 := hd 2 (by omega)
        have d3 := hd 3 (by omega)
        have d4 := hd 4 (by omega)
        have d5 := hd 5 (by omega)
        have d6 := hd 6 (by omega)
        have hz : ∀ n, n < 7 → wr.cell? ⟨w2.heap.size + 1, n, none⟩ = some (.int .i64 (part ids l n)) := fun n hn => by rw [cell_at hP n]; exact wtA_get _ n hn
        have z0 := hz 0 (by omega)
        have z1 := hz 1 (by omega)
        have z2 := hz 2 (by omega)
        have z3 := hz 3 (by omega)
        have z4 := hz 4 (by omega)
        have z5 := hz 5 (by omega)
        have z6 := hz 6 (by omega)
        clear hd hz hW hP hT hB
        have hwin := wins_any wr (whole l) (part ids l) (fun g => by have := wsum_bd (fun m => decide (m.group = (g : Int))) l HWT.out; exact ⟨this.1, by have := this.2; show whole l g ≤ 7000; unfold whole; omega⟩)
          (fun g => by have := wsum_bd (fun m => decide (m.group = (g : Int)) && ids.contains m.id) l HWT.out; exact ⟨this.1, by have := this.2; show part ids l g ≤ 7000; unfold part; omega⟩)
        unfold wtA at hwin
        have HWIN : Hid (Calls Try.prog 59 #[.agg #[.int .i64 (whole l 0), .int .i64 (whole l 1), .int .i64 (whole l 2), .int .i64 (whole l 3), .int .i64 (whole l 4), .int .i64 (whole l 5), .int .i64 (whole l 6)], .agg #[.int .i64 (part ids l 0), .int .i64 (part ids l 1), .int .i64 (part ids l 2), .int .i64 (part ids l 3), .int .i64 (part ids l 4), .int .i64 (part ids l 5), .int .i64 (part ids l 6)]] wr fun e w' => e = .returned (.bool (winsB (whole l) (part ids l))) ∧ Below wr.heap.size wr w') := hwin
        clear hwin
        go_wp2_with fail
        refine HWIN.out.mono ?_
        rintro e w3 ⟨rfl, hB3⟩
        go_wp2
        go_ret
        exact ⟨rfl, HB.out.trans (hB3.mono HB.out.size)⟩
  · have hq : quoB ver l ids = false := by unfold quoB; rw [decide_eq_false hc, Bool.false_and]
    rw [hq]
    have hcb : (chk ver l != 0) = true := by simpa using hc
    clear hq hc
    generalize chk ver l = c at HCK hcb
    go_enter Try.func38, Try.ntmps38
    unfold thA
    go_wp2_with fail
    refine HCK.out.mono ?_
    rintro e w2 ⟨rfl, hB2⟩
    go_wp2
    go_ret
    exact ⟨rfl, hB1.trans (hB2.mono (by simp; omega))⟩
set_option maxRecDepth 100000 in
set_option maxHeartbeats 1000000 in
theorem Quorum_any {w : World} {v x : Value} {l : List Mem} {ids : List Int} (h : Mems w v l) (ver : Int) (hx : Ns w x ids) (hl : ids.length ≤ 9223372036854775807) :
    Calls Try.prog 17 #[.agg #[.int .i64 ver, v], x] w fun e w' => e = .returned (.bool (quoB ver l ids)) ∧ Below w.heap.size w w' := by
  have HM : Hid (Mems w v l) := h
  have HX : Hid (Ns w x ids) := hx
  obtain ⟨A, C, rfl⟩ := h.form
  obtain ⟨A2, C2, rfl⟩ := hx.form
  clear h hx
  have hB1 : Below w.heap.size w (w.alloc (.cells #[.int .i64 ver, .slice A l.length C] 25)) := (Below.refl _ _).alloc (Nat.le_refl _) _
  have hv : (w.alloc (.cells #[.int .i64 ver, .slice A l.length C] 25)).cell? ⟨w.heap.size, 0, none⟩ = some (.int .i64 ver) ∧ (w.alloc (.cells #[.int .i64 ver, .slice A l.length C] 25)).cell? ⟨w.heap.size, 1, none⟩ = some (.slice A l.length C) := by
    have h1 := heap_alloc_new w (.cells #[.int .i64 ver, .slice A l.length C] 25)
    exact ⟨by rw [cell_at h1]; rfl, by rw [cell_at h1]; rfl⟩
  go_enter Try.func17, Try.ntmps17
  go_wp2_with fail
  go_region_held3 (fun w' => w'.cell? ⟨w.heap.size, 0, none⟩ = some (.int .i64 ver) ∧ w'.cell? ⟨w.heap.size, 1, none⟩ = some (.slice A l.length C)) (first | go_keep | (have hB34 := hB3.trans (hB4.mono hB3.size); refine ⟨?_, ?_⟩; rw [hB34.cell (p := ⟨w.heap.size, 0, none⟩) (by simp)]; exact hv.1; rw [hB34.cell (p := ⟨w.heap.size, 1, none⟩) (by simp)]; exact hv.2) | (refine ⟨?_, ?_⟩; rw [hB3.cell (p := ⟨w.heap.size, 0, none⟩) (by simp)]; exact hv.1; rw [hB3.cell (p := ⟨w.heap.size, 1, none⟩) (by simp)]; exact hv.2)) ((first | (go_at_call 39; refine (among_any (HX.out.below' hB1).drew hl).mono ?_; rintro e w3 ⟨rfl, hB3⟩) | (go_at_call 38; refine (quorum_any (HM.out.below' (hB1.drew.trans (hB3.mono (by simp)))) ver ids).mono ?_; rintro e w4 ⟨rfl, hB4⟩)))
  go_wp2
  go_ret
  have hB3' := hB1.drew.trans (hB3.mono (by simp))
  exact ⟨rfl, hB3'.trans (hB4.mono hB3'.size)⟩
def Cfg := Int × List Mem
/- Configs in memory, all of it below block B. -/
def Cfgs (w : World) (B : Nat) (v : Value) (l : List Cfg) : Prop :=
  (v = .slice none 0 0 ∧ l = []) ∨ (∃ ad c, v = .slice (some ad) 0 c ∧ l = []) ∨ (0 < l.length ∧ ∃ b o c, v = .slice (some ⟨b, o, none⟩) l.length c ∧ l.length ≤ c ∧ b < B ∧ B ≤ w.heap.size ∧
    ∀ j (h : j < l.length), w.cell? ⟨b, o + j * 2, none⟩ = some (.int .i64 (l[j]'h).1) ∧ ∃ A C, w.cell? ⟨b, o + j * 2 + 1, none⟩ = some (.slice A (l[j]'h).2.length C) ∧ Mems w (.slice A (l[j]'h).2.length C) (l[j]'h).2 ∧ (∀ k, bk (.slice A (l[j]'h).2.length C) = some k → k < B))
theorem Cfgs.form {w : World} {B : Nat} {v : Value} {l : List Cfg} (h : Cfgs w B v l) : ∃ A C, v = .slice A l.length C := by
  rcases h with ⟨rfl, rfl⟩ | ⟨ad, c, rfl, rfl⟩ | ⟨_, b, o, c, rfl, _⟩
  · exact ⟨none, 0, rfl⟩
  · exact ⟨_, _, rfl⟩
  · exact ⟨_, _, rfl⟩
theorem Cfgs.below {w w' : World} {B : Nat} {v : Value} {l : List Cfg} (h : Cfgs w B v l) (hb : Below B w w') : Cfgs w' B v l := by
  rcases h with h | h | ⟨h0, b, o, c, rfl, h1, h2, h3, h4⟩
  · exact .inl h
  · exact .inr (.inl h)
  · refine .inr (.inr ⟨h0, b, o, c, rfl, h1, h2, Nat.le_trans h3 hb.size, fun j hj => ?_⟩)
    obtain ⟨c1, A, C, c3, c4, c5⟩ := h4 j hj
    exact ⟨by rw [hb.cell (p := ⟨b, o + j * 2, none⟩) h2]; exact c1, A, C, by rw [hb.cell (p := ⟨b, o + j * 2 + 1, none⟩) h2]; exact c3, c4.below hb c5, c5⟩
theorem Cfgs.at' {w : World} {B n : Nat} {A : Option Addr} {C : Nat} {l : List Cfg} (h : Cfgs w B (.slice A n C) l) (j : Nat) (hj : j < l.length) : ∃ b o, A = some ⟨b, o, none⟩ ∧ b < B ∧ B ≤ w.heap.size ∧
    w.cell? ⟨b, o + j * 2, none⟩ = some (.int .i64 (l[j]'hj).1) ∧ ∃ A C, w.cell? ⟨b, o + j * 2 + 1, none⟩ = some (.slice A (l[j]'hj).2.length C) ∧ Mems w (.slice A (l[j]'hj).2.length C) (l[j]'hj).2 ∧ (∀ k, bk (.slice A (l[j]'hj).2.length C) = some k → k < B) := by
  rcases h with ⟨_, rfl⟩ | ⟨_, _, _, rfl⟩ | ⟨_, b, o, c, he, _, h2, h3, h4⟩
  · simp at hj
  · simp at hj
  · cases he
    exact ⟨b, o, rfl, h2, h3, h4 j hj⟩
def allQ (l : List Cfg) (ids : List Int) : Bool := decide (0 < l.length) && l.all fun e => quoB e.1 e.2 ids
end Go.Proofs.Ytohhbhkpekieiaa
