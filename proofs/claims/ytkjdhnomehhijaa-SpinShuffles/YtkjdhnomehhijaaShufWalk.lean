/- The walk of SpinShuffles. -/
import Derived.Test.YtkjdhnomehhijaaApartInts
import Derived.Test.YtkjdhnomehhijaaTurnsWalk
namespace Go.Proofs.Ytkjdhnomehhijaa
open Go.RowKit

theorem swap_count (l : List Int) (i j : Nat) (hi : i < l.length) (hj : j < l.length) (x : Int) : (swap l i j).count x = l.count x := by
  unfold swap
  have e1 : l.getD j 0 = l[j] := by simp [hj]
  have e2 : l.getD i 0 = l[i] := by simp [hi]
  rw [e1, e2]
  exact (List.set_set_perm hi hj).count_eq x
theorem shuf_count (m : Nat) : ∀ z (l : List Int), m < l.length ∨ l = [] ∧ m = 0 → ∀ x, (shuf m z l).2.count x = l.count x := by
  induction m with
  | zero => intro z l _ x; rfl
  | succ m ih =>
    intro z l h x
    have hl : m + 1 < l.length := by
      rcases h with h | ⟨_, h⟩
      · exact h
      · omega
    have hb := nx_bounds z ((m : Int) + 1 + 1) (by omega)
    rw [shuf, ih _ _ (.inl (by rw [swap_len]; omega)) x, swap_count _ _ _ hl (by omega)]

theorem own_slice3 {w1 : World} {base n : Nat} {v1 : Value} {xs : List Value} (h : w1.ownsRow base 3 1 v1 n xs) : ∃ a c, v1 = .slice a n c := by
  rcases h.2 with ⟨h0, h1⟩ | ⟨g, cap, cur, hv, _⟩
  · exact ⟨none, 0, by rw [h0, h1]⟩
  · exact ⟨_, _, hv⟩
theorem copyInts_some (ad : Addr) (n c : Nat) (l : List Int) (w : World) (h : Lies w (some ad) l) (hn : l.length = n) (hm : n ≤ 1000000) :
    Calls Try.prog 25 #[.slice (some ad) n c] w fun e w' => ∃ A C, e = .returned (.slice A n C) ∧ R w' A n C l ∧ w.grownBy w' none ∧ ∀ x, A = some ⟨x, 0, none⟩ → w.heap.size ≤ x := by
  obtain ⟨i0, hi, hz0, hz1, hz2⟩ := info_parts Try.info3
  have HH : Hid (Lies w (some ad) l) := h
  have HN : Hid (l.length = n) := hn
  clear h hn
  go_enter Try.func25, Try.ntmps25
  go_wp2_with (at_builtin; refine wpList_append_own _ rfl (.tmp 4) (.tmp 5) 22 rfl w.heap.size 3 i0 (.int .i64 0) 1 8 Try.underlying22 hi hz0 hz1 hz2 rfl (by decide) (.slice none 0 0) 0 [] rfl (World.ownsRow_nil _ _ _ _) ad n c (l.map (Value.int .i64)) rfl (by have := HN.out; simp; omega) HH.out.news (ints_one _) (by unfold maxLen; omega) (by omega) (Nat.le_refl _) ?_; intro v' w1 hown hgrow _; obtain ⟨A, C, rfl⟩ := own_slice3 hown)
  go_ret
  rw [Nat.zero_add, List.nil_append] at hown
  exact ⟨A, C, rfl, owns_weak hown, hgrow, fun x hx => by subst hx; exact (owns_lt hown).1⟩
theorem copyInts_none (w : World) :
    Calls Try.prog 25 #[.slice none 0 0] w fun e w' => ∃ A C, e = .returned (.slice A 0 C) ∧ R w' A 0 C [] ∧ w.grownBy w' none ∧ ∀ x, A = some ⟨x, 0, none⟩ → w.heap.size ≤ x := by
  obtain ⟨i0, hi, hz0, hz1, hz2⟩ := info_parts Try.info3
  go_enter Try.func25, Try.ntmps25
  go_wp2_with (at_builtin; refine wpList_append_own_none rfl (.tmp 4) (.tmp 5) 22 rfl w.heap.size 3 i0 1 Try.underlying22 hi (.slice none 0 0) 0 [] rfl (World.ownsRow_nil _ _ _ _) rfl ?_)
  go_ret
  exact ⟨none, 0, rfl, World.ownsRow_nil _ _ _ _, grownBy_refl _ _, fun x hx => by cases hx⟩
theorem copyInts_any (a : Option Addr) (c : Nat) (l : List Int) (w : World) (h : Lies w a l) (hm : l.length ≤ 1000000) (hc : a = none → c = 0 ∧ l = []) :
    Calls Try.prog 25 #[.slice a l.length c] w fun e w' => ∃ A C, e = .returned (.slice A l.length C) ∧ R w' A l.length C l ∧ w.grownBy w' none ∧ ∀ x, A = some ⟨x, 0, none⟩ → w.heap.size ≤ x := by
  cases a with
  | none =>
    obtain ⟨rfl, rfl⟩ := hc rfl
    exact copyInts_none w
  | some ad => exact copyInts_some ad l.length c l w h rfl hm
theorem R.lies {w : World} {A : Option Addr} {N C : Nat} {l : List Int} (h : R w A N C l) : Lies w A l := by
  intro k hk
  have hl := h.len
  obtain ⟨g, hg, _⟩ := h.pos (by omega)
  subst hg
  refine ⟨g, 0, rfl, ?_⟩
  rw [Nat.zero_add, h.cell k (by omega)]
  simp [hk]
theorem r_of_row {w : World} {g n : Nat} {l : List Int} (h : RowAt w g l) (hn : l.length = n) (hm : n ≤ 1000000) : R w (some ⟨g, 0, none⟩) n n l := by
  subst hn
  exact ⟨by simp [ints], .inr ⟨g, l.length, _, rfl, Nat.zero_le _, h, Nat.le_refl _, by unfold maxLen; omega, by simp, by simp [ints]; exact List.take_of_length_le (by simp)⟩⟩

theorem count_step (x : Int) (l : List Int) (j : Nat) (h : j < l.length) : ((l.take (j + 1)).count x : Int) = (l.take j).count x + if l[j] = x then 1 else 0 := by
  rw [List.take_succ_eq_append_getElem h, List.count_append]
  by_cases e : l[j] = x
  · simp [e]
  · simp [e]
theorem count_le (x : Int) (l : List Int) (j : Nat) : ((l.take j).count x : Int) ≤ j := by
  have h1 : (l.take j).count x ≤ (l.take j).length := List.count_le_length
  have h2 : (l.take j).length ≤ j := List.length_take_le _ _
  omega

theorem drew_some {wr W6 : World} {p : Nat} (h : wr = W6.drewN p) (q : Nat) : wr.drewN q = W6.drewN (p + q) := by rw [h, World.drewN_drewN]
theorem val_num {a b : Int} (h : a = b) : Value.int .i64 a = Value.int .i64 b := by rw [h]

/-- Three lists, told in a new block. -/
def aF (A : Option Addr) (GA GB : Nat) : Nat → Option Addr
  | 0 => A
  | 1 => some ⟨GA, 0, none⟩
  | _ => some ⟨GB, 0, none⟩
def cF (C0 n : Nat) : Nat → Nat
  | 0 => C0
  | _ => n
theorem apart3 (w : World) (A : Option Addr) (n C0 GA GB : Nat) (l S : List Int) (hAB : GA < GB) (hB : GB < w.heap.size) (hl : R w A n C0 l) (ha : RowAt w GA S) (hb : RowAt w GB S) (hS : S.length = n) (hA : ∀ x, A = some ⟨x, 0, none⟩ → x < GA) (hn : n ≤ 300) :
    Calls Try.prog 26 #[.slice (some ⟨w.heap.size, 0, none⟩) 3 3] (w.alloc (.cells #[.slice A n C0, .slice (some ⟨GA, 0, none⟩) n n, .slice (some ⟨GB, 0, none⟩) n n] 22)) fun e w' => e = .returned (.bool true) ∧ Chg 3 (aF A GA GB) (w.alloc (.cells #[.slice A n C0, .slice (some ⟨GA, 0, none⟩) n n, .slice (some ⟨GB, 0, none⟩) n n] 22)) w' := by
  have g := World.grownBy_alloc w (.cells #[.slice A n C0, .slice (some ⟨GA, 0, none⟩) n n, .slice (some ⟨GB, 0, none⟩) n n] 22) none
  refine apartInts_any w.heap.size 3 3 (aF A GA GB) (fun _ => n) (cF C0 n) _ (by decide) (by decide) (fun _ _ => by omega) ?_ ?_ (by simp) ?_
  · intro j k x hj hk hjk hx hy
    match j, k, hj, hk with
    | 0, 0, _, _ | 1, 1, _, _ | 2, 2, _, _ => exact hjk rfl
    | 0, 1, _, _ => simp only [aF] at hx hy; cases hy; have := hA _ hx; omega
    | 0, 2, _, _ => simp only [aF] at hx hy; cases hy; have := hA _ hx; omega
    | 1, 0, _, _ => simp only [aF] at hx hy; cases hx; have := hA _ hy; omega
    | 2, 0, _, _ => simp only [aF] at hx hy; cases hx; have := hA _ hy; omega
    | 1, 2, _, _ => simp only [aF] at hx hy; cases hx; cases hy; omega
    | 2, 1, _, _ => simp only [aF] at hx hy; cases hx; cases hy; omega
  · intro k hk
    have hh : (w.alloc (.cells #[.slice A n C0, .slice (some ⟨GA, 0, none⟩) n n, .slice (some ⟨GB, 0, none⟩) n n] 22)).heap[w.heap.size]? = some (.cells #[.slice A n C0, .slice (some ⟨GA, 0, none⟩) n n, .slice (some ⟨GB, 0, none⟩) n n] 22 (0, 0)) := heap_alloc_new w _
    rw [cell_of_row _ w.heap.size k _ _ _ hh]
    match k, hk with
    | 0, _ => rfl
    | 1, _ => rfl
    | 2, _ => rfl
  · intro j hj
    match j, hj with
    | 0, _ => exact ⟨l, hl.kept g (by simp)⟩
    | 1, _ => exact ⟨S, (r_of_row ha hS (by omega)).kept g (by simp)⟩
    | 2, _ => exact ⟨S, (r_of_row hb hS (by omega)).kept g (by simp)⟩
theorem chg3_below {w0 w w' : World} {A : Option Addr} {GA GB : Nat} {o : Obj} (hb : Below w0.heap.size w0 w) (hc : Chg 3 (aF A GA GB) (w.alloc o) w') (hA : ∀ x, A = some ⟨x, 0, none⟩ → w0.heap.size ≤ x) (h1 : w0.heap.size ≤ GA) (h2 : w0.heap.size ≤ GB) : Below w0.heap.size w0 w' := by
  have hs := hb.size
  have hb2 : Below w0.heap.size w0 (w.alloc o) := hb.alloc hs o
  refine ⟨hc.os.trans hb2.os, hc.tape.trans hb2.tape, hc.output.trans hb2.output, Nat.le_trans hb2.size hc.size, fun k hk => (hc.block k (Nat.lt_of_lt_of_le hk hb2.size) ?_).trans (hb2.block k hk)⟩
  intro j hj e
  match j, hj with
  | 0, _ => simp only [aF] at e; have := hA k e; omega
  | 1, _ => simp only [aF] at e; cases e; omega
  | 2, _ => simp only [aF] at e; cases e; omega

set_option maxRecDepth 100000 in
set_option maxHeartbeats 2000000 in
theorem shuffles_big (seed : Int) (a1 : Option Addr) (n1 c1 : Nat) (w : World) (h : 300 < n1) (hm1 : n1 ≤ maxLen) :
    Calls Try.prog 7 #[.int .i64 seed, .slice a1 n1 c1] w fun e w' => e = .returned (.bool true) ∧ Below w.heap.size w w' := by
  unfold maxLen at hm1
  go_enter Try.func7, Try.ntmps7
  go_wp2_with (first | (go_at_call 8; refine (awake_any _).mono ?_; rintro e w1 ⟨rfl, hg, hb⟩))
  go_ret
  exact ⟨rfl, hb⟩

set_option maxRecDepth 100000 in
set_option maxHeartbeats 4000000 in
theorem shuffles_small (seed : Int) (a1 : Option Addr) (c1 : Nat) (l : List Int) (w : World) (hL : Lies w a1 l) (h1 : l.length ≤ 300) (hc : a1 = none → c1 = 0 ∧ l = []) :
    Calls Try.prog 7 #[.int .i64 seed, .slice a1 l.length c1] w fun e w' => e = .returned (.bool true) ∧ Below w.heap.size w w' := by
  have HL : Hid (Lies w a1 l) := hL
  have HC : Hid (a1 = none → c1 = 0 ∧ l = []) := hc
  obtain ⟨n, hn⟩ : ∃ n, l.length = n := ⟨_, rfl⟩
  have HN : Hid (l.length = n) := hn
  have K0 := fun w hw => copyInts_any a1 c1 l w hw (by omega) hc
  rw [hn] at h1 K0 ⊢
  have HK0 : Hid (∀ w, Lies w a1 l → Calls Try.prog 25 #[.slice a1 n c1] w fun e w' => ∃ A C, e = .returned (.slice A n C) ∧ R w' A n C l ∧ w.grownBy w' none ∧ ∀ x, A = some ⟨x, 0, none⟩ → w.heap.size ≤ x) := K0
  clear hL hc hn K0
  obtain ⟨z, hz⟩ : ∃ z, red (seed, 1) = z := ⟨_, rfl⟩
  have hrt : Rt z := hz ▸ rt_red _
  have HZ : Hid (∀ w, Calls Try.prog 9 #[.int .i64 seed] w fun e w' => e = .returned (.pointer (some ⟨w.heap.size, 0, none⟩)) ∧ w' = w.alloc (.cells #[C z, .bool true] 35)) := fun w => hz ▸ newC seed w
  clear hz
  obtain ⟨S, hS⟩ : ∃ S, (shuf (n - 1) z l).2 = S := ⟨_, rfl⟩
  have hSl : Hid (S.length = n) := by show _ = _; rw [← hS, shuf_len]; exact HN.out
  have HS : Hid ((shuf (n - 1) z l).2 = S) := hS
  clear hS
  go_enter Try.func7, Try.ntmps7
  go_wp2_with (first | (go_at_call 8; refine (awake_any _).mono ?_; rintro e w1 ⟨rfl, hg, hb⟩))
  have hb0 := hb.size
  refine (HK0.out w1 (HL.out.below hb)).mono ?_
  rintro e W1 ⟨A, C0, rfl, r1, g1, ge1⟩
  have k1 := g1.size
  have B1 : Below w.heap.size w W1 := hb.grown g1 hb0 (by simp)
  have HA : Hid (∀ x, A = some ⟨x, 0, none⟩ → w.heap.size ≤ x ∧ x < W1.heap.size) := by
    intro x hx
    refine ⟨Nat.le_trans hb0 (ge1 x hx), ?_⟩
    subst hx
    exact (owns_lt r1).2
  have H1 : Hid (R W1 A n C0 l ∧ Below w.heap.size w W1) := ⟨r1, B1⟩
  clear hg hb r1 g1 ge1 B1
  go_wp2_with fail
  refine (HZ.out W1).mono ?_
  rintro e W2 ⟨rfl, hW2⟩
  have g2 : W1.grownBy W2 none := by rw [hW2]; exact World.grownBy_alloc _ _ _
  have z2 : W2.heap.size = W1.heap.size + 1 := by rw [hW2]; simp
  have p2 : SpinAt W2 W1.heap.size z := by rw [hW2]; exact spinAt_alloc _ _
  have H2 : Hid (R W2 A n C0 l ∧ Below w.heap.size w W2 ∧ SpinAt W2 W1.heap.size z) := ⟨H1.out.1.kept g2 (by simp), H1.out.2.grown g2 H1.out.2.size (by simp), p2⟩
  have Z2 : Hid (W2.heap.size = W1.heap.size + 1) := z2
  have k2 : W1.heap.size < W2.heap.size := by omega
  clear hW2 g2 z2 p2 H1
  go_wp2_with fail
  refine (shuffle_any z W1.heap.size n A C0 l W2 hrt H2.out.2.2 H2.out.1.lies HN.out (by omega)).mono ?_
  rintro e W3 ⟨rfl, r3, _, g3⟩
  rw [HS.out] at r3
  have k3 := g3.size
  have kr3 := r3.lt
  have H3 : Hid (R W3 A n C0 l ∧ Below w.heap.size w W3 ∧ RowAt W3 W2.heap.size S) :=
    ⟨H2.out.1.kept g3 (fun x hx e => by have := (HA.out x hx).2; simp at e; omega), H2.out.2.1.grown g3 H2.out.2.1.size (by intro q hq; simp at hq; omega), r3⟩
  clear r3 g3 H2
  go_wp2_with fail
  refine (HZ.out W3).mono ?_
  rintro e W4 ⟨rfl, hW4⟩
  have g4 : W3.grownBy W4 none := by rw [hW4]; exact World.grownBy_alloc _ _ _
  have k4 : W3.heap.size < W4.heap.size := by rw [hW4]; simp
  have p4 : SpinAt W4 W3.heap.size z := by rw [hW4]; exact spinAt_alloc _ _
  have H4 : Hid (R W4 A n C0 l ∧ Below w.heap.size w W4 ∧ RowAt W4 W2.heap.size S ∧ SpinAt W4 W3.heap.size z) := ⟨H3.out.1.kept g4 (by simp), H3.out.2.1.grown g4 H3.out.2.1.size (by simp), H3.out.2.2.keepR g4 (by simp), p4⟩
  clear hW4 g4 p4 H3
  go_wp2_with fail
  refine (shuffle_any z W3.heap.size n A C0 l W4 hrt H4.out.2.2.2 H4.out.1.lies HN.out (by omega)).mono ?_
  rintro e W5 ⟨rfl, r5, _, g5⟩
  rw [HS.out] at r5
  have k5 := g5.size
  have kr5 := r5.lt
  have H5 : Hid (R W5 A n C0 l ∧ Below w.heap.size w W5 ∧ RowAt W5 W2.heap.size S ∧ RowAt W5 W4.heap.size S) :=
    ⟨H4.out.1.kept g5 (fun x hx e => by have := (HA.out x hx).2; simp at e; omega), H4.out.2.1.grown g5 H4.out.2.1.size (by intro q hq; simp at hq; omega), H4.out.2.2.1.keepR g5 (by simp; omega), r5⟩
  clear r5 g5 H4
  go_wp2_with fail
  refine (sameN n n (some ⟨W2.heap.size, 0, none⟩) (some ⟨W4.heap.size, 0, none⟩) n n S S W5 hSl.out hSl.out H5.out.2.2.1.lies H5.out.2.2.2.lies (by omega) (by omega) rfl).mono ?_
  rintro e W6 ⟨rfl, q6, hW6⟩
  have H6 : Hid (R W6 A n C0 l ∧ Below w.heap.size w W6 ∧ RowAt W6 W2.heap.size S ∧ RowAt W6 W4.heap.size S) := by
    rw [hW6]; exact ⟨H5.out.1, below_drewN H5.out.2.1 _, H5.out.2.2.1, H5.out.2.2.2⟩
  have K6 : Hid (W6.heap.size = W5.heap.size) := by rw [hW6]; exact rfl
  clear hW6 H5
  go_wp2
  go_loopw [8] (fun s wr => ∃ i q : Nat, s = .int .i64 i ∧ i ≤ n ∧ wr = W6.drewN q) (fun s _ => n - (intOf s).toNat)
  case atStart => exact ⟨0, 0, rfl, by omega, rfl⟩
  case round =>
    obtain ⟨i, q, rfl, hi, hw⟩ := hrel
    have HW : Hid (wr = W6.drewN q) := hw
    clear hw
    by_cases hlt : i < n
    · obtain ⟨b, o, e, hbl, hci⟩ := HL.out.lt i (by have := HN.out; omega)
      obtain ⟨x, hx⟩ : ∃ x, x = l[i]'(by have := HN.out; omega) := ⟨_, rfl⟩
      rw [← hx] at hci
      subst e
      have HCI : Hid (W6.cell? ⟨b, o + i, none⟩ = some (.int .i64 x)) := by
        show _ = _
        rw [H6.out.2.1.cell (p := ⟨b, o + i, none⟩) hbl]; exact hci
      clear hci hx
      go_wp2
      go_hide hQ
      go_loopw [9, 10] (fun v s wx => ∃ j p : Nat, s = .int .i64 j ∧ j ≤ n ∧ wx = W6.drewN p ∧ v = .int .i64 (((l.take j).count x : Int) - ((S.take j).count x : Int))) (fun _ s _ => n - (intOf s).toNat)
      case atStart => exact ⟨0, q, rfl, by omega, HW.out, by simp⟩
      case round =>
        obtain ⟨j, p, rfl, hj, hw2, rfl⟩ := hrel
        have HW2 : Hid (wr = W6.drewN p) := hw2
        have ci : wr.cell? ⟨b, o + i, none⟩ = some (.int .i64 x) := by rw [hw2]; exact HCI.out
        have n1 := count_le x l j
        have n2 := count_le x S j
        by_cases hlj : j < n
        · obtain ⟨b', o', e', hbl', hcj⟩ := HL.out.lt j (by have := HN.out; omega)
          simp only [Option.some.injEq, Addr.mk.injEq, and_true] at e'
          obtain ⟨rfl, rfl⟩ := e'
          have sl := count_step x l j (by have := HN.out; omega)
          have sS := count_step x S j (by have := hSl.out; omega)
          obtain ⟨y, hy⟩ : ∃ y, y = l[j]'(by have := HN.out; omega) := ⟨_, rfl⟩
          obtain ⟨u, hu⟩ : ∃ u, u = S[j]'(by have := hSl.out; omega) := ⟨_, rfl⟩
          rw [← hy] at hcj sl
          rw [← hu] at sS
          have cj : wr.cell? ⟨b, o + j, none⟩ = some (.int .i64 y) := by
            rw [hw2]
            exact (H6.out.2.1.cell (p := ⟨b, o + j, none⟩) hbl).trans hcj
          have ca : wr.cell? ⟨W2.heap.size, j, none⟩ = some (.int .i64 u) := by
            rw [hw2, hu]
            have := H6.out.2.2.1.cell j (by have := hSl.out; omega)
            rw [show S.getD j 0 = S[j]'(by have := hSl.out; omega) by have := hSl.out; simp [show j < S.length by omega]] at this
            exact this
          have HSL : Hid (((l.take (j + 1)).count x : Int) = (l.take j).count x + if y = x then 1 else 0) := sl
          have HSS : Hid (((S.take (j + 1)).count x : Int) = (S.take j).count x + if u = x then 1 else 0) := sS
          obtain ⟨c1', hc1⟩ : ∃ c : Nat, (l.take j).count x = c := ⟨_, rfl⟩
          obtain ⟨c2', hc2⟩ : ∃ c : Nat, (S.take j).count x = c := ⟨_, rfl⟩
          rw [hc1, hc2]
          rw [hc1] at n1 HSL
          rw [hc2] at n2 HSS
          clear hcj sl sS hy hu hw2 hc1 hc2
          by_cases hyx : y = x
          · have d1 : (y == x) = true := by simpa using hyx
            have HD1 : Hid (y = x) := hyx
            clear hyx
            by_cases hux : u = x
            · have d2 : (u == x) = true := by simpa using hux
              have HD2 : Hid (u = x) := hux
              clear hux
              go_wp2_with fail
              go_quiet (fail)
              go_wp2_with fail
              go_quiet (fail)
              go_wp2
              go_roundw
              case rel => exact ⟨j + 1, _, by go_num, by omega, drew_some HW2.out _, val_num (by rw [HSL.out, HSS.out, if_pos HD1.out, if_pos HD2.out]; omega)⟩
              case measure => simp [intOf]; omega
            · have d2 : (u == x) = false := by simpa using hux
              have HD2 : Hid (¬ u = x) := hux
              clear hux
              go_wp2_with fail
              go_quiet (fail)
              go_wp2_with fail
              go_quiet (fail)
              go_wp2
              go_roundw
              case rel => exact ⟨j + 1, _, by go_num, by omega, drew_some HW2.out _, val_num (by rw [HSL.out, HSS.out, if_pos HD1.out, if_neg HD2.out]; omega)⟩
              case measure => simp [intOf]; omega
          · have d1 : (y == x) = false := by simpa using hyx
            have HD1 : Hid (¬ y = x) := hyx
            clear hyx
            by_cases hux : u = x
            · have d2 : (u == x) = true := by simpa using hux
              have HD2 : Hid (u = x) := hux
              clear hux
              go_wp2_with fail
              go_quiet (fail)
              go_wp2_with fail
              go_quiet (fail)
              go_wp2
              go_roundw
              case rel => exact ⟨j + 1, _, by go_num, by omega, drew_some HW2.out _, val_num (by rw [HSL.out, HSS.out, if_neg HD1.out, if_pos HD2.out]; omega)⟩
              case measure => simp [intOf]; omega
            · have d2 : (u == x) = false := by simpa using hux
              have HD2 : Hid (¬ u = x) := hux
              clear hux
              go_wp2_with fail
              go_quiet (fail)
              go_wp2_with fail
              go_quiet (fail)
              go_wp2
              go_roundw
              case rel => exact ⟨j + 1, _, by go_num, by omega, drew_some HW2.out _, val_num (by rw [HSL.out, HSS.out, if_neg HD1.out, if_neg HD2.out]; omega)⟩
              case measure => simp [intOf]; omega
        · have e0 : (((l.take j).count x : Nat) : Int) - ((S.take j).count x : Nat) = 0 := by
            have e1 : l.take j = l := List.take_of_length_le (by have := HN.out; omega)
            have e2 : S.take j = S := List.take_of_length_le (by have := hSl.out; omega)
            have e3 := shuf_count (n - 1) z l (.inl (by have := HN.out; omega)) x
            rw [HS.out] at e3
            rw [e1, e2, e3]; omega
          rw [e0]
          clear e0 n1 n2 hw2
          go_wp2
          subst hQ
          go_wp2
          go_roundw
          case rel => exact ⟨i + 1, p, by go_num, by omega, HW2.out⟩
          case measure => simp [intOf]; omega
    · have HY : Hid (R wr A n C0 l ∧ Below w.heap.size w wr ∧ RowAt wr W2.heap.size S ∧ RowAt wr W4.heap.size S) := by
        rw [HW.out]; exact ⟨H6.out.1, below_drewN H6.out.2.1 _, H6.out.2.2.1, H6.out.2.2.2⟩
      have hys := HY.out.2.1.size
      clear HW H6
      go_wp2_with fail
      have HAP := apart3 wr A n C0 W2.heap.size W4.heap.size l S (by omega) HY.out.2.2.2.lt HY.out.1 HY.out.2.2.1 HY.out.2.2.2 hSl.out (fun x hx => by have := (HA.out x hx).2; omega) h1
      refine HAP.mono ?_
      rintro e W8 ⟨rfl, ch⟩
      have HB8 : Hid (Below w.heap.size w W8) := chg3_below HY.out.2.1 ch (fun x hx => (HA.out x hx).1) (by omega) (by omega)
      clear ch HAP
      go_wp2
      go_ret
      exact ⟨rfl, HB8.out⟩
end Go.Proofs.Ytkjdhnomehhijaa
