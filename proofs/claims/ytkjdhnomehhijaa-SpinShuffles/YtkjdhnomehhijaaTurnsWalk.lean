/- The walk of SpinTurns. -/
import Derived.Test.YtkjdhnomehhijaaWalksG
import Derived.Deep.RegionWith
import Derived.OpenShut
namespace Go.Proofs.Ytkjdhnomehhijaa
open Go.RowKit

theorem Lies.below {w w' : World} {a : Option Addr} {l : List Int} (h : Lies w a l) (hb : Below w.heap.size w w') : Lies w' a l := h.keep (below_grown hb none)
theorem Lies.lt {w : World} {a : Option Addr} {l : List Int} (h : Lies w a l) (k : Nat) (hk : k < l.length) : ∃ b o, a = some ⟨b, o, none⟩ ∧ b < w.heap.size ∧ w.cell? ⟨b, o + k, none⟩ = some (.int .i64 l[k]) := by
  obtain ⟨b, o, e, hc⟩ := h k hk
  refine ⟨b, o, e, ?_, hc⟩
  rcases Nat.lt_or_ge b w.heap.size with h1 | h1
  · exact h1
  · simp [World.cell?, Array.getElem?_eq_none h1] at hc

theorem sameN (n1 n2 : Nat) (a1 a2 : Option Addr) (c1 c2 : Nat) (la lb : List Int) (w : World) (h1 : la.length = n1) (h2 : lb.length = n2) (hA : Lies w a1 la) (hB : Lies w a2 lb) (hm : n1 ≤ 1000000) (hm' : n2 ≤ 1000000) (he : la = lb) :
    Calls Try.prog 17 #[.slice a1 n1 c1, .slice a2 n2 c2] w fun e w' => e = .returned (.bool true) ∧ ∃ q, w' = w.drewN q := by
  subst h1 h2
  refine (same_any a1 a2 c1 c2 la lb w hA hB (by unfold maxLen; omega) (by unfold maxLen; omega)).mono ?_
  rintro e w' ⟨rfl, q, rfl⟩
  exact ⟨by rw [decide_eq_true he], q, rfl⟩

set_option maxRecDepth 100000 in
set_option maxHeartbeats 2000000 in
theorem turns_big (seed : Int) (a1 a2 : Option Addr) (n1 n2 c1 c2 : Nat) (w : World) (h : 300 < n1 ∨ 300 < n2) (hm1 : n1 ≤ maxLen) (hm2 : n2 ≤ maxLen) :
    Calls Try.prog 3 #[.int .i64 seed, .slice a1 n1 c1, .slice a2 n2 c2] w fun e w' => e = .returned (.bool true) ∧ Below w.heap.size w w' := by
  unfold maxLen at hm1 hm2
  by_cases h1 : 300 < n1
  · clear h
    go_enter Try.func3, Try.ntmps3
    go_wp2_with (first | (go_at_call 8; refine (awake_any _).mono ?_; rintro e w1 ⟨rfl, hg, hb⟩))
    go_ret
    exact ⟨rfl, hb⟩
  · have h2 : 300 < n2 := by omega
    clear h
    go_enter Try.func3, Try.ntmps3
    go_wp2_with (first | (go_at_call 8; refine (awake_any _).mono ?_; rintro e w1 ⟨rfl, hg, hb⟩))
    go_ret
    exact ⟨rfl, hb⟩

theorem LentAt.lies {w : World} {g : Nat} {l : List Int} (h : LentAt w g l) : Lies w (some ⟨g, 0, none⟩) l := by
  intro k hk
  exact ⟨g, 0, rfl, by rw [Nat.zero_add]; exact h.cell k hk⟩
theorem LentAt.lt {w : World} {g : Nat} {l : List Int} (h : LentAt w g l) : g < w.heap.size := by
  rcases Nat.lt_or_ge g w.heap.size with h1 | h1
  · exact h1
  · unfold LentAt at h; rw [Array.getElem?_eq_none h1] at h; cases h
theorem LentAt.keepR {w w' : World} {g : Nat} {r : Option Nat} {l : List Int} (h : LentAt w g l) (hg : w.grownBy w' r) (hr : some g ≠ r) : LentAt w' g l := by
  have hlt := h.lt
  unfold LentAt at *
  rw [hg.block g hlt hr]; exact h
theorem RowAt.keepR {w w' : World} {g : Nat} {r : Option Nat} {l : List Int} (h : RowAt w g l) (hg : w.grownBy w' r) (hr : some g ≠ r) : RowAt w' g l := by
  have hlt := h.lt
  unfold RowAt at *
  rw [hg.block g hlt hr]; exact h
theorem ownsI_lies {w : World} {base g n cap : Nat} {l : List Int} (h : w.ownsRow base 3 1 (.slice (some ⟨g, 0, none⟩) n cap) n (l.map (Value.int .i64))) : Lies w (some ⟨g, 0, none⟩) l := by
  have hl : l.length = n := by simpa using h.1
  intro k hk
  refine ⟨g, 0, rfl, ?_⟩
  rw [Nat.zero_add, owns_cell h k (by omega)]
  simp [hk]

set_option maxRecDepth 100000 in
set_option maxHeartbeats 2000000 in
theorem turns_small (seed : Int) (a1 a2 : Option Addr) (c1 c2 : Nat) (rows l : List Int) (w : World) (hR : Lies w a1 rows) (hL : Lies w a2 l) (h1 : rows.length ≤ 300) (h2 : l.length ≤ 300) (hc : a2 = none → c2 = 0 ∧ l = []) :
    Calls Try.prog 3 #[.int .i64 seed, .slice a1 rows.length c1, .slice a2 l.length c2] w fun e w' => e = .returned (.bool true) ∧ Below w.heap.size w w' := by
  have HR : Hid (Lies w a1 rows) := hR
  have HL : Hid (Lies w a2 l) := hL
  have HC : Hid (a2 = none → c2 = 0 ∧ l = []) := hc
  clear hR hL hc
  obtain ⟨n1, hn1⟩ : ∃ n1, rows.length = n1 := ⟨_, rfl⟩
  have HN1 : Hid (rows.length = n1) := hn1
  rw [hn1] at h1 ⊢
  clear hn1
  go_enter Try.func3, Try.ntmps3
  go_wp2_with (first | (go_at_call 8; refine (awake_any _).mono ?_; rintro e w1 ⟨rfl, hg, hb⟩) | (go_at_call 9; refine (newC _ _).mono ?_; rintro e w2 ⟨rfl, rfl⟩) | (go_at_call 10; refine (refNew _ _).mono ?_; rintro e w2 ⟨rfl, rfl⟩))
  have hz0 := hb.size
  have HS1 : Hid (SpinAt ((w1.alloc (.cells #[C (red (seed, 1)), .bool true] 35)).alloc (.cells #[C (red (seed, 1))] 51)) w1.heap.size (red (seed, 1))) :=
    (spinAt_alloc w1 _).keep (World.grownBy_alloc _ _ none) (by simp)
  have HF1 : Hid (RefAt ((w1.alloc (.cells #[C (red (seed, 1)), .bool true] 35)).alloc (.cells #[C (red (seed, 1))] 51)) (w1.heap.size + 1) (red (seed, 1))) := by
    have := refAt_alloc (w1.alloc (.cells #[C (red (seed, 1)), .bool true] 35)) (red (seed, 1))
    have e : (w1.alloc (.cells #[C (red (seed, 1)), .bool true] 35)).heap.size = w1.heap.size + 1 := by simp
    rw [e] at this
    exact this
  have HB1 : Hid (Below w.heap.size w ((w1.alloc (.cells #[C (red (seed, 1)), .bool true] 35)).alloc (.cells #[C (red (seed, 1))] 51))) :=
    (hb.alloc hz0 _).alloc (by simp; omega) _
  clear hg hb
  go_loopw [9] (fun i wr => ∃ (k : Nat) (z : Int × Int), i = .int .i64 k ∧ k ≤ n1 ∧ Rt z ∧ SpinAt wr w1.heap.size z ∧ RefAt wr (w1.heap.size + 1) z ∧ Below w.heap.size w wr) (fun i _ => n1 - (intOf i).toNat)
  case atStart => exact ⟨0, _, rfl, by omega, rt_red _, HS1.out, HF1.out, HB1.out⟩
  case round =>
    obtain ⟨k, z, rfl, hk, hz, hs, hf, hb⟩ := hrel
    clear HS1 HF1 HB1
    have HS : Hid (SpinAt wr w1.heap.size z) := hs
    have HF : Hid (RefAt wr (w1.heap.size + 1) z) := hf
    have HB : Hid (Below w.heap.size w wr) := hb
    clear hs hf hb
    by_cases hlt : k < n1
    · obtain ⟨b, o, e, hbl, hc⟩ := HR.out.lt k (by have := HN1.out; omega)
      obtain ⟨x, hx⟩ : ∃ x, x = rows[k]'(by have := HN1.out; omega) := ⟨_, rfl⟩
      rw [← hx] at hc
      clear hx
      subst e
      have cx : wr.cell? ⟨b, o + k, none⟩ = some (.int .i64 x) := by rw [HB.out.cell (p := ⟨b, o + k, none⟩) hbl]; exact hc
      clear hc
      go_wp2_with fail
      go_region_with (first | (go_at_call 11; refine (nextC z x w1.heap.size _ hz (by exact HS.out)).mono ?_; rintro e w3 ⟨rfl, hs3, hg3⟩; have cx3 : w3.cell? ⟨b, o + k, none⟩ = some (.int .i64 x) := hg3.cell (by exact cx) (by simp; omega); have hf3 : RefAt w3 (w1.heap.size + 1) z := RefAt.keep (by exact HF.out) hg3 (by simp)) | (go_at_call 12; refine (refNextC z x (w1.heap.size + 1) _ hz (by exact hf3)).mono ?_; rintro e w4 ⟨rfl, hs4, hg4⟩))
      all_goals
        have hs4' : SpinAt w4 w1.heap.size (turn z) := hs3.keep hg4 (by simp)
        have hb3 : Below w.heap.size w w3 := Below.grown HB.out.drew hg3 (by exact HB.out.size) (by intro q hq; simp at hq; omega)
        have hb4 : Below w.heap.size w w4 := Below.grown hb3 hg4 hb3.size (by intro q hq; simp at hq; omega)
        have HX : Hid (SpinAt w4 w1.heap.size (turn z) ∧ RefAt w4 (w1.heap.size + 1) (turn z) ∧ Below w.heap.size w w4) := ⟨hs4', hs4, hb4⟩
        clear hs3 hg3 cx3 hf3 hs4 hg4 hs4' hb3 hb4
        go_wp2
        go_roundw
        case rel => exact ⟨k + 1, turn z, by go_num, by omega, rt_turn z, HX.out.1, HX.out.2.1, HX.out.2.2⟩
        case measure => simp [intOf]; omega
    · have hzr := HB.out.size
      have hsl := HS.out.lt
      have hfl := HF.out.lt
      go_wp2_with fail
      refine (lentAny a2 c2 l wr (HL.out.below HB.out) (by omega) HC.out).mono ?_
      rintro e W1 ⟨rfl, l1, g1⟩
      have k1 := g1.size
      have kl1 := l1.lt
      have s1 : SpinAt W1 w1.heap.size z := HS.out.keep g1 (by simp)
      have f1 : RefAt W1 (w1.heap.size + 1) z := HF.out.keep g1 (by simp)
      have b1 : Below w.heap.size w W1 := Below.grown HB.out g1 hzr (by simp)
      have H1 : Hid (LentAt W1 wr.heap.size l ∧ SpinAt W1 w1.heap.size z ∧ RefAt W1 (w1.heap.size + 1) z ∧ Below w.heap.size w W1) := ⟨l1, s1, f1, b1⟩
      clear l1 g1 s1 f1 b1
      go_wp2_with fail
      refine (copyC z w1.heap.size W1 H1.out.2.1).mono ?_
      rintro e W2 ⟨rfl, hW2⟩
      have g2 : W1.grownBy W2 none := by rw [hW2]; exact World.grownBy_alloc _ _ _
      have z2 : W2.heap.size = W1.heap.size + 1 := by rw [hW2]; simp
      have p2 : SpinAt W2 W1.heap.size z := by rw [hW2]; exact spinAt_alloc _ _
      have H2 : Hid (LentAt W2 wr.heap.size l ∧ SpinAt W2 w1.heap.size z ∧ RefAt W2 (w1.heap.size + 1) z ∧ SpinAt W2 W1.heap.size z ∧ Below w.heap.size w W2) :=
        ⟨H1.out.1.keepR g2 (by simp), H1.out.2.1.keep g2 (by simp), H1.out.2.2.1.keep g2 (by simp), p2, Below.grown H1.out.2.2.2 g2 H1.out.2.2.2.size (by simp)⟩
      have k2 : W1.heap.size < W2.heap.size := by omega
      have Z2 : Hid (W2.heap.size = W1.heap.size + 1) := z2
      clear hW2 g2 z2 p2 H1
      go_wp2_with fail
      refine (shuffle_any z w1.heap.size l.length (some ⟨wr.heap.size, 0, none⟩) (l.length + 12) l W2 hz H2.out.2.1 H2.out.1.lies rfl (by omega)).mono ?_
      rintro e W3 ⟨rfl, r3, s3, g3⟩
      have k3 := g3.size
      have kr3 := r3.lt
      have H3 : Hid (LentAt W3 wr.heap.size l ∧ SpinAt W3 w1.heap.size (shuf (l.length - 1) z l).1 ∧ RefAt W3 (w1.heap.size + 1) z ∧ SpinAt W3 W1.heap.size z ∧ Below w.heap.size w W3 ∧ RowAt W3 W2.heap.size (shuf (l.length - 1) z l).2) :=
        ⟨H2.out.1.keepR g3 (by simp; omega), s3, H2.out.2.2.1.keep g3 (by simp), H2.out.2.2.2.1.keep g3 (by simp; omega), Below.grown H2.out.2.2.2.2 g3 H2.out.2.2.2.2.size (by intro q hq; simp at hq; omega), r3⟩
      clear r3 s3 g3 H2
      go_wp2_with fail
      refine (refShuffle_any z (w1.heap.size + 1) a2 c2 l W3 hz H3.out.2.2.1 (HL.out.below H3.out.2.2.2.2.1) (by omega) HC.out).mono ?_
      rintro e W4 ⟨g, cap, rfl, o4, f4, g4⟩
      have k4 := g4.size
      have kg4 := owns_lt o4
      have H4 : Hid (LentAt W4 wr.heap.size l ∧ SpinAt W4 w1.heap.size (shuf (l.length - 1) z l).1 ∧ RefAt W4 (w1.heap.size + 1) (shuf (l.length - 1) z l).1 ∧ SpinAt W4 W1.heap.size z ∧ Below w.heap.size w W4 ∧ RowAt W4 W2.heap.size (shuf (l.length - 1) z l).2 ∧ W4.ownsRow W3.heap.size 3 1 (.slice (some ⟨g, 0, none⟩) l.length cap) l.length ((shuf (l.length - 1) z l).2.map (Value.int .i64))) :=
        ⟨H3.out.1.keepR g4 (by simp; omega), H3.out.2.1.keep g4 (by simp), f4, H3.out.2.2.2.1.keep g4 (by simp; omega), Below.grown H3.out.2.2.2.2.1 g4 H3.out.2.2.2.2.1.size (by intro q hq; simp at hq; omega), H3.out.2.2.2.2.2.keepR g4 (by simp; omega), o4⟩
      clear o4 f4 g4 H3
      go_wp2_with fail
      refine (sameN l.length l.length (some ⟨W2.heap.size, 0, none⟩) (some ⟨g, 0, none⟩) l.length cap (shuf (l.length - 1) z l).2 (shuf (l.length - 1) z l).2 W4 (shuf_len _ _ _) (shuf_len _ _ _) H4.out.2.2.2.2.2.1.lies (ownsI_lies H4.out.2.2.2.2.2.2) (by omega) (by omega) rfl).mono ?_
      rintro e W5 ⟨rfl, q5, hW5⟩
      have H5 : Hid (LentAt W5 wr.heap.size l ∧ SpinAt W5 w1.heap.size (shuf (l.length - 1) z l).1 ∧ RefAt W5 (w1.heap.size + 1) (shuf (l.length - 1) z l).1 ∧ SpinAt W5 W1.heap.size z ∧ Below w.heap.size w W5 ∧ W5.ownsRow W3.heap.size 3 1 (.slice (some ⟨g, 0, none⟩) l.length cap) l.length ((shuf (l.length - 1) z l).2.map (Value.int .i64))) := by
        rw [hW5]
        exact ⟨H4.out.1, H4.out.2.1, H4.out.2.2.1, H4.out.2.2.2.1, below_drewN H4.out.2.2.2.2.1 _, H4.out.2.2.2.2.2.2⟩
      have k5 : W5.heap.size = W4.heap.size := by rw [hW5]; rfl
      have K5 : Hid (W5.heap.size = W4.heap.size) := k5
      clear hW5 H4 k5
      go_wp2_with fail
      refine (kept_any wr.heap.size l.length a2 c2 l W5 H5.out.1 (HL.out.below H5.out.2.2.2.2.1) rfl (by omega)).mono ?_
      rintro e W6 ⟨rfl, q6, hW6⟩
      have H6 : Hid (SpinAt W6 w1.heap.size (shuf (l.length - 1) z l).1 ∧ RefAt W6 (w1.heap.size + 1) (shuf (l.length - 1) z l).1 ∧ SpinAt W6 W1.heap.size z ∧ Below w.heap.size w W6 ∧ W6.ownsRow W3.heap.size 3 1 (.slice (some ⟨g, 0, none⟩) l.length cap) l.length ((shuf (l.length - 1) z l).2.map (Value.int .i64))) := by
        rw [hW6]
        exact ⟨H5.out.2.1, H5.out.2.2.1, H5.out.2.2.2.1, below_drewN H5.out.2.2.2.2.1 _, H5.out.2.2.2.2.2⟩
      have K6 : Hid (W6.heap.size = W5.heap.size) := by rw [hW6]; exact rfl
      clear hW6 H5
      go_wp2_with fail
      refine (shuffle_any z W1.heap.size l.length a2 c2 l W6 hz H6.out.2.2.1 (HL.out.below H6.out.2.2.2.1) rfl (by omega)).mono ?_
      rintro e W7 ⟨rfl, r7, s7, g7⟩
      have hne : W1.heap.size ≠ g := by omega
      have H7 : Hid (SpinAt W7 w1.heap.size (shuf (l.length - 1) z l).1 ∧ RefAt W7 (w1.heap.size + 1) (shuf (l.length - 1) z l).1 ∧ Below w.heap.size w W7 ∧ W7.ownsRow W3.heap.size 3 1 (.slice (some ⟨g, 0, none⟩) l.length cap) l.length ((shuf (l.length - 1) z l).2.map (Value.int .i64)) ∧ RowAt W7 W6.heap.size (shuf (l.length - 1) z l).2) :=
        ⟨H6.out.1.keep g7 (by simp; omega), H6.out.2.1.keep g7 (by simp; omega), Below.grown H6.out.2.2.2.1 g7 H6.out.2.2.2.1.size (by intro q hq; simp at hq; omega), H6.out.2.2.2.2.kept g7 (.inr (by simp [Value.ownBlock]; omega)), r7⟩
      clear r7 s7 g7 H6 hne
      go_wp2_with fail
      refine (sameN l.length l.length (some ⟨W6.heap.size, 0, none⟩) (some ⟨g, 0, none⟩) l.length cap (shuf (l.length - 1) z l).2 (shuf (l.length - 1) z l).2 W7 (shuf_len _ _ _) (shuf_len _ _ _) H7.out.2.2.2.2.lies (ownsI_lies H7.out.2.2.2.1) (by omega) (by omega) rfl).mono ?_
      rintro e W8 ⟨rfl, q8, hW8⟩
      have H8 : Hid (SpinAt W8 w1.heap.size (shuf (l.length - 1) z l).1 ∧ RefAt W8 (w1.heap.size + 1) (shuf (l.length - 1) z l).1 ∧ Below w.heap.size w W8) := by
        rw [hW8]; exact ⟨H7.out.1, H7.out.2.1, below_drewN H7.out.2.2.1 _⟩
      clear hW8 H7
      go_wp2_with fail
      refine (nextC (shuf (l.length - 1) z l).1 1000 w1.heap.size W8 (shuf_rt _ _ _ hz) H8.out.1).mono ?_
      rintro e W9 ⟨rfl, s9, g9⟩
      have H9 : Hid (RefAt W9 (w1.heap.size + 1) (shuf (l.length - 1) z l).1 ∧ Below w.heap.size w W9) :=
        ⟨H8.out.2.1.keep g9 (by simp), Below.grown H8.out.2.2 g9 H8.out.2.2.size (by intro q hq; simp at hq; omega)⟩
      clear s9 g9 H8
      go_wp2_with fail
      refine (refNextC (shuf (l.length - 1) z l).1 1000 (w1.heap.size + 1) W9 (shuf_rt _ _ _ hz) H9.out.1).mono ?_
      rintro e WA ⟨rfl, sA, gA⟩
      have HA : Hid (Below w.heap.size w WA) := Below.grown H9.out.2 gA H9.out.2.size (by intro q hq; simp at hq; omega)
      clear sA gA H9
      go_wp2
      go_ret
      exact ⟨rfl, HA.out⟩

theorem lies_of_row {w : World} {a : Option Addr} {len cap : Nat} {zs : List Int}
    (h : (a = none ∧ len = 0 ∧ cap = 0 ∧ zs = []) ∨ ∃ x, a = some x ∧ len ≤ cap ∧ cap ≤ maxLen ∧ zs.length = cap ∧ (∀ i, i < zs.length → w.cell? (x.add i) = some (.int .i64 (zs.getD i 0))) ∧ ∀ n ∈ zs, (Lit.int .i64 n).wf = true) :
    ∃ l : List Int, l.length = len ∧ len ≤ maxLen ∧ Lies w a l ∧ (a = none → cap = 0 ∧ l = []) := by
  rcases h with ⟨rfl, rfl, rfl, rfl⟩ | ⟨x, rfl, hl, hc, hz, hcell, _⟩
  · exact ⟨[], rfl, by unfold maxLen; omega, fun k hk => absurd hk (by simp), fun _ => ⟨rfl, rfl⟩⟩
  · refine ⟨zs.take len, by rw [List.length_take]; omega, Nat.le_trans hl hc, ?_, fun h => by cases h⟩
    intro k hk
    rw [List.length_take] at hk
    obtain ⟨b, o, rfl, hc'⟩ := ints_at hcell (by omega)
    refine ⟨b, o, rfl, ?_⟩
    rw [hc' k (by omega)]
    have : k < zs.length := by omega
    simp [List.getElem_take, this]
end Go.Proofs.Ytkjdhnomehhijaa
