/- Contracts of beadlekit's functions on lists of whole numbers. -/
import Derived.Test.YtkjdhnomehhijaaWalksD
import Derived.Deep.QuietTactic
import Derived.BigQuiet
import Derived.Deep.DeepAppendRoom
import Derived.Laws.AppendOwnNone
namespace Go.Proofs.Ytkjdhnomehhijaa
open Go.RowKit

/-- The slice at a reads as l. -/
def Lies (w : World) (a : Option Addr) (l : List Int) : Prop := ∀ k, (h : k < l.length) → ∃ b o, a = some ⟨b, o, none⟩ ∧ w.cell? ⟨b, o + k, none⟩ = some (.int .i64 l[k])
theorem Lies.drewN {w : World} {a : Option Addr} {l : List Int} (h : Lies w a l) (q : Nat) : Lies (w.drewN q) a l := h

theorem eq_of_take {l m : List Int} (hl : l.length = m.length) (k : Nat) (hk : k = l.length) (h : l.take k = m.take k) : l = m := by
  rw [List.take_of_length_le (by omega), List.take_of_length_le (by omega)] at h
  exact h
theorem take_step {l m : List Int} (k : Nat) (h1 : k < l.length) (h2 : k < m.length) (h : l.take k = m.take k) (e : l[k] = m[k]) : l.take (k + 1) = m.take (k + 1) := by
  rw [List.take_succ_eq_append_getElem h1, List.take_succ_eq_append_getElem h2, h, e]
theorem ne_at {l m : List Int} (k : Nat) (h1 : k < l.length) (h2 : k < m.length) (e : ¬ l[k] = m[k]) : l ≠ m := by
  intro h; subst h; exact e rfl
theorem ret_bool {a b : Bool} (h : a = b) : Ending.returned (.bool a) = .returned (.bool b) := by rw [h]

set_option maxHeartbeats 400000 in
theorem same_len (a1 a2 : Option Addr) (c1 c2 : Nat) (la lb : List Int) (w : World) (hA : Lies w a1 la) (hB : Lies w a2 lb) (hl : la.length = lb.length) (hm : la.length ≤ maxLen) :
    Calls Try.prog 17 #[.slice a1 la.length c1, .slice a2 lb.length c2] w fun e w' => e = .returned (.bool (decide (la = lb))) ∧ ∃ q, w' = w.drewN q := by
  have HA : Hid (Lies w a1 la) := hA
  have HB : Hid (Lies w a2 lb) := hB
  have HL : Hid (la.length = lb.length) := hl
  rw [← hl]
  obtain ⟨n, hn⟩ : ∃ n, n = la.length := ⟨_, rfl⟩
  rw [← hn] at hm ⊢
  have HN : Hid (n = la.length) := hn
  clear hA hB hl hn
  unfold maxLen at hm
  go_enter Try.func17, Try.ntmps17
  go_wp2
  go_loopw [5] (fun i wr => ∃ (k q : Nat), k ≤ n ∧ i = .int .i64 k ∧ la.take k = lb.take k ∧ wr = w.drewN q) (fun i _ => n - (intOf i).toNat)
  case atStart => exact ⟨0, 0, Nat.zero_le _, rfl, rfl, rfl⟩
  case round =>
    obtain ⟨k, q, hk, rfl, ht, rfl⟩ := hrel
    have HT : Hid (la.take k = lb.take k) := ht
    clear ht
    by_cases hlt : k < n
    · obtain ⟨b1, o1, e1, x1⟩ := HA.out k (by have := HN.out; omega)
      obtain ⟨b2, o2, e2, x2⟩ := HB.out k (by have := HN.out; have := HL.out; omega)
      obtain ⟨x, hx⟩ : ∃ x, x = la[k]'(by have := HN.out; omega) := ⟨_, rfl⟩
      obtain ⟨y, hy⟩ : ∃ y, y = lb[k]'(by have := HN.out; have := HL.out; omega) := ⟨_, rfl⟩
      rw [← hx] at x1
      rw [← hy] at x2
      have HX : Hid (x = la[k]'(by have := HN.out; omega)) := hx
      have HY : Hid (y = lb[k]'(by have := HN.out; have := HL.out; omega)) := hy
      clear hx hy
      subst e1 e2
      by_cases hne : x = y
      · have hb : (x != y) = false := by simpa using hne
        have HE : Hid (x = y) := hne
        clear hne
        go_wp2_with fail
        go_quiet (fail)
        go_wp2
        go_roundw
        case rel => exact ⟨k + 1, q + nq, by omega, by go_num, take_step k _ _ HT.out (by rw [← HX.out, ← HY.out]; exact HE.out), rfl⟩
        case measure => simp [intOf]; omega
      · have hb : (x != y) = true := by simpa using hne
        have HE : Hid (¬ x = y) := hne
        clear hne
        go_wp2_with fail
        go_quiet (fail)
        go_wp2
        go_ret
        exact ⟨ret_bool (by rw [decide_eq_false (ne_at k _ _ (by rw [← HX.out, ← HY.out]; exact HE.out))]), q + nq, by simp⟩
    · go_wp2
      go_ret
      exact ⟨ret_bool (by rw [decide_eq_true (eq_of_take HL.out k (by have := HN.out; omega) HT.out)]), q, rfl⟩

set_option maxHeartbeats 400000 in
theorem same_any (a1 a2 : Option Addr) (c1 c2 : Nat) (la lb : List Int) (w : World) (hA : Lies w a1 la) (hB : Lies w a2 lb) (hm : la.length ≤ maxLen) (_hm' : lb.length ≤ maxLen) :
    Calls Try.prog 17 #[.slice a1 la.length c1, .slice a2 lb.length c2] w fun e w' => e = .returned (.bool (decide (la = lb))) ∧ ∃ q, w' = w.drewN q := by
  by_cases hl : la.length = lb.length
  · exact same_len a1 a2 c1 c2 la lb w hA hB hl hm
  · have hd : decide (la = lb) = false := decide_eq_false (fun h => hl (by rw [h]))
    rw [hd]
    clear hd hA hB
    generalize la.length = n at *
    generalize lb.length = m at *
    have hb : ((n : Int) != (m : Int)) = true := by simp; omega
    unfold maxLen at hm _hm'
    clear hl
    go_enter Try.func17, Try.ntmps17
    go_wp2
    go_ret
    exact ⟨rfl, 0, rfl⟩

set_option maxHeartbeats 400000 in
theorem mark_any (k i : Int) (w : World) (hk : 0 ≤ k) (hk' : k < 1000000) (hi : 0 ≤ i) (hi' : i < 1000000000000) :
    Calls Try.prog 33 #[.int .i64 k, .int .i64 i] w fun e w' => e = .returned (.int .i64 (1000003 * (k + 7) + i)) ∧ w' = w := by
  go_enter Try.func33, Try.ntmps33
  go_wp2
  go_ret
  exact ⟨rfl, rfl⟩

theorem Try.info3 : (Try.prog.info? 3).map (fun i => (i.zero, i.size, i.bytes)) = some (some (.int .i64 0), 1, 8) := by kernel_rfl

/-- A slice of the call's own that holds the numbers l. -/
def Owns (w : World) (base : Nat) (v : Value) (l : List Int) : Prop := w.ownsRow base 3 1 v l.length (l.map (Value.int .i64))
theorem Owns.lies {w : World} {base : Nat} {v : Value} {l : List Int} (h : Owns w base v l) : ∃ a c, v = .slice a l.length c ∧ Lies w a l := by
  rcases h.2 with ⟨hv, hn⟩ | ⟨g, cap, cur, hv, hb, hg, hnc, hcm, hcs, ht⟩
  · exact ⟨none, 0, by rw [hv, hn], fun k hk => by omega⟩
  · refine ⟨_, _, hv, fun k hk => ⟨g, 0, rfl, ?_⟩⟩
    rw [hv] at h
    have := World.ownsRow.cellAt h k (by omega)
    rw [Nat.zero_add, this]
    simp [hk]

theorem ints_one (l : List Int) : ∀ u ∈ l.map (Value.int .i64), u.oneCell' = true := by
  intro u hu
  obtain ⟨x, _, rfl⟩ := List.mem_map.1 hu
  rfl
theorem Lies.news {w : World} {ad : Addr} {l : List Int} (h : Lies w (some ad) l) : ∀ j u, (l.map (Value.int .i64))[j]? = some u → w.cell? (ad.add j) = some u := by
  intro j u hu
  have hj : j < l.length := by
    have := (List.getElem?_eq_some_iff.1 hu).1
    simpa using this
  obtain ⟨b', o', e, hc⟩ := h j hj
  simp only [Option.some.injEq] at e
  subst e
  rw [List.getElem?_map, List.getElem?_eq_getElem hj] at hu
  simp only [Option.map_some, Option.some.injEq] at hu
  rw [← hu]
  have e : (⟨b', o', none⟩ : Addr).add j = ⟨b', o' + j, none⟩ := by
    by_cases h0 : j = 0
    · subst h0; rfl
    · simp [Addr.add, h0]
  rw [e]; exact hc
theorem Lies.keep {w w' : World} {a : Option Addr} {l : List Int} (h : Lies w a l) (g : w.grownBy w' none) : Lies w' a l := by
  intro k hk
  obtain ⟨b, o, e, hc⟩ := h k hk
  exact ⟨b, o, e, g.cell hc (by simp)⟩
/-- Reading goes on where block r alone is written, which is another one than the slice lies in. -/
theorem Lies.keepBut {w w' : World} {a : Option Addr} {l : List Int} {r : Nat} (h : Lies w a l) (g : w.grownBy w' (some r)) (hr : ∀ x, a = some x → x.block ≠ r) : Lies w' a l := by
  intro k hk
  obtain ⟨b, o, e, hc⟩ := h k hk
  exact ⟨b, o, e, g.cell hc (by have := hr _ e; simpa using this)⟩

theorem mark1 (i : Int) (w : World) (hi : 0 ≤ i) (hi' : i < 1000000000000) :
    Calls Try.prog 33 #[.int .i64 1, .int .i64 i] w fun e w' => e = .returned (.int .i64 (8000024 + i)) ∧ w' = w := mark_any 1 i w (by decide) (by decide) hi hi'

/-- The marks behind a list that is lent. -/
def marks (k : Nat) : List Int := (List.range k).map fun (i : Nat) => 8000024 + (i : Int)
theorem marks_len (k : Nat) : (marks k).length = k := by simp [marks]
theorem marks_succ (k : Nat) : marks (k + 1) = marks k ++ [8000024 + (k : Int)] := by simp [marks, List.range_succ]
theorem marks_map (l : List Int) (k : Nat) : (l ++ marks k).map (Value.int .i64) ++ [.int .i64 (8000024 + (k : Int))] = (l ++ marks (k + 1)).map (Value.int .i64) := by
  rw [marks_succ]; simp
theorem one_new (v : Value) (hv : v.oneCell' = true) : ∀ u ∈ [v], u.oneCell' = true := by
  intro u hu; simp at hu; subst hu; exact hv
theorem grown_none {a b c : World} {g : Nat} (h : a.grownBy b none) (k : b.grownBy c (some g)) (hg : a.heap.size ≤ g) : a.grownBy c none :=
  ⟨k.os.trans h.os, k.tape.trans h.tape, k.output.trans h.output, Nat.le_trans h.size k.size, fun x hx _ => (k.block x (Nat.lt_of_lt_of_le hx h.size) (by simp; omega)).trans (h.block x hx (by simp))⟩

theorem grownBy_alloc' {a b : World} (h : a.grownBy b none) (o : Obj) : a.grownBy (b.alloc o) none := grownBy_trans h (World.grownBy_alloc b o none)

set_option maxRecDepth 100000 in
set_option maxHeartbeats 400000 in
theorem lent_some (ad : Addr) (n c : Nat) (l : List Int) (w : World) (h : Lies w (some ad) l) (hn : l.length = n) (hm : n ≤ 1000000) :
    Calls Try.prog 13 #[.slice (some ad) n c] w fun e w' => e = .returned (.slice (some ⟨w.heap.size, 0, none⟩) n (n + 12)) ∧ w'.ownsRow w.heap.size 3 1 (.slice (some ⟨w.heap.size, 0, none⟩) (n + 12) (n + 12)) (n + 12) ((l ++ marks 12).map (Value.int .i64)) ∧ w.grownBy w' none := by
  obtain ⟨i0, hi, hz0, hz1, hz2⟩ := info_parts Try.info3
  have HH : Hid (Lies w (some ad) l) := h
  have HN : Hid (l.length = n) := hn
  clear h hn
  go_enter Try.func13, Try.ntmps13
  go_wp2_with (first | (at_make; refine wpList_make_own _ rfl _ _ 22 rfl w.heap.size 3 i0 (.int .i64 0) 1 Try.underlying22 hi hz0 hz1 .i64 .i64 _ (n + 12) rfl rfl (by simp) (by rw [hz2]; omega) (by unfold maxLen; omega) (Nat.le_refl _) ?_; intro w1 hown1 hgrow1) | (at_builtin; refine wpList_append_own_spare _ rfl (.tmp 9) (.tmp 10) 22 rfl w.heap.size 3 i0 1 Try.underlying22 hi hz1 w.heap.size 0 (n + 12) [] rfl hown1 ad n c (l.map (Value.int .i64)) rfl (by have := HN.out; simp; omega) (HH.out.keep hgrow1).news (ints_one _) (by omega) ?_; intro w2 hown2 hgrow2))
  have G2 : w.grownBy w2 none := grown_none hgrow1 hgrow2 (Nat.le_refl _)
  have O2 : w2.ownsRow w.heap.size 3 1 (.slice (some ⟨w.heap.size, 0, none⟩) (n + 0) (n + 12)) (n + 0) ((l ++ marks 0).map (Value.int .i64)) := by
    simpa [marks] using hown2
  clear hown1 hgrow1 hown2 hgrow2
  go_loopw [3, 4] (fun v i wr => ∃ k : Nat, k ≤ 12 ∧ i = .int .i64 k ∧ v = .slice (some ⟨w.heap.size, 0, none⟩) (n + k) (n + 12) ∧ wr.ownsRow w.heap.size 3 1 (.slice (some ⟨w.heap.size, 0, none⟩) (n + k) (n + 12)) (n + k) ((l ++ marks k).map (Value.int .i64)) ∧ w.grownBy wr none) (fun _ i _ => 12 - (intOf i).toNat)
  case atStart => exact ⟨0, by omega, rfl, by simp, O2, G2⟩
  case round =>
    obtain ⟨k, hk, rfl, rfl, hown, hgr⟩ := hrel
    by_cases hlt : k < 12
    · go_wp2_with (first | (go_at_call 33; refine (mark1 _ _ (by omega) (by omega)).mono ?_; rintro e w' ⟨rfl, rfl⟩) | (at_builtin; refine wpList_append_own_spare _ rfl (.tmp 16) (.tmp 19) 22 rfl w.heap.size 3 i0 1 Try.underlying22 hi hz1 w.heap.size (n + k) (n + 12) _ rfl (hown.alloc _) ⟨_, 0, none⟩ 1 1 [.int .i64 (8000024 + (k : Int))] rfl rfl (cell_one_new _ _ _) (one_new _ rfl) (by omega) ?_; intro w3 hown3 hgrow3))
      have G3 : w.grownBy w3 none := grown_none (grownBy_alloc' hgr _) hgrow3 (Nat.le_refl _)
      rw [marks_map] at hown3
      have O3 : w3.ownsRow w.heap.size 3 1 (.slice (some ⟨w.heap.size, 0, none⟩) (n + (k + 1)) (n + 12)) (n + (k + 1)) ((l ++ marks (k + 1)).map (Value.int .i64)) := hown3
      clear hown3 hgrow3 hown hgr
      go_wp2
      go_roundw
      case rel => exact ⟨k + 1, by omega, by go_num, rfl, O3, G3⟩
      case measure => simp [intOf]; omega
    · have hk12 : k = 12 := by omega
      have HK : Hid (k = 12) := hk12
      clear hk12
      go_wp2
      go_ret
      have e := HK.out
      subst e
      exact ⟨rfl, hown, hgr⟩

set_option maxRecDepth 100000 in
set_option maxHeartbeats 400000 in
theorem lent_none (w : World) :
    Calls Try.prog 13 #[.slice none 0 0] w fun e w' => e = .returned (.slice (some ⟨w.heap.size, 0, none⟩) 0 12) ∧ w'.ownsRow w.heap.size 3 1 (.slice (some ⟨w.heap.size, 0, none⟩) 12 12) 12 ((marks 12).map (Value.int .i64)) ∧ w.grownBy w' none := by
  obtain ⟨i0, hi, hz0, hz1, hz2⟩ := info_parts Try.info3
  go_enter Try.func13, Try.ntmps13
  go_wp2_with (first | (at_make; refine wpList_make_own _ rfl _ _ 22 rfl w.heap.size 3 i0 (.int .i64 0) 1 Try.underlying22 hi hz0 hz1 .i64 .i64 _ 12 rfl rfl (by simp) (by rw [hz2]; omega) (by unfold maxLen; omega) (Nat.le_refl _) ?_; intro w1 hown1 hgrow1) | (at_builtin; refine wpList_append_own_none rfl (.tmp 9) (.tmp 10) 22 rfl w.heap.size 3 i0 1 Try.underlying22 hi _ 0 [] rfl hown1 rfl ?_))
  go_loopw [3, 4] (fun v i wr => ∃ k : Nat, k ≤ 12 ∧ i = .int .i64 k ∧ v = .slice (some ⟨w.heap.size, 0, none⟩) k 12 ∧ wr.ownsRow w.heap.size 3 1 (.slice (some ⟨w.heap.size, 0, none⟩) k 12) k ((marks k).map (Value.int .i64)) ∧ w.grownBy wr none) (fun _ i _ => 12 - (intOf i).toNat)
  case atStart => exact ⟨0, by omega, rfl, rfl, hown1, hgrow1⟩
  case round =>
    obtain ⟨k, hk, rfl, rfl, hown, hgr⟩ := hrel
    by_cases hlt : k < 12
    · go_wp2_with (first | (go_at_call 33; refine (mark1 _ _ (by omega) (by omega)).mono ?_; rintro e w' ⟨rfl, rfl⟩) | (at_builtin; refine wpList_append_own_spare _ rfl (.tmp 16) (.tmp 19) 22 rfl w.heap.size 3 i0 1 Try.underlying22 hi hz1 w.heap.size k 12 _ rfl (hown.alloc _) ⟨_, 0, none⟩ 1 1 [.int .i64 (8000024 + (k : Int))] rfl rfl (cell_one_new _ _ _) (one_new _ rfl) (by omega) ?_; intro w3 hown3 hgrow3))
      have G3 : w.grownBy w3 none := grown_none (grownBy_alloc' hgr _) hgrow3 (Nat.le_refl _)
      have em : (marks k).map (Value.int .i64) ++ [.int .i64 (8000024 + (k : Int))] = (marks (k + 1)).map (Value.int .i64) := by rw [marks_succ]; simp
      rw [em] at hown3
      clear hgrow3 hown hgr em
      go_wp2
      go_roundw
      case rel => exact ⟨k + 1, by omega, by go_num, rfl, hown3, G3⟩
      case measure => simp [intOf]; omega
    · have hk12 : k = 12 := by omega
      have HK : Hid (k = 12) := hk12
      clear hk12
      go_wp2
      go_ret
      have e := HK.out
      subst e
      exact ⟨rfl, hown, hgr⟩

/-- What is lent: the list, with twelve marks behind its end. -/
def LentAt (w : World) (g : Nat) (l : List Int) : Prop := w.heap[g]? = some (.cells ((l ++ marks 12).map (Value.int .i64)).toArray 3 (0, 0))
theorem lentAt_of {w : World} {base g n : Nat} {l : List Int} (_hn : l.length = n) (h : w.ownsRow base 3 1 (.slice (some ⟨g, 0, none⟩) (n + 12) (n + 12)) (n + 12) ((l ++ marks 12).map (Value.int .i64))) : LentAt w g l := by
  rcases h.2 with ⟨h0, _⟩ | ⟨g', cap, cur, hv, hb, hg, hnc, hcm, hcs, ht⟩
  · cases h0
  · cases hv
    rw [List.take_of_length_le (by simp; omega)] at ht
    unfold LentAt
    rw [← ht, hg]
theorem lentAny (a : Option Addr) (c : Nat) (l : List Int) (w : World) (h : Lies w a l) (hm : l.length ≤ 1000000) (hc : a = none → c = 0 ∧ l = []) :
    Calls Try.prog 13 #[.slice a l.length c] w fun e w' => e = .returned (.slice (some ⟨w.heap.size, 0, none⟩) l.length (l.length + 12)) ∧ LentAt w' w.heap.size l ∧ w.grownBy w' none := by
  cases a with
  | none =>
    obtain ⟨rfl, rfl⟩ := hc rfl
    refine (lent_none w).mono ?_
    rintro e w' ⟨rfl, h1, h2⟩
    exact ⟨rfl, lentAt_of (n := 0) rfl h1, h2⟩
  | some ad =>
    refine (lent_some ad l.length c l w h rfl hm).mono ?_
    rintro e w' ⟨rfl, h1, h2⟩
    exact ⟨rfl, lentAt_of rfl h1, h2⟩
end Go.Proofs.Ytkjdhnomehhijaa
