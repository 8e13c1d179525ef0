/- Contracts of beadlekit's functions on members that are lent. -/
import Derived.Test.YtohhbhkpekieiaaEnsE
import Derived.Deep.DeepAppendRoom
import Derived.Laws.AppendOwnNone
import Derived.Deep.RegionHeld3
import Derived.Deep.DrawnRows
import Derived.Lib.QuietBelow
import Derived.BigQuiet
namespace Go.Proofs.Ytohhbhkpekieiaa
open Go.RowKit

theorem addP (b o j : Nat) : (⟨b, o, none⟩ : Addr).add j = ⟨b, o + j, none⟩ := by simp only [Addr.add]; split <;> simp_all
theorem mark_any (k i : Int) (w : World) (hk : 0 ≤ k) (hk' : k < 1000000) (hi : 0 ≤ i) (hi' : i < 1000000000000) :
    Calls Try.prog 37 #[.int .i64 k, .int .i64 i] w fun e w' => e = .returned (.int .i64 (1000003 * (k + 7) + i)) ∧ w' = w := by
  go_enter Try.func37, Try.ntmps37
  go_wp2
  go_ret
  exact ⟨rfl, rfl⟩
theorem mark1 (i : Int) (w : World) (hi : 0 ≤ i) (hi' : i < 1000000000000) :
    Calls Try.prog 37 #[.int .i64 1, .int .i64 i] w fun e w' => e = .returned (.int .i64 (8000024 + i)) ∧ w' = w := mark_any 1 i w (by decide) (by decide) hi hi'
def mkM (i : Int) : Mem := ⟨8000024 + i, 0, 0, 0⟩
set_option maxRecDepth 100000 in
theorem markM_any (i : Int) (w : World) (hi : 0 ≤ i) (hi' : i < 1000000000000) :
    Calls Try.prog 57 #[.int .i64 1, .int .i64 i] w fun e w' => e = .returned (.agg #[.int .i64 (8000024 + i), .int .u8 0, .int .i64 0, .int .i64 0]) ∧ Below w.heap.size w w' := by
  go_enter Try.func57, Try.ntmps57
  go_wp2_with ((go_at_call 37; refine (mark1 i _ hi hi').mono ?_; rintro e w' ⟨rfl, rfl⟩))
  refine bodyPost_ret (v := .agg #[.int .i64 (8000024 + i), .int .u8 0, .int .i64 0, .int .i64 0]) (by simp [results, Try.results57, go_sem]) rfl ⟨rfl, (Below.refl _ _).alloc (Nat.le_refl _) _⟩

/- The marks behind a list that is lent. -/
def marksM (k : Nat) : List Mem := (List.range k).map fun (i : Nat) => mkM i
theorem marksM_len (k : Nat) : (marksM k).length = k := by simp [marksM]
theorem marksM_succ (k : Nat) : marksM (k + 1) = marksM k ++ [mkM k] := by simp [marksM, List.range_succ]
theorem marksM_map (l : List Mem) (k : Nat) : mvs (l ++ marksM k) ++ [.int .i64 (8000024 + (k : Int)), .int .u8 0, .int .i64 0, .int .i64 0] = mvs (l ++ marksM (k + 1)) := by
  rw [marksM_succ, ← List.append_assoc, mvs_app (l ++ marksM k)]; rfl
theorem mvs_one : ∀ l, ∀ u ∈ mvs l, u.oneCell' = true
  | [], u, h => by simp [mvs] at h
  | m :: l, u, h => by
    simp only [mvs, List.mem_cons] at h
    rcases h with rfl | rfl | rfl | rfl | h
    · rfl
    · rfl
    · rfl
    · rfl
    · exact mvs_one l u h
theorem mvs_news {w : World} {b o : Nat} {l : List Mem} (h : ∀ j (h : j < l.length), w.cell? ⟨b, o + j * 4, none⟩ = some (.int .i64 (l[j]'h).id) ∧ w.cell? ⟨b, o + j * 4 + 1, none⟩ = some (.int .u8 (l[j]'h).role) ∧ w.cell? ⟨b, o + j * 4 + 2, none⟩ = some (.int .i64 (l[j]'h).weight) ∧ w.cell? ⟨b, o + j * 4 + 3, none⟩ = some (.int .i64 (l[j]'h).group)) :
    ∀ j u, (mvs l)[j]? = some u → w.cell? ((⟨b, o, none⟩ : Addr).add j) = some u := by
  intro j u hu
  have hjl : j < (mvs l).length := (List.getElem?_eq_some_iff.1 hu).1
  rw [mvs_len] at hjl
  have hq : j / 4 < l.length := by omega
  obtain ⟨c0, c1, c2, c3⟩ := h (j / 4) hq
  obtain ⟨m0, m1, m2, m3⟩ := mvs_at l (j / 4) hq
  rw [addP]
  have hr : j % 4 = 0 ∨ j % 4 = 1 ∨ j % 4 = 2 ∨ j % 4 = 3 := by omega
  rcases hr with hr | hr | hr | hr
  · rw [show j = j / 4 * 4 by omega, m0] at hu; cases hu
    rw [show o + j = o + j / 4 * 4 by omega]; exact c0
  · rw [show j = j / 4 * 4 + 1 by omega, m1] at hu; cases hu
    rw [show o + j = o + j / 4 * 4 + 1 by omega]; exact c1
  · rw [show j = j / 4 * 4 + 2 by omega, m2] at hu; cases hu
    rw [show o + j = o + j / 4 * 4 + 2 by omega]; exact c2
  · rw [show j = j / 4 * 4 + 3 by omega, m3] at hu; cases hu
    rw [show o + j = o + j / 4 * 4 + 3 by omega]; exact c3
theorem grown_none {a b c : World} {g : Nat} (h : a.grownBy b none) (k : b.grownBy c (some g)) (hg : a.heap.size ≤ g) : a.grownBy c none :=
  ⟨k.os.trans h.os, k.tape.trans h.tape, k.output.trans h.output, Nat.le_trans h.size k.size, fun x hx _ => (k.block x (Nat.lt_of_lt_of_le hx h.size) (by simp; omega)).trans (h.block x hx (by simp))⟩
theorem below_of_grown {a b : World} (h : a.grownBy b none) : Below a.heap.size a b := ⟨h.os, h.tape, h.output, h.size, fun k hk => h.block k hk (by simp)⟩
theorem grown_of_below {a b : World} (h : Below a.heap.size a b) : a.grownBy b none := ⟨h.os, h.tape, h.output, h.size, fun k hk _ => h.block k hk⟩
theorem grown_trans {a b c : World} (h : a.grownBy b none) (k : Below b.heap.size b c) : a.grownBy c none :=
  ⟨k.os.trans h.os, k.tape.trans h.tape, k.output.trans h.output, Nat.le_trans h.size k.size, fun x hx _ => (k.block x (Nat.lt_of_lt_of_le hx h.size)).trans (h.block x hx (by simp))⟩
theorem owns_below {w w' : World} {base e size n : Nat} {v : Value} {xs : List Value} (h : w.ownsRow base e size v n xs) (hc : Below w.heap.size w w') : w'.ownsRow base e size v n xs := owns_keep h (Chg.of_below hc) (fun _ _ => id)
theorem four_new (w : World) (x0 x1 x2 x3 : Value) (t : TypeId) : ∀ j u, [x0, x1, x2, x3][j]? = some u → (w.alloc (.cells #[x0, x1, x2, x3] t)).cell? ((⟨w.heap.size, 0, none⟩ : Addr).add j) = some u := by
  intro j u hj
  rw [addP, cell_at (heap_alloc_new w _)]
  simp only [Nat.zero_add]
  rw [List.getElem?_toArray]
  exact hj

set_option maxRecDepth 100000 in
set_option maxHeartbeats 1000000 in
theorem lentM_some (ad : Addr) (n c : Nat) (l : List Mem) (w : World) (h : ∀ w1, w.grownBy w1 none → ∀ j u, (mvs l)[j]? = some u → w1.cell? (ad.add j) = some u) (hn : l.length = n) (hm : n ≤ 4398046511104) :
    Calls Try.prog 32 #[.slice (some ad) n c] w fun e w' => e = .returned (.slice (some ⟨w.heap.size, 0, none⟩) n (n + 12)) ∧ w'.ownsRow w.heap.size 30 4 (.slice (some ⟨w.heap.size, 0, none⟩) (n + 12) (n + 12)) (n + 12) (mvs (l ++ marksM 12)) ∧ w.grownBy w' none := by
  obtain ⟨i0, hi, hz0, hz1, hz2⟩ := info_parts info30
  have HH : Hid (∀ w1, w.grownBy w1 none → ∀ j u, (mvs l)[j]? = some u → w1.cell? (ad.add j) = some u) := h
  have HN : Hid (l.length = n) := hn
  clear h hn
  go_enter Try.func32, Try.ntmps32
  go_wp2_with (first | (at_make; refine wpList_make_own _ rfl _ _ 23 rfl w.heap.size 30 i0 _ 4 Try.underlying23 hi hz0 hz1 .i64 .i64 _ (n + 12) rfl rfl (by simp) (by rw [hz2]; omega) (by unfold maxLen; omega) (Nat.le_refl _) ?_; intro w1 hown1 hgrow1) | (at_builtin; refine wpList_append_own_spare _ rfl (.tmp 9) (.tmp 10) 23 rfl w.heap.size 30 i0 4 Try.underlying23 hi hz1 w.heap.size 0 (n + 12) [] rfl hown1 ad n c (mvs l) rfl (by rw [mvs_len, HN.out]) (HH.out _ hgrow1) (mvs_one _) (by omega) ?_; intro w2 hown2 hgrow2))
  have G2 : w.grownBy w2 none := grown_none hgrow1 hgrow2 (Nat.le_refl _)
  have O2 : w2.ownsRow w.heap.size 30 4 (.slice (some ⟨w.heap.size, 0, none⟩) (n + 0) (n + 12)) (n + 0) (mvs (l ++ marksM 0)) := by
    simpa [marksM] using hown2
  clear hown1 hgrow1 hown2 hgrow2
  go_loopw [3, 4] (fun v i wr => ∃ k : Nat, k ≤ 12 ∧ i = .int .i64 k ∧ v = .slice (some ⟨w.heap.size, 0, none⟩) (n + k) (n + 12) ∧ wr.ownsRow w.heap.size 30 4 (.slice (some ⟨w.heap.size, 0, none⟩) (n + k) (n + 12)) (n + k) (mvs (l ++ marksM k)) ∧ w.grownBy wr none) (fun _ i _ => 12 - (intOf i).toNat)
  case atStart => exact ⟨0, by omega, rfl, by simp, O2, G2⟩
  case round =>
    obtain ⟨k, hk, rfl, rfl, hown, hgr⟩ := hrel
    by_cases hlt : k < 12
    · have hmk := markM_any (k : Int) wr (by omega) (by omega)
      go_wp2_with fail
      refine hmk.mono ?_
      rintro e w4 ⟨rfl, hB4⟩
      have O4 := owns_below hown hB4
      have G4 := grown_trans hgr hB4
      clear hown hgr hB4 hmk
      go_wp2_with (at_builtin; refine wpList_append_own_spare _ rfl (.tmp 16) (.tmp 19) 23 rfl w.heap.size 30 i0 4 Try.underlying23 hi hz1 w.heap.size (n + k) (n + 12) _ rfl (O4.alloc _) ⟨_, 0, none⟩ 1 1 [.int .i64 (8000024 + (k : Int)), .int .u8 0, .int .i64 0, .int .i64 0] rfl rfl (four_new _ _ _ _ _ _) (mvs_one [mkM k]) (by omega) ?_; intro w3 hown3 hgrow3)
      have G3 : w.grownBy w3 none := grown_none (grown_trans G4 ((Below.refl _ _).alloc (Nat.le_refl _) _)) hgrow3 (Nat.le_refl _)
      rw [marksM_map] at hown3
      have O3 : w3.ownsRow w.heap.size 30 4 (.slice (some ⟨w.heap.size, 0, none⟩) (n + (k + 1)) (n + 12)) (n + (k + 1)) (mvs (l ++ marksM (k + 1))) := hown3
      clear hown3 hgrow3 O4 G4
      go_wp2
      go_roundw
      case rel => exact ⟨k + 1, by omega, by go_num, rfl, O3, G3⟩
      case measure => simp [intOf]; omega
    · have hk12 : k = 12 := by omega
      have HK : Hid (k = 12) := hk12
      clear hk12
      go_wp2
      go_ret
      have e := HK.out
      subst e
      exact ⟨rfl, hown, hgr⟩

set_option maxRecDepth 100000 in
set_option maxHeartbeats 1000000 in
theorem lentM_none (w : World) :
    Calls Try.prog 32 #[.slice none 0 0] w fun e w' => e = .returned (.slice (some ⟨w.heap.size, 0, none⟩) 0 12) ∧ w'.ownsRow w.heap.size 30 4 (.slice (some ⟨w.heap.size, 0, none⟩) 12 12) 12 (mvs (marksM 12)) ∧ w.grownBy w' none := by
  obtain ⟨i0, hi, hz0, hz1, hz2⟩ := info_parts info30
  go_enter Try.func32, Try.ntmps32
  go_wp2_with (first | (at_make; refine wpList_make_own _ rfl _ _ 23 rfl w.heap.size 30 i0 _ 4 Try.underlying23 hi hz0 hz1 .i64 .i64 _ 12 rfl rfl (by simp) (by rw [hz2]; omega) (by unfold maxLen; omega) (Nat.le_refl _) ?_; intro w1 hown1 hgrow1) | (at_builtin; refine wpList_append_own_none rfl (.tmp 9) (.tmp 10) 23 rfl w.heap.size 30 i0 4 Try.underlying23 hi _ 0 [] rfl hown1 rfl ?_))
  go_loopw [3, 4] (fun v i wr => ∃ k : Nat, k ≤ 12 ∧ i = .int .i64 k ∧ v = .slice (some ⟨w.heap.size, 0, none⟩) k 12 ∧ wr.ownsRow w.heap.size 30 4 (.slice (some ⟨w.heap.size, 0, none⟩) k 12) k (mvs (marksM k)) ∧ w.grownBy wr none) (fun _ i _ => 12 - (intOf i).toNat)
  case atStart => exact ⟨0, by omega, rfl, rfl, hown1, hgrow1⟩
  case round =>
    obtain ⟨k, hk, rfl, rfl, hown, hgr⟩ := hrel
    by_cases hlt : k < 12
    · have hmk := markM_any (k : Int) wr (by omega) (by omega)
      go_wp2_with fail
      refine hmk.mono ?_
      rintro e w4 ⟨rfl, hB4⟩
      have O4 := owns_below hown hB4
      have G4 := grown_trans hgr hB4
      clear hown hgr hB4 hmk
      go_wp2_with (at_builtin; refine wpList_append_own_spare _ rfl (.tmp 16) (.tmp 19) 23 rfl w.heap.size 30 i0 4 Try.underlying23 hi hz1 w.heap.size k 12 _ rfl (O4.alloc _) ⟨_, 0, none⟩ 1 1 [.int .i64 (8000024 + (k : Int)), .int .u8 0, .int .i64 0, .int .i64 0] rfl rfl (four_new _ _ _ _ _ _) (mvs_one [mkM k]) (by omega) ?_; intro w3 hown3 hgrow3)
      have G3 : w.grownBy w3 none := grown_none (grown_trans G4 ((Below.refl _ _).alloc (Nat.le_refl _) _)) hgrow3 (Nat.le_refl _)
      have em := marksM_map [] k
      rw [List.nil_append, List.nil_append] at em
      rw [em] at hown3
      clear hgrow3 O4 G4 em
      go_wp2
      go_roundw
      case rel => exact ⟨k + 1, by omega, by go_num, rfl, hown3, G3⟩
      case measure => simp [intOf]; omega
    · have hk12 : k = 12 := by omega
      have HK : Hid (k = 12) := hk12
      clear hk12
      go_wp2
      go_ret
      have e := HK.out
      subst e
      exact ⟨rfl, hown, hgr⟩

/- What is lent: the members, with twelve marks behind their end. -/
def LentM (w : World) (g : Nat) (l : List Mem) : Prop := w.heap[g]? = some (.cells (mvs (l ++ marksM 12)).toArray 30 (0, 0))
theorem lentM_of {w : World} {base g n : Nat} {l : List Mem} (_hn : l.length = n) (h : w.ownsRow base 30 4 (.slice (some ⟨g, 0, none⟩) (n + 12) (n + 12)) (n + 12) (mvs (l ++ marksM 12))) : LentM w g l := by
  rcases h.2 with ⟨h0, _⟩ | ⟨g', cap, cur, hv, hb, hg, hnc, hcm, hcs, ht⟩
  · cases h0
  · cases hv
    rw [List.take_of_length_le (by simp; omega)] at ht
    unfold LentM
    rw [← ht, hg]
theorem LentM.below {w w' : World} {g : Nat} {l : List Mem} (h : LentM w g l) (hb : Below w.heap.size w w') : LentM w' g l := by
  unfold LentM at *
  rw [hb.block g (heap_lt h)]; exact h
theorem LentM.cells {w : World} {g : Nat} {l : List Mem} (h : LentM w g l) (j : Nat) (hj : j < (l ++ marksM 12).length) :
    w.cell? ⟨g, j * 4, none⟩ = some (.int .i64 ((l ++ marksM 12)[j]'hj).id) ∧ w.cell? ⟨g, j * 4 + 1, none⟩ = some (.int .u8 ((l ++ marksM 12)[j]'hj).role) ∧ w.cell? ⟨g, j * 4 + 2, none⟩ = some (.int .i64 ((l ++ marksM 12)[j]'hj).weight) ∧ w.cell? ⟨g, j * 4 + 3, none⟩ = some (.int .i64 ((l ++ marksM 12)[j]'hj).group) := by
  obtain ⟨m0, m1, m2, m3⟩ := mvs_at (l ++ marksM 12) j hj
  refine ⟨?_, ?_, ?_, ?_⟩
  · rw [cell_at h, List.getElem?_toArray]; exact m0
  · rw [cell_at h, List.getElem?_toArray]; exact m1
  · rw [cell_at h, List.getElem?_toArray]; exact m2
  · rw [cell_at h, List.getElem?_toArray]; exact m3
theorem LentM.mems {w : World} {g : Nat} {l : List Mem} (h : LentM w g l) : Mems w (.slice (some ⟨g, 0, none⟩) l.length (l.length + 12)) l := by
  by_cases h0 : 0 < l.length
  · refine .inr (.inr ⟨h0, g, 0, _, rfl, by omega, heap_lt h, fun j hj => ?_⟩)
    have hj' : j < (l ++ marksM 12).length := by rw [List.length_append]; omega
    have := h.cells j hj'
    rw [List.getElem_append_left hj] at this
    rw [Nat.zero_add]
    exact this
  · have : l = [] := List.length_eq_zero_iff.1 (by omega)
    subst this
    exact .inr (.inl ⟨_, _, rfl, rfl⟩)
theorem lentM_any {w : World} {v : Value} {l : List Mem} (h : Mems w v l) (hm : l.length ≤ 4398046511104) :
    Calls Try.prog 32 #[v] w fun e w' => e = .returned (.slice (some ⟨w.heap.size, 0, none⟩) l.length (l.length + 12)) ∧ LentM w' w.heap.size l ∧ Below w.heap.size w w' := by
  rcases h with ⟨rfl, rfl⟩ | ⟨ad, c, rfl, rfl⟩ | ⟨h0, b, o, c, rfl, h1, h2, h3⟩
  · refine (lentM_none w).mono ?_
    rintro e w' ⟨rfl, h1, h2⟩
    exact ⟨rfl, lentM_of (n := 0) rfl h1, below_of_grown h2⟩
  · refine (lentM_some ad 0 c [] w (fun w1 _ j u hu => by simp [mvs] at hu) rfl (by omega)).mono ?_
    rintro e w' ⟨rfl, h1, h2⟩
    exact ⟨rfl, lentM_of rfl h1, below_of_grown h2⟩
  · refine (lentM_some ⟨b, o, none⟩ l.length c l w (fun w1 hg => mvs_news fun j hj => ?_) rfl hm).mono ?_
    · obtain ⟨c0, c1, c2, c3⟩ := h3 j hj
      exact ⟨hg.cell c0 (by simp), hg.cell c1 (by simp), hg.cell c2 (by simp), hg.cell c3 (by simp)⟩
    · rintro e w' ⟨rfl, h1, h2⟩
      exact ⟨rfl, lentM_of rfl h1, below_of_grown h2⟩
theorem memEql (w : World) (a b c d a' b' c' d' : Int) : (binOp .eql 30 (.agg #[.int .i64 a, .int .u8 b, .int .i64 c, .int .i64 d]) (.agg #[.int .i64 a', .int .u8 b', .int .i64 c', .int .i64 d'])).run Try.prog w = .ok (.bool (decide ((⟨a, b, c, d⟩ : Mem) = ⟨a', b', c', d'⟩))) w := by
  rw [run_eql_struct, memEq]
  rfl
theorem memSelf (w : World) (a b c d : Int) : (binOp .eql 30 (.agg #[.int .i64 a, .int .u8 b, .int .i64 c, .int .i64 d]) (.agg #[.int .i64 a, .int .u8 b, .int .i64 c, .int .i64 d])).run Try.prog w = .ok (.bool true) w := by
  rw [memEql]; simp

end Go.Proofs.Ytohhbhkpekieiaa
