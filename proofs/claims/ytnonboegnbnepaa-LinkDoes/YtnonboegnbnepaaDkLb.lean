/- Contracts of beadlekit's functions on bytes that are lent. -/
import Derived.Test.YtnonboegnbnepaaLkG
import Derived.Deep.DeepAppendRoom
import Derived.Laws.AppendOwnNone
import Derived.Deep.DrawnRows
import Derived.BigQuiet
namespace Go.Proofs.Ytnonboegnbnepaa
open Go.RowKit

namespace LB
theorem addP (b o j : Nat) : (⟨b, o, none⟩ : Addr).add j = ⟨b, o + j, none⟩ := by simp only [Addr.add]; split <;> simp_all
theorem mark_any (k i : Int) (w : World) (hk : 0 ≤ k) (hk' : k < 1000000) (hi : 0 ≤ i) (hi' : i < 1000000000000) :
    Calls Try.prog 34 #[.int .i64 k, .int .i64 i] w fun e w' => e = .returned (.int .i64 (1000003 * (k + 7) + i)) ∧ w' = w := by
  go_enter Try.func34, Try.ntmps34
  go_wp2
  go_ret
  exact ⟨rfl, rfl⟩
/- A mark's byte. -/
def mb (x : Int) : Int := IntKind.u64.wrap (IntKind.u64.wrap x * 11400714819323198485) / 72057594037927936 % 256
def mbu (i : Nat) : UInt8 := UInt8.ofNat (mb (8000024 + (i : Int))).toNat
theorem mbu_val (i : Nat) : ((mbu i).toNat : Int) = mb (8000024 + (i : Int)) := by
  have h' : 0 ≤ mb (8000024 + (i : Int)) ∧ mb (8000024 + (i : Int)) < 256 := by unfold mb; omega
  unfold mbu
  generalize mb (8000024 + (i : Int)) = z at h' ⊢
  simp only [UInt8.toNat_ofNat']
  omega
theorem markB_any (i : Int) (w : World) (hi : 0 ≤ i) (hi' : i < 1000000000000) :
    Calls Try.prog 29 #[.int .i64 1, .int .i64 i] w fun e w' => e = .returned (.int .u8 (mb (8000024 + i))) ∧ w' = w := by
  have hm := mark_any 1 i w (by decide) (by decide) hi hi'
  rw [show (1000003 : Int) * (1 + 7) + i = 8000024 + i by omega] at hm
  unfold mb
  generalize 8000024 + i = x at hm ⊢
  go_enter Try.func29, Try.ntmps29
  go_wp2_with fail
  refine hm.mono ?_
  rintro e w' ⟨rfl, rfl⟩
  go_wp2
  go_ret
  exact ⟨rfl, rfl⟩
/- The marks behind bytes that are lent. -/
def marks (k : Nat) : List UInt8 := (List.range k).map mbu
theorem marks_len (k : Nat) : (marks k).length = k := by simp [marks]
theorem marks_succ (k : Nat) : marks (k + 1) = marks k ++ [mbu k] := by simp [marks, List.range_succ]
theorem marks_map (l : List UInt8) (k : Nat) : bv (l ++ marks k) ++ [.int .u8 (mb (8000024 + (k : Int)))] = bv (l ++ marks (k + 1)) := by
  rw [marks_succ, ← List.append_assoc, bv_app (l ++ marks k)]; simp only [bv, List.map_cons, List.map_nil, mbu_val]
theorem grown_none {a b c : World} {g : Nat} (h : a.grownBy b none) (k : b.grownBy c (some g)) (hg : a.heap.size ≤ g) : a.grownBy c none :=
  ⟨k.os.trans h.os, k.tape.trans h.tape, k.output.trans h.output, Nat.le_trans h.size k.size, fun x hx _ => (k.block x (Nat.lt_of_lt_of_le hx h.size) (by simp; omega)).trans (h.block x hx (by simp))⟩
theorem below_of_grown {a b : World} (h : a.grownBy b none) : Below a.heap.size a b := ⟨h.os, h.tape, h.output, h.size, fun k hk => h.block k hk (by simp)⟩
theorem grown_trans {a b c : World} (h : a.grownBy b none) (k : Below b.heap.size b c) : a.grownBy c none :=
  ⟨k.os.trans h.os, k.tape.trans h.tape, k.output.trans h.output, Nat.le_trans h.size k.size, fun x hx _ => (k.block x (Nat.lt_of_lt_of_le hx h.size)).trans (h.block x hx (by simp))⟩

set_option maxRecDepth 100000 in
set_option maxHeartbeats 1000000 in
theorem lent_some (ad : Addr) (n c : Nat) (l : List UInt8) (w : World) (h : ∀ w1, w.grownBy w1 none → ∀ j u, (bv l)[j]? = some u → w1.cell? (ad.add j) = some u) (hn : l.length = n) (hm : n ≤ 140737488355000) :
    Calls Try.prog 11 #[.slice (some ad) n c] w fun e w' => e = .returned (.slice (some ⟨w.heap.size, 0, none⟩) n (n + 12)) ∧ w'.ownsRow w.heap.size 5 1 (.slice (some ⟨w.heap.size, 0, none⟩) (n + 12) (n + 12)) (n + 12) (bv (l ++ marks 12)) ∧ w.grownBy w' none := by
  obtain ⟨i0, hi, hz0, hz1, hz2⟩ := info_parts info5
  have HH : Hid (∀ w1, w.grownBy w1 none → ∀ j u, (bv l)[j]? = some u → w1.cell? (ad.add j) = some u) := h
  have HN : Hid (l.length = n) := hn
  clear h hn
  go_enter Try.func11, Try.ntmps11
  go_wp2_with (first | (at_make; refine wpList_make_own _ rfl _ _ 30 rfl w.heap.size 5 i0 _ 1 Try.underlying30 hi hz0 hz1 .i64 .i64 _ (n + 12) rfl rfl (by simp) (by rw [hz2]; omega) (by unfold maxLen; omega) (Nat.le_refl _) ?_; intro w1 hown1 hgrow1) | (at_builtin; refine wpList_append_own_spare _ rfl (.tmp 9) (.tmp 10) 30 rfl w.heap.size 5 i0 1 Try.underlying30 hi hz1 w.heap.size 0 (n + 12) [] rfl hown1 ad n c (bv l) rfl (by rw [bv_len, HN.out]; omega) (HH.out _ hgrow1) (bv_one _) (by omega) ?_; intro w2 hown2 hgrow2))
  have G2 : w.grownBy w2 none := grown_none hgrow1 hgrow2 (Nat.le_refl _)
  have O2 : w2.ownsRow w.heap.size 5 1 (.slice (some ⟨w.heap.size, 0, none⟩) (n + 0) (n + 12)) (n + 0) (bv (l ++ marks 0)) := by
    simpa [marks] using hown2
  clear hown1 hgrow1 hown2 hgrow2
  go_loopw [3, 4] (fun v i wr => ∃ k : Nat, k ≤ 12 ∧ i = .int .i64 k ∧ v = .slice (some ⟨w.heap.size, 0, none⟩) (n + k) (n + 12) ∧ wr.ownsRow w.heap.size 5 1 (.slice (some ⟨w.heap.size, 0, none⟩) (n + k) (n + 12)) (n + k) (bv (l ++ marks k)) ∧ w.grownBy wr none) (fun _ i _ => 12 - (intOf i).toNat)
  case atStart => exact ⟨0, by omega, rfl, by simp, O2, G2⟩
  case round =>
    obtain ⟨k, hk, rfl, rfl, hown, hgr⟩ := hrel
    by_cases hlt : k < 12
    · have hmk := markB_any (k : Int) wr (by omega) (by omega)
      have hmm := marks_map l k
      generalize mb (8000024 + (k : Int)) = B at hmk hmm
      go_wp2_with fail
      refine hmk.mono ?_
      rintro e w4 ⟨rfl, rfl⟩
      clear hmk
      go_wp2_with (at_builtin; refine wpList_append_own_spare _ rfl (.tmp 16) (.tmp 19) 30 rfl w.heap.size 5 i0 1 Try.underlying30 hi hz1 w.heap.size (n + k) (n + 12) _ rfl (hown.alloc _) ⟨_, 0, none⟩ 1 1 [.int .u8 B] rfl rfl (cell_one_new _ _ _) (fun u hu => by simp at hu; subst hu; rfl) (by omega) ?_; intro w3 hown3 hgrow3)
      have G3 : w.grownBy w3 none := grown_none (grown_trans hgr ((Below.refl _ _).alloc (Nat.le_refl _) _)) hgrow3 (Nat.le_refl _)
      rw [hmm] at hown3
      have O3 : w3.ownsRow w.heap.size 5 1 (.slice (some ⟨w.heap.size, 0, none⟩) (n + (k + 1)) (n + 12)) (n + (k + 1)) (bv (l ++ marks (k + 1))) := hown3
      clear hown3 hgrow3 hown hgr hmm
      go_wp2
      go_roundw
      case rel => exact ⟨k + 1, by omega, by go_num, rfl, O3, G3⟩
      case measure => simp [intOf]; omega
    · have hk12 : k = 12 := by omega
      have HK : Hid (k = 12) := hk12
      clear hk12
      go_wp2
      go_ret
      have e := HK.out
      subst e
      exact ⟨rfl, hown, hgr⟩
set_option maxRecDepth 100000 in
set_option maxHeartbeats 1000000 in
theorem lent_none (w : World) :
    Calls Try.prog 11 #[.slice none 0 0] w fun e w' => e = .returned (.slice (some ⟨w.heap.size, 0, none⟩) 0 12) ∧ w'.ownsRow w.heap.size 5 1 (.slice (some ⟨w.heap.size, 0, none⟩) 12 12) 12 (bv (marks 12)) ∧ w.grownBy w' none := by
  obtain ⟨i0, hi, hz0, hz1, hz2⟩ := info_parts info5
  go_enter Try.func11, Try.ntmps11
  go_wp2_with (first | (at_make; refine wpList_make_own _ rfl _ _ 30 rfl w.heap.size 5 i0 _ 1 Try.underlying30 hi hz0 hz1 .i64 .i64 _ 12 rfl rfl (by simp) (by rw [hz2]; omega) (by unfold maxLen; omega) (Nat.le_refl _) ?_; intro w1 hown1 hgrow1) | (at_builtin; refine wpList_append_own_none rfl (.tmp 9) (.tmp 10) 30 rfl w.heap.size 5 i0 1 Try.underlying30 hi _ 0 [] rfl hown1 rfl ?_))
  go_loopw [3, 4] (fun v i wr => ∃ k : Nat, k ≤ 12 ∧ i = .int .i64 k ∧ v = .slice (some ⟨w.heap.size, 0, none⟩) k 12 ∧ wr.ownsRow w.heap.size 5 1 (.slice (some ⟨w.heap.size, 0, none⟩) k 12) k (bv (marks k)) ∧ w.grownBy wr none) (fun _ i _ => 12 - (intOf i).toNat)
  case atStart => exact ⟨0, by omega, rfl, rfl, hown1, hgrow1⟩
  case round =>
    obtain ⟨k, hk, rfl, rfl, hown, hgr⟩ := hrel
    by_cases hlt : k < 12
    · have hmk := markB_any (k : Int) wr (by omega) (by omega)
      have hmm := marks_map [] k
      rw [List.nil_append, List.nil_append] at hmm
      generalize mb (8000024 + (k : Int)) = B at hmk hmm
      go_wp2_with fail
      refine hmk.mono ?_
      rintro e w4 ⟨rfl, rfl⟩
      clear hmk
      go_wp2_with (at_builtin; refine wpList_append_own_spare _ rfl (.tmp 16) (.tmp 19) 30 rfl w.heap.size 5 i0 1 Try.underlying30 hi hz1 w.heap.size k 12 _ rfl (hown.alloc _) ⟨_, 0, none⟩ 1 1 [.int .u8 B] rfl rfl (cell_one_new _ _ _) (fun u hu => by simp at hu; subst hu; rfl) (by omega) ?_; intro w3 hown3 hgrow3)
      have G3 : w.grownBy w3 none := grown_none (grown_trans hgr ((Below.refl _ _).alloc (Nat.le_refl _) _)) hgrow3 (Nat.le_refl _)
      rw [hmm] at hown3
      clear hgrow3 hown hgr hmm
      go_wp2
      go_roundw
      case rel => exact ⟨k + 1, by omega, by go_num, rfl, hown3, G3⟩
      case measure => simp [intOf]; omega
    · have hk12 : k = 12 := by omega
      have HK : Hid (k = 12) := hk12
      clear hk12
      go_wp2
      go_ret
      have e := HK.out
      subst e
      exact ⟨rfl, hown, hgr⟩
/- What is lent: the bytes, with twelve marks behind their end. -/
def Lent (w : World) (g : Nat) (l : List UInt8) : Prop := w.heap[g]? = some (.cells (bv (l ++ marks 12)).toArray 5 (0, 0))
theorem lent_of {w : World} {base g n : Nat} {l : List UInt8} (_hn : l.length = n) (h : w.ownsRow base 5 1 (.slice (some ⟨g, 0, none⟩) (n + 12) (n + 12)) (n + 12) (bv (l ++ marks 12))) : Lent w g l := by
  rcases h.2 with ⟨h0, _⟩ | ⟨g', cap, cur, hv, hb, hg, hnc, hcm, hcs, ht⟩
  · cases h0
  · cases hv
    rw [List.take_of_length_le (by simp; omega)] at ht
    unfold Lent
    rw [← ht, hg]
theorem Lent.below {w w' : World} {g : Nat} {l : List UInt8} (h : Lent w g l) (hb : Below w.heap.size w w') : Lent w' g l := by
  unfold Lent at *
  rw [hb.block g (heap_lt h)]; exact h
theorem bv_at (l : List UInt8) (j : Nat) (h : j < l.length) : (bv l)[j]? = some (.int .u8 ((l[j]'h).toNat : Int)) := by simp [bv, h]
theorem Lent.cell {w : World} {g : Nat} {l : List UInt8} (h : Lent w g l) (j : Nat) (hj : j < (l ++ marks 12).length) : w.cell? ⟨g, j, none⟩ = some (.int .u8 (((l ++ marks 12)[j]'hj).toNat : Int)) := by
  rw [cell_at h, List.getElem?_toArray]; exact bv_at _ j hj
theorem Lent.bs {w : World} {g : Nat} {l : List UInt8} (h : Lent w g l) : Bs w (.slice (some ⟨g, 0, none⟩) l.length (l.length + 12)) l := by
  refine Bs.mk g 0 _ rfl (by omega) (heap_lt h) (fun j hj => ?_)
  have hj' : j < (l ++ marks 12).length := by rw [List.length_append]; omega
  have := h.cell j hj'
  rw [List.getElem_append_left hj] at this
  rw [Nat.zero_add]
  exact this
theorem lent_any {w : World} {v : Value} {l : List UInt8} (h : Bs w v l) (hm : l.length ≤ 140737488355000) :
    Calls Try.prog 11 #[v] w fun e w' => e = .returned (.slice (some ⟨w.heap.size, 0, none⟩) l.length (l.length + 12)) ∧ Lent w' w.heap.size l ∧ Below w.heap.size w w' := by
  rcases h with ⟨rfl, rfl⟩ | ⟨ad, c, rfl, rfl⟩ | ⟨h0, b, o, c, rfl, h1, h2, h3⟩
  · refine (lent_none w).mono ?_
    rintro e w' ⟨rfl, h1, h2⟩
    exact ⟨rfl, lent_of (n := 0) rfl h1, below_of_grown h2⟩
  · refine (lent_some ad 0 c [] w (fun w1 _ j u hu => by simp [bv] at hu) rfl (by omega)).mono ?_
    rintro e w' ⟨rfl, h1, h2⟩
    exact ⟨rfl, lent_of rfl h1, below_of_grown h2⟩
  · refine (lent_some ⟨b, o, none⟩ l.length c l w (fun w1 hg => Bs.news fun j hj => hg.cell (h3 j hj) (by simp)) rfl hm).mono ?_
    rintro e w' ⟨rfl, h1, h2⟩
    exact ⟨rfl, lent_of rfl h1, below_of_grown h2⟩
set_option maxRecDepth 100000 in
set_option maxHeartbeats 2000000 in
theorem kept_any (g n : Nat) (v : Value) (l : List UInt8) (w : World) (hL : Lent w g l) (hA : Bs w v l) (hn : l.length = n) (hm : n ≤ 140737488355000) :
    Calls Try.prog 14 #[.slice (some ⟨g, 0, none⟩) n (n + 12), v] w fun e w' => e = .returned (.bool true) ∧ ∃ q, w' = w.drewN q := by
  have HL : Hid (Lent w g l) := hL
  obtain ⟨A, c, rfl⟩ := bs_form hA
  rw [hn] at hA ⊢
  have HA : Hid (Bs w (.slice A n c) l) := hA
  have HN : Hid (l.length = n) := hn
  clear hL hA hn
  go_enter Try.func14, Try.ntmps14
  go_wp2
  go_loopw [6] (fun i wr => ∃ (k q : Nat), k ≤ n + 12 ∧ i = .int .i64 k ∧ wr = w.drewN q) (fun i _ => n + 12 - (intOf i).toNat)
  case atStart => exact ⟨0, 0, Nat.zero_le _, rfl, rfl⟩
  case round =>
    obtain ⟨k, q, hk, rfl, hw⟩ := hrel
    have HW : Hid (wr = w.drewN q) := hw
    clear hw
    by_cases h1 : k < n
    · obtain ⟨b, o, e, x1⟩ : ∃ b o, A = some ⟨b, o, none⟩ ∧ w.cell? ⟨b, o + k, none⟩ = some (.int .u8 ((l[k]'(by have := HN.out; omega)).toNat : Int)) := by
        have hkl : k < l.length := by have := HN.out; omega
        rcases HA.out with ⟨h, rfl⟩ | ⟨ad, c', h, rfl⟩ | ⟨h0, b, o, c', h, h1, h2, h3⟩
        · simp at hkl
        · simp at hkl
        · cases h
          exact ⟨b, o, rfl, h3 k hkl⟩
      have x2 := HL.out.cell k (by have := HN.out; rw [List.length_append]; omega)
      rw [List.getElem_append_left (by have := HN.out; omega)] at x2
      generalize (l[k]'(by have := HN.out; omega)).toNat = x at x1 x2
      have x3 : wr.cell? ⟨b, o + k, none⟩ = some (.int .u8 x) := by rw [HW.out]; exact x1
      have x4 : wr.cell? ⟨g, k, none⟩ = some (.int .u8 x) := by rw [HW.out]; exact x2
      clear x1 x2
      subst e
      have d2 : decide (n ≤ k) = false := by simp; omega
      go_wp2_with fail
      go_quiet (fail)
      go_wp2
      go_roundw
      case rel => exact ⟨k + 1, q + nq, by omega, by go_num, by rw [HW.out, World.drewN_drewN]⟩
      case measure => simp [intOf]; omega
    · by_cases h2 : k < n + 12
      · have x2 := HL.out.cell k (by have := HN.out; rw [List.length_append, marks_len]; omega)
        have em : (((l ++ marks 12)[k]'(by have := HN.out; rw [List.length_append, marks_len]; omega)).toNat : Int) = mb (8000024 + ((k : Int) - (n : Int))) := by
          rw [List.getElem_append_right (by have := HN.out; omega)]
          simp only [marks, List.getElem_map, List.getElem_range, HN.out]
          rw [mbu_val]
          congr 1
          omega
        rw [em] at x2
        have hmk := fun w => markB_any ((k : Int) - (n : Int)) w (by omega) (by omega)
        generalize mb (8000024 + ((k : Int) - (n : Int))) = B at x2 hmk
        have x4 : wr.cell? ⟨g, k, none⟩ = some (.int .u8 B) := by rw [HW.out]; exact x2
        clear x2 em
        have h1' : n ≤ k := by omega
        have d3 : decide (k < n) = false := by simpa using h1'
        clear h1
        go_wp2_with fail
        go_big_quiet ((go_at_call 29; exact Calls.quiet_of_same (hmk _)))
        go_wp2
        go_roundw
        case rel => exact ⟨k + 1, q + nq, by omega, by go_num, by rw [HW.out, World.drewN_drewN]⟩
        case measure => simp [intOf]; omega
      · go_wp2
        go_ret
        exact ⟨rfl, q, HW.out⟩
end LB
end Go.Proofs.Ytnonboegnbnepaa
