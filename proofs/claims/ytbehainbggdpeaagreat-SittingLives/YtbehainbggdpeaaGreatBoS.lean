/- The document's book: finding, touching, removing. -/
import Derived.Test.YtbehainbggdpeaaGreatBoR
import Derived.Test.YtbehainbggdpeaaGreatBoOm
namespace Go.Proofs.YtbehainbggdpeaaGreat
set_option linter.unusedSimpArgs false
set_option linter.unusedVariables false
open Go.RowKit Go.MapKept
set_option linter.unusedVariables false
set_option linter.unusedSimpArgs false

/- The place of a session. -/
def plF (k : Int) : List Fi → Option Nat
  | [] => none
  | q :: S => if q.nm = k then some 0 else (plF k S).map (· + 1)
def plI (k : Int) (S : List Fi) : Int := match plF k S with
  | some j => j
  | none => -1
theorem plF_drop (k : Int) (S : List Fi) (j : Nat) (hj : j < S.length) : plF k (S.drop j) = if (S[j]'hj).nm = k then some 0 else (plF k (S.drop (j + 1))).map (· + 1) := by
  rw [List.drop_eq_getElem_cons hj]; rfl
theorem plF_some : ∀ {k : Int} {S : List Fi} {j : Nat}, plF k S = some j → ∃ h : j < S.length, (S[j]'h).nm = k ∧ look k S = some (S[j]'h) ∧ delL k S = S.eraseIdx j
  | k, q :: S, j, h => by
    unfold plF at h
    by_cases hq : q.nm = k
    · rw [if_pos hq] at h
      cases h
      exact ⟨by simp, hq, by unfold look; rw [if_pos hq]; rfl, by unfold delL; rw [if_pos hq]; rfl⟩
    · rw [if_neg hq] at h
      obtain ⟨i, hi, rfl⟩ := Option.map_eq_some_iff.1 h
      obtain ⟨h1, h2, h3, h4⟩ := plF_some hi
      exact ⟨by simpa using h1, by simpa using h2, by unfold look; rw [if_neg hq, h3]; rfl, by unfold delL; rw [if_neg hq, h4]; rfl⟩
theorem plF_none : ∀ {k : Int} {S : List Fi}, plF k S = none → look k S = none ∧ delL k S = S
  | k, [], _ => ⟨rfl, rfl⟩
  | k, q :: S, h => by
    unfold plF at h
    by_cases hq : q.nm = k
    · rw [if_pos hq] at h; cases h
    · rw [if_neg hq] at h
      have h' : plF k S = none := by simpa using h
      obtain ⟨h1, h2⟩ := plF_none h'
      exact ⟨by unfold look; rw [if_neg hq, h1], by unfold delL; rw [if_neg hq, h2]⟩
/- A session that is there is put where it stands. -/
theorem ins_at {S : List Fi} (hs : asc S) {j : Nat} (hj : j < S.length) {p : Fi} (hp : p.nm = (S[j]'hj).nm) : insS p S = S.set j p := by
  induction S generalizing j with
  | nil => simp at hj
  | cons q S ih =>
    have ht := hs.tail
    have hx := (List.pairwise_cons.1 hs).1
    cases j with
    | zero =>
      have hpq : p.nm = q.nm := by simpa using hp
      unfold insS
      rw [if_neg (by omega), if_pos hpq]; rfl
    | succ j =>
      have hj' : j < S.length := by simpa using hj
      have hpj : p.nm = (S[j]'hj').nm := by simpa using hp
      have := hx _ (List.getElem_mem hj')
      unfold insS
      rw [if_neg (by omega), if_neg (by omega), ih ht hj' hpj]; rfl

set_option maxRecDepth 100000 in
theorem rfind_any {w : World} {base r : Nat} {now : Int} {v : Value} {S : List Fi} (h : Rk w base r now v S) (hL : S.length ≤ 1000000) (k : Int) :
    Calls Tryz.prog 29 #[.pointer (some ⟨r, 0, none⟩), .int .i64 k] w fun e w' => e = .returned (.int .i64 (plI k S)) ∧ w' = w := by
  obtain ⟨A, C, rfl⟩ := h.form
  have hc0 := h.head.2
  have HR : Hid (Rk w base r now (.slice A S.length C) S) := h
  obtain ⟨N, hN⟩ : ∃ N, N = S.length := ⟨_, rfl⟩
  have HN : Hid (N = S.length) := hN
  rw [← hN] at hc0 hL
  clear h hN
  go_enter Tryz.func29, Tryz.ntmps29
  go_wp2_with fail
  go_loopw [5] (fun i wr => ∃ (j : Nat), j ≤ N ∧ i = .int .i64 j ∧ plF k S = (plF k (S.drop j)).map (· + j) ∧ wr = w) (fun i _ => N - (Go.Lib.intOf i).toNat)
  case atStart => exact ⟨0, Nat.zero_le _, rfl, by simp, rfl⟩
  case round =>
    obtain ⟨j, hj, rfl, hP, rfl⟩ := hrel
    by_cases hlt : j < N
    · have hj' : j < S.length := by have := HN.out; omega
      obtain ⟨g, hA, y0, y1, y2⟩ := HR.out.at rfl j hj'
      have hbt := plF_drop k S j hj'
      obtain ⟨x, hx⟩ : ∃ x : Int, x = (S[j]'hj').nm := ⟨_, rfl⟩
      rw [← hx] at y0 hbt
      rw [hbt] at hP
      clear hx hbt y1 y2
      subst hA
      by_cases he : x = k
      · have HP : Hid (plF k S = some j) := by rw [if_pos he] at hP; unfold Hid; simpa using hP
        clear hP
        subst he
        go_wp2_with fail
        go_ret
        exact ⟨by simp [plI, HP.out], rfl⟩
      · have HP : Hid (plF k S = (plF k (S.drop (j + 1))).map (· + (j + 1))) := by
          rw [if_neg he] at hP
          rw [Hid, hP, Option.map_map]
          congr 1
          funext i
          simp; omega
        clear hP
        have hb : (x == k) = false := by simpa using he
        go_wp2_with fail
        go_roundw
        case rel => exact ⟨j + 1, by omega, by go_num, HP.out, trivial⟩
        case measure => simp [Go.Lib.intOf]; omega
    · have HP : Hid (plF k S = none) := by
        rw [Hid, hP, List.drop_eq_nil_of_le (by have := HN.out; omega)]; rfl
      clear hP
      go_wp2_with fail
      go_ret
      exact ⟨by simp [plI, HP.out], rfl⟩

/- A row of seats put in the place of the book's own. -/
theorem heap_set1 {w : World} {g T : Nat} {a v u : Value} (h : w.heap[g]? = some (.cells #[a, v] T (0, 0))) : (w.setCell ⟨g, 1, none⟩ u).heap[g]? = some (.cells #[a, u] T (0, 0)) := by
  simp [World.setCell, Array.getElem?_modify, h]
theorem Rk.row_set {w w6 : World} {base r : Nat} {now : Int} {v v7 : Value} {S S' : List Fi} (h : Rk w base r now v S) (hc : Chg (fun g => w.heap.size ≤ g) w w6) (ho : w6.ownsRow base 55 3 v7 S'.length (S'.flatMap cel)) (hn : ∀ g, blk v7 = some g → w.heap.size ≤ g) :
    Rn base r v w (w6.setCell ⟨r, 1, none⟩ v7) now S' := by
  have hrl := heap_lt h.cell
  have h6 : w6.heap[r]? = some (.cells #[.int .i64 now, v] 42 (0, 0)) := by
    rw [hc.block r hrl (fun e => by omega)]; exact h.cell
  have c7 : Chg (fun g => g = r) w6 (w6.setCell ⟨r, 1, none⟩ v7) := Chg.setCell w6 ⟨r, 1, none⟩ _ rfl
  refine ⟨v7, ⟨heap_set1 h6, owns_keep ho c7 (fun g hg e => by have := hn g hg; omega), h.low⟩, ?_, fun g hg => .inr (hn g hg)⟩
  exact (hc.weak (fun k hk e => by omega)).trans (c7.weak fun k _ e => .inl e)
theorem Rk.frz {w : World} {base r : Nat} {now : Int} {v : Value} {S : List Fi} (h : Rk w base r now v S) (i : Nat) : w.frozen? ⟨r, i, none⟩ = false := frozen_at h.cell i

/- Behind an append: the book is as it was; where the new row lies. -/
theorem Rk.app {w w1 w2 : World} {base r : Nat} {now : Int} {v x y : Value} {S : List Fi} (h : Rk w base r now v S) (hc : Chg (fun g => w.heap.size ≤ g) w w1) (hx : ∀ g, blk x = some g → w.heap.size ≤ g) (hg : w1.grownBy w2 (blk x)) (hl : blk y = blk x ∨ blk y = some w1.heap.size) :
    Chg (fun g => w.heap.size ≤ g) w w2 ∧ (∀ g, blk y = some g → w.heap.size ≤ g) ∧ w2.cell? ⟨r, 1, none⟩ = some v ∧ w2.cell? ⟨r, 0, none⟩ = some (.int .i64 now) ∧ w2.frozen? ⟨r, 1, none⟩ = false ∧ w.heap.size ≤ w2.heap.size ∧ r < w2.heap.size := by
  have c2 : Chg (fun g => w.heap.size ≤ g) w w2 := hc.trans ((Chg.of_grown hg).weak fun k _ e => hx k e)
  have hrl := heap_lt h.cell
  have h2 : w2.heap[r]? = some (.cells #[.int .i64 now, v] 42 (0, 0)) := by
    rw [c2.block r hrl (fun e => by omega)]; exact h.cell
  have e0 := cell_at h2 0
  have e1 := cell_at h2 1
  refine ⟨c2, fun g hg' => ?_, by simpa using e1, by simpa using e0, frozen_at h2 1, c2.size, heap_lt h2⟩
  rcases hl with e | e
  · exact hx g (e.symm.trans hg')
  · have e' : some w1.heap.size = some g := e.symm.trans hg'
    cases e'; exact hc.size
theorem Sx.later {w w' : World} {v : Value} {M : List Fi} (h : Sx w v M) (hc : Chg (fun g => w.heap.size ≤ g) w w') : Sx w' v M := by
  refine h.keep hc fun k hk e => ?_
  rcases h with ⟨rfl, _⟩ | ⟨ad, c, rfl, _⟩ | ⟨h0, b, o, c, rfl, _, h2, _⟩
  · exact absurd hk (bk_zero _ _ _)
  · exact absurd hk (bk_zero _ _ _)
  · rw [bk_pos h0] at hk; cases hk
    have e' : w.heap.size ≤ b := e
    omega
theorem nil_far (B : Nat) : ∀ g, blk (.slice none 0 0) = some g → B ≤ g := fun g h => by cases h
set_option maxRecDepth 100000 in
set_option maxHeartbeats 1000000 in
theorem rremove_any {w : World} {base r : Nat} {now : Int} {v : Value} {S : List Fi} (hb : base ≤ w.heap.size) (h : Rk w base r now v S) (hL : S.length ≤ 999999) (k : Int) :
    Calls Tryz.prog 18 #[.pointer (some ⟨r, 0, none⟩), .int .i64 k] w fun e w' => e = .returned (.bool (look k S).isSome) ∧ Rn base r v w w' now (delL k S) := by
  have hf := rfind_any h (by omega) k
  have HH : Hid (Rk w base r now v S) := h
  cases hp : plF k S with
  | none =>
    obtain ⟨h1, h2⟩ := plF_none hp
    rw [show plI k S = -1 by unfold plI; rw [hp]] at hf
    rw [h1, h2]
    clear h h1 h2 hp
    go_enter Tryz.func18, Tryz.ntmps18
    go_wp2_with fail
    refine hf.mono ?_
    rintro e w1 ⟨rfl, hw1⟩
    obtain rfl : w = w1 := hw1.symm
    clear hf hw1
    go_wp2_with fail
    go_ret
    exact ⟨rfl, Rn.refl HH.out⟩
  | some j =>
    obtain ⟨hj, _, h3, h4⟩ := plF_some hp
    rw [show plI k S = (j : Int) by unfold plI; rw [hp]] at hf
    rw [h3, h4]
    obtain ⟨y1, hy1, hx1⟩ := part_to h.row j (by omega)
    obtain ⟨y2, hy2, hx2⟩ := part_from h.row (j + 1) (by omega)
    have hc1 := h.head.2
    have hrl := heap_lt h.cell
    have hl1 : (S.take j).length = j := by rw [List.length_take]; omega
    have hl2 : (S.drop (j + 1)).length = S.length - (j + 1) := List.length_drop
    rw [show ((j + 1 : Nat) : Int) = (j : Int) + 1 by omega] at hy2
    have HX1 : Hid (Sx w y1 (S.take j)) := hx1
    have HX2 : Hid (Sx w y2 (S.drop (j + 1))) := hx2
    have HE : Hid (S.eraseIdx j = S.take j ++ S.drop (j + 1)) := List.eraseIdx_eq_take_drop_succ ..
    have HLN : Hid ((S.take j).length = j ∧ (S.drop (j + 1)).length = S.length - (j + 1) ∧ j < S.length) := ⟨hl1, hl2, hj⟩
    clear h h3 h4 hp hx1 hx2 hl1 hl2
    go_enter Tryz.func18, Tryz.ntmps18
    go_wp2_with fail
    refine hf.mono ?_
    rintro e w1 ⟨rfl, hw1⟩
    obtain rfl : w = w1 := hw1.symm
    clear hf hw1
    have HC0 : Hid (Chg (fun g => w.heap.size ≤ g) w w) := Chg.refl _ _
    obtain ⟨N2, hN2⟩ : ∃ N2, N2 = S.length - 1 := ⟨_, rfl⟩
    have HN2 : Hid (N2 = (S.take j).length + (S.drop (j + 1)).length) := by show _ = _; have := HLN.out; omega
    have hN2b : N2 ≤ 1000000 := by omega
    clear hN2
    go_wp2_with (first
      | (at_builtin; refine wpList_appS (S := []) rfl (.tmp 12) (.tmp 18) rfl (.slice none 0 0) y1 j (by rw [HLN.out.1]; simp) rfl rfl (World.ownsRow_nil _ _ _ _) HX1.out hb (by omega) ?_; intro A5 C5 w5 ho5 hg5 hl5; rw [List.nil_append] at ho5
         have HO5 : Hid (w5.ownsRow base 55 3 (.slice A5 j C5) (S.take j).length ((S.take j).flatMap cel)) := ho5
         obtain ⟨hc5, hf5, hq5, _, _, hs5, hr5⟩ := HH.out.app HC0.out (nil_far _) hg5 hl5
         have HC5 : Hid (Chg (fun g => w.heap.size ≤ g) w w5) := hc5
         have HF5 : Hid (∀ g, blk (.slice A5 j C5) = some g → w.heap.size ≤ g) := hf5
         have hb5 : base ≤ w5.heap.size := by omega
         clear ho5 hg5 hl5 hc5 hf5)
      | (at_builtin; refine wpList_appS rfl (.tmp 21) (.tmp 28) rfl (.slice A5 j C5) y2 N2 HN2.out rfl rfl HO5.out (HX2.out.later HC5.out) hb5 hN2b ?_; intro A6 C6 w6 ho6 hg6 hl6
         have HO6 : Hid (w6.ownsRow base 55 3 (.slice A6 N2 C6) (S.eraseIdx j).length ((S.eraseIdx j).flatMap cel)) := by rw [HE.out]; exact ho6
         obtain ⟨hc6, hf6, hq6, _, hz6, hs6, hr6⟩ := HH.out.app HC5.out HF5.out hg6 hl6
         have HC6 : Hid (Chg (fun g => w.heap.size ≤ g) w w6) := hc6
         have HF6 : Hid (∀ g, blk (.slice A6 N2 C6) = some g → w.heap.size ≤ g) := hf6
         clear ho6 hg6 hl6 hc6 hf6)
      | fail)
    go_ret
    exact ⟨rfl, HH.out.row_set HC6.out HO6.out HF6.out⟩
end Go.Proofs.YtbehainbggdpeaaGreat
