/- Rows that begin anywhere in their block: reading, one element more, the first one off. Links in memory. -/
import Derived.Test.YtpmbkncakbcmbaaLkA
import Derived.ArgAppend
import Derived.Test.YtpmbkncakbcmbaaShelf
namespace Go.Proofs.Ytpmbkncakbcmbaa
open Go.RowKit
open Go.Sort (Holds putRow)

def Ro (w : World) (T : TypeId) (v : Value) (xs : List Value) : Prop :=
  (v = .slice none 0 0 ∧ xs = []) ∨ ∃ g o cap cur, v = .slice (some ⟨g, o, none⟩) xs.length cap ∧ w.heap[g]? = some (.cells cur T (0, 0)) ∧ xs.length ≤ cap ∧ cap ≤ maxLen ∧ o + cap ≤ cur.size ∧ ∀ j (h : j < xs.length), cur[o + j]? = some (xs[j]'h)
theorem Ro.nil (w : World) (T : TypeId) : Ro w T (.slice none 0 0) [] := .inl ⟨rfl, rfl⟩
theorem Ro.keep {S : Nat → Prop} {w w' : World} {T : TypeId} {v : Value} {xs : List Value} (h : Ro w T v xs) (hc : Chg S w w') (hn : ∀ k, blk v = some k → ¬ S k) : Ro w' T v xs := by
  rcases h with h | ⟨g, o, cap, cur, rfl, hg, hr⟩
  · exact .inl h
  · exact .inr ⟨g, o, cap, cur, rfl, by rw [hc.block g (heap_lt hg) (hn g rfl)]; exact hg, hr⟩
theorem Ro.form {w : World} {T : TypeId} {v : Value} {xs : List Value} (h : Ro w T v xs) : ∃ A C, v = .slice A xs.length C := by
  rcases h with ⟨rfl, rfl⟩ | ⟨g, o, cap, cur, rfl, _⟩
  · exact ⟨none, 0, rfl⟩
  · exact ⟨_, cap, rfl⟩
theorem Ro.block {w : World} {T : TypeId} {v : Value} {xs : List Value} (h : Ro w T v xs) {k : Nat} (hk : blk v = some k) : ∃ cur, w.heap[k]? = some (.cells cur T (0, 0)) := by
  rcases h with ⟨rfl, _⟩ | ⟨g, o, cap, cur, rfl, hg, hr⟩
  · cases hk
  · cases hk; exact ⟨cur, hg⟩
theorem Ro.of_owns {w : World} {T : TypeId} {base n : Nat} {v : Value} {xs : List Value} (h : w.ownsRow base T 1 v n xs) : Ro w T v xs := by
  have hn := h.1
  rw [Nat.mul_one] at hn
  rcases h.2 with ⟨rfl, h0⟩ | ⟨g, cap, cur, rfl, hb, hg, hc, hm, hs, ht⟩
  · exact .inl ⟨rfl, List.length_eq_zero_iff.1 (by omega)⟩
  · refine .inr ⟨g, 0, cap, cur, by rw [hn], hg, by omega, hm, by omega, fun j hj => ?_⟩
    rw [Nat.mul_one] at ht
    have : (cur.toList.take n)[j]? = xs[j]? := by rw [ht]
    rw [List.getElem?_take_of_lt (by omega), Array.getElem?_toList, List.getElem?_eq_getElem hj] at this
    rw [Nat.zero_add]; exact this
theorem Ro.at {w : World} {T : TypeId} {A : Option Addr} {n C : Nat} {xs : List Value} (h : Ro w T (.slice A n C) xs) (j : Nat) (hj : j < xs.length) : ∃ g o, A = some ⟨g, o, none⟩ ∧ w.cell? ⟨g, o + j, none⟩ = some (xs[j]'hj) := by
  rcases h with ⟨_, rfl⟩ | ⟨g, o, cap, cur, hv, hg, h1, h2, h3, h4⟩
  · simp at hj
  · cases hv
    exact ⟨g, o, rfl, by rw [cell_at hg]; exact h4 j hj⟩
/- The first one off, by cutting. -/
theorem Ro.tail {w : World} {T : TypeId} {A : Option Addr} {n C : Nat} {x : Value} {xs : List Value} (h : Ro w T (.slice A n C) (x :: xs)) : ∃ g o, A = some ⟨g, o, none⟩ ∧ n = xs.length + 1 ∧ 1 ≤ C ∧ Ro w T (.slice (some ⟨g, o + 1, none⟩) xs.length (C - 1)) xs := by
  rcases h with ⟨_, h0⟩ | ⟨g, o, cap, cur, hv, hg, h1, h2, h3, h4⟩
  · cases h0
  · cases hv
    simp only [List.length_cons] at h1 h4
    refine ⟨g, o, rfl, by simp, by omega, .inr ⟨g, o + 1, C - 1, cur, rfl, hg, by omega, by omega, by omega, fun j hj => ?_⟩⟩
    have := h4 (j + 1) (by omega)
    rw [Nat.add_assoc, Nat.add_comm 1 j, this]
    simp
/- One element more. -/
theorem Ro.app {w : World} {v : Value} {xs : List Value} (h : Ro w 30 v xs) (hL : xs.length ≤ 100000) {A6 : Option Addr} {n6 C6 : Nat} (ty : TypeId) :
    ∃ A' C' w', (Builtin.append_ #[47, 47] ty #[v, .slice (some ⟨w.heap.size, 0, none⟩) 1 1]).run Try.prog (w.alloc (.cells #[.slice A6 n6 C6] 30)) = .ok (.slice A' (xs.length + 1) C') w' ∧
      Ro w' 30 (.slice A' (xs.length + 1) C') (xs ++ [.slice A6 n6 C6]) ∧ Chg (fun g => blk v = some g) w w' ∧ (∀ g, blk (.slice A' (xs.length + 1) C') = some g → blk v = some g ∨ w.heap.size ≤ g) := by
  obtain ⟨i0, hi0, hz0, hz1, hz2⟩ := info_parts info27
  have hone : ∀ u ∈ [Value.slice A6 n6 C6], u.oneCell' = true := fun u hu => by simp at hu; subst hu; rfl
  obtain ⟨W, hW⟩ : ∃ W, W = w.alloc (.cells #[.slice A6 n6 C6] 30) := ⟨_, rfl⟩
  have hnw := cell_one_new w (.slice A6 n6 C6) 30
  have hcW : Chg (fun g => blk v = some g) w W := by rw [hW]; exact Chg.alloc _ _ _
  have hsW : W.heap.size = w.heap.size + 1 := by rw [hW]; simp
  rw [← hW] at hnw ⊢
  have own : ∀ (v' : Value) (w' : World), w'.ownsRow W.heap.size 30 1 v' (xs.length + 1) (xs ++ [.slice A6 n6 C6]) → W.grownBy w' none → ∃ A' C', v' = .slice A' (xs.length + 1) C' ∧
      Ro w' 30 (.slice A' (xs.length + 1) C') (xs ++ [.slice A6 n6 C6]) ∧ Chg (fun g => blk v = some g) w w' ∧ (∀ g, blk (.slice A' (xs.length + 1) C') = some g → blk v = some g ∨ w.heap.size ≤ g) := by
    intro v' w' ho hg
    obtain ⟨A', C', rfl⟩ := owns_formT ho
    refine ⟨A', C', rfl, Ro.of_owns ho, hcW.trans ((Chg.of_grown hg).weak fun k _ e => by cases e), fun g hg => .inr ?_⟩
    obtain ⟨_, _, hb⟩ := owns_blockT ho hg
    omega
  rcases h with ⟨rfl, rfl⟩ | ⟨g, o, cap, cur, rfl, hg, h1, h2, h3, h4⟩
  · have hown : W.ownsRow W.heap.size 30 1 (.slice none 0 0) 0 [] := World.ownsRow_nil _ _ _ _
    obtain ⟨v8, w8, hr, ho8, hg8, hn8, hl8⟩ := run_append_own_at (P := Try.prog) W W.heap.size 47 ty 30 i0 (.slice none 0 0) 1 24 Try.underlying47 hi0 hz0 hz1 hz2 rfl (by decide) (.slice none 0 0) 0 [] hown ⟨w.heap.size, 0, none⟩ 1 1 [.slice A6 n6 C6] rfl hnw hone
      (by unfold maxLen; omega) (by omega) (by simp)
    obtain ⟨A', C', rfl, q1, q2, q3⟩ := own v8 w8 ho8 hg8
    exact ⟨A', C', w8, hr, q1, q2, q3⟩
  · have hgW : W.heap[g]? = some (.cells cur 30 (0, 0)) := by rw [hW, Below.heap_alloc _ _ _ (heap_lt hg)]; exact hg
    by_cases hroom : xs.length + 1 ≤ cap
    · have hrun := run_append_room_cells (P := Try.prog) W 47 ty 30 i0 Try.underlying47 hi0 g o xs.length cap ⟨w.heap.size, 0, none⟩ 1 1 [.slice A6 n6 C6] (by rw [hz1]; rfl) hnw hone hroom
        (fun j hj => by
          simp at hj; subst hj
          rw [cell_at hgW, hz1, Array.getElem?_eq_getElem (by omega)]; rfl)
        (fun j hj => frozen_at hgW _)
      have hset : W.setCells g (o + xs.length * i0.size) [.slice A6 n6 C6] = W.setCell ⟨g, o + xs.length, none⟩ (.slice A6 n6 C6) := by
        rw [hz1, Nat.mul_one]; rfl
      rw [hset] at hrun
      refine ⟨_, _, _, hrun, .inr ⟨g, o, cap, _, by simp, heap_set hgW _ _, by simpa using hroom, h2, by simpa using h3, fun j hj => ?_⟩, hcW.trans (Chg.setCell W ⟨g, o + xs.length, none⟩ _ rfl), fun k hk => .inl hk⟩
      by_cases hj' : j < xs.length
      · rw [Array.getElem?_setIfInBounds_ne (by omega), h4 j hj', List.getElem_append_left hj']
      · have : j = xs.length := by simp at hj; omega
        subst this
        rw [Array.getElem?_setIfInBounds_self_of_lt (by omega)]
        simp
    · obtain ⟨v8, w8, hr, ho8, hg8⟩ := run_append_arg_grows (P := Try.prog) W 47 ty 30 i0 (.slice none 0 0) 1 24 Try.underlying47 hi0 hz0 hz1 hz2 rfl (by decide) ⟨g, o, none⟩ xs.length cap xs (by simp)
        (fun j u hu => by
          obtain ⟨hj, rfl⟩ := List.getElem?_eq_some_iff.1 hu
          rw [show (⟨g, o, none⟩ : Addr).add j = ⟨g, o + j, none⟩ by simp only [Addr.add]; split <;> simp_all, cell_at hgW]; exact h4 j hj)
        ⟨w.heap.size, 0, none⟩ 1 1 [.slice A6 n6 C6] rfl hnw (by omega) (by unfold maxLen; omega) (by omega)
      obtain ⟨A', C', rfl, q1, q2, q3⟩ := own v8 w8 ho8 hg8
      exact ⟨A', C', w8, hr, q1, q2, q3⟩
/- The first one off, by slices.Delete. -/
def encS (x : Option Addr × Nat × Nat) : Value := .slice x.1 x.2.1 x.2.2
def partsOf (v : Value) : Option Addr × Nat × Nat := match v with
  | .slice A n c => (A, n, c)
  | _ => (none, 0, 0)
theorem zero27 (w : World) : (zeroValue 30).run Try.prog w = .ok (encS (none, 0, 0)) w := Try.zeroValue30 w
theorem Ro.del {w : World} {A : Option Addr} {n C : Nat} {x : Value} {xs : List Value} (h : Ro w 30 (.slice A n C) (x :: xs)) (hs : ∀ u ∈ x :: xs, ∃ A n C, u = Value.slice A n C) (hn : xs.length ≤ 100000) :
    Calls Try.prog 35 #[.slice A n C, .int .i64 0, .int .i64 1] w fun e w' => e = .returned (.slice A xs.length C) ∧ Ro w' 30 (.slice A xs.length C) xs ∧ Chg (fun g => blk (.slice A n C) = some g) w w' := by
  obtain ⟨i0, hi0, hz0, hz1, hz2⟩ := info_parts info27
  rcases h with ⟨_, h0⟩ | ⟨g, o, cap, cur, hv, hg, h1, h2, h3, h4⟩
  · cases h0
  cases hv
  have hpe : ∀ u ∈ x :: xs, encS (partsOf u) = u := by
    intro u hu
    obtain ⟨A, n, C, rfl⟩ := hs u hu; rfl
  obtain ⟨d, hd⟩ : ∃ d, d = ((x :: xs).map partsOf).toArray := ⟨_, rfl⟩
  have hds : d.size = xs.length + 1 := by rw [hd]; simp
  have hHold : Holds encS w g o d := by
    intro j hj
    rw [hds] at hj
    refine ⟨?_, by simp [World.frozen?, hg]⟩
    have := h4 j (by simpa using hj)
    rw [cell_at hg, this]
    have e1 : d[j]! = partsOf ((x :: xs)[j]'(by simpa using hj)) := by
      rw [getElem!_pos _ _ (by omega)]
      simp only [hd, List.getElem_toArray]
      rw [List.getElem_map]
    rw [e1, hpe _ (List.getElem_mem _)]
  simp only [List.length_cons] at h1 ⊢
  have hdel := Try.slices_Delete encS (fun _ => rfl) (none, 0, 0) zero27 i0 hi0 hz1 g o C 0 1 d w hHold (by omega) (by unfold maxLen at h2; omega) (by omega) (by omega)
  rw [hds] at hdel
  refine hdel.mono ?_
  rintro e w' ⟨rfl, q, rfl⟩
  have hdl : d.toList.take 0 ++ d.toList.drop 1 ++ List.replicate (1 - 0) (none, 0, 0) = xs.map partsOf ++ [(none, 0, 0)] := by rw [hd]; simp
  rw [hdl]
  have hlen : (xs.map partsOf ++ [(none, 0, 0)]).length = xs.length + 1 := by simp
  have hb : (putRow encS (Go.Sort.ahead w q) g o (xs.map partsOf ++ [(none, 0, 0)]).toArray).heap[g]? = some (.cells (Go.Sort.putCells encS o (xs.map partsOf ++ [(none, 0, 0)]).toArray cur) 30 (0, 0)) := by
    simp [putRow, Go.Sort.mapBlock, Go.Sort.ahead, Array.getElem?_modify, hg, Go.Sort.onCells]
  have hc : Chg (fun k => blk (.slice (some ⟨g, o, none⟩) (xs.length + 1) C) = some k) w (putRow encS (Go.Sort.ahead w q) g o (xs.map partsOf ++ [(none, 0, 0)]).toArray) := by
    refine ⟨rfl, rfl, rfl, by simp, fun k hk hne => ?_⟩
    have : g ≠ k := fun e => hne (by rw [e]; rfl)
    simp [putRow, Go.Sort.mapBlock, Go.Sort.ahead, Array.getElem?_modify, this]
  refine ⟨by simp, .inr ⟨g, o, C, _, rfl, hb, by omega, h2, by simp [Go.Sort.putCells]; omega, fun j hj => ?_⟩, hc⟩
  have e2 : encS (partsOf (xs[j]'hj)) = xs[j]'hj := hpe _ (List.mem_cons_of_mem _ (List.getElem_mem hj))
  simp [Go.Sort.putCells, show o + j < cur.size by omega, show j < xs.length + 1 by omega, hj]
  exact e2
end Go.Proofs.Ytpmbkncakbcmbaa
