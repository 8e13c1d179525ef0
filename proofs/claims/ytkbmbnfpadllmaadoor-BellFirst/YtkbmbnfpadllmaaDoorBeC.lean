/- Which sorts a change looks at; which of two rings goes first. -/
import Derived.Test.YtkbmbnfpadllmaaDoorBeB
import Derived.Test.YtkbmbnfpadllmaaDoorShelf3
namespace Go.Proofs.YtkbmbnfpadllmaaDoor.We
set_option linter.unusedSimpArgs false
set_option linter.unusedVariables false
open Go.RowKit Go.MapKept
set_option linter.unusedVariables false
set_option linter.unusedSimpArgs false

set_option maxRecDepth 100000 in
theorem index_any {w : World} {g : Nat} {ss : List Int} (h : ∀ j (hj : j < ss.length), w.cell? ⟨g, j, none⟩ = some (.int .u8 (ss[j]'hj))) (hn : ss.length ≤ 1000) (x : Int) :
    Calls Tryd.prog 47 #[.slice (some ⟨g, 0, none⟩) ss.length ss.length, .int .u8 x] w fun e w' => (∃ i : Int, e = .returned (.int .i64 i) ∧ (0 ≤ i ↔ x ∈ ss)) ∧ w' = w := by
  go_enter Tryd.func47, Tryd.ntmps47
  go_wp2
  go_loopw [8] (fun i wr => ∃ k : Nat, k ≤ ss.length ∧ i = .int .i64 k ∧ wr = w ∧ x ∉ ss.take k) (fun i _ => ss.length - (intOf i).toNat)
  case atStart => exact ⟨0, Nat.zero_le _, rfl, rfl, by simp⟩
  case round =>
    obtain ⟨k, hk, rfl, rfl, hx⟩ := hrel
    by_cases h1 : k < ss.length
    · have hcell := h k h1
      have h1' : (k : Int) < ss.length := by omega
      have h0 : (0 : Int) ≤ k := by omega
      by_cases hx1 : x = ss[k]'h1
      · have hxb : (x == ss[k]'h1) = true := by simpa using hx1
        go_wp2
        go_ret
        exact ⟨⟨k, rfl, ⟨fun _ => by rw [hx1]; exact List.getElem_mem h1, fun _ => by omega⟩⟩, rfl⟩
      · have hxb : (x == ss[k]'h1) = false := by simpa using hx1
        go_wp2
        go_roundw
        case rel =>
          refine ⟨k + 1, by omega, by go_num, by first | rfl | trivial, ?_⟩
          rw [List.take_succ_eq_append_getElem h1]
          simp only [List.mem_append, List.mem_singleton, not_or]
          exact ⟨hx, hx1⟩
        case measure => simp [intOf]; omega
    · have h1' : ¬ (k : Int) < ss.length := by omega
      go_wp2
      go_ret
      refine ⟨⟨-1, rfl, ?_⟩, rfl⟩
      rw [List.take_of_length_le (by omega)] at hx
      constructor
      · intro h; omega
      · intro h; exact absurd h hx
set_option maxRecDepth 100000 in
theorem has_any {w : World} {g : Nat} {ss : List Int} (h : ∀ j (hj : j < ss.length), w.cell? ⟨g, j, none⟩ = some (.int .u8 (ss[j]'hj))) (hn : ss.length ≤ 1000) (x : Int) :
    Calls Tryd.prog 35 #[.slice (some ⟨g, 0, none⟩) ss.length ss.length, .int .u8 x] w fun e w' => e = .returned (.bool (decide (x ∈ ss))) ∧ w' = w := by
  have hi := index_any h hn x
  clear h
  go_enter Tryd.func35, Tryd.ntmps35
  go_wp2_with fail
  refine hi.mono ?_
  rintro e w1 ⟨⟨i, rfl, hx⟩, rfl⟩
  clear hi
  go_wp2_with fail
  go_ret
  refine ⟨?_, rfl⟩
  by_cases h0 : 0 ≤ i
  · simp [h0, hx.1 h0]
  · simp [h0, fun e => h0 (hx.2 e)]

/- Which of two rings goes first. -/
set_option maxRecDepth 100000 in
theorem isNaNs_any (x : Int) (w : World) : Calls Tryd.prog 69 #[.int .u8 x] w fun e w' => e = .returned (.bool false) ∧ w' = w := by
  have hb : (x != x) = false := by simp
  go_enter Tryd.func69, Tryd.ntmps69
  go_wp2_with fail
  go_ret
  exact ⟨rfl, rfl⟩
set_option maxRecDepth 100000 in
theorem cmps_r (x y r : Int) (h : (x < y ∧ r = -1) ∨ (y < x ∧ r = 1) ∨ (x = y ∧ r = 0)) (w : World) : Calls Tryd.prog 53 #[.int .u8 x, .int .u8 y] w fun e w' => e = .returned (.int .i64 r) ∧ w' = w := by
  have h1 := isNaNs_any x
  have h2 := isNaNs_any y
  rcases h with ⟨hc, rfl⟩ | ⟨hc, rfl⟩ | ⟨hc, rfl⟩
  · go_enter Tryd.func53, Tryd.ntmps53
    go_wp2_with fail
    refine (h1 _).mono ?_
    rintro e w1 ⟨rfl, rfl⟩
    go_wp2_with fail
    refine (h2 _).mono ?_
    rintro e w1 ⟨rfl, rfl⟩
    go_wp2_with fail
    go_ret
    exact ⟨rfl, rfl⟩
  · have hc' : ¬ x < y := by omega
    go_enter Tryd.func53, Tryd.ntmps53
    go_wp2_with fail
    refine (h1 _).mono ?_
    rintro e w1 ⟨rfl, rfl⟩
    go_wp2_with fail
    refine (h2 _).mono ?_
    rintro e w1 ⟨rfl, rfl⟩
    go_wp2_with fail
    go_ret
    exact ⟨rfl, rfl⟩
  · have hc1 : ¬ x < y := by omega
    have hc2 : ¬ y < x := by omega
    clear hc
    go_enter Tryd.func53, Tryd.ntmps53
    go_wp2_with fail
    refine (h1 _).mono ?_
    rintro e w1 ⟨rfl, rfl⟩
    go_wp2_with fail
    refine (h2 _).mono ?_
    rintro e w1 ⟨rfl, rfl⟩
    go_wp2_with fail
    go_ret
    exact ⟨rfl, rfl⟩
theorem cmps_any (x y : Int) (w : World) : Calls Tryd.prog 53 #[.int .u8 x, .int .u8 y] w fun e w' => e = .returned (.int .i64 (cfI x y)) ∧ w' = w := by
  refine cmps_r x y (cfI x y) ?_ w
  rcases cfI_cases x y with h | h | h
  · exact .inl h
  · exact .inr (.inl h)
  · exact .inr (.inr h)
/- The first one of three numbers that is not 0. -/
def or3 (a b c : Int) : Int := if a ≠ 0 then a else if b ≠ 0 then b else c
theorem or3_at {V : List Int} {a b c : Int} (hV : V = [a, b, c]) : ∀ (k : Nat) (h : k < V.length), (∀ y ∈ V.take k, y = 0) → ¬ V[k]'h = 0 → V[k]'h = or3 a b c := by
  subst hV
  intro k h h0 h1
  match k, h, h0, h1 with
  | 0, _, _, h1 => unfold or3; rw [if_pos (show a ≠ 0 from h1)]; rfl
  | 1, _, h0, h1 => unfold or3; rw [if_neg (by simpa using h0 a (by simp)), if_pos (show b ≠ 0 from h1)]; rfl
  | 2, _, h0, h1 => unfold or3; rw [if_neg (by simpa using h0 a (by simp)), if_neg (by simpa using h0 b (by simp))]; rfl
set_option maxRecDepth 100000 in
theorem or_any {w : World} {g : Nat} {a b c : Int} (ha : w.cell? ⟨g, 0, none⟩ = some (.int .i64 a)) (hb : w.cell? ⟨g, 1, none⟩ = some (.int .i64 b)) (hc : w.cell? ⟨g, 2, none⟩ = some (.int .i64 c)) :
    Calls Tryd.prog 51 #[.slice (some ⟨g, 0, none⟩) 3 3] w fun e w' => e = .returned (.int .i64 (or3 a b c)) ∧ w' = w := by
  obtain ⟨V, hV⟩ : ∃ V : List Int, V = [a, b, c] := ⟨_, rfl⟩
  have hlen : V.length = 3 := by rw [hV]; rfl
  have hcell : ∀ k (hk : k < V.length), w.cell? ⟨g, k, none⟩ = some (.int .i64 (V[k]'hk)) := by
    rw [hV]
    intro k hk
    match k, hk with
    | 0, _ => exact ha
    | 1, _ => exact hb
    | 2, _ => exact hc
  have HV : Hid (V = [a, b, c]) := hV
  clear ha hb hc hV
  go_enter Tryd.func51, Tryd.ntmps51
  go_wp2
  go_loopw [8] (fun i wr => ∃ k : Nat, k ≤ 3 ∧ i = .int .i64 k ∧ wr = w ∧ ∀ y ∈ V.take k, y = 0) (fun i _ => 3 - (intOf i).toNat)
  case atStart => exact ⟨0, Nat.zero_le _, rfl, rfl, by simp⟩
  case round =>
    obtain ⟨k, hk, rfl, rfl, hx⟩ := hrel
    by_cases h1 : k < 3
    · have hce := hcell k (by omega)
      have h1' : (k : Int) < 3 := by omega
      have h0 : (0 : Int) ≤ k := by omega
      by_cases hx1 : V[k]'(by omega) = 0
      · have hxb : (V[k]'(by omega) != 0) = false := by simpa using hx1
        go_wp2
        go_roundw
        case rel =>
          refine ⟨k + 1, by omega, by go_num, by first | rfl | trivial, ?_⟩
          rw [List.take_succ_eq_append_getElem (by omega)]
          intro y hy
          rcases List.mem_append.1 hy with hy | hy
          · exact hx y hy
          · rw [List.mem_singleton.1 hy]; exact hx1
        case measure => simp [intOf]; omega
      · have hxb : (V[k]'(by omega) != 0) = true := by simpa using hx1
        have HX1 : Hid (¬ V[k]'(by omega) = 0) := hx1
        have HR : Hid (V[k]'(by omega) = or3 a b c) := or3_at HV.out k (by omega) hx hx1
        go_wp2
        go_ret
        exact ⟨congrArg (fun z => Ending.returned (.int .i64 z)) HR.out, rfl⟩
    · have h1' : ¬ (k : Int) < 3 := by omega
      have HR : Hid (or3 a b c = 0) := by
        show or3 a b c = 0
        have hv := HV.out
        subst hv
        rw [List.take_of_length_le (by simp; omega)] at hx
        unfold or3
        rw [if_neg (by simpa using hx a (by simp)), if_neg (by simpa using hx b (by simp))]
        exact hx c (by simp)
      go_wp2
      go_ret
      exact ⟨congrArg (fun z => Ending.returned (.int .i64 z)) HR.out.symm, rfl⟩
theorem cfW_or (x y : Wa) : cfW x y = or3 (cfI x.cn y.cn) (cfI x.so y.so) (Lib.compareBytes x.p y.p) := rfl
/- A world that has only grown, and drawn. -/
def Gr (w w' : World) : Prop := ∃ q os, w' = Go.Sort.grow (w.drewN q) os
theorem Gr.refl (w : World) : Gr w w := ⟨0, #[], by cases w; simp [Go.Sort.grow, World.drewN]⟩
theorem Gr.alloc {w w' : World} (h : Gr w w') (o : Obj) : Gr w (w'.alloc o) := by
  obtain ⟨q, os, rfl⟩ := h
  exact ⟨q, os ++ #[o], by rw [Go.Sort.alloc_eq_grow, Go.Sort.grow_grow]⟩
theorem Gr.drew {w w' : World} (h : Gr w w') : Gr w w'.drew := by
  obtain ⟨q, os, rfl⟩ := h
  exact ⟨q + 1, os, by simp [Go.Sort.grow, World.drewN, World.drew]; omega⟩
set_option maxRecDepth 100000 in
set_option maxHeartbeats 4000000 in
theorem cmpR_any (x y : Rg) (w : World) : Calls Tryd.prog 38 #[.agg (rgC x).toArray, .agg (rgC y).toArray] w fun e w' => e = .returned (.int .i64 (or3 (cfI x.cn y.cn) (cfI x.so y.so) (Lib.compareBytes x.p y.p))) ∧ Gr w w' := by
  obtain ⟨x1, x2, x3, x4, x5⟩ := x
  obtain ⟨y1, y2, y3, y4, y5⟩ := y
  simp only [rgC]
  have h1 : ∀ W, Calls Tryd.prog 52 #[.int .i64 x1, .int .i64 y1] W fun e w' => e = .returned (.int .i64 (cfI x1 y1)) ∧ w' = W := fun W => Tryd.cmp_Compare_int x1 y1 W
  have h2 := cmps_any x3 y3
  have h3 : ∀ W, Calls Tryd.prog 54 #[.string (mkS x4), .string (mkS y4)] W fun e w' => e = .returned (.int .i64 (Lib.compareBytes x4 y4)) ∧ w' = W := fun W => by
    have := Tryd.strings_Compare (mkS x4) (mkS y4) W
    simpa [mkS] using this
  have h4 := fun (W : World) (g : Nat) a b c => @or_any W g a b c
  generalize cfI x1 y1 = c1 at h1 ⊢
  generalize cfI x3 y3 = c2 at h2 ⊢
  generalize Lib.compareBytes x4 y4 = c3 at h3 ⊢
  have hA := heap_alloc_new w (.cells #[.int .i64 x1, .int .u8 x2, .int .u8 x3, .string (mkS x4), .int .i64 x5] 56)
  obtain ⟨W0, hW0⟩ : ∃ W0, W0 = (w.alloc (.cells #[.int .i64 x1, .int .u8 x2, .int .u8 x3, .string (mkS x4), .int .i64 x5] 56)).alloc (.cells #[.int .i64 y1, .int .u8 y2, .int .u8 y3, .string (mkS y4), .int .i64 y5] 56) := ⟨_, rfl⟩
  have HW0 : Hid (W0 = (w.alloc (.cells #[.int .i64 x1, .int .u8 x2, .int .u8 x3, .string (mkS x4), .int .i64 x5] 56)).alloc (.cells #[.int .i64 y1, .int .u8 y2, .int .u8 y3, .string (mkS y4), .int .i64 y5] 56)) := hW0
  have hA0 : W0.heap[w.heap.size]? = some (.cells #[.int .i64 x1, .int .u8 x2, .int .u8 x3, .string (mkS x4), .int .i64 x5] 56 (0, 0)) := by rw [hW0, Below.heap_alloc _ _ _ (by simp)]; exact hA
  have hB0 : W0.heap[w.heap.size + 1]? = some (.cells #[.int .i64 y1, .int .u8 y2, .int .u8 y3, .string (mkS y4), .int .i64 y5] 56 (0, 0)) := by
    rw [hW0]
    have := heap_alloc_new (w.alloc (.cells #[.int .i64 x1, .int .u8 x2, .int .u8 x3, .string (mkS x4), .int .i64 x5] 56)) (.cells #[.int .i64 y1, .int .u8 y2, .int .u8 y3, .string (mkS y4), .int .i64 y5] 56)
    rwa [show (w.alloc (.cells #[.int .i64 x1, .int .u8 x2, .int .u8 x3, .string (mkS x4), .int .i64 x5] 56)).heap.size = w.heap.size + 1 by simp] at this
  have HCELL : Hid (∀ w', Gr W0 w' → w'.cell? ⟨w.heap.size, 0, none⟩ = some (.int .i64 x1) ∧ w'.cell? ⟨w.heap.size, 2, none⟩ = some (.int .u8 x3) ∧ w'.cell? ⟨w.heap.size, 3, none⟩ = some (.string (mkS x4)) ∧ w'.cell? ⟨w.heap.size + 1, 0, none⟩ = some (.int .i64 y1) ∧ w'.cell? ⟨w.heap.size + 1, 2, none⟩ = some (.int .u8 y3) ∧ w'.cell? ⟨w.heap.size + 1, 3, none⟩ = some (.string (mkS y4))) := by
    rintro w' ⟨q, os, rfl⟩
    have a0 := hA0
    rw [← show (Go.Sort.grow (W0.drewN q) os).heap[w.heap.size]? = W0.heap[w.heap.size]? by simp only [Go.Sort.grow, World.drewN]; rw [Array.getElem?_append_left (heapLt hA0)]] at a0
    have b0 := hB0
    rw [← show (Go.Sort.grow (W0.drewN q) os).heap[w.heap.size + 1]? = W0.heap[w.heap.size + 1]? by simp only [Go.Sort.grow, World.drewN]; rw [Array.getElem?_append_left (heapLt hB0)]] at b0
    exact ⟨by simpa using cellAt a0 0, by simpa using cellAt a0 2, by simpa using cellAt a0 3, by simpa using cellAt b0 0, by simpa using cellAt b0 2, by simpa using cellAt b0 3⟩
  clear hA hA0 hB0
  go_enter Tryd.func38, Tryd.ntmps38
  go_wp2_with fail
  rw [← hW0]
  clear hW0
  go_region_held3 (fun w' => Gr W0 w' ∧ w'.cell? ⟨w.heap.size, 0, none⟩ = some (.int .i64 x1) ∧ w'.cell? ⟨w.heap.size, 2, none⟩ = some (.int .u8 x3) ∧ w'.cell? ⟨w.heap.size, 3, none⟩ = some (.string (mkS x4)) ∧ w'.cell? ⟨w.heap.size + 1, 0, none⟩ = some (.int .i64 y1) ∧ w'.cell? ⟨w.heap.size + 1, 2, none⟩ = some (.int .u8 y3) ∧ w'.cell? ⟨w.heap.size + 1, 3, none⟩ = some (.string (mkS y4)))
    (first | exact ⟨(Gr.refl _).drew, HCELL.out _ (Gr.refl _).drew⟩ | exact ⟨(Gr.alloc (Gr.refl _) _).drew, HCELL.out _ (Gr.alloc (Gr.refl _) _).drew⟩ | go_keep)
    (first
      | (go_at_call 52; refine (h1 _).mono ?_; rintro e w' ⟨rfl, rfl⟩)
      | (go_at_call 53; refine (h2 _).mono ?_; rintro e w' ⟨rfl, rfl⟩)
      | (go_at_call 54; refine (h3 _).mono ?_; rintro e w' ⟨rfl, rfl⟩)
      | (go_at_call 51; refine (h4 _ _ c1 c2 c3 (by simp) (by simp) (by simp)).mono ?_; rintro e w' ⟨rfl, rfl⟩))
  go_wp2_with fail
  go_ret
  refine ⟨rfl, ?_⟩
  rw [HW0.out]
  exact ((((Gr.refl w).alloc _).alloc _).alloc _).drew
theorem cmpLaysW (kd : Wa → Int) (z : Int) (blk off size : Nat) (w : World) : Go.Proofs.CmpLays Tryd.prog 38 #[] (encE kd z) 5 cfW blk off size w := by
  intro _ _ _ _ x y
  exact cmpR_any (rgOf (kd x) z x) (rgOf (kd y) z y) _
end Go.Proofs.YtkbmbnfpadllmaaDoor.We
