/- The walks of Used, Read, Sync, Cut, Remove, Rename. -/
import Derived.Test.YtndjlnlmlgimlaaDkC
namespace Go.Proofs.Ytndjlnlmlgimlaa
open Go.RowKit Go.MapKept

/- The bytes that are still to come. -/
def lens (F : List Fi) : List (List UInt8) → Nat
  | [] => 0
  | k :: l => (getF k F).b.length + lens F l
theorem lens_app (F : List Fi) (a b : List (List UInt8)) : lens F (a ++ b) = lens F a + lens F b := by
  induction a with
  | nil => simp [lens]
  | cons x a ih => simp [lens, ih]; omega
theorem lens_skip (q : Fi) (F : List Fi) : ∀ (l : List (List UInt8)), (∀ k ∈ l, k ≠ q.nm) → lens (q :: F) l = lens F l
  | [], _ => rfl
  | k :: l, h => by
    have h1 : ¬ q.nm = k := fun e => h k (.head _) e.symm
    simp only [lens, lens_skip q F l (fun k hk => h k (.tail _ hk)), getF, lookF, if_neg h1]
theorem lens_all : ∀ (F : List Fi), (F.map (·.nm)).Nodup → lens F (F.map (·.nm)) = used F
  | [], _ => rfl
  | q :: F, h => by
    simp only [List.map_cons, List.nodup_cons] at h
    simp only [List.map_cons, lens, used]
    rw [lens_skip q F _ (fun k hk e => h.1 (by rw [← e]; exact hk)), lens_all F h.2]
    simp [getF, lookF]
theorem names_eq (L : List Fv) : (L.map fun p => p.1.nm) = (L.map Prod.fst).map (·.nm) := by simp [Function.comp_def]
theorem get_look {L : List Fv} {k : List UInt8} {p : Fv} (h : look k L = some p) : getF k (L.map Prod.fst) = p.1 := by
  rw [← get_F, h]; rfl

set_option maxRecDepth 100000 in
theorem used_any {w : World} {base d m : Nat} {room : Int} {L : List Fv} (h : Dk w base d m room L) :
    Calls Try.prog 31 #[.pointer (some ⟨d, 0, none⟩)] w fun e w' => e = .returned (.int .i64 (used (L.map Prod.fst) : Nat)) ∧ Below w.heap.size w w' := by
  have hc0 := cell_at h.cell 0
  simp at hc0
  have hm := h.map
  go_enter Try.func31, Try.ntmps31
  go_wp2_with fail
  refine (there_any hc0).mono ?_
  rintro e w1 ⟨rfl, rfl⟩
  go_wp2_with (first
    | (at_range; refine wpList_rng rfl _ rfl rfl hm ?_; intro w2 hr2 hc2 hs2)
    | fail)
  go_frame
  have HR : Hid (Ranges w2 m w1.heap.size L (L.map fun p => p.1.nm)) := hr2
  have HB2 : Hid (Below w1.heap.size w1 w2) := hc2.below (fun _ e => e.elim) (Nat.le_refl _)
  have HU : Hid (((used (L.map Prod.fst) : Nat) : Int) < 9223372036854775808) := by have := h.usd; have := h.rm; unfold Hid; omega
  have HN : Hid (lens (L.map Prod.fst) (L.map fun p => p.1.nm) = used (L.map Prod.fst)) := by
    have := hm.names; rw [names_eq] at this ⊢; exact lens_all _ this
  have HD : Hid (Dk w1 base d m room L) := h
  clear hr2 hc2 hs2 h hm
  go_loopw [3] (fun v wr => ∃ (left : List (List UInt8)) (acc : Nat), v = .int .i64 (acc : Int) ∧ acc + lens (L.map Prod.fst) left = used (L.map Prod.fst) ∧ Ranges wr m w1.heap.size L left ∧ Below w1.heap.size w1 wr) (fun _ wr => wr.rangeLeft m w1.heap.size)
  case atStart => exact ⟨_, 0, rfl, by rw [HN.out]; omega, HR.out, HB2.out⟩
  case round =>
    obtain ⟨left, acc, rfl, hacc, hrg, hB⟩ := hrel
    go_wp2_with (first
      | (at_next; refine wpList_nxt rfl _ rfl rfl hrg HD.out.form ?_ ?_)
      | fail)
    · intro hl0
      subst hl0
      go_wp2_with fail
      go_ret
      simp only [lens, Nat.add_zero] at hacc
      exact ⟨by subst hacc; rfl, hB⟩
    · intro l1 l2 f A C w3 hl hlk hrg3 hc3 hs3 hen
      have hg := get_look hlk
      have hle := congrArg (lens (L.map Prod.fst)) hl
      rw [lens_app, lens, hg] at hle
      have HL : Hid (left.length = (l1 ++ l2).length + 1) := by rw [hl]; simp; unfold Hid; omega
      have hu := HU.out
      have hacc2 : ((acc : Int) + (f.b.length : Int)) < 9223372036854775808 := by
        have : lens (L.map Prod.fst) left = lens (L.map Prod.fst) l1 + (f.b.length + lens (L.map Prod.fst) l2) := hle
        omega
      go_wp2_with fail
      go_roundw
      case rel =>
        refine ⟨l1 ++ l2, acc + f.b.length, by simp, ?_, hrg3.alloc _, ?_⟩
        · rw [lens_app]
          have : lens (L.map Prod.fst) left = lens (L.map Prod.fst) l1 + (f.b.length + lens (L.map Prod.fst) l2) := hle
          omega
        · exact (hB.trans (hc3.below (B := w1.heap.size) (fun k e => e ▸ Nat.le_refl _) hB.size)).alloc (by rw [hs3]; exact hB.size) _
      case measure =>
        rw [hrg.left_eq, (hrg3.alloc _).left_eq, HL.out]; omega

theorem heap_set {w : World} {g T : Nat} {cs : Array Value} {fr : Nat × Nat} (h : w.heap[g]? = some (.cells cs T fr)) (i : Nat) (v : Value) : (w.setCell ⟨g, i, none⟩ v).heap[g]? = some (.cells (cs.setIfInBounds i v) T fr) := by
  simp [World.setCell, Array.getElem?_modify, h]
theorem set2 {w : World} {g T : Nat} {a b : Value} (h : w.heap[g]? = some (.cells #[a, b] T (0, 0))) (x y : Value) : ((w.setCell ⟨g, 0, none⟩ x).setCell ⟨g, 1, none⟩ y).heap[g]? = some (.cells #[x, y] T (0, 0)) := by
  have := heap_set (heap_set h 0 x) 1 y
  simpa using this
theorem chg2 (w : World) (g : Nat) (x y : Value) : Chg (fun k => k = g) w ((w.setCell ⟨g, 0, none⟩ x).setCell ⟨g, 1, none⟩ y) :=
  (Chg.setCell (S := fun k => k = g) w ⟨g, 0, none⟩ x rfl).trans (Chg.setCell (S := fun k => k = g) _ ⟨g, 1, none⟩ y rfl)
/- Slices of a row of one's own. -/
theorem owns_some {w : World} {base : Nat} {A : Option Addr} {n C : Nat} {l : List UInt8} (h : w.ownsRow base 5 1 (.slice A n C) l.length (bv l)) : n = l.length ∧ ((A = none ∧ l = [] ∧ C = 0) ∨ ∃ g, A = some ⟨g, 0, none⟩ ∧ l.length ≤ C ∧ Bs w (.slice A n C) l) := by
  have hb := Bs.of_owns h
  rcases h.2 with ⟨hv, h0⟩ | ⟨g, cap, cur, hv, _, hg, hc, _⟩
  · cases hv
    exact ⟨h0.symm, .inl ⟨rfl, List.length_eq_zero_iff.1 h0, rfl⟩⟩
  · cases hv
    exact ⟨rfl, .inr ⟨g, rfl, hc, hb⟩⟩
theorem bs_take {w : World} {g C : Nat} {l : List UInt8} (h : Bs w (.slice (some ⟨g, 0, none⟩) l.length C) l) (n : Nat) (hn : n ≤ l.length) : Bs w (.slice (some ⟨g, 0, none⟩) n C) (l.take n) := by
  rcases h with ⟨hv, _⟩ | ⟨ad, c, hv, hl⟩ | ⟨h0, b, o, c, hv, h1, h2, h3⟩
  · cases hv
  · subst hl
    have : n = 0 := by simpa using hn
    subst this
    exact .inr (.inl ⟨_, _, rfl, rfl⟩)
  · cases hv
    refine Bs.mk g 0 C (by simp; omega) (by simp; omega) h2 fun j hj => ?_
    simp only [List.length_take] at hj
    rw [h3 j (by omega)]
    simp
set_option maxRecDepth 100000 in
theorem beginning_any {w : World} {base : Nat} {A : Option Addr} {C : Nat} {l : List UInt8} (h : w.ownsRow base 5 1 (.slice A l.length C) l.length (bv l)) (sy : Int) (n : Nat) (hn : n ≤ l.length) (hl : l.length ≤ 4194304) :
    Calls Try.prog 37 #[.agg #[.slice A l.length C, .int .i64 sy], .int .i64 (n : Int)] w fun e w' => ∃ A' C', e = .returned (.agg #[.slice A' n C', .int .i64 (n : Int)]) ∧ w'.ownsRow w.heap.size 5 1 (.slice A' n C') n (bv (l.take n)) ∧ Below w.heap.size w w' := by
  obtain ⟨_, ⟨rfl, rfl, rfl⟩ | ⟨g, rfl, hC, hb⟩⟩ := owns_some h
  · have : n = 0 := by simpa using hn
    subst this
    go_enter Try.func37, Try.ntmps37
    go_wp2_with fail
    refine (clone_nil _).mono ?_
    rintro e w3 ⟨rfl, rfl⟩
    go_wp2_with fail
    refine bodyPost_ret (v := .agg #[.slice none 0 0, .int .i64 0]) (by simp [results, Try.results37, go_sem]) rfl ⟨none, 0, rfl, World.ownsRow_nil _ _ _ _, ?_⟩
    exact below2 _ _ _
  · have hb2 := ((bs_take hb n hn).alloc (.cells #[.slice (some ⟨g, 0, none⟩) l.length C, .int .i64 sy] 58)).alloc (.cells #[.slice none 0 0, .int .i64 0] 58)
    go_enter Try.func37, Try.ntmps37
    go_wp2_with fail
    refine (clone_some hb2 (by simp; omega)).mono ?_
    rintro e w3 ⟨A3, C3, rfl, ho3, hB3⟩
    have hr : w3.heap[w.heap.size + 1]? = some (.cells #[.slice none 0 0, .int .i64 0] 58 (0, 0)) := by
      rw [hB3.block _ (by simp)]
      have := heap_alloc_new (w.alloc (.cells #[.slice (some ⟨g, 0, none⟩) l.length C, .int .i64 sy] 58)) (.cells #[.slice none 0 0, .int .i64 0] 58)
      simpa using this
    have hc0 := cell_at hr 0
    have hc1 := cell_at hr 1
    have hf0 := frozen_at hr 0
    have hf1 := frozen_at hr 1
    simp at hc0 hc1
    clear hb hb2 h
    go_wp2_with fail
    have hr2 := set2 hr (.slice A3 n C3) (.int .i64 (n : Int))
    have hk0 := cell_at hr2 0
    have hk1 := cell_at hr2 1
    simp only [List.getElem?_toArray, List.getElem?_cons_zero, List.getElem?_cons_succ] at hk0 hk1
    have hch := chg2 w3 (w.heap.size + 1) (.slice A3 n C3) (.int .i64 (n : Int))
    refine bodyPost_ret (v := .agg #[.slice A3 n C3, .int .i64 (n : Int)]) (by simp [results, Try.results37, go_sem, hk0, hk1]) rfl ⟨A3, C3, rfl, ?_, ?_⟩
    · refine owns_low (owns_keep ho3 hch ?_) (by simp; omega)
      intro k hk e
      obtain ⟨_, _, hle⟩ := owns_block ho3 hk
      simp at hle; omega
    · refine ((below2 w _ _).trans (hB3.mono (by simp; omega))).trans (hch.below (fun k e => by omega) ?_)
      have := hB3.size; simp at this; omega

theorem look_of {L : List Fv} {k : List UInt8} {f : Fi} (h : lookF k (L.map Prod.fst) = some f) : ∃ v, look k L = some (f, v) := by
  rw [← look_F] at h
  cases hl : look k L with
  | none => rw [hl] at h; cases h
  | some p => rw [hl] at h; cases h; exact ⟨p.2, rfl⟩
theorem look_no {L : List Fv} {k : List UInt8} (h : lookF k (L.map Prod.fst) = none) : look k L = none := by
  rw [← look_F] at h
  cases hl : look k L with
  | none => rfl
  | some p => rw [hl] at h; cases h
theorem Dk.at {w : World} {base d m : Nat} {room : Int} {L : List Fv} (h : Dk w base d m room L) {k : List UInt8} {f : Fi} (hk : lookF k (L.map Prod.fst) = some f) : ∃ A C, look k L = some (f, .slice A f.b.length C) ∧ w.ownsRow base 5 1 (.slice A f.b.length C) f.b.length (bv f.b) ∧ f.b.length ≤ 4194304 ∧ f.sy ≤ f.b.length ∧ f.nm = k := by
  obtain ⟨v, hv⟩ := look_of hk
  obtain ⟨hm, hn⟩ := look_some hv
  obtain ⟨A, C, e⟩ := h.form _ hm
  simp only at e
  subst e
  exact ⟨A, C, hv, h.rows _ hm, (h.fits _ hm).2, (h.fits _ hm).1, hn⟩

set_option maxRecDepth 100000 in
theorem read_none {w : World} {base d m : Nat} {room : Int} {L : List Fv} (h : Dk w base d m room L) {k : List UInt8} (hk : lookF k (L.map Prod.fst) = none) :
    Calls Try.prog 9 #[.pointer (some ⟨d, 0, none⟩), .string (mkS k)] w fun e w' => e = .returned (.tuple #[.slice none 0 0, .int .i64 6]) ∧ Below w.heap.size w w' := by
  go_enter Try.func9, Try.ntmps9
  go_wp2_with fail
  refine (find_none h k (look_no hk)).mono ?_
  rintro e w1 ⟨rfl, hB⟩
  go_wp2_with fail
  go_ret2
  exact ⟨rfl, hB.alloc hB.size _⟩
set_option maxRecDepth 100000 in
theorem read_some {w : World} {base d m : Nat} {room : Int} {L : List Fv} (h : Dk w base d m room L) {k : List UInt8} {f : Fi} (hk : lookF k (L.map Prod.fst) = some f) :
    Calls Try.prog 9 #[.pointer (some ⟨d, 0, none⟩), .string (mkS k)] w fun e w' => ∃ A C, e = .returned (.tuple #[.slice A f.b.length C, .int .i64 0]) ∧ w'.ownsRow w.heap.size 5 1 (.slice A f.b.length C) f.b.length (bv f.b) ∧ Below w.heap.size w w' := by
  obtain ⟨A, C, hlk, ho, hl, _, hnm⟩ := h.at hk
  have HO : Hid (w.ownsRow base 5 1 (.slice A f.b.length C) f.b.length (bv f.b)) := ho
  go_enter Try.func9, Try.ntmps9
  go_wp2_with fail
  refine (find_some h k hlk).mono ?_
  rintro e w1 ⟨rfl, hB⟩
  clear hlk ho
  obtain ⟨_, ⟨rfl, hl0, rfl⟩ | ⟨g, rfl, hC, hb⟩⟩ := owns_some HO.out
  · have e0 : f.b.length = 0 := by rw [hl0]; rfl
    have HE : Hid (f.b = []) := hl0
    clear hl0 HO
    simp only [e0]
    go_wp2_with fail
    refine (clone_nil _).mono ?_
    rintro e w3 ⟨rfl, rfl⟩
    go_wp2_with fail
    go_ret2
    refine ⟨none, 0, by rw [e0]; rfl, ?_, hB.alloc hB.size _⟩
    rw [HE.out]; exact World.ownsRow_nil _ _ _ _
  · have hb2 := (hb.keep (Chg.of_below hB) (fun _ _ => id)).alloc (.cells #[.slice (some ⟨g, 0, none⟩) f.b.length C, .int .i64 (f.sy : Int)] 58)
    go_wp2_with fail
    refine (clone_some hb2 (by omega)).mono ?_
    rintro e w3 ⟨A3, C3, rfl, ho3, hB3⟩
    clear hb hb2 HO
    go_wp2_with fail
    go_ret2
    exact ⟨A3, C3, rfl, owns_low ho3 (Nat.le_trans hB.size (by simp)), (hB.alloc hB.size _).trans (hB3.mono (Nat.le_trans hB.size (by simp)))⟩
set_option maxRecDepth 100000 in
theorem sync_none {w : World} {base d m : Nat} {room : Int} {L : List Fv} (h : Dk w base d m room L) {k : List UInt8} (hk : lookF k (L.map Prod.fst) = none) :
    Calls Try.prog 20 #[.pointer (some ⟨d, 0, none⟩), .string (mkS k)] w fun e w' => e = .returned (.int .i64 6) ∧ Below w.heap.size w w' := by
  go_enter Try.func20, Try.ntmps20
  go_wp2_with fail
  refine (find_none h k (look_no hk)).mono ?_
  rintro e w1 ⟨rfl, hB⟩
  go_wp2_with fail
  go_ret
  exact ⟨rfl, hB.alloc hB.size _⟩
set_option maxRecDepth 100000 in
theorem cut_none {w : World} {base d m : Nat} {room : Int} {L : List Fv} (h : Dk w base d m room L) {k : List UInt8} (hk : lookF k (L.map Prod.fst) = none) (n : Value) :
    Calls Try.prog 22 #[.pointer (some ⟨d, 0, none⟩), .string (mkS k), n] w fun e w' => e = .returned (.int .i64 6) ∧ Below w.heap.size w w' := by
  go_enter Try.func22, Try.ntmps22
  go_wp2_with fail
  refine (find_none h k (look_no hk)).mono ?_
  rintro e w1 ⟨rfl, hB⟩
  go_wp2_with fail
  go_ret
  exact ⟨rfl, hB.alloc hB.size _⟩
set_option maxRecDepth 100000 in
theorem remove_none {w : World} {base d m : Nat} {room : Int} {L : List Fv} (h : Dk w base d m room L) {k : List UInt8} (hk : lookF k (L.map Prod.fst) = none) :
    Calls Try.prog 26 #[.pointer (some ⟨d, 0, none⟩), .string (mkS k)] w fun e w' => e = .returned (.int .i64 6) ∧ Below w.heap.size w w' := by
  go_enter Try.func26, Try.ntmps26
  go_wp2_with fail
  refine (find_none h k (look_no hk)).mono ?_
  rintro e w1 ⟨rfl, hB⟩
  go_wp2_with fail
  go_ret
  exact ⟨rfl, hB.alloc hB.size _⟩
end Go.Proofs.Ytndjlnlmlgimlaa
