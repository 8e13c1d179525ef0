/- The walks of the document's configs: one member, whether a config may be, who is found, who votes. -/
import Derived.Deep.RegionHeld3
import Derived.Deep.DrawnRows
import Derived.Test.YtohhbhkpekieiaaEnsD
namespace Go.Proofs.Ytohhbhkpekieiaa
open Go.RowKit

set_option maxRecDepth 100000 in
set_option maxHeartbeats 2000000 in
theorem rf4Find_any {w : World} {v : Value} {l : List Mem} (h : Mems w v l) (ver id : Int) (hl : l.length ≤ 9223372036854775807) :
    Calls Try.prog 9 #[.agg #[.int .i64 ver, v], .int .i64 id] w fun e w' => e = .returned (.tuple #[.agg #[.int .i64 (memOr (findM l id)).id, .int .u8 (memOr (findM l id)).role, .int .i64 (memOr (findM l id)).weight, .int .i64 (memOr (findM l id)).group], .bool (findM l id).isSome]) ∧ Below w.heap.size w w' := by
  have HM : Hid (Mems w v l) := h
  obtain ⟨A, C, rfl⟩ := h.form
  clear h
  generalize hO : findM l id = O
  have HO : Hid (findM l id = O) := hO
  clear hO
  go_enter Try.func9, Try.ntmps9
  go_wp2_with fail
  go_loopw [6] (fun i wr => ∃ k : Nat, i = .int .i64 k ∧ k ≤ l.length ∧ findM (l.take k) id = none ∧ wr.heap[w.heap.size + 1]? = some (.cells #[.int .i64 0, .int .u8 0, .int .i64 0, .int .i64 0] 30 (0, 0)) ∧ wr.heap[w.heap.size]? = some (.cells #[.int .i64 ver, .slice A l.length C] 25 (0, 0)) ∧ Below w.heap.size w wr) (fun i _ => l.length - (intOf i).toNat)
  case atStart =>
    refine ⟨0, rfl, by omega, rfl, ?_, ?_, ((Below.refl _ _).alloc (Nat.le_refl _) _).alloc (by simp) _⟩
    · have := heap_alloc_new (w.alloc (.cells #[.int .i64 ver, .slice A l.length C] 25)) (.cells #[.int .i64 0, .int .u8 0, .int .i64 0, .int .i64 0] 30 (0, 0))
      rw [show (w.alloc (.cells #[.int .i64 ver, .slice A l.length C] 25)).heap.size = w.heap.size + 1 by simp] at this
      exact this
    · rw [Below.heap_alloc _ _ _ (by simp)]
      exact heap_alloc_new w _
  case round =>
    obtain ⟨k, rfl, hk, hn, hd, hc, hB⟩ := hrel
    have HD : Hid (wr.heap[w.heap.size + 1]? = some (.cells #[.int .i64 0, .int .u8 0, .int .i64 0, .int .i64 0] 30 (0, 0))) := hd
    have hlt2 := heap_lt hd
    have f0 := frozen_at hd 0
    have f1 := frozen_at hd 1
    have f2 := frozen_at hd 2
    have f3 := frozen_at hd 3
    have y0 : wr.cell? ⟨w.heap.size + 1, 0, none⟩ = some (.int .i64 0) := by rw [cell_at hd]; rfl
    have y1 : wr.cell? ⟨w.heap.size + 1, 1, none⟩ = some (.int .u8 0) := by rw [cell_at hd]; rfl
    have y2 : wr.cell? ⟨w.heap.size + 1, 2, none⟩ = some (.int .i64 0) := by rw [cell_at hd]; rfl
    have y3 : wr.cell? ⟨w.heap.size + 1, 3, none⟩ = some (.int .i64 0) := by rw [cell_at hd]; rfl
    clear hd
    have HB : Hid (Below w.heap.size w wr) := hB
    have HC : Hid (wr.heap[w.heap.size]? = some (.cells #[.int .i64 ver, .slice A l.length C] 25 (0, 0))) := hc
    have HN : Hid (findM (l.take k) id = none) := hn
    have hlt1 := heap_lt hc
    have z0 : wr.cell? ⟨w.heap.size, 0, none⟩ = some (.int .i64 ver) := by rw [cell_at hc]; rfl
    have z1 : wr.cell? ⟨w.heap.size, 1, none⟩ = some (.slice A l.length C) := by rw [cell_at hc]; rfl
    clear hB hc hn
    by_cases hlt : k < l.length
    · obtain ⟨b, o, rfl, hb, c0, c1, c2, c3⟩ := (HM.out.below' HB.out).at' k hlt
      have HF1 : Hid ((l[k]'hlt).id = id → findM l id = some (l[k]'hlt)) := fun he => findM_mid hlt HN.out he
      have HF2 : Hid (¬ (l[k]'hlt).id = id → findM (l.take (k + 1)) id = none) := fun he => findM_snoc hlt HN.out he
      generalize (l[k]'hlt) = m at c0 c1 c2 c3 HF1 HF2
      obtain ⟨mi, mr, mw, mg⟩ := m
      dsimp only at c0 c1 c2 c3
      by_cases he : mi = id
      · have hoo : O = some ⟨mi, mr, mw, mg⟩ := by rw [← HO.out]; exact HF1.out he
        subst hoo
        subst he
        clear HF1 HF2
        go_wp2
        refine bodyPost_ret (v := .tuple #[.agg #[.int .i64 mi, .int .u8 mr, .int .i64 mw, .int .i64 mg], .bool true]) (by simp [results, Try.results9, go_sem, y0, y1, y2, y3]) rfl ⟨rfl, ?_⟩
        exact (((HB.out.setCell (by show w.heap.size ≤ w.heap.size + 1; omega) _).setCell (by show w.heap.size ≤ w.heap.size + 1; omega) _).setCell (by show w.heap.size ≤ w.heap.size + 1; omega) _).setCell (by show w.heap.size ≤ w.heap.size + 1; omega) _
      · have heb : (mi == id) = false := by simpa using he
        have HF3 : Hid (findM (l.take (k + 1)) id = none) := HF2.out he
        clear HF1 HF2 he
        go_wp2
        exact ⟨⟨k + 1, by go_num, by omega, HF3.out, HD.out, HC.out, HB.out⟩, by simp [intOf]; omega⟩
    · have hkk : k = l.length := by omega
      subst hkk
      have hoo : O = none := by rw [← HO.out, ← List.take_length (l := l)]; exact HN.out
      subst hoo
      go_wp2
      refine bodyPost_ret (v := .tuple #[.agg #[.int .i64 0, .int .u8 0, .int .i64 0, .int .i64 0], .bool false]) (by simp [results, Try.results9, go_sem, y0, y1, y2, y3]) rfl ⟨rfl, ?_⟩
      exact (((HB.out.setCell (by show w.heap.size ≤ w.heap.size + 1; omega) _).setCell (by show w.heap.size ≤ w.heap.size + 1; omega) _).setCell (by show w.heap.size ≤ w.heap.size + 1; omega) _).setCell (by show w.heap.size ≤ w.heap.size + 1; omega) _
theorem rf4Voter_any {w : World} {v : Value} {l : List Mem} (h : Mems w v l) (ver id : Int) (hl : l.length ≤ 9223372036854775807) :
    Calls Try.prog 13 #[.agg #[.int .i64 ver, v], .int .i64 id] w fun e w' => e = .returned (.bool (votM l id)) ∧ Below w.heap.size w w' := by
  have HM : Hid (Mems w v l) := h
  obtain ⟨A, C, rfl⟩ := h.form
  clear h
  have hB1 : Below w.heap.size w (w.alloc (.cells #[.int .i64 ver, .slice A l.length C] 25)) := (Below.refl _ _).alloc (Nat.le_refl _) _
  have hf := rf4Find_any (HM.out.below' hB1) ver id hl
  unfold votM
  generalize findM l id = O at hf
  have HF : Hid (Calls Try.prog 9 #[.agg #[.int .i64 ver, .slice A l.length C], .int .i64 id] (w.alloc (.cells #[.int .i64 ver, .slice A l.length C] 25)) fun e w' => e = .returned (.tuple #[.agg #[.int .i64 (memOr O).id, .int .u8 (memOr O).role, .int .i64 (memOr O).weight, .int .i64 (memOr O).group], .bool O.isSome]) ∧ Below (w.alloc (.cells #[.int .i64 ver, .slice A l.length C] 25)).heap.size (w.alloc (.cells #[.int .i64 ver, .slice A l.length C] 25)) w') := hf
  clear hf
  cases O with
  | none =>
    go_enter Try.func13, Try.ntmps13
    go_wp2_with fail
    refine HF.out.mono ?_
    rintro e w2 ⟨rfl, hB2⟩
    have hB2' := hB1.trans (hB2.mono (by simp))
    go_wp2
    go_ret
    exact ⟨rfl, hB2'.alloc hB2'.size _⟩
  | some m =>
    have HB : Hid ((m.role == 1) = (true && decide (m.role = 1))) := by show (m.role == 1) = _; rw [Bool.eq_iff_iff]; simp
    go_enter Try.func13, Try.ntmps13
    go_wp2_with fail
    refine HF.out.mono ?_
    rintro e w2 ⟨rfl, hB2⟩
    have hB2' := hB1.trans (hB2.mono (by simp))
    go_wp2
    go_ret
    exact ⟨ret_b HB.out, hB2'.alloc hB2'.size _⟩
def memOk (m : Mem) : Bool := decide (1 ≤ m.id) && decide (m.id ≤ 7) && fitRole m
theorem beq0 (z : Int) : (z == 0) = decide (z = 0) := by rw [Bool.eq_iff_iff]; simp
set_option maxHeartbeats 1000000 in
theorem rf4member_any (w : World) (i r k g : Int) :
    Calls Try.prog 34 #[.agg #[.int .i64 i, .int .u8 r, .int .i64 k, .int .i64 g]] w fun e w' => e = .returned (.bool (memOk ⟨i, r, k, g⟩)) ∧ Below w.heap.size w w' := by
  by_cases hi : 1 ≤ i
  · by_cases hj : i ≤ 7
    · have hm : memOk ⟨i, r, k, g⟩ = fitRole ⟨i, r, k, g⟩ := by simp [memOk, hi, hj]
      rw [hm]
      clear hm
      by_cases h2 : r = 2
      · have e : fitRole ⟨i, r, k, g⟩ = (decide (k = 0) && decide (g = 0)) := by subst h2; simp [fitRole]
        rw [e]
        subst h2
        clear e
        by_cases hk : k = 0
        · subst hk
          go_enter Try.func34, Try.ntmps34
          go_wp2
          all_goals
            go_ret
            exact ⟨ret_b (by simp [beq0]), (Below.refl _ _).alloc (Nat.le_refl _) _⟩
        · have hkb : (k == 0) = false := by simpa using hk
          go_enter Try.func34, Try.ntmps34
          go_wp2
          all_goals
            go_ret
            exact ⟨ret_b (by simp [hk]), (Below.refl _ _).alloc (Nat.le_refl _) _⟩
      · have h2b : (r == 2) = false := by simpa using h2
        by_cases h1 : r = 1
        · have e : fitRole ⟨i, r, k, g⟩ = (decide (0 ≤ k) && decide (k ≤ 1000) && decide (0 ≤ g) && decide (g < 7)) := by unfold fitRole; rw [if_pos h1]
          rw [e]
          subst h1
          clear e h2 h2b
          go_enter Try.func34, Try.ntmps34
          go_wp2
          all_goals
            go_ret
            exact ⟨ret_b (by simp <;> omega), (Below.refl _ _).alloc (Nat.le_refl _) _⟩
        · have h1b : (r == 1) = false := by simpa using h1
          have e : fitRole ⟨i, r, k, g⟩ = false := by unfold fitRole; rw [if_neg h1, if_neg h2]
          rw [e]
          clear e
          go_enter Try.func34, Try.ntmps34
          go_wp2
          all_goals
            go_ret
            exact ⟨rfl, (Below.refl _ _).alloc (Nat.le_refl _) _⟩
    · have hm : memOk ⟨i, r, k, g⟩ = false := by simp [memOk, hj]
      rw [hm]
      clear hm
      go_enter Try.func34, Try.ntmps34
      go_wp2
      all_goals
        go_ret
        exact ⟨rfl, (Below.refl _ _).alloc (Nat.le_refl _) _⟩
  · have hm : memOk ⟨i, r, k, g⟩ = false := by simp [memOk, hi]
    rw [hm]
    clear hm
    go_enter Try.func34, Try.ntmps34
    go_wp2
    all_goals
      go_ret
      exact ⟨rfl, (Below.refl _ _).alloc (Nat.le_refl _) _⟩
theorem below_drew' {B : Nat} {a w : World} (h : Below B a w) : Below B a w.drew := ⟨h.os, h.tape, h.output, h.size, h.block⟩
theorem fitRole_w {m : Mem} (h : fitRole m = true) : 0 ≤ m.weight ∧ m.weight ≤ 1000 := by
  unfold fitRole at h
  split at h
  · simp at h; omega
  · split at h
    · simp at h; omega
    · simp at h
theorem fitAll_w : ∀ (l : List Mem) (last : Int), fitAll last l = true → ∀ m ∈ l, 0 ≤ m.weight ∧ m.weight ≤ 1000
  | [], _, _, m, hm => by simp at hm
  | x :: l, last, h, m, hm => by
    simp only [fitAll, fitOne, Bool.and_eq_true] at h
    rcases List.mem_cons.1 hm with rfl | hm
    · exact fitRole_w h.1.2
    · exact fitAll_w l x.id h.2 m hm
theorem heavy_sum : ∀ (l : List Mem), (∀ m ∈ l, 0 ≤ m.weight) → (heavy l = true ↔ wsum (fun _ => true) l ≠ 0)
  | [], _ => by simp [heavy, wsum]
  | x :: l, h => by
    have h1 := heavy_sum l (fun m hm => h m (List.mem_cons_of_mem _ hm))
    have h2 := wsum_nonneg (fun _ => true) l (fun m hm => h m (List.mem_cons_of_mem _ hm))
    have h3 := h x List.mem_cons_self
    have h4 : heavy (x :: l) = (decide (0 < x.weight) || heavy l) := by simp [heavy]
    have h5 : wsum (fun _ => true) (x :: l) = x.weight + wsum (fun _ => true) l := by simp [wsum]
    rw [h4, h5]
    simp only [Bool.or_eq_true, decide_eq_true_eq, h1]
    omega
theorem last_nonneg : ∀ (a : List Mem) (last : Int), 0 ≤ last → fitAll last a = true → 0 ≤ lastId last a
  | [], _, h, _ => h
  | x :: a, last, h, hf => by
    simp only [fitAll, fitOne, Bool.and_eq_true, decide_eq_true_eq] at hf
    exact last_nonneg a x.id (by omega) hf.2
theorem fit_zero (m : Mem) : fitOne (lastId 0 []) m = memOk m := by
  have : (0 < m.id) ↔ (1 ≤ m.id) := by omega
  simp only [lastId, fitOne, memOk, this]
theorem fit_more {l : List Mem} {k : Nat} (h : k + 1 < l.length) (hf : fitAll 0 (l.take (k + 1)) = true) (m : Mem) : fitOne (lastId 0 (l.take (k + 1))) m = (memOk m && decide ((l[k]'(by omega)).id < m.id)) := by
  have ht := take_snoc (l := l) (k := k) (by omega)
  rw [ht] at hf
  rw [ht, lastId_snoc]
  have := fitAll_mid (l.take k) 0 (l[k]'(by omega)) []
  rw [this] at hf
  simp only [fitOne, Bool.and_eq_true, decide_eq_true_eq] at hf
  have h0 := last_nonneg _ 0 (by omega) hf.1
  simp only [fitOne, memOk]
  rw [Bool.eq_iff_iff]
  simp only [Bool.and_eq_true, decide_eq_true_eq]
  constructor
  · rintro ⟨⟨a, b⟩, c⟩
    exact ⟨⟨⟨by omega, b⟩, c⟩, a⟩
  · rintro ⟨⟨⟨_, b⟩, c⟩, a⟩
    exact ⟨⟨a, b⟩, c⟩
theorem fit_bad {l : List Mem} {k : Nat} (h : k < l.length) (hf : fitOne (lastId 0 (l.take k)) (l[k]'h) = false) : fitAll 0 l = false := by
  rw [split_at h, fitAll_mid, hf]; simp
theorem fit_next {l : List Mem} {k : Nat} (h : k < l.length) (h0 : fitAll 0 (l.take k) = true) (hf : fitOne (lastId 0 (l.take k)) (l[k]'h) = true) : fitAll 0 (l.take (k + 1)) = true := by
  rw [take_snoc h, fitAll_mid, h0, hf]; rfl
theorem chk_bad {ver : Int} {l : List Mem} (h7 : ¬ 7 < l.length) (h : fitAll 0 l = false) : chk ver l = 140 := by
  simp [chk, h7, mayB, h]
theorem chk_end {ver : Int} {l : List Mem} (h7 : ¬ 7 < l.length) (h : fitAll 0 l = true) : chk ver l = if wsum (fun _ => true) l = 0 ∨ ver < 0 ∨ 4611686018427387904 < ver then 140 else 0 := by
  have hh := heavy_sum l (fun m hm => (fitAll_w l 0 h m hm).1)
  by_cases h1 : wsum (fun _ => true) l = 0
  · have : heavy l = false := by
      cases hv : heavy l with
      | false => rfl
      | true => exact absurd h1 (hh.1 hv)
    rw [if_pos (.inl h1)]
    simp [chk, h7, mayB, h, this]
  · have hv := hh.2 h1
    by_cases h2 : ver < 0
    · rw [if_pos (.inr (.inl h2))]
      simp [chk, h7, mayB, show ¬ 0 ≤ ver by omega]
    · by_cases h3 : 4611686018427387904 < ver
      · rw [if_pos (.inr (.inr h3))]
        simp [chk, h7, mayB, show ¬ ver ≤ 4611686018427387904 by omega]
      · rw [if_neg (by omega)]
        simp [chk, h7, mayB, h, hv, show 0 ≤ ver by omega, show ver ≤ 4611686018427387904 by omega]
theorem sum_snoc (a : List Mem) (m : Mem) : wsum (fun _ => true) (a ++ [m]) = wsum (fun _ => true) a + m.weight := by
  rw [wsum_snoc]; simp
end Go.Proofs.Ytohhbhkpekieiaa
