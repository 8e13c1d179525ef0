/- Contracts of beadlekit's functions on members that are lent. The walks of the document's writer. The walks of the document's configs as bytes: Write, Put. -/
import Derived.Test.YtaeoafedfgbcaaaGreatDoorEnsE
import Derived.Deep.DeepAppendRoom
import Derived.Laws.AppendOwnNone
import Derived.Deep.RegionHeld3
import Derived.Deep.DrawnRows
import Derived.Lib.QuietBelow
import Derived.BigQuiet
import Derived.Lib.AppendStr
import Derived.Test.YtaeoafedfgbcaaaGreatDoorWalksS
namespace Go.Proofs.YtaeoafedfgbcaaaGreatDoor
set_option linter.unusedSimpArgs false
open Go.RowKit

theorem addP (b o j : Nat) : (⟨b, o, none⟩ : Addr).add j = ⟨b, o + j, none⟩ := by simp only [Addr.add]; split <;> simp_all
def mkM (i : Int) : Mem := ⟨8000024 + i, 0, 0, 0⟩
/- The marks behind a list that is lent. -/
def marksM (k : Nat) : List Mem := (List.range k).map fun (i : Nat) => mkM i
theorem marksM_len (k : Nat) : (marksM k).length = k := by simp [marksM]
theorem marksM_succ (k : Nat) : marksM (k + 1) = marksM k ++ [mkM k] := by simp [marksM, List.range_succ]
theorem marksM_map (l : List Mem) (k : Nat) : mvs (l ++ marksM k) ++ [.int .i64 (8000024 + (k : Int)), .int .u8 0, .int .i64 0, .int .i64 0] = mvs (l ++ marksM (k + 1)) := by
  rw [marksM_succ, ← List.append_assoc, mvs_app (l ++ marksM k)]; rfl
theorem mvs_one : ∀ l, ∀ u ∈ mvs l, u.oneCell' = true
  | [], u, h => by simp [mvs] at h
  | m :: l, u, h => by
    simp only [mvs, List.mem_cons] at h
    rcases h with rfl | rfl | rfl | rfl | h
    · rfl
    · rfl
    · rfl
    · rfl
    · exact mvs_one l u h
theorem mvs_news {w : World} {b o : Nat} {l : List Mem} (h : ∀ j (h : j < l.length), w.cell? ⟨b, o + j * 4, none⟩ = some (.int .i64 (l[j]'h).id) ∧ w.cell? ⟨b, o + j * 4 + 1, none⟩ = some (.int .u8 (l[j]'h).role) ∧ w.cell? ⟨b, o + j * 4 + 2, none⟩ = some (.int .i64 (l[j]'h).weight) ∧ w.cell? ⟨b, o + j * 4 + 3, none⟩ = some (.int .i64 (l[j]'h).group)) :
    ∀ j u, (mvs l)[j]? = some u → w.cell? ((⟨b, o, none⟩ : Addr).add j) = some u := by
  intro j u hu
  have hjl : j < (mvs l).length := (List.getElem?_eq_some_iff.1 hu).1
  rw [mvs_len] at hjl
  have hq : j / 4 < l.length := by omega
  obtain ⟨c0, c1, c2, c3⟩ := h (j / 4) hq
  obtain ⟨m0, m1, m2, m3⟩ := mvs_at l (j / 4) hq
  rw [addP]
  have hr : j % 4 = 0 ∨ j % 4 = 1 ∨ j % 4 = 2 ∨ j % 4 = 3 := by omega
  rcases hr with hr | hr | hr | hr
  · rw [show j = j / 4 * 4 by omega, m0] at hu; cases hu
    rw [show o + j = o + j / 4 * 4 by omega]; exact c0
  · rw [show j = j / 4 * 4 + 1 by omega, m1] at hu; cases hu
    rw [show o + j = o + j / 4 * 4 + 1 by omega]; exact c1
  · rw [show j = j / 4 * 4 + 2 by omega, m2] at hu; cases hu
    rw [show o + j = o + j / 4 * 4 + 2 by omega]; exact c2
  · rw [show j = j / 4 * 4 + 3 by omega, m3] at hu; cases hu
    rw [show o + j = o + j / 4 * 4 + 3 by omega]; exact c3
theorem grown_none {a b c : World} {g : Nat} (h : a.grownBy b none) (k : b.grownBy c (some g)) (hg : a.heap.size ≤ g) : a.grownBy c none :=
  ⟨k.os.trans h.os, k.tape.trans h.tape, k.output.trans h.output, Nat.le_trans h.size k.size, fun x hx _ => (k.block x (Nat.lt_of_lt_of_le hx h.size) (by simp; omega)).trans (h.block x hx (by simp))⟩
theorem below_of_grown {a b : World} (h : a.grownBy b none) : Below a.heap.size a b := ⟨h.os, h.tape, h.output, h.size, fun k hk => h.block k hk (by simp)⟩
theorem grown_of_below {a b : World} (h : Below a.heap.size a b) : a.grownBy b none := ⟨h.os, h.tape, h.output, h.size, fun k hk _ => h.block k hk⟩
theorem grown_trans {a b c : World} (h : a.grownBy b none) (k : Below b.heap.size b c) : a.grownBy c none :=
  ⟨k.os.trans h.os, k.tape.trans h.tape, k.output.trans h.output, Nat.le_trans h.size k.size, fun x hx _ => (k.block x (Nat.lt_of_lt_of_le hx h.size)).trans (h.block x hx (by simp))⟩
theorem owns_below {w w' : World} {base e size n : Nat} {v : Value} {xs : List Value} (h : w.ownsRow base e size v n xs) (hc : Below w.heap.size w w') : w'.ownsRow base e size v n xs := owns_keep h (Chg.of_below hc) (fun _ _ => id)
theorem four_new (w : World) (x0 x1 x2 x3 : Value) (t : TypeId) : ∀ j u, [x0, x1, x2, x3][j]? = some u → (w.alloc (.cells #[x0, x1, x2, x3] t)).cell? ((⟨w.heap.size, 0, none⟩ : Addr).add j) = some u := by
  intro j u hj
  rw [addP, cell_at (heap_alloc_new w _)]
  simp only [Nat.zero_add]
  rw [List.getElem?_toArray]
  exact hj

/- What is lent: the members, with twelve marks behind their end. -/
def LentM (w : World) (g : Nat) (l : List Mem) : Prop := w.heap[g]? = some (.cells (mvs (l ++ marksM 12)).toArray 118 (0, 0))
theorem lentM_of {w : World} {base g n : Nat} {l : List Mem} (_hn : l.length = n) (h : w.ownsRow base 118 4 (.slice (some ⟨g, 0, none⟩) (n + 12) (n + 12)) (n + 12) (mvs (l ++ marksM 12))) : LentM w g l := by
  rcases h.2 with ⟨h0, _⟩ | ⟨g', cap, cur, hv, hb, hg, hnc, hcm, hcs, ht⟩
  · cases h0
  · cases hv
    rw [List.take_of_length_le (by simp; omega)] at ht
    unfold LentM
    rw [← ht, hg]
theorem LentM.below {w w' : World} {g : Nat} {l : List Mem} (h : LentM w g l) (hb : Below w.heap.size w w') : LentM w' g l := by
  unfold LentM at *
  rw [hb.block g (heap_lt h)]; exact h
theorem LentM.cells {w : World} {g : Nat} {l : List Mem} (h : LentM w g l) (j : Nat) (hj : j < (l ++ marksM 12).length) :
    w.cell? ⟨g, j * 4, none⟩ = some (.int .i64 ((l ++ marksM 12)[j]'hj).id) ∧ w.cell? ⟨g, j * 4 + 1, none⟩ = some (.int .u8 ((l ++ marksM 12)[j]'hj).role) ∧ w.cell? ⟨g, j * 4 + 2, none⟩ = some (.int .i64 ((l ++ marksM 12)[j]'hj).weight) ∧ w.cell? ⟨g, j * 4 + 3, none⟩ = some (.int .i64 ((l ++ marksM 12)[j]'hj).group) := by
  obtain ⟨m0, m1, m2, m3⟩ := mvs_at (l ++ marksM 12) j hj
  refine ⟨?_, ?_, ?_, ?_⟩
  · rw [cell_at h, List.getElem?_toArray]; exact m0
  · rw [cell_at h, List.getElem?_toArray]; exact m1
  · rw [cell_at h, List.getElem?_toArray]; exact m2
  · rw [cell_at h, List.getElem?_toArray]; exact m3
theorem LentM.mems {w : World} {g : Nat} {l : List Mem} (h : LentM w g l) : Mems w (.slice (some ⟨g, 0, none⟩) l.length (l.length + 12)) l := by
  by_cases h0 : 0 < l.length
  · refine .inr (.inr ⟨h0, g, 0, _, rfl, by omega, heap_lt h, fun j hj => ?_⟩)
    have hj' : j < (l ++ marksM 12).length := by rw [List.length_append]; omega
    have := h.cells j hj'
    rw [List.getElem_append_left hj] at this
    rw [Nat.zero_add]
    exact this
  · have : l = [] := List.length_eq_zero_iff.1 (by omega)
    subst this
    exact .inr (.inl ⟨_, _, rfl, rfl⟩)
theorem memEql (w : World) (a b c d a' b' c' d' : Int) : (binOp .eql 118 (.agg #[.int .i64 a, .int .u8 b, .int .i64 c, .int .i64 d]) (.agg #[.int .i64 a', .int .u8 b', .int .i64 c', .int .i64 d'])).run Tryz.prog w = .ok (.bool (decide ((⟨a, b, c, d⟩ : Mem) = ⟨a', b', c', d'⟩))) w := by
  rw [run_eql_struct, memEq]
  rfl
theorem memSelf (w : World) (a b c d : Int) : (binOp .eql 118 (.agg #[.int .i64 a, .int .u8 b, .int .i64 c, .int .i64 d]) (.agg #[.int .i64 a, .int .u8 b, .int .i64 c, .int .i64 d])).run Tryz.prog w = .ok (.bool true) w := by
  rw [memEql]; simp

end Go.Proofs.YtaeoafedfgbcaaaGreatDoor
/- The contracts of KeptMembers and of the config that is lent: what was lent is as it was. -/
namespace Go.Proofs.YtaeoafedfgbcaaaGreatDoor
set_option linter.unusedSimpArgs false
open Go.RowKit Go.Sort

theorem below_rg {w w' : World} (h : Below w.heap.size w w') (d : Nat) (os : Array Obj) : Below w.heap.size w (grow (redrawn w' d) os) := h.trans ((below_regrown w' d os).mono h.size)
end Go.Proofs.YtaeoafedfgbcaaaGreatDoor
/- The walks of the document's configs: one member, whether a config may be, who is found, who votes. -/
namespace Go.Proofs.YtaeoafedfgbcaaaGreatDoor
set_option linter.unusedSimpArgs false
open Go.RowKit

def memOk (m : Mem) : Bool := decide (1 ≤ m.id) && decide (m.id ≤ 7) && fitRole m
theorem beq0 (z : Int) : (z == 0) = decide (z = 0) := by rw [Bool.eq_iff_iff]; simp
set_option maxHeartbeats 1000000 in
theorem rf4member_any (w : World) (i r k g : Int) :
    Calls Tryz.prog 88 #[.agg #[.int .i64 i, .int .u8 r, .int .i64 k, .int .i64 g]] w fun e w' => e = .returned (.bool (memOk ⟨i, r, k, g⟩)) ∧ Below w.heap.size w w' := by
  by_cases hi : 1 ≤ i
  · by_cases hj : i ≤ 7
    · have hm : memOk ⟨i, r, k, g⟩ = fitRole ⟨i, r, k, g⟩ := by simp [memOk, hi, hj]
      rw [hm]
      clear hm
      by_cases h2 : r = 2
      · have e : fitRole ⟨i, r, k, g⟩ = (decide (k = 0) && decide (g = 0)) := by subst h2; simp [fitRole]
        rw [e]
        subst h2
        clear e
        by_cases hk : k = 0
        · subst hk
          go_enter Tryz.func88, Tryz.ntmps88
          go_wp2
          all_goals
            go_ret
            exact ⟨ret_b (by simp [beq0]), (Below.refl _ _).alloc (Nat.le_refl _) _⟩
        · have hkb : (k == 0) = false := by simpa using hk
          go_enter Tryz.func88, Tryz.ntmps88
          go_wp2
          all_goals
            go_ret
            exact ⟨ret_b (by simp [hk]), (Below.refl _ _).alloc (Nat.le_refl _) _⟩
      · have h2b : (r == 2) = false := by simpa using h2
        by_cases h1 : r = 1
        · have e : fitRole ⟨i, r, k, g⟩ = (decide (0 ≤ k) && decide (k ≤ 1000) && decide (0 ≤ g) && decide (g < 7)) := by unfold fitRole; rw [if_pos h1]
          rw [e]
          subst h1
          clear e h2 h2b
          go_enter Tryz.func88, Tryz.ntmps88
          go_wp2
          all_goals
            go_ret
            exact ⟨ret_b (by simp <;> omega), (Below.refl _ _).alloc (Nat.le_refl _) _⟩
        · have h1b : (r == 1) = false := by simpa using h1
          have e : fitRole ⟨i, r, k, g⟩ = false := by unfold fitRole; rw [if_neg h1, if_neg h2]
          rw [e]
          clear e
          go_enter Tryz.func88, Tryz.ntmps88
          go_wp2
          all_goals
            go_ret
            exact ⟨rfl, (Below.refl _ _).alloc (Nat.le_refl _) _⟩
    · have hm : memOk ⟨i, r, k, g⟩ = false := by simp [memOk, hj]
      rw [hm]
      clear hm
      go_enter Tryz.func88, Tryz.ntmps88
      go_wp2
      all_goals
        go_ret
        exact ⟨rfl, (Below.refl _ _).alloc (Nat.le_refl _) _⟩
  · have hm : memOk ⟨i, r, k, g⟩ = false := by simp [memOk, hi]
    rw [hm]
    clear hm
    go_enter Tryz.func88, Tryz.ntmps88
    go_wp2
    all_goals
      go_ret
      exact ⟨rfl, (Below.refl _ _).alloc (Nat.le_refl _) _⟩
theorem below_drew' {B : Nat} {a w : World} (h : Below B a w) : Below B a w.drew := ⟨h.os, h.tape, h.output, h.size, h.block⟩
theorem fitRole_w {m : Mem} (h : fitRole m = true) : 0 ≤ m.weight ∧ m.weight ≤ 1000 := by
  unfold fitRole at h
  split at h
  · simp at h; omega
  · split at h
    · simp at h; omega
    · simp at h
theorem fitAll_w : ∀ (l : List Mem) (last : Int), fitAll last l = true → ∀ m ∈ l, 0 ≤ m.weight ∧ m.weight ≤ 1000
  | [], _, _, m, hm => by simp at hm
  | x :: l, last, h, m, hm => by
    simp only [fitAll, fitOne, Bool.and_eq_true] at h
    rcases List.mem_cons.1 hm with rfl | hm
    · exact fitRole_w h.1.2
    · exact fitAll_w l x.id h.2 m hm
theorem heavy_sum : ∀ (l : List Mem), (∀ m ∈ l, 0 ≤ m.weight) → (heavy l = true ↔ wsum (fun _ => true) l ≠ 0)
  | [], _ => by simp [heavy, wsum]
  | x :: l, h => by
    have h1 := heavy_sum l (fun m hm => h m (List.mem_cons_of_mem _ hm))
    have h2 := wsum_nonneg (fun _ => true) l (fun m hm => h m (List.mem_cons_of_mem _ hm))
    have h3 := h x List.mem_cons_self
    have h4 : heavy (x :: l) = (decide (0 < x.weight) || heavy l) := by simp [heavy]
    have h5 : wsum (fun _ => true) (x :: l) = x.weight + wsum (fun _ => true) l := by simp [wsum]
    rw [h4, h5]
    simp only [Bool.or_eq_true, decide_eq_true_eq, h1]
    omega
theorem last_nonneg : ∀ (a : List Mem) (last : Int), 0 ≤ last → fitAll last a = true → 0 ≤ lastId last a
  | [], _, h, _ => h
  | x :: a, last, h, hf => by
    simp only [fitAll, fitOne, Bool.and_eq_true, decide_eq_true_eq] at hf
    exact last_nonneg a x.id (by omega) hf.2
theorem fit_zero (m : Mem) : fitOne (lastId 0 []) m = memOk m := by
  have : (0 < m.id) ↔ (1 ≤ m.id) := by omega
  simp only [lastId, fitOne, memOk, this]
theorem fit_more {l : List Mem} {k : Nat} (h : k + 1 < l.length) (hf : fitAll 0 (l.take (k + 1)) = true) (m : Mem) : fitOne (lastId 0 (l.take (k + 1))) m = (memOk m && decide ((l[k]'(by omega)).id < m.id)) := by
  have ht := take_snoc (l := l) (k := k) (by omega)
  rw [ht] at hf
  rw [ht, lastId_snoc]
  have := fitAll_mid (l.take k) 0 (l[k]'(by omega)) []
  rw [this] at hf
  simp only [fitOne, Bool.and_eq_true, decide_eq_true_eq] at hf
  have h0 := last_nonneg _ 0 (by omega) hf.1
  simp only [fitOne, memOk]
  rw [Bool.eq_iff_iff]
  simp only [Bool.and_eq_true, decide_eq_true_eq]
  constructor
  · rintro ⟨⟨a, b⟩, c⟩
    exact ⟨⟨⟨by omega, b⟩, c⟩, a⟩
  · rintro ⟨⟨⟨_, b⟩, c⟩, a⟩
    exact ⟨⟨a, b⟩, c⟩
theorem fit_bad {l : List Mem} {k : Nat} (h : k < l.length) (hf : fitOne (lastId 0 (l.take k)) (l[k]'h) = false) : fitAll 0 l = false := by
  rw [split_at h, fitAll_mid, hf]; simp
theorem fit_next {l : List Mem} {k : Nat} (h : k < l.length) (h0 : fitAll 0 (l.take k) = true) (hf : fitOne (lastId 0 (l.take k)) (l[k]'h) = true) : fitAll 0 (l.take (k + 1)) = true := by
  rw [take_snoc h, fitAll_mid, h0, hf]; rfl
theorem chk_bad {ver : Int} {l : List Mem} (h7 : ¬ 7 < l.length) (h : fitAll 0 l = false) : chk ver l = 140 := by
  simp [chk, h7, mayB, h]
theorem chk_end {ver : Int} {l : List Mem} (h7 : ¬ 7 < l.length) (h : fitAll 0 l = true) : chk ver l = if wsum (fun _ => true) l = 0 ∨ ver < 0 ∨ 4611686018427387904 < ver then 140 else 0 := by
  have hh := heavy_sum l (fun m hm => (fitAll_w l 0 h m hm).1)
  by_cases h1 : wsum (fun _ => true) l = 0
  · have : heavy l = false := by
      cases hv : heavy l with
      | false => rfl
      | true => exact absurd h1 (hh.1 hv)
    rw [if_pos (.inl h1)]
    simp [chk, h7, mayB, h, this]
  · have hv := hh.2 h1
    by_cases h2 : ver < 0
    · rw [if_pos (.inr (.inl h2))]
      simp [chk, h7, mayB, show ¬ 0 ≤ ver by omega]
    · by_cases h3 : 4611686018427387904 < ver
      · rw [if_pos (.inr (.inr h3))]
        simp [chk, h7, mayB, show ¬ ver ≤ 4611686018427387904 by omega]
      · rw [if_neg (by omega)]
        simp [chk, h7, mayB, h, hv, show 0 ≤ ver by omega, show ver ≤ 4611686018427387904 by omega]
theorem sum_snoc (a : List Mem) (m : Mem) : wsum (fun _ => true) (a ++ [m]) = wsum (fun _ => true) a + m.weight := by
  rw [wsum_snoc]; simp
end Go.Proofs.YtaeoafedfgbcaaaGreatDoor
/- The document's config: the walk of Check. -/
namespace Go.Proofs.YtaeoafedfgbcaaaGreatDoor
set_option linter.unusedSimpArgs false
open Go.RowKit Go.Sort
set_option linter.unusedSimpArgs false
set_option maxRecDepth 100000 in
set_option maxHeartbeats 4000000 in
theorem rf4Check_any {w : World} {v : Value} {l : List Mem} (h : Mems w v l) (ver : Int) :
    Calls Tryz.prog 71 #[.agg #[.int .i64 ver, v]] w fun e w' => e = .returned (.int .i64 (chk ver l)) ∧ Below w.heap.size w w' := by
  have HM : Hid (Mems w v l) := h
  obtain ⟨A, C, rfl⟩ := h.form
  clear h
  by_cases h7 : 7 < l.length
  · have h7' : (7 : Int) < l.length := by omega
    rw [show chk ver l = 3 by simp [chk, h7]]
    go_enter Tryz.func71, Tryz.ntmps71
    go_wp2
    go_ret
    exact ⟨rfl, (Below.refl _ _).alloc (Nat.le_refl _) _⟩
  · have h7' : ¬ (7 : Int) < l.length := by omega
    generalize hK : chk ver l = K
    have HK : Hid (chk ver l = K) := hK
    clear hK
    go_enter Tryz.func71, Tryz.ntmps71
    go_wp2_with fail
    go_loopw [3, 4] (fun wt i wr => ∃ k : Nat, i = .int .i64 k ∧ k ≤ l.length ∧ wt = .int .i64 (wsum (fun _ => true) (l.take k)) ∧ fitAll 0 (l.take k) = true ∧ wr.heap[w.heap.size]? = some (.cells #[.int .i64 ver, .slice A l.length C] 39 (0, 0)) ∧ Below w.heap.size w wr) (fun _ i _ => l.length - (intOf i).toNat)
    case atStart =>
      exact ⟨0, rfl, by omega, rfl, rfl, heap_alloc_new w _, (Below.refl _ _).alloc (Nat.le_refl _) _⟩
    case round =>
      obtain ⟨k, rfl, hk, rfl, hfit, hc, hB⟩ := hrel
      have HB : Hid (Below w.heap.size w wr) := hB
      have HC : Hid (wr.heap[w.heap.size]? = some (.cells #[.int .i64 ver, .slice A l.length C] 39 (0, 0))) := hc
      have HFT : Hid (fitAll 0 (l.take k) = true) := hfit
      have hlt1 := heap_lt hc
      have z0 : wr.cell? ⟨w.heap.size, 0, none⟩ = some (.int .i64 ver) := by rw [cell_at hc]; rfl
      have z1 : wr.cell? ⟨w.heap.size, 1, none⟩ = some (.slice A l.length C) := by rw [cell_at hc]; rfl
      clear hB hc hfit
      by_cases hlt : k < l.length
      · obtain ⟨b, o, rfl, hb, c0, c1, c2, c3⟩ := (HM.out.below' HB.out).at' k hlt
        have HF1 : Hid (fitOne (lastId 0 (l.take k)) (l[k]'hlt) = false → K = 140) := fun he => HK.out.symm.trans (chk_bad h7 (fit_bad hlt he))
        have HF2 : Hid (fitOne (lastId 0 (l.take k)) (l[k]'hlt) = true → fitAll 0 (l.take (k + 1)) = true) := fun he => fit_next hlt HFT.out he
        have HSN : Hid (wsum (fun _ => true) (l.take (k + 1)) = wsum (fun _ => true) (l.take k) + (l[k]'hlt).weight) := by show _ = _; rw [take_snoc hlt, sum_snoc]
        have hwb := wsum_bd (fun _ => true) (l.take k) (fitAll_w _ 0 HFT.out)
        have htl : (l.take k).length = k := by rw [List.length_take]; omega
        rw [htl] at hwb
        have hmw : memOk (l[k]'hlt) = true → 0 ≤ (l[k]'hlt).weight ∧ (l[k]'hlt).weight ≤ 1000 := fun he => fitRole_w (by simp only [memOk, Bool.and_eq_true] at he; exact he.2)
        have HPREV : Hid (∀ j : Nat, k = j + 1 → ∃ p : Int, wr.cell? ⟨b, o + j * 4, none⟩ = some (.int .i64 p) ∧ fitOne (lastId 0 (l.take k)) (l[k]'hlt) = (memOk (l[k]'hlt) && decide (p < (l[k]'hlt).id))) := by
          intro j hj
          subst hj
          obtain ⟨b', o', he, _, d0, _⟩ := (HM.out.below' HB.out).at' j (by omega)
          cases he
          exact ⟨_, d0, fit_more hlt HFT.out _⟩
        have HZ : Hid (k = 0 → fitOne (lastId 0 (l.take k)) (l[k]'hlt) = memOk (l[k]'hlt)) := by
          intro hj
          subst hj
          exact fit_zero _
        generalize wsum (fun _ => true) (l.take k) = W at *
        generalize fitOne (lastId 0 (l.take k)) (l[k]'hlt) = FO at HF1 HF2 HPREV HZ
        generalize (l[k]'hlt) = m at c0 c1 c2 c3 HSN hmw HPREV HZ
        obtain ⟨mi, mr, mw, mg⟩ := m
        dsimp only at c0 c1 c2 c3 hmw HSN HPREV
        have mQ := fun d os => Calls.regrown_of (rf4member_any (grow (redrawn wr d) os) mi mr mw mg)
        generalize memOk ⟨mi, mr, mw, mg⟩ = MO at hmw mQ HPREV HZ
        have y1 := fun d os => cell_regrown z1 d os
        clear htl z0
        rcases Nat.eq_zero_or_pos k with hk0 | hkp
        · have HZ0 : Hid (FO = MO) := HZ.out hk0
          clear HPREV HZ
          subst hk0
          simp only [Nat.zero_mul, Nat.add_zero] at c0 c1 c2 c3
          have e0 := fun d os => cell_regrown c0 d os
          have e1 := fun d os => cell_regrown c1 d os
          have e2 := fun d os => cell_regrown c2 d os
          have e3 := fun d os => cell_regrown c3 d os
          clear c0 c1 c2 c3
          cases MO with
          | false =>
            obtain rfl : K = 140 := HF1.out HZ0.out
            clear HF1 HF2 hmw hwb
            go_wp2_with fail
            refine wp_region_quiet_below (by kernel_rfl) (by kernel_rfl) ?_
            repeat (go_big_quiet_step ((go_at_call 88; exact mQ _ _)))
            refine wpQuiet_nil ?_
            intro _ hw'
            obtain ⟨⟨dq, osq⟩, hw''⟩ := hw'
            subst hw''
            go_wp2
            go_ret
            exact ⟨rfl, below_rg HB.out dq osq⟩
          | true =>
            obtain ⟨g1, g2⟩ := hmw rfl
            have HF3 : Hid (fitAll 0 (l.take (0 + 1)) = true) := HF2.out HZ0.out
            clear HF1 HF2 hmw
            go_wp2_with fail
            refine wp_region_quiet_below (by kernel_rfl) (by kernel_rfl) ?_
            repeat (go_big_quiet_step ((go_at_call 88; exact mQ _ _)))
            refine wpQuiet_nil ?_
            intro _ hw'
            obtain ⟨⟨dq, osq⟩, hw''⟩ := hw'
            subst hw''
            have hB3 := below_rg HB.out dq osq
            have HC3 : Hid ((grow (redrawn wr dq) osq).heap[w.heap.size]? = some (.cells #[.int .i64 ver, .slice (some ⟨b, o, none⟩) l.length C] 39 (0, 0))) := by show _ = _; rw [(below_regrown wr dq osq).block _ hlt1]; exact HC.out
            go_wp2
            exact ⟨⟨0 + 1, by go_num, by omega, by rw [HSN.out], HF3.out, HC3.out, hB3⟩, by simp [intOf]; omega⟩
        · obtain ⟨j, hj⟩ : ∃ j, k = j + 1 := ⟨k - 1, by omega⟩
          obtain ⟨p, d0, hp⟩ := HPREV.out j hj
          have HP : Hid (FO = (MO && decide (p < mi))) := hp
          have hkp' : (0 : Int) < k := by omega
          have hjk : (k : Int) - 1 = (j : Int) := by omega
          have hjl : j < l.length := by omega
          have HJ : Hid (k = j + 1) := hj
          clear hj hp HPREV HZ
          have e0 := fun d os => cell_regrown c0 d os
          have e1 := fun d os => cell_regrown c1 d os
          have e2 := fun d os => cell_regrown c2 d os
          have e3 := fun d os => cell_regrown c3 d os
          have e4 := fun d os => cell_regrown d0 d os
          clear c0 c1 c2 c3 d0
          cases MO with
          | false =>
            obtain rfl : K = 140 := HF1.out (by rw [HP.out]; rfl)
            clear HF1 HF2 hmw hwb
            go_wp2_with fail
            refine wp_region_quiet_below (by kernel_rfl) (by kernel_rfl) ?_
            repeat (go_big_quiet_step ((go_at_call 88; exact mQ _ _)))
            refine wpQuiet_nil ?_
            intro _ hw'
            obtain ⟨⟨dq, osq⟩, hw''⟩ := hw'
            subst hw''
            go_wp2
            go_ret
            exact ⟨rfl, below_rg HB.out dq osq⟩
          | true =>
            obtain ⟨g1, g2⟩ := hmw rfl
            by_cases hlp : p < mi
            · have HF3 : Hid (fitAll 0 (l.take (k + 1)) = true) := HF2.out (by rw [HP.out]; simp [hlp])
              have hlp' : ¬ mi ≤ p := by omega
              clear HF1 HF2 hmw
              go_wp2_with fail
              refine wp_region_quiet_below (by kernel_rfl) (by kernel_rfl) ?_
              repeat (go_big_quiet_step ((go_at_call 88; exact mQ _ _)))
              refine wpQuiet_nil ?_
              intro _ hw'
              obtain ⟨⟨dq, osq⟩, hw''⟩ := hw'
              subst hw''
              have hB3 := below_rg HB.out dq osq
              have HC3 : Hid ((grow (redrawn wr dq) osq).heap[w.heap.size]? = some (.cells #[.int .i64 ver, .slice (some ⟨b, o, none⟩) l.length C] 39 (0, 0))) := by show _ = _; rw [(below_regrown wr dq osq).block _ hlt1]; exact HC.out
              go_wp2
              exact ⟨⟨k + 1, by go_num, by omega, by rw [HSN.out], HF3.out, HC3.out, hB3⟩, by simp [intOf]; omega⟩
            · obtain rfl : K = 140 := HF1.out (by rw [HP.out]; simp [hlp])
              have hlp' : mi ≤ p := by omega
              clear HF1 HF2 hmw
              go_wp2_with fail
              refine wp_region_quiet_below (by kernel_rfl) (by kernel_rfl) ?_
              repeat (go_big_quiet_step ((go_at_call 88; exact mQ _ _)))
              refine wpQuiet_nil ?_
              intro _ hw'
              obtain ⟨⟨dq, osq⟩, hw''⟩ := hw'
              subst hw''
              go_wp2
              go_ret
              exact ⟨rfl, below_rg HB.out dq osq⟩
      · have hkk : k = l.length := by omega
        subst hkk
        have hce := chk_end (ver := ver) h7 (by have := HFT.out; rwa [List.take_length] at this)
        rw [HK.out] at hce
        rw [List.take_length]
        generalize wsum (fun _ => true) l = W at *
        by_cases hW : W = 0
        · obtain rfl : K = 140 := hce.trans (if_pos (Or.inl hW))
          clear hce
          subst hW
          go_wp2
          go_ret
          exact ⟨rfl, HB.out⟩
        · have hWb : (W == 0) = false := by simpa using hW
          by_cases hv : ver < 0
          · obtain rfl : K = 140 := hce.trans (if_pos (Or.inr (Or.inl hv)))
            clear hce
            go_wp2
            go_ret
            exact ⟨rfl, HB.out⟩
          · by_cases hv2 : 4611686018427387904 < ver
            · obtain rfl : K = 140 := hce.trans (if_pos (Or.inr (Or.inr hv2)))
              clear hce
              go_wp2
              go_ret
              exact ⟨rfl, HB.out⟩
            · obtain rfl : K = 0 := hce.trans (if_neg (by omega))
              clear hce
              go_wp2
              go_ret
              exact ⟨rfl, HB.out⟩
end Go.Proofs.YtaeoafedfgbcaaaGreatDoor

namespace Go.Proofs.YtaeoafedfgbcaaaGreatDoor
open Go.RowKit

theorem owns_al {w : World} {base n : Nat} {v : Value} {xs : List Value} (h : w.ownsRow base 5 1 v n xs) (o : Obj) : (w.alloc o).ownsRow base 5 1 v n xs := by
  refine ⟨h.1, ?_⟩
  rcases h.2 with h | ⟨b, cap, cur, hv, hb, hb2, hr⟩
  · exact .inl h
  · exact .inr ⟨b, cap, cur, hv, hb, (Below.heap_alloc w o b (heap_lt hb2)).trans hb2, hr⟩
theorem row_al {w w1 : World} {base g T : Nat} {tl : List Value} {v v' : Value} {l' : List UInt8} (h1 : w.heap[g]? = some (.cells (v :: tl).toArray T (0, 0))) (hb : base ≤ w.heap.size) (hne : blk v ≠ some g) {o : Obj}
    (hg : (w.alloc o).grownBy w1 (blk v)) {n : Nat} (ho : w1.ownsRow base 5 1 v' n (bv l')) (hat : blk v' = blk v ∨ blk v' = some (w.alloc o).heap.size) :
    RowAt (w1.setCell ⟨g, 0, none⟩ v') base g T tl (blk v') l' ∧ Put g (blk v) w (w1.setCell ⟨g, 0, none⟩ v') (blk v') := by
  have := RowAt.turn ((Below.heap_alloc w o g (heap_lt h1)).trans h1) (by simp; omega) hne hg ho hat
  exact ⟨this.1, (Put.alloc g _ w o).trans this.2⟩
theorem al_le {w : World} {base : Nat} (h : base ≤ w.heap.size) (o : Obj) : base ≤ (w.alloc o).heap.size := by simp; omega
theorem strCells_mkS (s : List UInt8) : Go.Lib.strCells (mkS s) = bv s := by
  simp [Go.Lib.strCells, mkS, bv]
/- A text's bytes behind a row of one's own that is there. -/
theorem app_str {w : World} {base : Nat} {v : Value} {l : List UInt8} {n : Nat} (ty : TypeId) (hown : w.ownsRow base 5 1 v n (bv l)) (s : List UInt8) (hb : base ≤ w.heap.size) (hl : 0 < l.length) (hn : l.length + s.length ≤ 140737488355328) :
    ∃ v' w', (Builtin.append_ #[22, 9] ty #[v, .string (mkS s)]).run Tryz.prog w = .ok v' w' ∧ w'.ownsRow base 5 1 v' (l.length + s.length) (bv (l ++ s)) ∧ w.grownBy w' (blk v) ∧ (blk v' = blk v ∨ blk v' = some w.heap.size) := by
  obtain ⟨i0, hi, hz0, hz1, hz2⟩ := info_parts info5
  have hn' : n = l.length := by have := hown.1; rw [bv_len] at this; omega
  subst hn'
  obtain ⟨v', w', hr, ho, hg, _⟩ := Go.Lib.run_append_own_string (P := Tryz.prog) w base 22 9 ty 5 i0 Tryz.underlying22 Tryz.underlying9 hi hz0 hz1 hz2 v l.length (bv l) hown (mkS s) (by rw [mkS_size]; unfold maxLen; omega) (by rw [mkS_size]; omega) hb
  refine ⟨v', w', hr, ?_, hg, ?_⟩
  · rw [mkS_size, strCells_mkS, ← bv_app] at ho; exact ho
  · rcases hown.2 with ⟨rfl, h0⟩ | ⟨g, cap, cur, rfl, hbg, hgg, hnc, hcm, hcs, htake⟩
    · omega
    · by_cases hroom : l.length + (mkS s).size ≤ cap
      · have hr2 := Go.Lib.run_append_room_string (P := Tryz.prog) w 22 9 ty 5 i0 Tryz.underlying22 Tryz.underlying9 hi hz1 g l.length cap cur hgg (mkS s) hroom (by rw [mkS_size] at *; omega)
        rw [hr] at hr2
        injection hr2 with e1 e2
        exact .inl (by rw [e1]; rfl)
      · have hr2 := Go.Lib.run_append_grow_string (P := Tryz.prog) w 22 9 ty 5 i0 (.int .u8 0) Tryz.underlying22 Tryz.underlying9 hi hz0 ⟨g, 0, none⟩ l.length cap (bv l) (by rw [hz1, bv_len]; omega) (hown.cells (g := g) rfl) (mkS s) (by omega) (by rw [mkS_size] at *; omega) (by rw [hz2]; exact growslice_fits (by omega) (by rw [mkS_size] at *; omega))
        rw [hr] at hr2
        injection hr2 with e1 e2
        exact .inr (by rw [e1]; rfl)
theorem wpList_apps {w : World} {ops : Array Oper} {rest : List Oper} {o : Oper} {a : Act} {Q : Exit → Act → World → Prop} (hgd : o.guard = none) (s x : Operand)
    (ho : o.op = .call { callee := .builtin .append, args := #[s, x], argTypes := #[22, 9] })
    {base n : Nat} (v : Value) {l news : List UInt8} (hs : a.eval s = v) (hxe : a.eval x = .string (mkS news)) (hown : w.ownsRow base 5 1 v n (bv l))
    (hb : base ≤ w.heap.size) (hl : 0 < l.length) (hn : l.length + news.length ≤ 140737488355328)
    (h : ∀ A C w', w'.ownsRow base 5 1 (.slice A (l.length + news.length) C) (l.length + news.length) (bv (l ++ news)) → w.grownBy w' (blk v) → (blk (.slice A (l.length + news.length) C) = blk v ∨ blk (.slice A (l.length + news.length) C) = some w.heap.size) → wpList Tryz.prog ops Q rest (a.put o.dst (.slice A (l.length + news.length) C)) w') :
    wpList Tryz.prog ops Q (o :: rest) a w := by
  refine wpList_plain hgd fun K hK => ?_
  obtain ⟨v', w', hr, h2, h3, h4⟩ := app_str o.type hown news hb hl hn
  unfold Oper.wp execOp
  simp only [ho, resolve, invoke, builtin, Sem.run_bind, Sem.run_pure, Result.andThen_ok, List.map_toArray, List.map_cons, List.map_nil, hs, hxe, hr]
  obtain ⟨A, C, rfl⟩ := owns_form h2
  exact hK _ _ (h A C w' h2 h3 h4)

theorem zw_pos (n : Int) (h0 : 0 ≤ n) (h2 : n < 9223372036854775808) : (zz n : Int) = 2 * n := by
  unfold zz; rw [if_pos h0]; omega
theorem zw_neg (n : Int) (h0 : n < 0) : (zz n : Int) = 2 * (-(n + 1)) + 1 := by
  unfold zz; rw [if_neg (by omega)]; omega
end Go.Proofs.YtaeoafedfgbcaaaGreatDoor

namespace Go.Proofs.YtaeoafedfgbcaaaGreatDoor
open Go.RowKit

theorem blk_lt {w : World} {bx : Nat} {o : Obj} (h : w.heap[bx]? = some o) : bx < w.heap.size := by
  rcases Nat.lt_or_ge bx w.heap.size with h1 | h1
  · exact h1
  · rw [Array.getElem?_eq_none h1] at h; cases h
theorem box_put {w w' : World} {g bx : Nat} {q q' : Option Nat} {o : Obj} (hp : Put g q w w' q') (h : w.heap[bx]? = some o) (hg : g ≠ bx) (hq : q ≠ some bx) : w'.heap[bx]? = some o ∧ q' ≠ some bx := by
  have hlt := blk_lt h
  refine ⟨?_, ?_⟩
  · rw [hp.chg.block bx hlt (by rintro (e | e); exact hg e.symm; exact hq e)]; exact h
  · rcases hp.lies with rfl | ⟨k, rfl, hk⟩
    · exact hq
    · intro e; cases e; omega
theorem box_al {w : World} {bx : Nat} {o : Obj} (h : w.heap[bx]? = some o) (o' : Obj) : (w.alloc o').heap[bx]? = some o := by
  rw [Below.heap_alloc _ _ _ (blk_lt h)]; exact h
end Go.Proofs.YtaeoafedfgbcaaaGreatDoor
