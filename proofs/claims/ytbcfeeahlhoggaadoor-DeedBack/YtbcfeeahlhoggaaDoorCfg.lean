/- Plain mathematics of configs and quorums; no program in this text. -/
import Derived.Below
namespace Go.Proofs.YtbcfeeahlhoggaaDoor

structure Mem where
  id : Int
  role : Int
  weight : Int
  group : Int
deriving DecidableEq

def fitRole (m : Mem) : Bool :=
  if m.role = 1 then decide (0 ≤ m.weight) && decide (m.weight ≤ 1000) && decide (0 ≤ m.group) && decide (m.group < 7)
  else if m.role = 2 then decide (m.weight = 0) && decide (m.group = 0) else false
def fitOne (last : Int) (m : Mem) : Bool := decide (last < m.id) && decide (m.id ≤ 7) && fitRole m
def fitAll : Int → List Mem → Bool
  | _, [] => true
  | last, m :: l => fitOne last m && fitAll m.id l
def heavy (l : List Mem) : Bool := l.any fun m => decide (0 < m.weight)
def mayB (ver : Int) (l : List Mem) : Bool := decide (0 ≤ ver) && decide (ver ≤ 4611686018427387904) && (fitAll 0 l && heavy l)
def chk (ver : Int) (l : List Mem) : Int := if 7 < l.length then 3 else if mayB ver l = true then 0 else 140

/- Weights. -/
def wsum (p : Mem → Bool) : List Mem → Int
  | [] => 0
  | m :: l => (if p m then m.weight else 0) + wsum p l
def whole (l : List Mem) (g : Nat) : Int := wsum (fun m => decide (m.group = (g : Int))) l
def part (ids : List Int) (l : List Mem) (g : Nat) : Int := wsum (fun m => decide (m.group = (g : Int)) && ids.contains m.id) l
def cnt (p : Nat → Bool) : Nat → Nat
  | 0 => 0
  | n + 1 => cnt p n + if p n then 1 else 0
def winsB (wh pt : Nat → Int) : Bool := decide (cnt (fun g => decide (0 < wh g)) 7 < 2 * cnt (fun g => decide (wh g < 2 * pt g)) 7)
def quoB (ver : Int) (l : List Mem) (ids : List Int) : Bool := decide (chk ver l = 0) && winsB (whole l) (part ids l)

theorem cnt_le (p : Nat → Bool) : ∀ n, cnt p n ≤ n
  | 0 => Nat.le_refl _
  | n + 1 => by have := cnt_le p n; simp only [cnt]; split <;> omega
theorem cnt_mono {p q : Nat → Bool} (h : ∀ i, p i = true → q i = true) : ∀ n, cnt p n ≤ cnt q n
  | 0 => Nat.le_refl _
  | n + 1 => by
    have := cnt_mono h n
    simp only [cnt]
    by_cases hp : p n = true
    · rw [if_pos hp, if_pos (h n hp)]; omega
    · rw [if_neg hp]; split <;> omega
/- Two that each hold more than half of some have one in common. -/
theorem cnt_meet {p q r : Nat → Bool} (h1 : ∀ i, p i = true → r i = true) (h2 : ∀ i, q i = true → r i = true) : ∀ n, cnt r n < cnt p n + cnt q n → ∃ i, i < n ∧ p i = true ∧ q i = true
  | 0, h => by simp [cnt] at h
  | n + 1, h => by
    by_cases hb : p n = true ∧ q n = true
    · exact ⟨n, by omega, hb.1, hb.2⟩
    · have hlt : cnt r n < cnt p n + cnt q n := by
        simp only [cnt] at h
        by_cases hp : p n = true
        · have hq : ¬ q n = true := fun e => hb ⟨hp, e⟩
          rw [if_pos hp, if_neg hq, if_pos (h1 n hp)] at h; omega
        · rw [if_neg hp] at h
          by_cases hq : q n = true
          · rw [if_pos hq, if_pos (h2 n hq)] at h; omega
          · rw [if_neg hq] at h; split at h <;> omega
      obtain ⟨i, hi, h3⟩ := cnt_meet h1 h2 n hlt
      exact ⟨i, by omega, h3⟩
theorem wsum_nonneg (p : Mem → Bool) : ∀ (l : List Mem), (∀ m ∈ l, 0 ≤ m.weight) → 0 ≤ wsum p l
  | [], _ => Int.le_refl _
  | m :: l, h => by
    have := wsum_nonneg p l (fun x hx => h x (List.mem_cons_of_mem _ hx))
    have := h m List.mem_cons_self
    simp only [wsum]; split <;> omega
theorem wsum_le {p q : Mem → Bool} (hpq : ∀ m, p m = true → q m = true) : ∀ (l : List Mem), (∀ m ∈ l, 0 ≤ m.weight) → wsum p l ≤ wsum q l
  | [], _ => Int.le_refl _
  | m :: l, h => by
    have h1 := wsum_le hpq l (fun x hx => h x (List.mem_cons_of_mem _ hx))
    have h2 := h m List.mem_cons_self
    simp only [wsum]
    by_cases hp : p m = true
    · rw [if_pos hp, if_pos (hpq m hp)]; omega
    · rw [if_neg hp]; split <;> omega
theorem wsum_meet {p q r : Mem → Bool} (h1 : ∀ m, p m = true → r m = true) (h2 : ∀ m, q m = true → r m = true) : ∀ (l : List Mem), (∀ m ∈ l, 0 ≤ m.weight) → wsum r l < wsum p l + wsum q l → ∃ m ∈ l, 0 < m.weight ∧ p m = true ∧ q m = true
  | [], _, h => by simp [wsum] at h
  | m :: l, hw, h => by
    by_cases hb : 0 < m.weight ∧ p m = true ∧ q m = true
    · exact ⟨m, List.mem_cons_self, hb⟩
    · have hm := hw m List.mem_cons_self
      have hlt : wsum r l < wsum p l + wsum q l := by
        simp only [wsum] at h
        by_cases hp : p m = true
        · rw [if_pos hp, if_pos (h1 m hp)] at h
          by_cases hq : q m = true
          · have : ¬ 0 < m.weight := fun e => hb ⟨e, hp, hq⟩
            rw [if_pos hq] at h; omega
          · rw [if_neg hq] at h; omega
        · rw [if_neg hp] at h
          by_cases hq : q m = true
          · rw [if_pos hq, if_pos (h2 m hq)] at h; omega
          · rw [if_neg hq] at h; split at h <;> omega
      obtain ⟨x, hx, h3⟩ := wsum_meet h1 h2 l (fun x hx => hw x (List.mem_cons_of_mem _ hx)) hlt
      exact ⟨x, List.mem_cons_of_mem _ hx, h3⟩
theorem fitRole_weight {m : Mem} (h : fitRole m = true) : 0 ≤ m.weight ∧ m.weight ≤ 1000 ∧ 0 ≤ m.group ∧ m.group < 7 ∧ (0 < m.weight → m.role = 1) ∧ (m.role = 1 ∨ m.role = 2) := by
  unfold fitRole at h
  split at h
  · next h1 => simp at h; exact ⟨h.1.1.1, h.1.1.2, h.1.2, h.2, fun _ => h1, .inl h1⟩
  · split at h
    · next h1 h2 => simp at h; refine ⟨by omega, by omega, by omega, by omega, fun h3 => by omega, .inr h2⟩
    · cases h
theorem fitAll_mem : ∀ {l : List Mem} {last : Int}, fitAll last l = true → ∀ m ∈ l, fitRole m = true ∧ last < m.id ∧ m.id ≤ 7
  | [], _, _, m, hm => by cases hm
  | x :: l, last, h, m, hm => by
    simp only [fitAll, fitOne, Bool.and_eq_true, decide_eq_true_eq] at h
    rcases List.mem_cons.1 hm with rfl | hm
    · exact ⟨h.1.2, h.1.1.1, h.1.1.2⟩
    · have := fitAll_mem h.2 m hm
      exact ⟨this.1, by omega, this.2.2⟩
theorem chk_ok {ver : Int} {l : List Mem} (h : chk ver l = 0) : l.length ≤ 7 ∧ 0 ≤ ver ∧ ver ≤ 4611686018427387904 ∧ fitAll 0 l = true ∧ heavy l = true := by
  unfold chk at h
  split at h
  · cases h
  · split at h
    · next h1 h2 =>
      simp only [mayB, Bool.and_eq_true, decide_eq_true_eq] at h2
      exact ⟨by omega, h2.1.1, h2.1.2, h2.2.1, h2.2.2⟩
    · cases h
theorem chk_vals (ver : Int) (l : List Mem) : chk ver l = 0 ∨ chk ver l = 3 ∨ chk ver l = 140 := by
  unfold chk; split
  · exact .inr (.inl rfl)
  · split
    · exact .inl rfl
    · exact .inr (.inr rfl)
theorem win_group {ids : List Int} {l : List Mem} (hw : ∀ m ∈ l, 0 ≤ m.weight) (g : Nat) (h : decide (whole l g < 2 * part ids l g) = true) : decide (0 < whole l g) = true := by
  have h1 := of_decide_eq_true h
  have h2 : part ids l g ≤ whole l g := wsum_le (fun m hm => by simp only [Bool.and_eq_true] at hm; exact hm.1) l hw
  have h3 : 0 ≤ whole l g := wsum_nonneg _ l hw
  exact decide_eq_true (by omega)
/- Any two quorums have a voter in common. -/
theorem quo_meet {ver : Int} {l : List Mem} {a b : List Int} (ha : quoB ver l a = true) (hb : quoB ver l b = true) : ∃ m ∈ l, m.role = 1 ∧ 0 < m.weight ∧ a.contains m.id = true ∧ b.contains m.id = true := by
  simp only [quoB, winsB, Bool.and_eq_true, decide_eq_true_eq] at ha hb
  obtain ⟨_, _, _, hf, _⟩ := chk_ok ha.1
  have hw : ∀ m ∈ l, 0 ≤ m.weight := fun m hm => (fitRole_weight (fitAll_mem hf m hm).1).1
  obtain ⟨g, hg, h1, h2⟩ := cnt_meet (win_group hw) (win_group hw) 7 (show cnt _ 7 < cnt (fun g => decide (whole l g < 2 * part a l g)) 7 + cnt (fun g => decide (whole l g < 2 * part b l g)) 7 by omega)
  have h1' := of_decide_eq_true h1
  have h2' := of_decide_eq_true h2
  obtain ⟨m, hm, hp, hq1, hq2⟩ := wsum_meet (p := fun m => decide (m.group = (g : Int)) && a.contains m.id) (q := fun m => decide (m.group = (g : Int)) && b.contains m.id) (r := fun m => decide (m.group = (g : Int)))
    (fun m hm => by simp only [Bool.and_eq_true] at hm; exact hm.1) (fun m hm => by simp only [Bool.and_eq_true] at hm; exact hm.1) l hw (by
      show whole l g < part a l g + part b l g
      omega)
  simp only [Bool.and_eq_true] at hq1 hq2
  exact ⟨m, hm, (fitRole_weight (fitAll_mem hf m hm).1).2.2.2.2.1 hp, hp, hq1.2, hq2.2⟩
theorem wsum_congr {p q : Mem → Bool} : ∀ {l : List Mem}, (∀ m ∈ l, 0 < m.weight → p m = q m) → (∀ m ∈ l, 0 ≤ m.weight) → wsum p l = wsum q l
  | [], _, _ => rfl
  | m :: l, h, hw => by
    have h1 := wsum_congr (l := l) (fun x hx => h x (List.mem_cons_of_mem _ hx)) (fun x hx => hw x (List.mem_cons_of_mem _ hx))
    have hm := hw m List.mem_cons_self
    simp only [wsum, h1]
    by_cases h0 : 0 < m.weight
    · rw [h m List.mem_cons_self h0]
    · have : m.weight = 0 := by omega
      rw [this]; simp
theorem winsB_congr {w1 w2 p1 p2 : Nat → Int} (h1 : ∀ g, w1 g = w2 g) (h2 : ∀ g, p1 g = p2 g) : winsB w1 p1 = winsB w2 p2 := by
  have e1 : w1 = w2 := funext h1
  have e2 : p1 = p2 := funext h2
  rw [e1, e2]
/- What follows of a quorum: with more servers it stays one. -/
theorem quo_more {ver : Int} {l : List Mem} {a b : List Int} (ha : quoB ver l a = true) (hab : ∀ i, a.contains i = true → b.contains i = true) : quoB ver l b = true := by
  simp only [quoB, winsB, Bool.and_eq_true, decide_eq_true_eq] at ha ⊢
  obtain ⟨_, _, _, hf, _⟩ := chk_ok ha.1
  have hw : ∀ m ∈ l, 0 ≤ m.weight := fun m hm => (fitRole_weight (fitAll_mem hf m hm).1).1
  refine ⟨ha.1, ?_⟩
  have := cnt_mono (p := fun g => decide (whole l g < 2 * part a l g)) (q := fun g => decide (whole l g < 2 * part b l g)) (fun g h => by
    have h1 := of_decide_eq_true h
    have h2 : part a l g ≤ part b l g := wsum_le (fun m hm => by simp only [Bool.and_eq_true] at hm ⊢; exact ⟨hm.1, hab _ hm.2⟩) l hw
    exact decide_eq_true (by omega)) 7
  omega
/- Servers that are the same among the voters are a quorum both or none. -/
theorem quo_same {ver : Int} {l : List Mem} {a b : List Int} (h : ∀ m ∈ l, m.role = 1 → a.contains m.id = b.contains m.id) : quoB ver l a = quoB ver l b := by
  by_cases hc : chk ver l = 0
  · obtain ⟨_, _, _, hf, _⟩ := chk_ok hc
    have hw : ∀ m ∈ l, 0 ≤ m.weight := fun m hm => (fitRole_weight (fitAll_mem hf m hm).1).1
    have e : part a l = part b l := funext fun g => wsum_congr (fun m hm h0 => by rw [h m hm ((fitRole_weight (fitAll_mem hf m hm).1).2.2.2.2.1 h0)]) hw
    unfold quoB
    rw [e]
  · unfold quoB
    rw [decide_eq_false hc]; rfl
theorem quo_none (ver : Int) (l : List Mem) : quoB ver l [] = false := by
  by_cases hc : chk ver l = 0
  · obtain ⟨_, _, _, hf, _⟩ := chk_ok hc
    have hw : ∀ m ∈ l, 0 ≤ m.weight := fun m hm => (fitRole_weight (fitAll_mem hf m hm).1).1
    unfold quoB
    rw [decide_eq_true hc, Bool.true_and, winsB]
    refine decide_eq_false ?_
    have h0 : ∀ g, part [] l g = 0 := by
      intro g
      unfold part
      have : ∀ l : List Mem, wsum (fun m => decide (m.group = (g : Int)) && ([] : List Int).contains m.id) l = 0 := by
        intro l
        induction l with
        | nil => rfl
        | cons m l ih => simp [wsum] at ih ⊢; exact ih
      exact this l
    have : cnt (fun g => decide (whole l g < 2 * part [] l g)) 7 = 0 := by
      have h1 : ∀ n, cnt (fun g => decide (whole l g < 2 * part [] l g)) n = 0 := by
        intro n
        induction n with
        | zero => rfl
        | succ n ih =>
          have hn : 0 ≤ whole l n := wsum_nonneg _ l hw
          rw [cnt, ih, h0, if_neg (by simp; omega)]
      exact h1 7
    omega
  · unfold quoB
    rw [decide_eq_false hc]; rfl
theorem heavy_mem {l : List Mem} (h : heavy l = true) : ∃ m ∈ l, 0 < m.weight := by
  unfold heavy at h
  obtain ⟨m, hm, h1⟩ := List.any_eq_true.1 h
  exact ⟨m, hm, of_decide_eq_true h1⟩
theorem wsum_pos {p : Mem → Bool} : ∀ {l : List Mem}, (∀ m ∈ l, 0 ≤ m.weight) → (∃ m ∈ l, 0 < m.weight ∧ p m = true) → 0 < wsum p l
  | [], _, ⟨_, h, _⟩ => by cases h
  | x :: l, hw, ⟨m, hm, h1, h2⟩ => by
    have h3 := wsum_nonneg p l (fun y hy => hw y (List.mem_cons_of_mem _ hy))
    have h4 := hw x List.mem_cons_self
    simp only [wsum]
    rcases List.mem_cons.1 hm with rfl | hm
    · rw [if_pos h2]; omega
    · have := wsum_pos (fun y hy => hw y (List.mem_cons_of_mem _ hy)) ⟨m, hm, h1, h2⟩
      split <;> omega
theorem cnt_pos {p : Nat → Bool} : ∀ {n : Nat} {i : Nat}, i < n → p i = true → 0 < cnt p n
  | 0, _, h, _ => by omega
  | n + 1, i, h, hp => by
    simp only [cnt]
    by_cases e : i = n
    · subst e; rw [if_pos hp]; omega
    · have := cnt_pos (n := n) (i := i) (by omega) hp
      omega
/- All voters together are a quorum. -/
theorem quo_all {ver : Int} {l : List Mem} {v : List Int} (h : ∀ m ∈ l, m.role = 1 → v.contains m.id = true) : quoB ver l v = decide (chk ver l = 0) := by
  by_cases hc : chk ver l = 0
  · obtain ⟨_, _, _, hf, hh⟩ := chk_ok hc
    have hw : ∀ m ∈ l, 0 ≤ m.weight := fun m hm => (fitRole_weight (fitAll_mem hf m hm).1).1
    unfold quoB
    rw [decide_eq_true hc, Bool.true_and, winsB]
    refine decide_eq_true ?_
    have hp : ∀ g, part v l g = whole l g := fun g => wsum_congr (fun m hm h0 => by rw [h m hm ((fitRole_weight (fitAll_mem hf m hm).1).2.2.2.2.1 h0), Bool.and_true]) hw
    have e : (fun g => decide (whole l g < 2 * part v l g)) = (fun g => decide (0 < whole l g)) := by
      funext g
      rw [hp g]
      by_cases h0 : 0 < whole l g
      · rw [decide_eq_true h0, decide_eq_true (by omega)]
      · rw [decide_eq_false h0, decide_eq_false (by omega)]
    rw [e]
    obtain ⟨m, hm, h0⟩ := heavy_mem hh
    have hr := fitRole_weight (fitAll_mem hf m hm).1
    have hg : 0 < whole l m.group.toNat := wsum_pos hw ⟨m, hm, h0, decide_eq_true (by omega)⟩
    have := cnt_pos (p := fun g => decide (0 < whole l g)) (n := 7) (i := m.group.toNat) (by omega) (decide_eq_true hg)
    omega
  · unfold quoB
    rw [decide_eq_false hc]; rfl
end Go.Proofs.YtbcfeeahlhoggaaDoor
