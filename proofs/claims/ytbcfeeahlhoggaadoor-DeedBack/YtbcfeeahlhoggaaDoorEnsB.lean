/- The walks of servers that are there, of weights by groups, and of quorums. -/
import Derived.BigQuiet
import Derived.Deep.QuietTactic
import Derived.Deep.RegionHeld3
import Derived.Test.YtbcfeeahlhoggaaDoorEnsA
namespace Go.Proofs.YtbcfeeahlhoggaaDoor
open Go.RowKit

/- Numbers in memory. -/
def Ns (w : World) (v : Value) (l : List Int) : Prop :=
  (v = .slice none 0 0 ∧ l = []) ∨ (∃ ad c, v = .slice (some ad) 0 c ∧ l = []) ∨ (0 < l.length ∧ ∃ b o c, v = .slice (some ⟨b, o, none⟩) l.length c ∧ l.length ≤ c ∧ b < w.heap.size ∧
    ∀ j (h : j < l.length), w.cell? ⟨b, o + j, none⟩ = some (.int .i64 (l[j]'h)))
theorem Ns.nil (w : World) : Ns w (.slice none 0 0) [] := .inl ⟨rfl, rfl⟩
theorem Ns.form {w : World} {v : Value} {l : List Int} (h : Ns w v l) : ∃ A C, v = .slice A l.length C := by
  rcases h with ⟨rfl, rfl⟩ | ⟨ad, c, rfl, rfl⟩ | ⟨_, b, o, c, rfl, _⟩
  · exact ⟨none, 0, rfl⟩
  · exact ⟨_, _, rfl⟩
  · exact ⟨_, _, rfl⟩
theorem Ns.keep {S : Nat → Prop} {w w' : World} {v : Value} {l : List Int} (h : Ns w v l) (hc : Chg S w w') (hn : ∀ k, bk v = some k → ¬ S k) : Ns w' v l := by
  rcases h with h | h | ⟨h0, b, o, c, rfl, h1, h2, h3⟩
  · exact .inl h
  · exact .inr (.inl h)
  · refine .inr (.inr ⟨h0, b, o, c, rfl, h1, hc.lt_of h2, fun j hj => ?_⟩)
    rw [hc.cell (a := ⟨b, o + j, none⟩) h2 (hn b (bk_pos h0))]
    exact h3 j hj
theorem Ns.lt {w : World} {v : Value} {l : List Int} (h : Ns w v l) {k : Nat} (hk : bk v = some k) : k < w.heap.size := by
  rcases h with ⟨rfl, _⟩ | ⟨ad, c, rfl, _⟩ | ⟨h0, b, o, c, rfl, _, h2, _⟩
  · exact absurd hk (bk_zero _ _ _)
  · exact absurd hk (bk_zero _ _ _)
  · rw [bk_pos h0] at hk; cases hk; exact h2
theorem Ns.below {w w' : World} {B : Nat} {v : Value} {l : List Int} (h : Ns w v l) (hb : Below B w w') (hk : ∀ k, bk v = some k → k < B) : Ns w' v l := by
  rcases h with h | h | ⟨h0, b, o, c, rfl, h1, h2, h3⟩
  · exact .inl h
  · exact .inr (.inl h)
  · refine .inr (.inr ⟨h0, b, o, c, rfl, h1, Nat.lt_of_lt_of_le h2 hb.size, fun j hj => ?_⟩)
    rw [hb.cell (p := ⟨b, o + j, none⟩) (hk b (bk_pos h0))]
    exact h3 j hj
theorem Ns.below' {w w' : World} {v : Value} {l : List Int} (h : Ns w v l) (hb : Below w.heap.size w w') : Ns w' v l := h.below hb (fun _ hk => h.lt hk)
theorem Ns.drew {w : World} {v : Value} {l : List Int} (h : Ns w v l) : Ns w.drew v l := h.keep (Chg.drew Non w) (fun _ _ => id)
theorem Mems.drew {w : World} {v : Value} {l : List Mem} (h : Mems w v l) : Mems w.drew v l := h.keep (Chg.drew Non w) (fun _ _ => id)
theorem Ns.at' {w : World} {A : Option Addr} {n C : Nat} {l : List Int} (h : Ns w (.slice A n C) l) (j : Nat) (hj : j < l.length) : ∃ b o, A = some ⟨b, o, none⟩ ∧ b < w.heap.size ∧ w.cell? ⟨b, o + j, none⟩ = some (.int .i64 (l[j]'hj)) := by
  rcases h with ⟨_, rfl⟩ | ⟨_, _, _, rfl⟩ | ⟨_, b, o, c, he, _, h2, h3⟩
  · simp at hj
  · simp at hj
  · cases he
    exact ⟨b, o, rfl, h2, h3 j hj⟩
/- Which of the servers 1 to 7 are there. -/
def th (l : List Int) (i : Nat) : Bool := decide (0 < i) && l.contains (i : Int)
def thA (l : List Int) : Array Value := #[.bool (th l 0), .bool (th l 1), .bool (th l 2), .bool (th l 3), .bool (th l 4), .bool (th l 5), .bool (th l 6), .bool (th l 7)]
theorem lt8 {P : Nat → Prop} (h0 : P 0) (h1 : P 1) (h2 : P 2) (h3 : P 3) (h4 : P 4) (h5 : P 5) (h6 : P 6) (h7 : P 7) (n : Nat) (hn : n < 8) : P n := by
  have : n = 0 ∨ n = 1 ∨ n = 2 ∨ n = 3 ∨ n = 4 ∨ n = 5 ∨ n = 6 ∨ n = 7 := by omega
  rcases this with rfl | rfl | rfl | rfl | rfl | rfl | rfl | rfl <;> assumption
theorem thA_get (l : List Int) (n : Nat) (hn : n < 8) : (thA l)[n]? = some (.bool (th l n)) := by
  revert hn; exact fun hn => lt8 (P := fun n => (thA l)[n]? = some (.bool (th l n))) rfl rfl rfl rfl rfl rfl rfl rfl n hn
theorem thA_ext {l : List Int} {a : Array Value} (hs : a.size = 8) (h : ∀ n, n < 8 → a[n]? = some (.bool (th l n))) : a = thA l := by
  apply Array.ext_getElem?
  intro i
  by_cases hi : i < 8
  · rw [h i hi, thA_get l i hi]
  · rw [Array.getElem?_eq_none (by omega), Array.getElem?_eq_none (by show 8 ≤ i; omega)]
theorem th_snoc (l : List Int) (x : Int) (i : Nat) : th (l ++ [x]) i = (th l i || (decide (0 < i) && decide ((i : Int) = x))) := by
  unfold th
  rw [Bool.eq_iff_iff]
  simp
  by_cases h : 0 < i <;> simp [h]
theorem thA_set (l : List Int) (n : Nat) (h0 : 0 < n) (hn : n < 8) : (thA l).setIfInBounds n (.bool true) = thA (l ++ [(n : Int)]) := by
  refine thA_ext (by rw [Array.size_setIfInBounds]; rfl) fun i hi => ?_
  rw [Array.getElem?_setIfInBounds, th_snoc]
  by_cases e : n = i
  · subst e
    rw [if_pos rfl, if_pos (by show n < 8; exact hn)]
    simp [h0]
  · rw [if_neg e, thA_get l i hi]
    have : decide ((i : Int) = (n : Int)) = false := decide_eq_false (by omega)
    rw [this]; simp
theorem thA_skip (l : List Int) (x : Int) (h : ¬ (0 < x ∧ x ≤ 7)) : thA (l ++ [x]) = thA l := by
  symm
  refine thA_ext rfl fun i hi => ?_
  rw [thA_get l i hi, th_snoc]
  have : (decide (0 < i) && decide ((i : Int) = x)) = false := by
    rw [Bool.and_eq_false_iff]
    by_cases h1 : 0 < i
    · exact .inr (decide_eq_false (by omega))
    · exact .inl (decide_eq_false h1)
  rw [this, Bool.or_false]
theorem takeN {l : List Int} {k : Nat} (h : k < l.length) : l.take (k + 1) = l.take k ++ [l[k]'h] := List.take_succ_eq_append_getElem h
/- Weights by groups. -/
def wtA (f : Nat → Int) : Array Value := #[.int .i64 (f 0), .int .i64 (f 1), .int .i64 (f 2), .int .i64 (f 3), .int .i64 (f 4), .int .i64 (f 5), .int .i64 (f 6)]
theorem lt7 {P : Nat → Prop} (h0 : P 0) (h1 : P 1) (h2 : P 2) (h3 : P 3) (h4 : P 4) (h5 : P 5) (h6 : P 6) (n : Nat) (hn : n < 7) : P n := by
  have : n = 0 ∨ n = 1 ∨ n = 2 ∨ n = 3 ∨ n = 4 ∨ n = 5 ∨ n = 6 := by omega
  rcases this with rfl | rfl | rfl | rfl | rfl | rfl | rfl <;> assumption
theorem wtA_get (f : Nat → Int) (n : Nat) (hn : n < 7) : (wtA f)[n]? = some (.int .i64 (f n)) :=
  lt7 (P := fun n => (wtA f)[n]? = some (.int .i64 (f n))) rfl rfl rfl rfl rfl rfl rfl n hn
theorem wtA_ext {f : Nat → Int} {a : Array Value} (hs : a.size = 7) (h : ∀ n, n < 7 → a[n]? = some (.int .i64 (f n))) : a = wtA f := by
  apply Array.ext_getElem?
  intro i
  by_cases hi : i < 7
  · rw [h i hi, wtA_get f i hi]
  · rw [Array.getElem?_eq_none (by omega), Array.getElem?_eq_none (by show 7 ≤ i; omega)]
theorem wtA_set (f g : Nat → Int) (n : Nat) (hn : n < 7) (h1 : ∀ i, i ≠ n → g i = f i) : (wtA f).setIfInBounds n (.int .i64 (g n)) = wtA g := by
  refine wtA_ext (by rw [Array.size_setIfInBounds]; rfl) fun i hi => ?_
  rw [Array.getElem?_setIfInBounds]
  by_cases e : n = i
  · subst e
    rw [if_pos rfl, if_pos (by show n < 7; exact hn)]
  · rw [if_neg e, wtA_get f i hi, h1 i (fun h => e h.symm)]
/- What the groups weigh behind one member more. -/
theorem wsum_snoc (p : Mem → Bool) : ∀ (a : List Mem) (m : Mem), wsum p (a ++ [m]) = wsum p a + if p m then m.weight else 0
  | [], m => by simp [wsum]
  | x :: a, m => by rw [List.cons_append, wsum, wsum_snoc p a m, wsum]; omega
theorem wsum_bd (p : Mem → Bool) : ∀ (l : List Mem), (∀ m ∈ l, 0 ≤ m.weight ∧ m.weight ≤ 1000) → 0 ≤ wsum p l ∧ wsum p l ≤ 1000 * (l.length : Int)
  | [], _ => by simp [wsum]
  | m :: l, h => by
    have h1 := wsum_bd p l (fun x hx => h x (List.mem_cons_of_mem _ hx))
    have h2 := h m List.mem_cons_self
    simp only [wsum, List.length_cons]
    split <;> omega
theorem whole_snoc (a : List Mem) (m : Mem) (g : Nat) : whole (a ++ [m]) g = whole a g + if m.group = (g : Int) then m.weight else 0 := by
  unfold whole; rw [wsum_snoc]; simp
theorem part_snoc (ids : List Int) (a : List Mem) (m : Mem) (g : Nat) : part ids (a ++ [m]) g = part ids a g + if m.group = (g : Int) ∧ ids.contains m.id = true then m.weight else 0 := by
  unfold part; rw [wsum_snoc]; simp
theorem th_in (ids : List Int) (n : Nat) (h : 0 < n) : th ids n = ids.contains (n : Int) := by unfold th; simp [h]
def Cfg := Int × List Mem
/- Configs in memory, all of it below block B. -/
def Cfgs (w : World) (B : Nat) (v : Value) (l : List Cfg) : Prop :=
  (v = .slice none 0 0 ∧ l = []) ∨ (∃ ad c, v = .slice (some ad) 0 c ∧ l = []) ∨ (0 < l.length ∧ ∃ b o c, v = .slice (some ⟨b, o, none⟩) l.length c ∧ l.length ≤ c ∧ b < B ∧ B ≤ w.heap.size ∧
    ∀ j (h : j < l.length), w.cell? ⟨b, o + j * 2, none⟩ = some (.int .i64 (l[j]'h).1) ∧ ∃ A C, w.cell? ⟨b, o + j * 2 + 1, none⟩ = some (.slice A (l[j]'h).2.length C) ∧ Mems w (.slice A (l[j]'h).2.length C) (l[j]'h).2 ∧ (∀ k, bk (.slice A (l[j]'h).2.length C) = some k → k < B))
theorem Cfgs.form {w : World} {B : Nat} {v : Value} {l : List Cfg} (h : Cfgs w B v l) : ∃ A C, v = .slice A l.length C := by
  rcases h with ⟨rfl, rfl⟩ | ⟨ad, c, rfl, rfl⟩ | ⟨_, b, o, c, rfl, _⟩
  · exact ⟨none, 0, rfl⟩
  · exact ⟨_, _, rfl⟩
  · exact ⟨_, _, rfl⟩
theorem Cfgs.below {w w' : World} {B : Nat} {v : Value} {l : List Cfg} (h : Cfgs w B v l) (hb : Below B w w') : Cfgs w' B v l := by
  rcases h with h | h | ⟨h0, b, o, c, rfl, h1, h2, h3, h4⟩
  · exact .inl h
  · exact .inr (.inl h)
  · refine .inr (.inr ⟨h0, b, o, c, rfl, h1, h2, Nat.le_trans h3 hb.size, fun j hj => ?_⟩)
    obtain ⟨c1, A, C, c3, c4, c5⟩ := h4 j hj
    exact ⟨by rw [hb.cell (p := ⟨b, o + j * 2, none⟩) h2]; exact c1, A, C, by rw [hb.cell (p := ⟨b, o + j * 2 + 1, none⟩) h2]; exact c3, c4.below hb c5, c5⟩
theorem Cfgs.at' {w : World} {B n : Nat} {A : Option Addr} {C : Nat} {l : List Cfg} (h : Cfgs w B (.slice A n C) l) (j : Nat) (hj : j < l.length) : ∃ b o, A = some ⟨b, o, none⟩ ∧ b < B ∧ B ≤ w.heap.size ∧
    w.cell? ⟨b, o + j * 2, none⟩ = some (.int .i64 (l[j]'hj).1) ∧ ∃ A C, w.cell? ⟨b, o + j * 2 + 1, none⟩ = some (.slice A (l[j]'hj).2.length C) ∧ Mems w (.slice A (l[j]'hj).2.length C) (l[j]'hj).2 ∧ (∀ k, bk (.slice A (l[j]'hj).2.length C) = some k → k < B) := by
  rcases h with ⟨_, rfl⟩ | ⟨_, _, _, rfl⟩ | ⟨_, b, o, c, he, _, h2, h3, h4⟩
  · simp at hj
  · simp at hj
  · cases he
    exact ⟨b, o, rfl, h2, h3, h4 j hj⟩
def allQ (l : List Cfg) (ids : List Int) : Bool := decide (0 < l.length) && l.all fun e => quoB e.1 e.2 ids
end Go.Proofs.YtbcfeeahlhoggaaDoor
