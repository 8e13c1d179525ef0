/- Things to be put, in memory; which of some is picked; what is read of things that were put. -/
import Derived.Test.YtchmkginkmldoaaWalksJ
namespace Go.Proofs.Ytchmkginkmldoaa
open Go.RowKit

theorem tmod_neg (x n : Int) (hx : x < 0) (hn : 0 < n) : (x.tmod n < 0 → x.tmod n + n = x % n) ∧ (¬ x.tmod n < 0 → x.tmod n = x % n) := by
  obtain ⟨m, rfl⟩ : ∃ m : Nat, x = -(m : Int) := ⟨x.natAbs, by omega⟩
  have e : (-(m : Int)).tmod n = -((m : Int) % n) := by rw [Int.neg_tmod, Int.tmod_eq_emod_of_nonneg (by omega)]
  have h1 := Int.emod_nonneg (m : Int) (show n ≠ 0 by omega)
  have h2 := Int.emod_lt_of_pos (m : Int) hn
  have h3 := Int.emod_add_mul_ediv (m : Int) n
  rw [e]
  constructor
  · intro hlt
    have e2 : n * (-((m : Int) / n) - 1) = -(n * ((m : Int) / n)) - n := by rw [Int.mul_sub, Int.mul_neg, Int.mul_one]
    have : -(m : Int) = (n - (m : Int) % n) + n * (-((m : Int) / n) - 1) := by rw [e2]; omega
    have e3 : (-(m : Int)) % n = n - (m : Int) % n := by
      rw [this, Int.add_mul_emod_self_left]
      exact Int.emod_eq_of_lt (by omega) (by omega)
    omega
  · intro hge
    have h0 : (m : Int) % n = 0 := by omega
    have : -(m : Int) = 0 + n * (-((m : Int) / n)) := by rw [Int.mul_neg]; omega
    rw [h0, this, Int.add_mul_emod_self_left]
    simp
theorem pick_any (x n : Int) (hx1 : -9223372036854775808 ≤ x) (hx2 : x < 9223372036854775808) (hn : 0 < n) (hn2 : n ≤ 4611686018427387904) (w : World) :
    Calls Try.prog 16 #[.int .i64 x, .int .i64 n] w fun e w' => e = .returned (.int .i64 (x % n)) ∧ w' = w := by
  have hn1 : ¬ n < 1 := by omega
  have hb1 := Int.emod_nonneg x (show n ≠ 0 by omega)
  have hb2 := Int.emod_lt_of_pos x hn
  by_cases h0 : 0 ≤ x
  · have ht : x.tmod n = x % n := Int.tmod_eq_emod_of_nonneg h0
    have hng : ¬ x % n < 0 := by omega
    go_enter Try.func16, Try.ntmps16
    go_wp2
    go_ret
    exact ⟨rfl, rfl⟩
  · have ht := tmod_neg x n (by omega) hn
    have hz : n ≠ 0 := by omega
    have hlo : -n < x.tmod n := Int.lt_tmod_of_pos x hn
    have hhi : x.tmod n < n := Int.tmod_lt_of_pos x hn
    generalize hT : x.tmod n = t at ht hlo hhi
    generalize hE : x % n = m at ht hb1 hb2
    have HT : Hid (x.tmod n = t) := hT
    clear hE
    by_cases hl : t < 0
    · have he := ht.1 hl
      subst he
      clear ht HT
      go_enter Try.func16, Try.ntmps16
      go_wp2
      go_ret
      exact ⟨rfl, rfl⟩
    · have he := ht.2 hl
      subst he
      clear ht HT
      go_enter Try.func16, Try.ntmps16
      go_wp2
      go_ret
      exact ⟨rfl, rfl⟩
theorem owns_nil (w : World) (base : Nat) : w.ownsRow base 5 1 (.slice none 0 0) 0 (bv []) := World.ownsRow_nil _ _ _ _
theorem copy_any {w : World} {x : Value} {l : List UInt8} (hx : Bs w x l) (hl : l.length ≤ 140737488355328) :
    Calls Try.prog 34 #[x] w fun e w' => ∃ v, e = .returned v ∧ New w w' v l := by
  have HX : Hid (Bs w x l) := hx
  obtain ⟨A, C, rfl⟩ := bs_form hx
  clear hx
  go_enter Try.func34, Try.ntmps34
  go_wp2_with (at_builtin; refine wpList_app rfl (.tmp 4) (.tmp 5) rfl (.slice none 0 0) (.slice A l.length C) rfl rfl (owns_nil w w.heap.size) HX.out (Nat.le_refl _) (by simp; omega) ?_; intro A1 C1 w1 ho hg hat _)
  go_ret
  refine ⟨_, rfl, ?_, (Below.refl _ _).grown hg (Nat.le_refl _) (fun k hk => by simp [blk, Value.ownBlock] at hk)⟩
  simpa using ho

theorem owns_base' {w : World} {base base' n : Nat} {v : Value} {xs : List Value} (h : w.ownsRow base 5 1 v n xs) (hb : base' ≤ base) : w.ownsRow base' 5 1 v n xs := by
  refine ⟨h.1, ?_⟩
  rcases h.2 with h2 | ⟨g, cap, cur, hv, hg, h3⟩
  · exact .inl h2
  · exact .inr ⟨g, cap, cur, hv, Nat.le_trans hb hg, h3⟩
/- Things in memory, all of it below block B. -/
def Deeds (w : World) (B : Nat) (v : Value) (l : List Th) : Prop :=
  (v = .slice none 0 0 ∧ l = []) ∨ ∃ b o c, v = .slice (some ⟨b, o, none⟩) l.length c ∧ l.length ≤ c ∧ b < B ∧ B ≤ w.heap.size ∧
    ∀ j (h : j < l.length), w.cell? ⟨b, o + j * 3, none⟩ = some (.int .i64 (l[j]'h).sort) ∧ w.cell? ⟨b, o + j * 3 + 1, none⟩ = some (.int .i64 (l[j]'h).n) ∧
      ∃ A C, w.cell? ⟨b, o + j * 3 + 2, none⟩ = some (.slice A (l[j]'h).b.length C) ∧ Bs w (.slice A (l[j]'h).b.length C) (l[j]'h).b ∧ (∀ k, bk (.slice A (l[j]'h).b.length C) = some k → k < B)
theorem Deeds.below {w w' : World} {B : Nat} {v : Value} {l : List Th} (h : Deeds w B v l) (hb : Below B w w') : Deeds w' B v l := by
  rcases h with h | ⟨b, o, c, rfl, h1, h2, h3, h4⟩
  · exact .inl h
  · refine .inr ⟨b, o, c, rfl, h1, h2, Nat.le_trans h3 hb.size, fun j hj => ?_⟩
    obtain ⟨c1, c2, A, C, c3, c4, c5⟩ := h4 j hj
    exact ⟨by rw [hb.cell (p := ⟨b, o + j * 3, none⟩) h2]; exact c1, by rw [hb.cell (p := ⟨b, o + j * 3 + 1, none⟩) h2]; exact c2, A, C, by rw [hb.cell (p := ⟨b, o + j * 3 + 2, none⟩) h2]; exact c3, c4.below hb c5, c5⟩
theorem Deeds.form {w : World} {B : Nat} {v : Value} {l : List Th} (h : Deeds w B v l) : ∃ A C, v = .slice A l.length C := by
  rcases h with ⟨rfl, rfl⟩ | ⟨b, o, c, rfl, _⟩
  · exact ⟨none, 0, rfl⟩
  · exact ⟨_, _, rfl⟩
theorem Deeds.at' {w : World} {B n : Nat} {A : Option Addr} {C : Nat} {l : List Th} (h : Deeds w B (.slice A n C) l) (j : Nat) (hj : j < l.length) : ∃ b o, A = some ⟨b, o, none⟩ ∧ b < B ∧
    w.cell? ⟨b, o + j * 3, none⟩ = some (.int .i64 (l[j]'hj).sort) ∧ w.cell? ⟨b, o + j * 3 + 1, none⟩ = some (.int .i64 (l[j]'hj).n) ∧
      ∃ A C, w.cell? ⟨b, o + j * 3 + 2, none⟩ = some (.slice A (l[j]'hj).b.length C) ∧ Bs w (.slice A (l[j]'hj).b.length C) (l[j]'hj).b ∧ (∀ k, bk (.slice A (l[j]'hj).b.length C) = some k → k < B) := by
  rcases h with ⟨_, rfl⟩ | ⟨b, o, c, he, _, h2, _, h4⟩
  · simp at hj
  · cases he
    exact ⟨b, o, rfl, h2, h4 j hj⟩
theorem Deeds.take {w : World} {B n : Nat} {A : Option Addr} {C : Nat} {l : List Th} (h : Deeds w B (.slice A n C) l) (m : Nat) (hm : m ≤ l.length) (hp : 0 < l.length) : ∃ b o, A = some ⟨b, o, none⟩ ∧ l.length ≤ C ∧ Deeds w B (.slice (some ⟨b, o, none⟩) m C) (l.take m) := by
  rcases h with ⟨_, rfl⟩ | ⟨b, o, c, he, h1, h2, h3, h4⟩
  · simp at hp
  · cases he
    refine ⟨b, o, rfl, h1, .inr ⟨b, o, C, by rw [List.length_take, Nat.min_eq_left hm], by rw [List.length_take]; omega, h2, h3, fun j hj => ?_⟩⟩
    have hj' : j < l.length := by rw [List.length_take] at hj; omega
    have := h4 j hj'
    simpa only [List.getElem_take] using this
/- How a thing's numbers fit. -/
def Fit (l : List Th) : Prop := ∀ x ∈ l, (-9223372036854775808 ≤ x.sort ∧ x.sort < 9223372036854775808) ∧ Fits x

/- What is read of a reader for one thing, for all. -/
def rdOne (r : Rd) (x : Th) : Bool × Rd :=
  if pick 4 x.sort = 0 then (decide ((rdByte r).1 = u8 x.n), (rdByte r).2)
  else if pick 4 x.sort = 1 then (decide ((rdInt r).1 = x.n), (rdInt r).2)
  else (decide ((rdText r x.b.length).1 = x.b), (rdText r x.b.length).2)
def rdAll (r : Rd) : List Th → Bool × Rd
  | [] => (true, r)
  | x :: l => if (rdOne r x).1 = true ∧ (rdOne r x).2.isSome = true then rdAll (rdOne r x).2 l else (false, (rdOne r x).2)
theorem rdOne_put (x : Th) (hf : Fits x) (rest : List UInt8) : rdOne (some (putB x ++ rest)) x = (true, some rest) := by
  unfold rdOne putB
  split
  · simp [rdByte]
  · split
    · rw [rdInt_num x.n hf.1 hf.2.1]; simp
    · rw [rdText_text x.b hf.2.2 _ (Int.le_refl _)]; simp
theorem rdOne_short (x : Th) (hf : Fits x) (k : Nat) (hk : k < (putB x).length) : (rdOne (some ((putB x).take k)) x).2 = none := by
  unfold rdOne
  unfold putB at hk ⊢
  split
  · next h =>
    rw [if_pos h] at hk
    have : k = 0 := by simpa using hk
    subst this
    simp [rdByte]
  · next h =>
    rw [if_neg h] at hk
    split
    · next h1 =>
      rw [if_pos h1] at hk
      rw [rdInt_short x.n k hk]
    · next h1 =>
      rw [if_neg h1] at hk
      rw [rdText_short x.b hf.2.2 _ (Int.le_refl _) k hk]
theorem allB_cons (x : Th) (l : List Th) : allB (x :: l) = putB x ++ allB l := by simp [allB]
theorem rdAll_put (l : List Th) (hf : Fit l) (rest : List UInt8) : rdAll (some (allB l ++ rest)) l = (true, some rest) := by
  induction l with
  | nil => rfl
  | cons x l ih =>
    rw [allB_cons, List.append_assoc, rdAll, rdOne_put x (hf x List.mem_cons_self).2]
    exact ih (fun y hy => hf y (List.mem_cons_of_mem _ hy))
theorem rdAll_short (l : List Th) (hf : Fit l) : ∀ k, k < (allB l).length → rdAll (some ((allB l).take k)) l = (false, none) := by
  induction l with
  | nil => intro k hk; simp [allB] at hk
  | cons x l ih =>
    intro k hk
    rw [allB_cons] at hk ⊢
    by_cases h : k < (putB x).length
    · have e : (putB x ++ allB l).take k = (putB x).take k := List.take_append_of_le_length (by omega)
      have := rdOne_short x (hf x List.mem_cons_self).2 k h
      rw [e, rdAll, if_neg (by rw [this]; simp), this]
    · have e : (putB x ++ allB l).take k = putB x ++ (allB l).take (k - (putB x).length) := by
        rw [List.take_append, List.take_of_length_le (by omega)]
      rw [e, rdAll, rdOne_put x (hf x List.mem_cons_self).2]
      exact ih (fun y hy => hf y (List.mem_cons_of_mem _ hy)) _ (by rw [List.length_append] at hk; omega)
end Go.Proofs.Ytchmkginkmldoaa
