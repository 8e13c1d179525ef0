/- peeked: the packet at a place, by taking all from there on and sending them again. -/
import Derived.Test.YtjclegiohhbkpaaNtP
import Derived.Test.YtjclegiohhbkpaaNtL
namespace Go.Proofs.Ytjclegiohhbkpaa
open Go.RowKit Go.MapKept

theorem Rw.app {w : World} {v : Value} {L : List (List UInt8 × Value)} (h : Rw w v L) {x : Value} {b : List UInt8} (hx : w.ownsRow 0 5 1 x b.length (bv b)) (hL : L.length ≤ 1000) :
    ∃ A' C' w', (Builtin.append_ #[42, 42] 42 #[v, .slice (some ⟨w.heap.size, 0, none⟩) 1 1]).run Try.prog (w.alloc (.cells #[x] 27)) = .ok (.slice A' (L.length + 1) C') w' ∧
      Rw w' (.slice A' (L.length + 1) C') (L ++ [(b, x)]) ∧ Chg (fun g => blk v = some g) w w' ∧ (∀ g, blk (.slice A' (L.length + 1) C') = some g → blk v = some g ∨ w.heap.size ≤ g) := by
  obtain ⟨i0, hi0, hz0, hz1, hz2⟩ := info_parts info27
  obtain ⟨A6, C6, rfl⟩ := owns_formT hx
  have hown6 : (w.alloc (.cells #[.slice A6 b.length C6] 27)).ownsRow 0 27 1 v L.length (L.map Prod.snd) := owns_keepT h.row (Chg.alloc Non _ _) (fun _ _ => id)
  obtain ⟨v8, w8, hr, ho8, hg8, hn8, hl8⟩ := run_append_own_at (P := Try.prog) (w.alloc (.cells #[.slice A6 b.length C6] 27)) 0 42 42 27 i0 (.slice none 0 0) 1 24 Try.underlying42 hi0 hz0 hz1 hz2 rfl (by decide) v L.length (L.map Prod.snd) hown6 ⟨w.heap.size, 0, none⟩ 1 1 [.slice A6 b.length C6] rfl (cell_one_new _ _ _) (fun u hu => by simp at hu; subst hu; rfl)
      (by unfold maxLen; omega) (by omega) (by simp)
  obtain ⟨A8, C8, rfl⟩ := owns_formT ho8
  have c1 : Chg (fun g => blk v = some g) w w8 := (Chg.alloc _ _ _).trans (Chg.of_grown hg8)
  have hbl : ∀ g, blk (.slice A8 (L.length + 1) C8) = some g → blk v = some g ∨ w.heap.size ≤ g := by
    intro g hg
    rcases hl8 with e | e
    · exact .inl (by rw [← hg]; exact e.symm)
    · have e' : some g = some (w.alloc (.cells #[.slice A6 b.length C6] 27)).heap.size := by rw [← hg]; exact e
      injection e' with e'
      rw [e']; exact .inr (by simp)
  refine ⟨A8, C8, w8, hr, ⟨?_, fun y hy => ?_⟩, c1, hbl⟩
  · simpa using ho8
  · have hne : ∀ k, blk y.2 = some k → ¬ blk v = some k := by
      intro k hk e
      obtain ⟨cur, hc, _⟩ := owns_blockT h.row e
      rcases List.mem_append.1 hy with hy | hy
      · obtain ⟨cur', hc', _⟩ := owns_blockT (h.els y hy) hk
        rw [hc'] at hc; cases hc
      · simp at hy; subst hy
        obtain ⟨cur', hc', _⟩ := owns_blockT hx hk
        rw [hc'] at hc; cases hc
    rcases List.mem_append.1 hy with hy | hy
    · exact owns_keepT (h.els y hy) c1 hne
    · simp at hy; subst hy
      exact owns_keepT hx c1 hne
/- Taken so far: j packets from place i on, in the row v. -/
def Pz (w wr : World) (n : Nat) (l : List Pk) (T : Nat → Prop) (k : Int × Int) (i j : Nat) (v : Value) : Prop :=
  ∃ (R : List (List UInt8 × Value)) (T' : Nat → Prop) (l' : List Pk), (∀ g, T g → T' g) ∧ Nx wr n l' T' ∧ Rw wr v R ∧ (∀ g, blk v = some g → T' g ∧ ¬ T g) ∧ (∀ x ∈ R, ∀ g, blk x.2 = some g → T' g) ∧ Kp T w wr ∧
    R.map Prod.fst = ((bagOf l k).drop i).take j ∧ R.length = j ∧ bagOf l' k = (bagOf l k).take i ++ (bagOf l k).drop (i + j) ∧ ∀ k', k' ≠ k → bagOf l' k' = bagOf l k'
theorem Pz.form {w wr : World} {n : Nat} {l : List Pk} {T : Nat → Prop} {k : Int × Int} {i j : Nat} {v : Value} (h : Pz w wr n l T k i j v) : ∃ A C, v = .slice A j C := by
  obtain ⟨R, T', l', _, _, h3, _, _, _, _, rfl, _⟩ := h
  exact h3.form
theorem Pz.start {w : World} {n : Nat} {l : List Pk} {T : Nat → Prop} (h : Nx w n l T) (k : Int × Int) (i : Nat) : Pz w w n l T k i 0 (.slice none 0 0) :=
  ⟨[], T, l, fun _ => id, h, Rw.nil w, fun g hg => (by cases hg), fun x hx => (by simp at hx), Chg.refl _ _, by simp, rfl, by simp, fun _ _ => rfl⟩
theorem erase_mid {α : Type} (a b : List α) (i : Nat) (hi : a.length = i) (hb : 0 < b.length) : (a ++ b).eraseIdx i = a ++ b.drop 1 := by
  subst hi
  rw [List.eraseIdx_append_of_length_le (Nat.le_refl _), Nat.sub_self]
  cases b with
  | nil => simp at hb
  | cons x b => rfl
theorem pz_take {w wr : World} {n : Nat} {l : List Pk} {T : Nat → Prop} {k : Int × Int} {i j : Nat} {v : Value} (h : Pz w wr n l T k i j v) (hj : j ≤ 32) {I : Int} (hI : I = i) :
    Calls Try.prog 19 #[.pointer (some ⟨n, 0, none⟩), .int .i64 k.1, .int .i64 k.2, .int .i64 I] wr fun e w2 =>
      (e = .returned (.tuple #[.slice none 0 0, .bool false]) ∧ (Hid (Pz w w2 n l T k i j v) ∧ (bagOf l k).length ≤ i + j)) ∨
      (∃ A C c, e = .returned (.tuple #[.slice A c C, .bool true]) ∧ i + j < (bagOf l k).length ∧ ∃ A' C' w3, (Builtin.append_ #[42, 42] 42 #[v, .slice (some ⟨w2.heap.size, 0, none⟩) 1 1]).run Try.prog (w2.alloc (.cells #[.slice A c C] 27)) = .ok (.slice A' (j + 1) C') w3 ∧ Hid (Pz w w3 n l T k i (j + 1) (.slice A' (j + 1) C'))) := by
  subst hI
  obtain ⟨R, T', l', h1, h2, h3, h4, h5, h6, h7, rfl, h9, h10⟩ := h
  have hlen : (bagOf l' k).length = min i (bagOf l k).length + ((bagOf l k).length - (i + R.length)) := by rw [h9]; simp
  cases hp : peek l' k i with
  | none =>
    refine (take_none h2 k i hp).mono ?_
    rintro e w2 ⟨rfl, hb⟩
    have hge := peek_none hp
    refine .inl ⟨rfl, ⟨R, T', l', h1, h2.below hb, h3.below hb, h4, h5, h6.trans (Kp.of_below hb), h7, rfl, h9, h10⟩, ?_⟩
    omega
  | some b =>
    obtain ⟨_, hi, hb⟩ := peek_some hp
    simp only [Int.toNat_natCast] at hi hb
    have hlt : i + R.length < (bagOf l k).length := by omega
    refine (take_some h2 k i hp).mono ?_
    rintro e w2 ⟨A, C, rfl, ho, hnt, hn, hk⟩
    refine .inr ⟨A, C, b.length, rfl, hlt, ?_⟩
    have h3' : Rw w2 v R := h3.keep hk (fun g hg e => e (h4 g hg).1) (fun x hx g hg e => e (h5 x hx g hg))
    obtain ⟨A', C', w3, hrun, hR, hc, hbl⟩ := h3'.app ho (by omega)
    refine ⟨A', C', w3, hrun, R ++ [(b, .slice A b.length C)], _, _, fun g hg => .inl (.inl (h1 g hg)), hn.away hc (fun g hg => .inl (h4 g hg).1), hR, fun g hg => ⟨?_, ?_⟩, fun x hx g hg => ?_, ?_, ?_, by simp, ?_, ?_⟩
    · rcases hbl g hg with e | e
      · exact .inl (.inl (h4 g e).1)
      · exact .inr ⟨e, (hR.lt).1 g hg⟩
    · rcases hbl g hg with e | e
      · exact (h4 g e).2
      · intro ht
        obtain ⟨_, _, _, _, _, _, _, h5'⟩ := hn
        have := h5' g (.inl (h1 g ht)); omega
    · rcases List.mem_append.1 hx with hx | hx
      · exact .inl (.inl (h5 x hx g hg))
      · simp at hx; subst hx; exact .inl (.inr hg)
    · exact (h6.trans (hk.weak fun g _ e f => e (h1 g f))).trans (hc.weak fun g _ e f => (h4 g e).2 f)
    · rw [List.map_append, h7]
      have e1 : ((bagOf l k).drop i)[R.length]? = some b := by
        rw [List.getElem?_drop]
        have : (bagOf l' k)[i]? = some b := by rw [List.getElem?_eq_getElem hi, hb]
        rw [h9, List.getElem?_append_right (by simp; omega)] at this
        rw [List.getElem?_drop] at this
        rw [← this]; congr 1; simp; omega
      rw [List.take_add_one, e1]
      simp
    · rw [bag_take, if_pos rfl, h9, Int.toNat_natCast, erase_mid _ _ i (by simp; omega) (by simp; omega), List.drop_drop]
      congr 2
    · intro k' hk'
      rw [bag_take, if_neg (Ne.symm hk')]; exact h10 k' hk'
/- Sent again so far: j packets of the row v. -/
def Qz (w wr : World) (n : Nat) (l : List Pk) (T : Nat → Prop) (k : Int × Int) (i m j : Nat) (v : Value) : Prop :=
  ∃ (R : List (List UInt8 × Value)) (T' : Nat → Prop) (l' : List Pk), (∀ g, T g → T' g) ∧ Nx wr n l' T' ∧ Rw wr v R ∧ (∀ g, blk v = some g → T' g) ∧ (∀ x ∈ R, ∀ g, blk x.2 = some g → T' g) ∧ Kp T w wr ∧
    R.map Prod.fst = (bagOf l k).drop i ∧ R.length = m ∧ bagOf l' k = (bagOf l k).take (i + j) ∧ ∀ k', k' ≠ k → bagOf l' k' = bagOf l k'
theorem Pz.done {w wr : World} {n : Nat} {l : List Pk} {T : Nat → Prop} {k : Int × Int} {i j : Nat} {v : Value} (h : Pz w wr n l T k i j v) (hle : (bagOf l k).length ≤ i + j) : Qz w wr n l T k i j 0 v := by
  obtain ⟨R, T', l', h1, h2, h3, h4, h5, h6, h7, h8, h9, h10⟩ := h
  refine ⟨R, T', l', h1, h2, h3, fun g hg => (h4 g hg).1, h5, h6, ?_, h8, ?_, h10⟩
  · rw [h7, List.take_of_length_le (by simp; omega)]
  · rw [h9, List.drop_eq_nil_of_le hle]; simp
theorem qz_send {w wr : World} {n : Nat} {l : List Pk} {T : Nat → Prop} {k : Int × Int} {i m j : Nat} {A : Option Addr} {C : Nat} (h : Qz w wr n l T k i m j (.slice A m C)) (hj : j < m) (hB : (bagOf l k).length ≤ 32 ∧ ∀ x ∈ bagOf l k, x.length ≤ 1048576) :
    ∃ g A' C' c, A = some ⟨g, 0, none⟩ ∧ wr.cell? ⟨g, j, none⟩ = some (.slice A' c C') ∧
    Calls Try.prog 17 #[.pointer (some ⟨n, 0, none⟩), .int .i64 k.1, .int .i64 k.2, .slice A' c C'] wr fun e w2 => e = .returned (.bool true) ∧ Hid (Qz w w2 n l T k i m (j + 1) (.slice A m C)) := by
  obtain ⟨R, T', l', h1, h2, h3, h4, h5, h6, h7, rfl, h9, h10⟩ := h
  obtain ⟨g, A', C', e1, e2, e3, e4⟩ := h3.at j hj
  have hlen : R.length = (bagOf l k).length - i := by have := congrArg List.length h7; simpa using this
  have hel : (bagOf l k)[i + j]? = some (R[j]'hj).1 := by
    rw [← List.getElem?_drop, ← h7]; simp [hj]
  have hmem : (R[j]'hj).1 ∈ bagOf l k := List.mem_of_getElem? hel
  have hs : sendOk l' k (R[j]'hj).1 = true := by
    have := hB.2 _ hmem
    have := hB.1
    simp [sendOk, h9]
    omega
  refine ⟨g, A', C', _, e1, e2, (send_any h2 k e4).mono ?_⟩
  rintro e w2 ⟨rfl, a, hk⟩
  rw [hs] at a
  simp only [if_true] at a
  refine ⟨by rw [hs], R, T', _, h1, a, h3.keep hk (fun g hg e => e (h4 g hg)) (fun x hx g hg e => e (h5 x hx g hg)), h4, h5, h6.trans (hk.weak fun g _ e f => e (h1 g f)), h7, rfl, ?_, fun k' hk' => ?_⟩
  · rw [bag_app, if_pos rfl, h9, ← Nat.add_assoc, List.take_add_one, hel]; simp
  · rw [bag_app, if_neg (Ne.symm hk')]; exact h10 k' hk'
theorem Qz.fin {w wr : World} {n : Nat} {l : List Pk} {T : Nat → Prop} {k : Int × Int} {i m : Nat} {v : Value} (h : Qz w wr n l T k i m m v) :
    ∃ (R : List (List UInt8 × Value)) (T' : Nat → Prop), (∀ g, T g → T' g) ∧ Nx wr n l T' ∧ Rw wr v R ∧ (∀ x ∈ R, ∀ g, blk x.2 = some g → T' g) ∧ Kp T w wr ∧ R.map Prod.fst = (bagOf l k).drop i ∧ R.length = m := by
  obtain ⟨R, T', l', h1, h2, h3, h4, h5, h6, h7, rfl, h9, h10⟩ := h
  have hlen : R.length = (bagOf l k).length - i := by have := congrArg List.length h7; simpa using this
  refine ⟨R, T', h1, h2.same fun k' => ?_, h3, h5, h6, h7, rfl⟩
  by_cases e : k' = k
  · subst e; rw [h9, List.take_of_length_le (by omega)]
  · exact (h10 k' e).symm
/- What peeked answers. -/
def PeekEnd (w : World) (n : Nat) (l : List Pk) (T : Nat → Prop) (k : Int × Int) (I : Int) (e : Ending) (w' : World) : Prop :=
  (e = .returned (.tuple #[.slice none 0 0, .bool false]) ∧ peek l k I = none ∧ ∃ T' : Nat → Prop, (∀ g, T g → T' g) ∧ Nx w' n l T' ∧ Kp T w w') ∨
  ∃ A C b, e = .returned (.tuple #[.slice A b.length C, .bool true]) ∧ peek l k I = some b ∧ w'.ownsRow 0 5 1 (.slice A b.length C) b.length (bv b) ∧ ∃ T' : Nat → Prop, (∀ g, T g → T' g) ∧ Nx w' n l T' ∧ (∀ g, blk (.slice A b.length C) = some g → T' g) ∧ Kp T w w'
theorem Qz.none {w wr : World} {n : Nat} {l : List Pk} {T : Nat → Prop} {k : Int × Int} {i : Nat} {v : Value} (h : Qz w wr n l T k i 0 0 v) {I : Int} (hI : I = i) : PeekEnd w n l T k I (.returned (.tuple #[.slice Option.none 0 0, .bool false])) wr := by
  obtain ⟨R, T', h1, h2, h3, h4, h5, h6, h7⟩ := h.fin
  subst hI
  refine .inl ⟨rfl, ?_, T', h1, h2, h5⟩
  have : (bagOf l k).drop i = [] := by rw [← h6, List.length_eq_zero_iff.1 h7]; rfl
  simp [peek]; exact List.drop_eq_nil_iff.1 this
theorem Qz.some {w wr : World} {n : Nat} {l : List Pk} {T : Nat → Prop} {k : Int × Int} {i m : Nat} {A : Option Addr} {C : Nat} (h : Qz w wr n l T k i m m (.slice A m C)) (hm : 0 < m) {I : Int} (hI : I = i) :
    ∃ g A' C' c, A = Option.some ⟨g, 0, Option.none⟩ ∧ wr.cell? ⟨g, 0, Option.none⟩ = Option.some (.slice A' c C') ∧ PeekEnd w n l T k I (.returned (.tuple #[.slice A' c C', .bool true])) wr := by
  obtain ⟨R, T', h1, h2, h3, h4, h5, h6, rfl⟩ := h.fin
  subst hI
  obtain ⟨g, A', C', e1, e2, e3, e4⟩ := h3.at 0 hm
  refine ⟨g, A', C', _, e1, e2, .inr ⟨A', C', _, rfl, ?_, ?_, T', h1, h2, ?_, h5⟩⟩
  · have : ((bagOf l k).drop i)[0]? = Option.some (R[0]'hm).1 := by rw [← h6]; simp [hm]
    rw [List.getElem?_drop] at this
    simp [peek]; simpa using this
  · have := h3.els _ (List.getElem_mem hm)
    rw [e3] at this; exact this
  · intro g hg
    rw [← e3] at hg
    exact h4 _ (List.getElem_mem hm) g hg
end Go.Proofs.Ytjclegiohhbkpaa
