/- What NetSent keeps beside the net: sixteen rows of bytes, and that they hold what the bags hold. -/
import Derived.Test.YtjclegiohhbkpaaNtQw
namespace Go.Proofs.Ytjclegiohhbkpaa
open Go.RowKit Go.MapKept

abbrev Vs := Nat → Value × List (List UInt8 × Value)
def updV (V : Vs) (k : Nat) (x : Value × List (List UInt8 × Value)) : Vs := fun j => if j = k then x else V j
theorem updV_at (V : Vs) (k : Nat) (x : Value × List (List UInt8 × Value)) : updV V k x k = x := by simp [updV]
theorem updV_ne (V : Vs) {k j : Nat} (x : Value × List (List UInt8 × Value)) (h : j ≠ k) : updV V k x j = V j := by simp [updV, h]
def kj (j : Nat) : Int × Int := (((j / 4 : Nat) : Int), ((j % 4 : Nat) : Int))
theorem kj_inj {i j : Nat} (h : kj i = kj j) : i = j := by
  have h1 := congrArg Prod.fst h
  have h2 := congrArg Prod.snd h
  simp only [kj] at h1 h2
  omega
/- The rows hold what the bags hold, in whichever order. -/
def PermAll (p : List Pk) (V : Vs) : Prop := ∀ j, j < 16 → ((V j).2.map Prod.fst).Perm (bagOf p (kj j))
theorem PermAll.len {p : List Pk} {V : Vs} (h : PermAll p V) (j : Nat) (hj : j < 16) : (V j).2.length = (bagOf p (kj j)).length := by
  have := (h j hj).length_eq; simpa using this
theorem PermAll.same {p p' : List Pk} {V : Vs} (h : PermAll p V) (he : ∀ k, bagOf p' k = bagOf p k) : PermAll p' V := fun j hj => by rw [he]; exact h j hj
theorem perm_send {p : List Pk} {V : Vs} (h : PermAll p V) (k : Nat) (b : List UInt8) (v x : Value) : PermAll (p ++ [(kj k, b)]) (updV V k (v, (V k).2 ++ [(b, x)])) := by
  intro j hj
  rw [bag_app]
  by_cases e : j = k
  · subst e
    rw [updV_at, if_pos rfl, List.map_append]
    exact (h j hj).append (List.Perm.refl _)
  · rw [updV_ne V _ e, if_neg (fun q => e (kj_inj q).symm)]
    exact h j hj
theorem erase_cons {α : Type} : ∀ (a : List α) (i : Nat) (x : α), a[i]? = some x → (x :: a.eraseIdx i).Perm a
  | [], i, x, h => by simp at h
  | y :: a, 0, x, h => by simp at h; subst h; exact List.Perm.refl _
  | y :: a, i + 1, x, h => by
    have ih := erase_cons a i x (by simpa using h)
    exact (List.Perm.swap y x _).trans (ih.cons y)
theorem erase_map {α β : Type} (f : α → β) : ∀ (a : List α) (i : Nat), (a.eraseIdx i).map f = (a.map f).eraseIdx i
  | [], i => by simp
  | y :: a, 0 => by simp
  | y :: a, i + 1 => by simp [erase_map f a i]
theorem perm_erase {α : Type} {a b : List α} (h : a.Perm b) {i j : Nat} {x : α} (hi : a[i]? = some x) (hj : b[j]? = some x) : (a.eraseIdx i).Perm (b.eraseIdx j) := by
  have h1 := erase_cons a i x hi
  have h2 := erase_cons b j x hj
  exact List.Perm.cons_inv ((h1.trans h).trans h2.symm)
theorem perm_take {p : List Pk} {V : Vs} (h : PermAll p V) (k : Nat) (hk : k < 16) {i : Int} {b : List UInt8} (hp : peek p (kj k) i = some b) {a : Nat} {y : List UInt8 × Value} (ha : (V k).2[a]? = some y) (hy : y.1 = b) (v : Value) :
    PermAll (takeP p (kj k) i.toNat) (updV V k (v, (V k).2.eraseIdx a)) := by
  obtain ⟨h0, hi, hb⟩ := peek_some hp
  intro j hj
  rw [bag_take]
  by_cases e : j = k
  · subst e
    rw [updV_at, if_pos rfl]
    have e1 : ((V j).2.eraseIdx a).map Prod.fst = ((V j).2.map Prod.fst).eraseIdx a := erase_map _ _ _
    simp only [e1]
    exact perm_erase (h j hk) (x := b) (by simp [ha, hy]) (by rw [List.getElem?_eq_getElem hi, hb])
  · rw [updV_ne V _ e, if_neg (fun q => e (kj_inj q).symm)]
    exact h j hj
theorem perm_clear {p : List Pk} {V : Vs} (h : PermAll p V) (a b : Nat) (ha : a < 4) (hb : b < 4) (v : Value) : PermAll (clearP p a b) (updV (updV V (4 * a + b) (v, [])) (4 * b + a) (v, [])) := by
  intro j hj
  have e0 : ∀ x y : Nat, x < 4 → y < 4 → kj (4 * x + y) = ((x : Int), (y : Int)) := by
    intro x y hx hy
    simp only [kj]
    have h1 : (4 * x + y) / 4 = x := by omega
    have h2 : (4 * x + y) % 4 = y := by omega
    rw [h1, h2]
  have hbag : bagOf (clearP p a b) (kj j) = if kj j = ((a : Int), (b : Int)) ∨ kj j = ((b : Int), (a : Int)) then [] else bagOf p (kj j) := by
    unfold bagOf clearP
    rw [List.filter_filter]
    split
    · next hc =>
      rw [List.filter_eq_nil_iff.2]
      · rfl
      · intro x _
        simp only [Bool.and_eq_true, decide_eq_true_eq, Bool.not_eq_true', Bool.or_eq_false_iff, decide_eq_false_iff_not, not_and]
        rcases hc with hc | hc
        · intro h1 h2; exact absurd (h1.trans hc) h2
        · intro h1 h2 h3; exact absurd (h1.trans hc) h3
    · next hc =>
      congr 1
      apply List.filter_congr
      intro x _
      by_cases hx : x.1 = kj j
      · have h1 : ¬ x.1 = ((a : Int), (b : Int)) := fun e => hc (.inl (hx ▸ e))
        have h2 : ¬ x.1 = ((b : Int), (a : Int)) := fun e => hc (.inr (hx ▸ e))
        rw [hx] at h1 h2
        simp [hx, h1, h2]
      · simp [hx]
  rw [hbag]
  by_cases e1 : j = 4 * b + a
  · subst e1
    rw [updV_at, if_pos (.inr (e0 b a hb ha))]
    exact List.Perm.refl _
  · rw [updV_ne _ _ e1]
    by_cases e2 : j = 4 * a + b
    · subst e2
      rw [updV_at, if_pos (.inl (e0 a b ha hb))]
      exact List.Perm.refl _
    · rw [updV_ne _ _ e2, if_neg]
      · exact h j hj
      · rintro (e | e)
        · rw [← e0 a b ha hb] at e; exact e2 (kj_inj e)
        · rw [← e0 b a hb ha] at e; exact e1 (kj_inj e)
/- The net n and the sixteen rows (block h), beside one another; w: a world before. -/
structure Sn (w wr : World) (n h : Nat) (p : List Pk) (V : Vs) (T : Nat → Prop) : Prop where
  nx : Nx wr n p T
  box : ∃ cs, wr.heap[h]? = some (.cells cs 43 (0, 0)) ∧ cs.size = 16 ∧ ∀ j, j < 16 → cs[j]? = some (V j).1
  rows : ∀ j, j < 16 → Rw wr (V j).1 (V j).2
  ap : ∀ i j, i < 16 → j < 16 → i ≠ j → ∀ g, blk (V i).1 = some g → blk (V j).1 ≠ some g
  th : T h
  tr : ∀ j, j < 16 → ∀ g, blk (V j).1 = some g → T g
  te : ∀ j, j < 16 → ∀ x ∈ (V j).2, ∀ g, blk x.2 = some g → T g
  tl : ∀ g, g < w.heap.size → T g
  lo : w.heap.size ≤ h ∧ ∀ j, j < 16 → ∀ g, blk (V j).1 = some g → w.heap.size ≤ g
  bel : Below w.heap.size w wr
theorem Nx.tlt {w : World} {n : Nat} {l : List Pk} {T : Nat → Prop} (h : Nx w n l T) : ∀ g, T g → g < w.heap.size := by obtain ⟨_, _, _, _, _, _, _, h5⟩ := h; exact h5
theorem Sn.cell {w wr : World} {n h : Nat} {p : List Pk} {V : Vs} {T : Nat → Prop} (s : Sn w wr n h p V T) (j : Nat) (hj : j < 16) : wr.cell? ⟨h, j, none⟩ = some (V j).1 := by
  obtain ⟨cs, h1, _, h3⟩ := s.box
  rw [cell_at h1]; exact h3 j hj
theorem Sn.net {w wr w2 : World} {n h : Nat} {p p' : List Pk} {V : Vs} {T T' : Nat → Prop} (s : Sn w wr n h p V T) (a : Nx w2 n p' T') (hT : ∀ g, T g → T' g) (hk : Kp T wr w2) : Sn w w2 n h p' V T' := by
  obtain ⟨s1, s2, s3, s4, s5, s6, s7, s8, s9, s10⟩ := s
  refine ⟨a, ?_, fun j hj => (s3 j hj).keep hk (fun g hg e => e (s6 j hj g hg)) (fun x hx g hg e => e (s7 j hj x hx g hg)), s4, hT _ s5, fun j hj g hg => hT _ (s6 j hj g hg), fun j hj x hx g hg => hT _ (s7 j hj x hx g hg), fun g hg => hT _ (s8 g hg), s9, s10.trans (hk.below s8 s10.size)⟩
  obtain ⟨cs, b1, b2⟩ := s2
  exact ⟨cs, by rw [hk.block h (heap_lt b1) (fun e => e s5)]; exact b1, b2⟩
theorem Sn.below {w wr w2 : World} {n h : Nat} {p : List Pk} {V : Vs} {T : Nat → Prop} (s : Sn w wr n h p V T) (hb : Below wr.heap.size wr w2) : Sn w w2 n h p V T := s.net (s.nx.below hb) (fun _ => id) (Kp.of_below hb)
theorem Sn.more {w wr w2 : World} {n h : Nat} {p : List Pk} {V : Vs} {T : Nat → Prop} (s : Sn w wr n h p V T) (hb : Below wr.heap.size wr w2) : Sn w w2 n h p V (fun k => T k ∨ (wr.heap.size ≤ k ∧ k < w2.heap.size)) := s.net (s.nx.more hb) (fun _ => .inl) (Kp.of_below hb)
theorem heap_set {w : World} {g T : Nat} {cs : Array Value} {fr : Nat × Nat} (h : w.heap[g]? = some (.cells cs T fr)) (i : Nat) (v : Value) : (w.setCell ⟨g, i, none⟩ v).heap[g]? = some (.cells (cs.setIfInBounds i v) T fr) := by
  simp [World.setCell, Array.getElem?_modify, h]
/- A row is turned: what it held may be written over, the new one lies in the same block or is new. -/
theorem Sn.put {w wr w2 : World} {n h : Nat} {p : List Pk} {V : Vs} {T : Nat → Prop} (s : Sn w wr n h p V T) {k : Nat} (hk : k < 16) {v' : Value} {L' : List (List UInt8 × Value)} (hc : Chg (fun g => blk (V k).1 = some g) wr w2) (hR : Rw w2 v' L')
    (hb : ∀ g, blk v' = some g → blk (V k).1 = some g ∨ wr.heap.size ≤ g) (hel : ∀ x ∈ L', ∀ g, blk x.2 = some g → T g ∨ wr.heap.size ≤ g) : ∃ T', Sn w (w2.setCell ⟨h, k, none⟩ v') n h p (updV V k (v', L')) T' := by
  obtain ⟨s1, s2, s3, s4, s5, s6, s7, s8, s9, s10⟩ := s
  obtain ⟨cs, b1, b2, b3⟩ := s2
  have hne : ∀ (ww : World) (vv : Value) (LL : List (List UInt8 × Value)) (cc : Array Value), Rw ww vv LL → ww.heap[h]? = some (.cells cc 43 (0, 0)) → (∀ g, blk vv = some g → g ≠ h) ∧ ∀ x ∈ LL, ∀ g, blk x.2 = some g → g ≠ h := by
    intro ww vv LL cc hr hbx
    refine ⟨fun g hg e => ?_, fun x hx g hg e => ?_⟩
    · obtain ⟨cur, q, _⟩ := owns_blockT hr.row hg
      rw [e, hbx] at q; cases q
    · obtain ⟨cur, q, _⟩ := owns_blockT (hr.els x hx) hg
      rw [e, hbx] at q; cases q
  have hrow : ∀ j, j < 16 → ∀ x ∈ (V j).2, ∀ g, blk x.2 = some g → ¬ blk (V k).1 = some g := by
    intro j hj x hx g hg e
    obtain ⟨cur, q, _⟩ := owns_blockT (s3 k hk).row e
    obtain ⟨cur', q', _⟩ := owns_blockT ((s3 j hj).els x hx) hg
    rw [q'] at q; cases q
  have b1' : w2.heap[h]? = some (.cells cs 43 (0, 0)) := by rw [hc.block h (heap_lt b1) (fun e => (hne _ _ _ _ (s3 k hk) b1).1 h e rfl)]; exact b1
  have hc2 : Chg (fun g => g = h) w2 (w2.setCell ⟨h, k, none⟩ v') := Chg.setCell w2 ⟨h, k, none⟩ v' rfl
  have n2 : Nx w2 n p (fun g => T g ∨ (wr.heap.size ≤ g ∧ g < w2.heap.size)) := s1.away hc (fun g hg => s6 k hk g hg)
  have n3 := n2.away hc2 (fun g hg => by rw [hg]; exact .inl s5)
  have hr2 : ∀ j, j < 16 → j ≠ k → Rw (w2.setCell ⟨h, k, none⟩ v') (V j).1 (V j).2 := by
    intro j hj hjk
    have r2 : Rw w2 (V j).1 (V j).2 := (s3 j hj).keep hc (fun g hg e => s4 k j hk hj (Ne.symm hjk) g e hg) (fun x hx g hg => hrow j hj x hx g hg)
    have q := hne _ _ _ _ r2 b1'
    exact r2.keep hc2 (fun g hg e => q.1 g hg e) (fun x hx g hg e => q.2 x hx g hg e)
  have hrk : Rw (w2.setCell ⟨h, k, none⟩ v') v' L' := by
    have q := hne _ _ _ _ hR b1'
    exact hR.keep hc2 (fun g hg e => q.1 g hg e) (fun x hx g hg e => q.2 x hx g hg e)
  have hlt := hR.lt
  have hT1 := s1.tlt
  refine ⟨_, n3, ⟨_, heap_set b1' k v', by rw [Array.size_setIfInBounds]; exact b2, fun j hj => ?_⟩, fun j hj => ?_, fun i j hi hj hij g e1 e2 => ?_, .inl (.inl s5), fun j hj g hg => ?_, fun j hj x hx g hg => ?_, fun g hg => .inl (.inl (s8 g hg)), ⟨s9.1, fun j hj g hg => ?_⟩, ?_⟩
  · by_cases e : j = k
    · subst e; rw [updV_at]; simp [b2, hj]
    · rw [updV_ne V _ e, Array.getElem?_setIfInBounds_ne (Ne.symm e)]; exact b3 j hj
  · by_cases e : j = k
    · subst e; rw [updV_at]; exact hrk
    · rw [updV_ne V _ e]; exact hr2 j hj e
  · by_cases ei : i = k
    · by_cases ej : j = k
      · omega
      · rw [updV_ne V _ ej] at e2
        subst ei
        rw [updV_at] at e1
        rcases hb g e1 with q | q
        · exact s4 i j hi hj hij g q e2
        · have := hT1 g (s6 j hj g e2); omega
    · rw [updV_ne V _ ei] at e1
      by_cases ej : j = k
      · subst ej
        rw [updV_at] at e2
        rcases hb g e2 with q | q
        · exact s4 i j hi hj hij g e1 q
        · have := hT1 g (s6 i hi g e1); omega
      · rw [updV_ne V _ ej] at e2
        exact s4 i j hi hj hij g e1 e2
  · by_cases e : j = k
    · subst e; rw [updV_at] at hg
      rcases hb g hg with q | q
      · exact .inl (.inl (s6 j hj g q))
      · exact .inl (.inr ⟨q, hlt.1 g hg⟩)
    · rw [updV_ne V _ e] at hg; exact .inl (.inl (s6 j hj g hg))
  · by_cases e : j = k
    · subst e; rw [updV_at] at hx
      rcases hel x hx g hg with q | q
      · exact .inl (.inl q)
      · exact .inl (.inr ⟨q, hlt.2 x hx g hg⟩)
    · rw [updV_ne V _ e] at hx; exact .inl (.inl (s7 j hj x hx g hg))
  · by_cases e : j = k
    · subst e; rw [updV_at] at hg
      rcases hb g hg with q | q
      · exact s9.2 j hj g q
      · exact Nat.le_trans s10.size q
    · rw [updV_ne V _ e] at hg; exact s9.2 j hj g hg
  · have c1 : Below w.heap.size w w2 := s10.trans (hc.below (fun g e => s9.2 k hk g e) s10.size)
    exact c1.trans (hc2.below (fun g e => by rw [e]; exact s9.1) c1.size)
end Go.Proofs.Ytjclegiohhbkpaa
