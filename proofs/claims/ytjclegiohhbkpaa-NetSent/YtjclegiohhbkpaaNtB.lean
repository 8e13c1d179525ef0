/- Nets: what lies in memory for one, and the mathematics of packets on their links. -/
import Derived.Test.YtjclegiohhbkpaaNtA
namespace Go.Proofs.Ytjclegiohhbkpaa
open Go.RowKit Go.MapKept

/- A packet on its link. -/
abbrev Pk := (Int × Int) × List UInt8
def bagOf (l : List Pk) (k : Int × Int) : List (List UInt8) := (l.filter fun p => decide (p.1 = k)).map Prod.snd
def takeP : List Pk → Int × Int → Nat → List Pk
  | [], _, _ => []
  | p :: l, k, n => if p.1 = k then (match n with | 0 => l | n + 1 => p :: takeP l k n) else p :: takeP l k n
theorem bag_app (l : List Pk) (k k' : Int × Int) (b : List UInt8) : bagOf (l ++ [(k, b)]) k' = if k = k' then bagOf l k' ++ [b] else bagOf l k' := by
  unfold bagOf
  rw [List.filter_append, List.map_append]
  by_cases h : k = k' <;> simp [h]
theorem bag_take : ∀ (l : List Pk) (k k' : Int × Int) (n : Nat), bagOf (takeP l k n) k' = if k = k' then (bagOf l k').eraseIdx n else bagOf l k'
  | [], k, k', n => by simp [takeP, bagOf]
  | p :: l, k, k', n => by
    have ih := fun n => bag_take l k k' n
    by_cases hp : p.1 = k
    · cases n with
      | zero =>
        have : takeP (p :: l) k 0 = l := by simp [takeP, hp]
        rw [this]
        by_cases h : k = k'
        · simp [bagOf, hp, h]
        · have hpk : ¬ p.1 = k' := by rw [hp]; exact h
          simp [bagOf, h, hpk]
      | succ n =>
        have : takeP (p :: l) k (n + 1) = p :: takeP l k n := by simp [takeP, hp]
        rw [this]
        have ihn := ih n
        unfold bagOf at ihn ⊢
        by_cases h : k = k'
        · have hpk : p.1 = k' := by rw [hp]; exact h
          simp only [h, if_true] at ihn ⊢
          simp [hpk, ← ihn]
        · have hpk : ¬ p.1 = k' := by rw [hp]; exact h
          simp only [h, if_false] at ihn ⊢
          simp [hpk, ihn]
    · have : takeP (p :: l) k n = p :: takeP l k n := by simp [takeP, hp]
      rw [this]
      have ihn := ih n
      unfold bagOf at ihn ⊢
      by_cases hpk : p.1 = k'
      · have h : ¬ k = k' := fun e => hp (by rw [hpk, e])
        simp only [h, if_false] at ihn ⊢
        simp [hpk, ihn]
      · simp [hpk, ihn]
theorem bag_clear (l : List Pk) (a b k : Int × Int) : bagOf (l.filter fun p => !(decide (p.1 = a) || decide (p.1 = b))) k = if k = a ∨ k = b then [] else bagOf l k := by
  unfold bagOf
  rw [List.filter_filter]
  by_cases h : k = a ∨ k = b
  · rw [if_pos h, List.map_eq_nil_iff, List.filter_eq_nil_iff]
    intro p _
    simp only [Bool.and_eq_true, decide_eq_true_eq, Bool.not_eq_true', Bool.or_eq_false_iff, decide_eq_false_iff_not, not_and]
    intro e h1 h2
    rcases h with h | h
    · exact h1 (by rw [e, h])
    · exact h2 (by rw [e, h])
  · rw [if_neg h]
    congr 1
    apply List.filter_congr
    intro p _
    by_cases hp : p.1 = k
    · simp [hp, show ¬ k = a from fun e => h (.inl e), show ¬ k = b from fun e => h (.inr e)]
    · simp [hp]
theorem bag_len (l : List Pk) (k : Int × Int) : (bagOf l k).length ≤ l.length := by
  unfold bagOf; rw [List.length_map]; exact List.length_filter_le _ _

/- The order of links, and links in their order, each once. -/
def ltK (a b : Int × Int) : Prop := a.1 < b.1 ∨ (a.1 = b.1 ∧ a.2 < b.2)
instance (a b : Int × Int) : Decidable (ltK a b) := inferInstanceAs (Decidable (_ ∨ _))
theorem ltK_trans {a b c : Int × Int} (h : ltK a b) (g : ltK b c) : ltK a c := by unfold ltK at *; omega
theorem ltK_irr {a : Int × Int} (h : ltK a a) : False := by unfold ltK at *; omega
theorem ltK_tri (a b : Int × Int) : ltK a b ∨ a = b ∨ ltK b a := by
  obtain ⟨a1, a2⟩ := a
  obtain ⟨b1, b2⟩ := b
  unfold ltK
  simp only [Prod.mk.injEq]
  omega
def insK (x : Int × Int) : List (Int × Int) → List (Int × Int)
  | [] => [x]
  | y :: l => if ltK y x then y :: insK x l else if y = x then y :: l else x :: y :: l
def linksOf (l : List Pk) : List (Int × Int) := l.foldl (fun out p => insK p.1 out) []
theorem ins_mem (x y : Int × Int) : ∀ l, y ∈ insK x l ↔ y = x ∨ y ∈ l
  | [] => by simp [insK]
  | z :: l => by
    unfold insK
    split
    · rw [List.mem_cons, ins_mem x y l, List.mem_cons]
      constructor
      · rintro (h | h | h)
        · exact .inr (.inl h)
        · exact .inl h
        · exact .inr (.inr h)
      · rintro (h | h | h)
        · exact .inr (.inl h)
        · exact .inl h
        · exact .inr (.inr h)
    · split
      · next h => subst h; simp
      · rw [List.mem_cons]
theorem ins_sorted (x : Int × Int) : ∀ l, l.Pairwise ltK → (insK x l).Pairwise ltK
  | [], _ => by simp [insK]
  | z :: l, h => by
    obtain ⟨h1, h2⟩ := List.pairwise_cons.1 h
    unfold insK
    split
    · next hz =>
      refine List.pairwise_cons.2 ⟨fun y hy => ?_, ins_sorted x l h2⟩
      rcases (ins_mem x y l).1 hy with rfl | hy
      · exact hz
      · exact h1 y hy
    · next hz =>
      split
      · exact h
      · next hx =>
        have hxz : ltK x z := by
          rcases ltK_tri z x with h | h | h
          · exact absurd h hz
          · exact absurd h hx
          · exact h
        refine List.pairwise_cons.2 ⟨fun y hy => ?_, h⟩
        rcases List.mem_cons.1 hy with rfl | hy
        · exact hxz
        · exact ltK_trans hxz (h1 y hy)
theorem links_go : ∀ (l : List Pk) (out : List (Int × Int)), out.Pairwise ltK → (l.foldl (fun out p => insK p.1 out) out).Pairwise ltK ∧ ∀ y, y ∈ l.foldl (fun out p => insK p.1 out) out ↔ y ∈ out ∨ ∃ p ∈ l, p.1 = y
  | [], out, h => ⟨h, fun y => by simp⟩
  | p :: l, out, h => by
    obtain ⟨h1, h2⟩ := links_go l (insK p.1 out) (ins_sorted _ _ h)
    refine ⟨h1, fun y => ?_⟩
    rw [List.foldl_cons, h2, ins_mem]
    constructor
    · rintro ((h | h) | ⟨q, hq, h⟩)
      · exact .inr ⟨p, .head _, h.symm⟩
      · exact .inl h
      · exact .inr ⟨q, .tail _ hq, h⟩
    · rintro (h | ⟨q, hq, h⟩)
      · exact .inl (.inr h)
      · rcases List.mem_cons.1 hq with rfl | hq
        · exact .inl (.inl h.symm)
        · exact .inr ⟨q, hq, h⟩
theorem links_sorted (l : List Pk) : (linksOf l).Pairwise ltK := (links_go l [] .nil).1
theorem bag_ne (l : List Pk) (k : Int × Int) : bagOf l k ≠ [] ↔ ∃ p ∈ l, p.1 = k := by
  unfold bagOf
  rw [ne_eq, List.map_eq_nil_iff, List.filter_eq_nil_iff]
  constructor
  · intro h
    have := Classical.not_forall.1 h
    obtain ⟨p, hp⟩ := this
    have := Classical.not_imp.1 hp
    exact ⟨p, this.1, by simpa using this.2⟩
  · rintro ⟨p, hp, h⟩ hn
    exact hn p hp (by simpa using h)
theorem links_mem (l : List Pk) (k : Int × Int) : k ∈ linksOf l ↔ bagOf l k ≠ [] := by
  have := (links_go l [] .nil).2 k
  unfold linksOf
  rw [this, bag_ne]; simp
theorem nodup_of_sorted {l : List (Int × Int)} (h : l.Pairwise ltK) : l.Nodup := h.imp fun h e => by subst e; exact ltK_irr h
theorem sorted_eq {a b : List (Int × Int)} (ha : a.Pairwise ltK) (hb : b.Pairwise ltK) (h : ∀ k, k ∈ a ↔ k ∈ b) : a = b := by
  have hp : a.Perm b := (List.perm_ext_iff_of_nodup (nodup_of_sorted ha) (nodup_of_sorted hb)).2 h
  refine List.Perm.eq_of_pairwise (le := ltK) ?_ ha hb hp
  intro x y _ _ h1 h2
  exact (ltK_irr (ltK_trans h1 h2)).elim
theorem links_len (l : List Pk) : (linksOf l).length ≤ l.length := by
  have hgo : ∀ (l : List Pk) (out : List (Int × Int)), (l.foldl (fun out p => insK p.1 out) out).length ≤ out.length + l.length := by
    intro l
    induction l with
    | nil => intro out; simp
    | cons p l ih =>
      intro out
      have h1 := ih (insK p.1 out)
      have h2 : ∀ (x : Int × Int) (o : List (Int × Int)), (insK x o).length ≤ o.length + 1 := by
        intro x o
        induction o with
        | nil => simp [insK]
        | cons y o ih =>
          unfold insK
          split
          · simp only [List.length_cons]; omega
          · split <;> simp
      have h3 := h2 p.1 out
      simp only [List.foldl_cons, List.length_cons]
      omega
  have := hgo l []
  simpa [linksOf] using this

/- What a bag of the map holds. -/
def bytesAt (k : Int × Int) (L : List Bg) : List (List UInt8) := ((look k L).map fun p => p.ps.map Prod.fst).getD []

abbrev RwB := 27
/- A net in memory: the block n, its map m, its bags. -/
structure Nk (w : World) (base n m : Nat) (L : List Bg) : Prop where
  cell : w.heap[n]? = some (.cells #[.map (some m)] 40 (0, 0))
  map : MapIs w m L
  bags : ∀ p ∈ L, w.ownsRow base 27 1 p.v p.ps.length (p.ps.map Prod.snd)
  rows : ∀ p ∈ L, ∀ x ∈ p.ps, w.ownsRow base 5 1 x.2 x.1.length (bv x.1)
  apB : ∀ p ∈ L, ∀ q ∈ L, p.k ≠ q.k → ∀ g, blk p.v = some g → blk q.v ≠ some g
  apP : ∀ p ∈ L, p.ps.Pairwise fun x y => ∀ g, blk x.2 = some g → blk y.2 ≠ some g
  apQ : ∀ p ∈ L, ∀ q ∈ L, p.k ≠ q.k → ∀ x ∈ p.ps, ∀ y ∈ q.ps, ∀ g, blk x.2 = some g → blk y.2 ≠ some g
  fits : ∀ p ∈ L, 0 < p.ps.length ∧ p.ps.length ≤ 32 ∧ ∀ x ∈ p.ps, x.1.length ≤ 1048576
  low : base ≤ n ∧ base ≤ m
/- The blocks that are its own. -/
def Sx (n m : Nat) (L : List Bg) (g : Nat) : Prop := g = n ∨ g = m ∨ (∃ p ∈ L, blk p.v = some g) ∨ ∃ p ∈ L, ∃ x ∈ p.ps, blk x.2 = some g

theorem heap_lt {w : World} {g : Nat} {o : Obj} (h : w.heap[g]? = some o) : g < w.heap.size := (Array.getElem?_eq_some_iff.1 h).1
theorem owns_keepT {T : TypeId} {S : Nat → Prop} {w w' : World} {base : Nat} {v : Value} {n : Nat} {xs : List Value} (h : w.ownsRow base T 1 v n xs) (hc : Chg S w w') (hn : ∀ k, blk v = some k → ¬ S k) : w'.ownsRow base T 1 v n xs := by
  refine ⟨h.1, ?_⟩
  rcases h.2 with h | ⟨g, cap, cur, rfl, hb, hg, hr⟩
  · exact .inl h
  · exact .inr ⟨g, cap, cur, rfl, hb, by rw [hc.block g (heap_lt hg) (hn g rfl)]; exact hg, hr⟩
theorem owns_lowT {T : TypeId} {w : World} {base base' : Nat} {v : Value} {n : Nat} {xs : List Value} (h : w.ownsRow base T 1 v n xs) (hb : base' ≤ base) : w.ownsRow base' T 1 v n xs := by
  refine ⟨h.1, ?_⟩
  rcases h.2 with h | ⟨g, cap, cur, rfl, hg, hr⟩
  · exact .inl h
  · exact .inr ⟨g, cap, cur, rfl, Nat.le_trans hb hg, hr⟩
theorem owns_blockT {T : TypeId} {w : World} {base : Nat} {v : Value} {n : Nat} {xs : List Value} (h : w.ownsRow base T 1 v n xs) {k : Nat} (hk : blk v = some k) : ∃ cur, w.heap[k]? = some (.cells cur T (0, 0)) ∧ base ≤ k := by
  rcases h.2 with ⟨rfl, _⟩ | ⟨g, cap, cur, rfl, hb, hg, hr⟩
  · cases hk
  · cases hk; exact ⟨cur, hg, hb⟩
theorem owns_formT {T : TypeId} {w : World} {base n : Nat} {v : Value} {xs : List Value} (h : w.ownsRow base T 1 v n xs) : ∃ A C, v = .slice A n C := by
  rcases h.2 with ⟨rfl, rfl⟩ | ⟨g, cap, cur, rfl, _⟩
  · exact ⟨none, 0, rfl⟩
  · exact ⟨_, cap, rfl⟩

theorem Nk.lt {w : World} {base n m : Nat} {L : List Bg} (h : Nk w base n m L) : ∀ g, Sx n m L g → base ≤ g ∧ g < w.heap.size := by
  rintro g (rfl | rfl | ⟨p, hp, hk⟩ | ⟨p, hp, x, hx, hk⟩)
  · exact ⟨h.low.1, heap_lt h.cell⟩
  · exact ⟨h.low.2, h.map.lt⟩
  · obtain ⟨cur, hc, hb⟩ := owns_blockT (h.bags p hp) hk
    exact ⟨hb, heap_lt hc⟩
  · obtain ⟨cur, hc, hb⟩ := owns_blockT (h.rows p hp x hx) hk
    exact ⟨hb, heap_lt hc⟩
theorem Nk.keep {T : Nat → Prop} {w w' : World} {base n m : Nat} {L : List Bg} (h : Nk w base n m L) (hc : Chg T w w') (hn : ∀ g, Sx n m L g → ¬ T g) : Nk w' base n m L := by
  obtain ⟨h1, h2, h3, h4, h5, h6, h7, h8, h9⟩ := h
  exact ⟨by rw [hc.block n (heap_lt h1) (hn n (.inl rfl))]; exact h1, h2.keep hc (hn m (.inr (.inl rfl))), fun p hp => owns_keepT (h3 p hp) hc (fun k hk => hn k (.inr (.inr (.inl ⟨p, hp, hk⟩)))),
    fun p hp x hx => owns_keepT (h4 p hp x hx) hc (fun k hk => hn k (.inr (.inr (.inr ⟨p, hp, x, hx, hk⟩)))), h5, h6, h7, h8, h9⟩
theorem Nk.below {w w' : World} {base n m : Nat} {L : List Bg} (h : Nk w base n m L) (hb : Below w.heap.size w w') : Nk w' base n m L := h.keep (Chg.of_below hb) (fun _ _ => id)
theorem Nk.alloc {w : World} {base n m : Nat} {L : List Bg} (h : Nk w base n m L) (o : Obj) : Nk (w.alloc o) base n m L := h.keep (Chg.alloc Non w o) (fun _ _ => id)
theorem Nk.drew {w : World} {base n m : Nat} {L : List Bg} (h : Nk w base n m L) : Nk w.drew base n m L := h.keep (Chg.drew Non w) (fun _ _ => id)
theorem Nk.ne {w : World} {base n m : Nat} {L : List Bg} (h : Nk w base n m L) : n ≠ m := by
  intro e
  obtain ⟨es, c, hb, _⟩ := h.map
  have := h.cell
  rw [e, hb] at this; cases this
theorem Nk.bag_ne {w : World} {base n m : Nat} {L : List Bg} (h : Nk w base n m L) {p : Bg} (hp : p ∈ L) {g : Nat} (hk : blk p.v = some g) : g ≠ n ∧ g ≠ m ∧ ∀ q ∈ L, ∀ x ∈ q.ps, blk x.2 ≠ some g := by
  obtain ⟨cur, hc, _⟩ := owns_blockT (h.bags p hp) hk
  refine ⟨?_, ?_, ?_⟩
  · intro e; rw [e, h.cell] at hc; cases hc
  · intro e; subst e
    obtain ⟨es, c, hb, _⟩ := h.map
    rw [hb] at hc; cases hc
  · intro q hq x hx e
    obtain ⟨cur', hc', _⟩ := owns_blockT (h.rows q hq x hx) e
    rw [hc'] at hc; cases hc
theorem Nk.row_ne {w : World} {base n m : Nat} {L : List Bg} (h : Nk w base n m L) {p : Bg} (hp : p ∈ L) {x : List UInt8 × Value} (hx : x ∈ p.ps) {g : Nat} (hk : blk x.2 = some g) : g ≠ n ∧ g ≠ m ∧ ∀ q ∈ L, blk q.v ≠ some g := by
  obtain ⟨cur, hc, _⟩ := owns_blockT (h.rows p hp x hx) hk
  refine ⟨?_, ?_, ?_⟩
  · intro e; rw [e, h.cell] at hc; cases hc
  · intro e; subst e
    obtain ⟨es, c, hb, _⟩ := h.map
    rw [hb] at hc; cases hc
  · intro q hq e
    obtain ⟨cur', hc', _⟩ := owns_blockT (h.bags q hq) e
    rw [hc'] at hc; cases hc

theorem put_mem' : ∀ {L : List Bg} {p q : Bg}, (L.map fun p => p.k).Nodup → q ∈ putL p L → q = p ∨ (q ∈ L ∧ q.k ≠ p.k)
  | [], p, q, _, h => by simp [putL] at h; exact .inl h
  | x :: L, p, q, hn, h => by
    simp only [List.map_cons, List.nodup_cons] at hn
    unfold putL at h
    split at h
    · next hx =>
      rcases List.mem_cons.1 h with h | h
      · exact .inl h
      · exact .inr ⟨.tail _ h, fun e => hn.1 (List.mem_map.2 ⟨q, h, by rw [e, hx]⟩)⟩
    · next hx =>
      rcases List.mem_cons.1 h with h | h
      · exact .inr (by rw [h]; exact ⟨.head _, hx⟩)
      · exact (put_mem' hn.2 h).imp id (fun h => ⟨.tail _ h.1, h.2⟩)
theorem del_mem' : ∀ {L : List Bg} {k : Int × Int} {q : Bg}, (L.map fun p => p.k).Nodup → q ∈ delL k L → q ∈ L ∧ q.k ≠ k
  | [], _, q, _, h => by simp [delL] at h
  | x :: L, k, q, hn, h => by
    simp only [List.map_cons, List.nodup_cons] at hn
    unfold delL at h
    split at h
    · next hx => exact ⟨.tail _ h, fun e => hn.1 (List.mem_map.2 ⟨q, h, by rw [e, hx]⟩)⟩
    · next hx =>
      rcases List.mem_cons.1 h with rfl | h
      · exact ⟨.head _, hx⟩
      · exact ⟨.tail _ (del_mem' hn.2 h).1, (del_mem' hn.2 h).2⟩
theorem look_put (p : Bg) (k : Int × Int) : ∀ L : List Bg, look k (putL p L) = if p.k = k then some p else look k L
  | [] => by unfold putL look look; rfl
  | q :: L => by
    unfold putL
    split
    · next h =>
      unfold look
      by_cases hk : p.k = k
      · simp [hk]
      · have : ¬ q.k = k := by rw [h]; exact hk
        simp [hk, this]
    · next h =>
      have ih := look_put p k L
      by_cases hq : q.k = k
      · have : ¬ p.k = k := fun e => h (by rw [hq, e])
        simp [look, hq, this]
      · simp only [look, hq, if_false]; exact ih
theorem look_none_of {L : List Bg} {k : Int × Int} (h : ∀ q ∈ L, q.k ≠ k) : look k L = none := by
  induction L with
  | nil => rfl
  | cons q L ih =>
    unfold look
    rw [if_neg (h q (.head _)), ih (fun x hx => h x (.tail _ hx))]
theorem look_del (k k' : Int × Int) : ∀ L : List Bg, (L.map fun p => p.k).Nodup → look k' (delL k L) = if k = k' then none else look k' L
  | [], _ => by simp [delL, look]
  | q :: L, hn => by
    simp only [List.map_cons, List.nodup_cons] at hn
    unfold delL
    by_cases hq : q.k = k
    · rw [if_pos hq]
      by_cases h : k = k'
      · rw [if_pos h]
        exact look_none_of fun x hx e => hn.1 (List.mem_map.2 ⟨x, hx, by rw [e, hq, h]⟩)
      · have hqk : ¬ q.k = k' := by rw [hq]; exact h
        rw [if_neg h]
        simp [look, hqk]
    · rw [if_neg hq]
      have ih := look_del k k' L hn.2
      by_cases hqk : q.k = k'
      · have h : ¬ k = k' := fun e => hq (by rw [hqk, e])
        simp [look, hqk, h]
      · simp only [look, hqk, if_false]; exact ih

/- A bag put into a net: in its old row, or in a new one; its packets are old ones of this link, or new. -/
theorem Nk.put {T : Nat → Prop} {w w1 w2 : World} {base n m : Nat} {L : List Bg} (h : Nk w base n m L) (p : Bg) (c1 : Chg T w w1)
    (hT : ∀ g, g < w.heap.size → T g → ∃ q, look p.k L = some q ∧ blk q.v = some g)
    (hbag : w1.ownsRow base 27 1 p.v p.ps.length (p.ps.map Prod.snd)) (hbl : ∀ g, blk p.v = some g → w.heap.size ≤ g ∨ ∃ q, look p.k L = some q ∧ blk q.v = some g)
    (hrow : ∀ x ∈ p.ps, w1.ownsRow base 5 1 x.2 x.1.length (bv x.1)) (hrl : ∀ x ∈ p.ps, (∀ g, blk x.2 = some g → w.heap.size ≤ g) ∨ ∃ q, look p.k L = some q ∧ x ∈ q.ps)
    (hap : p.ps.Pairwise fun x y => ∀ g, blk x.2 = some g → blk y.2 ≠ some g)
    (hf : 0 < p.ps.length ∧ p.ps.length ≤ 32 ∧ ∀ x ∈ p.ps, x.1.length ≤ 1048576)
    (hm : MapIs w2 m (putL p L)) (c2 : Chg (fun k => k = m) w1 w2) : Nk w2 base n m (putL p L) := by
  have hN := h.map.names
  have hlt := h.lt
  have hTn : ∀ g, Sx n m L g → (∀ q, look p.k L = some q → blk q.v ≠ some g) → ¬ T g := by
    intro g hs hq e
    obtain ⟨q, h1, h2⟩ := hT g (hlt g hs).2 e
    exact hq q h1 h2
  have hm1 : w1.heap[m]? = w.heap[m]? := by
    refine c1.block m h.map.lt (hTn m (.inr (.inl rfl)) fun q hq e => (h.bag_ne (look_some hq).1 e).2.1 rfl)
  have hpm : ∀ g, (∃ T' cur, w1.heap[g]? = some (.cells cur T' (0, 0))) → g ≠ m := by
    rintro g ⟨T', cur, hc⟩ e
    subst e
    obtain ⟨es, c, hb', _⟩ := h.map
    rw [hm1, hb'] at hc; cases hc
  refine ⟨?_, hm, ?_, ?_, ?_, ?_, ?_, ?_, h.low⟩
  · have hd := heap_lt h.cell
    rw [c2.block n (c1.lt_of hd) h.ne, c1.block n hd (hTn n (.inl rfl) fun q hq e => (h.bag_ne (look_some hq).1 e).1 rfl)]
    exact h.cell
  · intro q hq
    rcases put_mem' hN hq with rfl | ⟨hq, hne⟩
    · refine owns_keepT hbag c2 fun g hg => hpm g ?_
      obtain ⟨cur, hc, _⟩ := owns_blockT hbag hg
      exact ⟨_, cur, hc⟩
    · refine owns_keepT (owns_keepT (h.bags q hq) c1 fun g hg => hTn g (.inr (.inr (.inl ⟨q, hq, hg⟩))) fun r hr e => ?_) c2 fun g hg e => (h.bag_ne hq hg).2.1 e
      exact h.apB q hq r (look_some hr).1 (by rw [(look_some hr).2]; exact hne) g hg e
  · intro q hq x hx
    rcases put_mem' hN hq with rfl | ⟨hq, hne⟩
    · refine owns_keepT (hrow x hx) c2 fun g hg => hpm g ?_
      obtain ⟨cur, hc, _⟩ := owns_blockT (hrow x hx) hg
      exact ⟨_, cur, hc⟩
    · refine owns_keepT (owns_keepT (h.rows q hq x hx) c1 fun g hg => hTn g (.inr (.inr (.inr ⟨q, hq, x, hx, hg⟩))) fun r hr e => ?_) c2 fun g hg e => (h.row_ne hq hx hg).2.1 e
      exact (h.row_ne hq hx hg).2.2 r (look_some hr).1 e
  · have key : ∀ q ∈ L, q.k ≠ p.k → ∀ g, blk p.v = some g → blk q.v ≠ some g := by
      intro q hq hne g hg e
      rcases hbl g hg with h1 | ⟨r, hr, h1⟩
      · have := (hlt g (.inr (.inr (.inl ⟨q, hq, e⟩)))).2; omega
      · exact h.apB q hq r (look_some hr).1 (by rw [(look_some hr).2]; exact hne) g e h1
    intro q hq r hr hne
    rcases put_mem' hN hq with eq | ⟨hq1, hq'⟩
    · rcases put_mem' hN hr with er | ⟨hr1, hr'⟩
      · exact absurd (by rw [eq, er]) hne
      · rw [eq]; exact key r hr1 hr'
    · rcases put_mem' hN hr with er | ⟨hr1, hr'⟩
      · rw [er]; exact fun g h1 h2 => key q hq1 hq' g h2 h1
      · exact h.apB q hq1 r hr1 hne
  · intro q hq
    rcases put_mem' hN hq with rfl | ⟨hq, _⟩
    · exact hap
    · exact h.apP q hq
  · have key : ∀ q ∈ L, q.k ≠ p.k → ∀ x ∈ p.ps, ∀ y ∈ q.ps, ∀ g, blk x.2 = some g → blk y.2 ≠ some g := by
      intro q hq hne x hx y hy g hg e
      rcases hrl x hx with h1 | ⟨r, hr, h1⟩
      · have := (hlt g (.inr (.inr (.inr ⟨q, hq, y, hy, e⟩)))).2
        have := h1 g hg; omega
      · exact h.apQ q hq r (look_some hr).1 (by rw [(look_some hr).2]; exact hne) y hy x h1 g e hg
    intro q hq r hr hne
    rcases put_mem' hN hq with eq | ⟨hq1, hq'⟩
    · rcases put_mem' hN hr with er | ⟨hr1, hr'⟩
      · exact absurd (by rw [eq, er]) hne
      · rw [eq]; exact key r hr1 hr'
    · rcases put_mem' hN hr with er | ⟨hr1, hr'⟩
      · rw [er]; exact fun x hx y hy g h1 h2 => key q hq1 hq' y hy x hx g h2 h1
      · exact h.apQ q hq1 r hr1 hne
  · intro q hq
    rcases put_mem' hN hq with rfl | ⟨hq, _⟩
    · exact hf
    · exact h.fits q hq
/- A bag taken out of a net; what its row held may have turned. -/
theorem Nk.del {T : Nat → Prop} {w w1 w2 : World} {base n m : Nat} {L : List Bg} (h : Nk w base n m L) (k : Int × Int) (c1 : Chg T w w1)
    (hT : ∀ g, g < w.heap.size → T g → ∃ q, look k L = some q ∧ blk q.v = some g)
    (hm : MapIs w2 m (delL k L)) (c2 : Chg (fun k => k = m) w1 w2) : Nk w2 base n m (delL k L) := by
  have hN := h.map.names
  have hlt := h.lt
  have hTn : ∀ g, Sx n m L g → (∀ q, look k L = some q → blk q.v ≠ some g) → ¬ T g := by
    intro g hs hq e
    obtain ⟨q, h1, h2⟩ := hT g (hlt g hs).2 e
    exact hq q h1 h2
  refine ⟨?_, hm, ?_, ?_, ?_, ?_, ?_, ?_, h.low⟩
  · have hd := heap_lt h.cell
    rw [c2.block n (c1.lt_of hd) h.ne, c1.block n hd (hTn n (.inl rfl) fun q hq e => (h.bag_ne (look_some hq).1 e).1 rfl)]
    exact h.cell
  · intro q hq
    obtain ⟨hq, hne⟩ := del_mem' hN hq
    refine owns_keepT (owns_keepT (h.bags q hq) c1 fun g hg => hTn g (.inr (.inr (.inl ⟨q, hq, hg⟩))) fun r hr e => ?_) c2 fun g hg e => (h.bag_ne hq hg).2.1 e
    exact h.apB q hq r (look_some hr).1 (by rw [(look_some hr).2]; exact hne) g hg e
  · intro q hq x hx
    obtain ⟨hq, hne⟩ := del_mem' hN hq
    refine owns_keepT (owns_keepT (h.rows q hq x hx) c1 fun g hg => hTn g (.inr (.inr (.inr ⟨q, hq, x, hx, hg⟩))) fun r hr e => ?_) c2 fun g hg e => (h.row_ne hq hx hg).2.1 e
    exact (h.row_ne hq hx hg).2.2 r (look_some hr).1 e
  · exact fun q hq r hr => h.apB q (del_mem' hN hq).1 r (del_mem' hN hr).1
  · exact fun q hq => h.apP q (del_mem' hN hq).1
  · exact fun q hq r hr => h.apQ q (del_mem' hN hq).1 r (del_mem' hN hr).1
  · exact fun q hq => h.fits q (del_mem' hN hq).1

/- Which packets a net has. -/
def Fit (L : List Bg) (l : List Pk) : Prop := ∀ k, bytesAt k L = bagOf l k
theorem Fit.put {L : List Bg} {l : List Pk} (h : Fit L l) (p : Bg) (l' : List Pk) (h1 : p.ps.map Prod.fst = bagOf l' p.k) (h2 : ∀ k, p.k ≠ k → bagOf l' k = bagOf l k) : Fit (putL p L) l' := by
  intro k
  unfold bytesAt
  rw [look_put]
  by_cases hk : p.k = k
  · subst hk; simp [h1]
  · rw [if_neg hk, h2 k hk]; exact h k
theorem Fit.del {L : List Bg} {l : List Pk} (h : Fit L l) (hN : (L.map fun p => p.k).Nodup) (k : Int × Int) (l' : List Pk) (h1 : bagOf l' k = []) (h2 : ∀ k', k ≠ k' → bagOf l' k' = bagOf l k') : Fit (delL k L) l' := by
  intro k'
  unfold bytesAt
  rw [look_del k k' L hN]
  by_cases hk : k = k'
  · subst hk; simp [h1]
  · rw [if_neg hk, h2 k' hk]; exact h k'
theorem Fit.at {L : List Bg} {l : List Pk} (h : Fit L l) {k : Int × Int} {q : Bg} (hq : look k L = some q) : q.ps.map Prod.fst = bagOf l k := by
  rw [← h k]; simp [bytesAt, hq]
theorem Fit.none {L : List Bg} {l : List Pk} (h : Fit L l) {k : Int × Int} (hq : look k L = none) : bagOf l k = [] := by
  rw [← h k]; simp [bytesAt, hq]

/- A net with what it hides; T: blocks that are not its own. -/
def Nx (w : World) (n : Nat) (l : List Pk) (T : Nat → Prop) : Prop :=
  ∃ base m L, base ≤ w.heap.size ∧ Nk w base n m L ∧ Fit L l ∧ (∀ g, T g → ¬ Sx n m L g) ∧ ∀ g, T g → g < w.heap.size
/- Nothing of T has turned. -/
abbrev Kp (T : Nat → Prop) (w w' : World) : Prop := Chg (fun k => ¬ T k) w w'
theorem Kp.of_below {T : Nat → Prop} {w w' : World} (h : Below w.heap.size w w') : Kp T w w' := (Chg.of_below h).weak (fun _ _ e => e.elim)
theorem Kp.below {T : Nat → Prop} {w w' : World} {B : Nat} (h : Kp T w w') (hT : ∀ k, k < B → T k) (hB : B ≤ w.heap.size) : Below B w w' :=
  Chg.below (S := fun k => ¬ T k) h (fun k hk => Nat.le_of_not_lt fun hlt => hk (hT k hlt)) hB
theorem Bs.kp {T : Nat → Prop} {w w' : World} {v : Value} {l : List UInt8} (h : Bs w v l) (hc : Kp T w w') (hT : ∀ k, bk v = some k → T k) : Bs w' v l := h.keep hc (fun k hk e => e (hT k hk))
theorem Nx.lt {w : World} {n : Nat} {l : List Pk} {T : Nat → Prop} (h : Nx w n l T) : ∀ g, T g → g < w.heap.size := by
  obtain ⟨base, m, L, _, _, _, _, h⟩ := h; exact h
theorem Nx.below {w w' : World} {n : Nat} {l : List Pk} {T : Nat → Prop} (h : Nx w n l T) (hB : Below w.heap.size w w') : Nx w' n l T := by
  obtain ⟨base, m, L, h1, h2, h3, h4, h5⟩ := h
  exact ⟨base, m, L, Nat.le_trans h1 hB.size, h2.below hB, h3, h4, fun k hk => Nat.lt_of_lt_of_le (h5 k hk) hB.size⟩
theorem Nx.alloc {w : World} {n : Nat} {l : List Pk} {T : Nat → Prop} (h : Nx w n l T) (o : Obj) : Nx (w.alloc o) n l T := h.below ((Below.refl _ _).alloc (Nat.le_refl _) o)
theorem Nx.drew {w : World} {n : Nat} {l : List Pk} {T : Nat → Prop} (h : Nx w n l T) : Nx w.drew n l T := h.below (Below.refl _ _).drew
theorem below_drewN {B : Nat} {a w : World} (h : Below B a w) (n : Nat) : Below B a (w.drewN n) := ⟨h.os, h.tape, h.output, by cases n <;> exact h.size, by cases n <;> exact h.block⟩
theorem Nx.drewN {w : World} {n : Nat} {l : List Pk} {T : Nat → Prop} (h : Nx w n l T) (k : Nat) : Nx (w.drewN k) n l T := h.below (below_drewN (Below.refl _ _) k)
/- What is new may be set apart. -/
theorem Nx.more {w w' : World} {n : Nat} {l : List Pk} {T : Nat → Prop} (h : Nx w n l T) (hB : Below w.heap.size w w') : Nx w' n l (fun k => T k ∨ (w.heap.size ≤ k ∧ k < w'.heap.size)) := by
  obtain ⟨base, m, L, h1, h2, h3, h4, h5⟩ := h
  refine ⟨base, m, L, Nat.le_trans h1 hB.size, h2.below hB, h3, fun k hk => ?_, fun k hk => ?_⟩
  · rcases hk with hk | hk
    · exact h4 k hk
    · intro e; have := (h2.lt k e).2; omega
  · rcases hk with hk | hk
    · exact Nat.lt_of_lt_of_le (h5 k hk) hB.size
    · exact hk.2
theorem Nx.fewer {w : World} {n : Nat} {l : List Pk} {T T' : Nat → Prop} (h : Nx w n l T) (hT : ∀ k, T' k → T k) : Nx w n l T' := by
  obtain ⟨base, m, L, h1, h2, h3, h4, h5⟩ := h
  exact ⟨base, m, L, h1, h2, h3, fun k hk => h4 k (hT k hk), fun k hk => h5 k (hT k hk)⟩
/- Another way to say which packets there are. -/
theorem Nx.same {w : World} {n : Nat} {l l' : List Pk} {T : Nat → Prop} (h : Nx w n l T) (hl : ∀ k, bagOf l' k = bagOf l k) : Nx w n l' T := by
  obtain ⟨base, m, L, h1, h2, h3, h4, h5⟩ := h
  exact ⟨base, m, L, h1, h2, fun k => by rw [h3 k, hl k], h4, h5⟩
theorem Nk.bag {w : World} {base n m : Nat} {L : List Bg} (h : Nk w base n m L) {l : List Pk} (hf : Fit L l) (k : Int × Int) : (bagOf l k).length ≤ 32 ∧ ∀ x ∈ bagOf l k, x.length ≤ 1048576 := by
  cases hq : look k L with
  | none => rw [hf.none hq]; simp
  | some q =>
    rw [← hf.at hq]
    obtain ⟨_, h2, h3⟩ := h.fits q (look_some hq).1
    refine ⟨by rw [List.length_map]; exact h2, fun x hx => ?_⟩
    obtain ⟨y, hy, rfl⟩ := List.mem_map.1 hx
    exact h3 y hy
theorem Nx.bag {w : World} {n : Nat} {l : List Pk} {T : Nat → Prop} (h : Nx w n l T) (k : Int × Int) : (bagOf l k).length ≤ 32 ∧ ∀ x ∈ bagOf l k, x.length ≤ 1048576 := by
  obtain ⟨base, m, L, h1, h2, h3, h4, h5⟩ := h
  exact h2.bag h3 k
end Go.Proofs.Ytjclegiohhbkpaa
