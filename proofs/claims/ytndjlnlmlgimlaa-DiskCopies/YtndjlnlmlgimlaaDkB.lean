/- Disks: what lies in memory for one, its mathematics, and the laws of a map of files at the operations. -/
import Derived.Test.YtndjlnlmlgimlaaDkA
namespace Go.Proofs.Ytndjlnlmlgimlaa
open Go.RowKit Go.MapKept

section
variable {w : World} {ops : Array Oper} {rest : List Oper} {o : Oper} {a : Act} {Q : Exit → Act → World → Prop}
theorem wpList_upd (hg : o.guard = none) (m x v : Operand) (hop : o.op = Op.mapUpdate 43 m x v) {mb : Nat} {L : List Fv} (p : Fv) (hm : a.eval m = .map (some mb)) (hx : a.eval x = .string (mkS p.1.nm)) (hv : a.eval v = valOf p) (h : MapIs w mb L)
    (hK : ∀ w', MapIs w' mb (putL p L) → Chg (fun k => k = mb) w w' → w'.heap.size = w.heap.size → wpList Try.prog ops Q rest (a.put o.dst undef) w') : wpList Try.prog ops Q (o :: rest) a w := by
  refine wpList_plain hg fun K' hK' => ?_
  obtain ⟨w', hrun, r1, r2, r3⟩ := h.update p
  unfold Oper.wp
  simp [execOp, hop, hm, hx, hv, hrun, Result.andThen]
  exact hK' _ _ (hK w' r1 r2 r3)
theorem wpList_updR (hg : o.guard = none) (m x v : Operand) (hop : o.op = Op.mapUpdate 43 m x v) {mb r : Nat} {L : List Fv} {left : List (List UInt8)} (p : Fv) {q : Fv} (hq : look p.1.nm L = some q) (hm : a.eval m = .map (some mb)) (hx : a.eval x = .string (mkS p.1.nm)) (hv : a.eval v = valOf p) (h : Ranges w mb r L left)
    (hK : ∀ w', Ranges w' mb r (putL p L) left → Chg (fun k => k = mb) w w' → w'.heap.size = w.heap.size → wpList Try.prog ops Q rest (a.put o.dst undef) w') : wpList Try.prog ops Q (o :: rest) a w := by
  refine wpList_plain hg fun K' hK' => ?_
  obtain ⟨w', hrun, r1, r2, r3⟩ := h.update p hq
  unfold Oper.wp
  simp [execOp, hop, hm, hx, hv, hrun, Result.andThen]
  exact hK' _ _ (hK w' r1 r2 r3)
theorem wpList_del (hg : o.guard = none) (m x : Operand) (hop : o.op = Op.call { callee := Callee.builtin Builtin.delete, args := #[m, x], argTypes := #[43, 9] }) {mb : Nat} {L : List Fv} (k : List UInt8) (hm : a.eval m = .map (some mb)) (hx : a.eval x = .string (mkS k)) (h : MapIs w mb L)
    (hK : ∀ w', MapIs w' mb (delL k L) → Chg (fun k => k = mb) w w' → w'.heap.size = w.heap.size → wpList Try.prog ops Q rest (a.put o.dst (.tuple #[])) w') : wpList Try.prog ops Q (o :: rest) a w := by
  refine wpList_plain hg fun K' hK' => ?_
  obtain ⟨w', hrun, r1, r2, r3⟩ := h.delete k o.type
  unfold Oper.wp
  simp [execOp, hop, resolve, invoke, builtin, hm, hx, hrun, Result.andThen]
  exact hK' _ _ (hK w' r1 r2 r3)
theorem wpList_rng (hg : o.guard = none) (m : Operand) (hop : o.op = Op.range 43 m) {mb : Nat} {L : List Fv} (hm : a.eval m = .map (some mb)) (h : MapIs w mb L)
    (hK : ∀ w', Ranges w' mb w.heap.size L (L.map fun p => p.1.nm) → Chg Non w w' → w'.heap.size = w.heap.size + 1 → wpList Try.prog ops Q rest (a.put o.dst (.pointer (some ⟨w.heap.size, 0, none⟩))) w') : wpList Try.prog ops Q (o :: rest) a w := by
  refine wpList_plain hg fun K' hK' => ?_
  obtain ⟨w', hrun, r1, r2, r3⟩ := h.range
  unfold Oper.wp
  simp [execOp, hop, hm, hrun, Result.andThen]
  exact hK' _ _ (hK w' r1 r2 r3)
theorem wpList_nxt (hg : o.guard = none) (it : Operand) (hop : o.op = Op.next it false) {mb r : Nat} {L : List Fv} {left : List (List UInt8)} (hit : a.eval it = .pointer (some ⟨r, 0, none⟩)) (h : Ranges w mb r L left) (hsl : ∀ p ∈ L, ∃ A C, p.2 = .slice A p.1.b.length C)
    (hDone : left = [] → wpList Try.prog ops Q rest (a.put o.dst (.tuple #[.bool false])) w)
    (hMore : ∀ (l1 l2 : List (List UInt8)) (f : Fi) (A : Option Addr) (C : Nat) (w' : World), left = l1 ++ f.nm :: l2 → look f.nm L = some (f, .slice A f.b.length C) → Ranges w' mb r L (l1 ++ l2) → Chg (fun k => k = r) w w' → w'.heap.size = w.heap.size →
      (Instr.entry (.pointer (some ⟨r, 0, none⟩))).run Try.prog w' = .ok (.tuple #[.string (mkS f.nm), .agg #[.slice A f.b.length C, .int .i64 (f.sy : Int)]]) w' → wpList Try.prog ops Q rest (a.put o.dst (.tuple #[.bool true, .string (mkS f.nm), .agg #[.slice A f.b.length C, .int .i64 (f.sy : Int)]])) w') : wpList Try.prog ops Q (o :: rest) a w := by
  refine wpList_plain hg fun K' hK' => ?_
  unfold Oper.wp
  rcases h.next o.type with ⟨h0, hrun⟩ | ⟨l1, l2, p, w', h1, h2, hrun, h3, h4, h5, h6⟩
  · simp [execOp, hop, hit, hrun, Result.andThen]
    exact hK' _ _ (hDone h0)
  · obtain ⟨A, C, hv⟩ := hsl p (look_some h2).1
    obtain ⟨f, v⟩ := p
    simp only at hv
    subst hv
    simp [execOp, hop, hit, hrun, Result.andThen]
    exact hK' _ _ (hMore l1 l2 f A C w' h1 h2 h3 h4 h5 h6)
end

theorem Ranges.left_eq {w : World} {m r : Nat} {L : List Fv} {left : List (List UInt8)} (h : Ranges w m r L left) : w.rangeLeft m r = left.length := by
  obtain ⟨es, clock, since, seen, c0, h1, h2, h3, h4, _, _, _, h5⟩ := h
  simp only [World.rangeLeft, h1, h4]
  have := congrArg List.length h5
  simpa using this

/- The mathematics of disks. -/
def lookF (k : List UInt8) : List Fi → Option Fi
  | [] => none
  | q :: L => if q.nm = k then some q else lookF k L
def putF (p : Fi) : List Fi → List Fi
  | [] => [p]
  | q :: L => if q.nm = p.nm then p :: L else q :: putF p L
def delF (k : List UInt8) : List Fi → List Fi
  | [] => []
  | q :: L => if q.nm = k then L else q :: delF k L
def used : List Fi → Nat
  | [] => 0
  | q :: L => q.b.length + used L
def getF (k : List UInt8) (F : List Fi) : Fi := (lookF k F).getD ⟨[], [], 0⟩
def inN (c : UInt8) : Bool := (decide (97 ≤ c.toNat) && decide (c.toNat ≤ 122)) || (decide (48 ≤ c.toNat) && decide (c.toNat ≤ 57)) || decide (c.toNat = 46) || decide (c.toNat = 45)
def nameB (l : List UInt8) : Bool := decide (1 ≤ l.length) && decide (l.length ≤ 30) && l.all inN

theorem look_F (k : List UInt8) : ∀ L : List Fv, (look k L).map Prod.fst = lookF k (L.map Prod.fst)
  | [] => rfl
  | q :: L => by
    unfold look lookF
    simp only [List.map_cons]
    split
    · rfl
    · exact look_F k L
theorem put_F (p : Fv) : ∀ L : List Fv, (putL p L).map Prod.fst = putF p.1 (L.map Prod.fst)
  | [] => rfl
  | q :: L => by
    unfold putL putF
    simp only [List.map_cons]
    split
    · rfl
    · simp [put_F p L]
theorem del_F (k : List UInt8) : ∀ L : List Fv, (delL k L).map Prod.fst = delF k (L.map Prod.fst)
  | [] => rfl
  | q :: L => by
    unfold delL delF
    simp only [List.map_cons]
    split
    · rfl
    · simp [del_F k L]
theorem get_F (k : List UInt8) (L : List Fv) : ((look k L).getD zeroFv).1 = getF k (L.map Prod.fst) := by
  unfold getF
  rw [← look_F]
  cases look k L <;> rfl
theorem put_mem : ∀ {L : List Fv} {p q : Fv}, q ∈ putL p L → q = p ∨ q ∈ L
  | [], p, q, h => by simp [putL] at h; exact .inl h
  | x :: L, p, q, h => by
    unfold putL at h
    split at h
    · rcases List.mem_cons.1 h with h | h
      · exact .inl h
      · exact .inr (.tail _ h)
    · rcases List.mem_cons.1 h with h | h
      · exact .inr (by rw [h]; exact .head _)
      · exact (put_mem h).imp id (.tail _)
theorem del_mem : ∀ {L : List Fv} {k : List UInt8} {q : Fv}, q ∈ delL k L → q ∈ L
  | [], k, q, h => by simp [delL] at h
  | x :: L, k, q, h => by
    unfold delL at h
    split at h
    · exact .tail _ h
    · rcases List.mem_cons.1 h with h | h
      · rw [h]; exact .head _
      · exact .tail _ (del_mem h)
theorem del_sub (k : List UInt8) : ∀ L : List Fv, (delL k L).Sublist L
  | [] => .slnil
  | x :: L => by
    unfold delL
    split
    · exact (List.Sublist.refl _).cons _
    · exact (del_sub k L).cons_cons _
theorem used_put : ∀ (p : Fi) (F : List Fi), used (putF p F) + (getF p.nm F).b.length = used F + p.b.length
  | p, [] => by simp [putF, used, getF, lookF]
  | p, q :: F => by
    unfold putF
    by_cases h : q.nm = p.nm
    · simp [h, used, getF, lookF]; omega
    · have ih := used_put p F
      simp only [h, if_false, used, getF, lookF] at ih ⊢
      omega
theorem used_del : ∀ (k : List UInt8) (F : List Fi), used (delF k F) + (getF k F).b.length = used F
  | k, [] => by simp [delF, used, getF, lookF]
  | k, q :: F => by
    unfold delF
    by_cases h : q.nm = k
    · simp [h, used, getF, lookF]; omega
    · have ih := used_del k F
      simp only [h, if_false, used, getF, lookF] at ih ⊢
      omega
theorem len_le_used : ∀ {F : List Fi} {f : Fi}, f ∈ F → f.b.length ≤ used F
  | q :: F, f, h => by
    rcases List.mem_cons.1 h with rfl | h
    · simp [used]
    · have := len_le_used h; simp [used]; omega

/- A disk in memory: the block d, its map m, its files with their slices. -/
structure Dk (w : World) (base d m : Nat) (room : Int) (L : List Fv) : Prop where
  cell : w.heap[d]? = some (.cells #[.map (some m), .int .i64 room] 45 (0, 0))
  map : MapIs w m L
  rows : ∀ p ∈ L, w.ownsRow base 5 1 p.2 p.1.b.length (bv p.1.b)
  apart : L.Pairwise (fun p q => ∀ k, blk p.2 = some k → blk q.2 ≠ some k)
  fits : ∀ p ∈ L, p.1.sy ≤ p.1.b.length ∧ p.1.b.length ≤ 4194304
  rm : 0 ≤ room ∧ room < 9223372036854775808
  usd : (used (L.map Prod.fst) : Int) ≤ room
  low : base ≤ d ∧ base ≤ m
/- The blocks that are its own. -/
def Sx (d m : Nat) (L : List Fv) (k : Nat) : Prop := k = d ∨ k = m ∨ ∃ p ∈ L, blk p.2 = some k

theorem heap_lt {w : World} {g : Nat} {o : Obj} (h : w.heap[g]? = some o) : g < w.heap.size := (Array.getElem?_eq_some_iff.1 h).1
theorem owns_keep {S : Nat → Prop} {w w' : World} {base : Nat} {v : Value} {n : Nat} {xs : List Value} (h : w.ownsRow base 5 1 v n xs) (hc : Chg S w w') (hn : ∀ k, blk v = some k → ¬ S k) : w'.ownsRow base 5 1 v n xs := by
  refine ⟨h.1, ?_⟩
  rcases h.2 with h | ⟨g, cap, cur, rfl, hb, hg, hr⟩
  · exact .inl h
  · exact .inr ⟨g, cap, cur, rfl, hb, by rw [hc.block g (heap_lt hg) (hn g rfl)]; exact hg, hr⟩
theorem owns_low {w : World} {base base' : Nat} {v : Value} {n : Nat} {xs : List Value} (h : w.ownsRow base 5 1 v n xs) (hb : base' ≤ base) : w.ownsRow base' 5 1 v n xs := by
  refine ⟨h.1, ?_⟩
  rcases h.2 with h | ⟨g, cap, cur, rfl, hg, hr⟩
  · exact .inl h
  · exact .inr ⟨g, cap, cur, rfl, Nat.le_trans hb hg, hr⟩
theorem owns_block {w : World} {base : Nat} {v : Value} {n : Nat} {xs : List Value} (h : w.ownsRow base 5 1 v n xs) {k : Nat} (hk : blk v = some k) : ∃ cur, w.heap[k]? = some (.cells cur 5 (0, 0)) ∧ base ≤ k := by
  rcases h.2 with ⟨rfl, _⟩ | ⟨g, cap, cur, rfl, hb, hg, hr⟩
  · cases hk
  · cases hk; exact ⟨cur, hg, hb⟩
theorem Dk.keep {T : Nat → Prop} {w w' : World} {base d m : Nat} {room : Int} {L : List Fv} (h : Dk w base d m room L) (hc : Chg T w w') (hn : ∀ k, Sx d m L k → ¬ T k) : Dk w' base d m room L := by
  obtain ⟨h1, h2, h3, h4, h6, h7, h8, h9⟩ := h
  exact ⟨by rw [hc.block d (heap_lt h1) (hn d (.inl rfl))]; exact h1, h2.keep hc (hn m (.inr (.inl rfl))), fun p hp => owns_keep (h3 p hp) hc (fun k hk => hn k (.inr (.inr ⟨p, hp, hk⟩))), h4, h6, h7, h8, h9⟩
theorem Dk.alloc {w : World} {base d m : Nat} {room : Int} {L : List Fv} (h : Dk w base d m room L) (o : Obj) : Dk (w.alloc o) base d m room L := h.keep (Chg.alloc Non w o) (fun _ _ => id)
theorem Dk.below {w w' : World} {base d m : Nat} {room : Int} {L : List Fv} (h : Dk w base d m room L) (hb : Below w.heap.size w w') : Dk w' base d m room L := h.keep (Chg.of_below hb) (fun _ _ => id)
theorem Dk.ne {w : World} {base d m : Nat} {room : Int} {L : List Fv} (h : Dk w base d m room L) : d ≠ m := by
  intro e
  obtain ⟨es, c, hb, _⟩ := h.map
  have := h.cell
  rw [e, hb] at this; cases this
theorem Dk.row_ne {w : World} {base d m : Nat} {room : Int} {L : List Fv} (h : Dk w base d m room L) {p : Fv} (hp : p ∈ L) {k : Nat} (hk : blk p.2 = some k) : k ≠ d ∧ k ≠ m := by
  obtain ⟨cur, hc, _⟩ := owns_block (h.rows p hp) hk
  constructor
  · intro e; rw [e, h.cell] at hc; cases hc
  · intro e; subst e
    obtain ⟨es, c, hb, _⟩ := h.map
    rw [hb] at hc; cases hc
theorem Dk.lt {w : World} {base d m : Nat} {room : Int} {L : List Fv} (h : Dk w base d m room L) : ∀ k, Sx d m L k → base ≤ k ∧ k < w.heap.size := by
  rintro k (rfl | rfl | ⟨p, hp, hk⟩)
  · exact ⟨h.low.1, heap_lt h.cell⟩
  · exact ⟨h.low.2, h.map.lt⟩
  · obtain ⟨cur, hc, hb⟩ := owns_block (h.rows p hp) hk
    exact ⟨hb, heap_lt hc⟩
theorem Dk.form {w : World} {base d m : Nat} {room : Int} {L : List Fv} (h : Dk w base d m room L) : ∀ p ∈ L, ∃ A C, p.2 = .slice A p.1.b.length C := fun p hp => owns_form (h.rows p hp)
/- A block that is neither a disk, nor a map, nor a row of bytes, is no disk's own. -/
theorem Dk.other {w : World} {base d m : Nat} {room : Int} {L : List Fv} (h : Dk w base d m room L) {r : Nat} {o : Obj} (hr : w.heap[r]? = some o) (h1 : ∀ es c, o ≠ .map es c) (h2 : ∀ cs f, o ≠ .cells cs 45 f) (h3 : ∀ cs f, o ≠ .cells cs 5 f) : ¬ Sx d m L r := by
  rintro (rfl | rfl | ⟨p, hp, hk⟩)
  · rw [h.cell] at hr; cases hr; exact h2 _ _ rfl
  · obtain ⟨es, c, hb, _⟩ := h.map
    rw [hb] at hr; cases hr; exact h1 _ _ rfl
  · obtain ⟨cur, hc, hb⟩ := owns_block (h.rows p hp) hk
    rw [hc] at hr; cases hr; exact h3 _ _ rfl

theorem put_mem' : ∀ {L : List Fv} {p q : Fv}, (L.map fun p => p.1.nm).Nodup → q ∈ putL p L → q = p ∨ (q ∈ L ∧ q.1.nm ≠ p.1.nm)
  | [], p, q, _, h => by simp [putL] at h; exact .inl h
  | x :: L, p, q, hn, h => by
    simp only [List.map_cons, List.nodup_cons] at hn
    unfold putL at h
    split at h
    · next hx =>
      rcases List.mem_cons.1 h with h | h
      · exact .inl h
      · exact .inr ⟨.tail _ h, fun e => hn.1 (List.mem_map.2 ⟨q, h, by rw [e, hx]⟩)⟩
    · next hx =>
      rcases List.mem_cons.1 h with h | h
      · exact .inr (by rw [h]; exact ⟨.head _, hx⟩)
      · exact (put_mem' hn.2 h).imp id (fun h => ⟨.tail _ h.1, h.2⟩)
theorem put_pair {R : Fv → Fv → Prop} : ∀ {L : List Fv} {p : Fv}, (L.map fun p => p.1.nm).Nodup → L.Pairwise R → (∀ q ∈ L, q.1.nm ≠ p.1.nm → R p q ∧ R q p) → (putL p L).Pairwise R
  | [], p, _, _, _ => by simp [putL]
  | x :: L, p, hn, hL, hp => by
    simp only [List.map_cons, List.nodup_cons] at hn
    obtain ⟨h1, h2⟩ := List.pairwise_cons.1 hL
    unfold putL
    split
    · next hx =>
      refine List.pairwise_cons.2 ⟨fun q hq => (hp q (.tail _ hq) (fun e => hn.1 (List.mem_map.2 ⟨q, hq, by rw [e, hx]⟩))).1, h2⟩
    · next hx =>
      refine List.pairwise_cons.2 ⟨fun q hq => ?_, put_pair hn.2 h2 (fun q hq => hp q (.tail _ hq))⟩
      rcases put_mem' hn.2 hq with rfl | ⟨hq, _⟩
      · exact (hp x (.head _) hx).2
      · exact h1 q hq

/- A file put into a disk, whose bytes lie in a row that no other file has. -/
theorem Dk.put {T : Nat → Prop} {w w1 w2 : World} {base d m : Nat} {room : Int} {L : List Fv} (h : Dk w base d m room L) (p : Fv) (c1 : Chg T w w1) (hT : ∀ k, k < w.heap.size → T k → k ≠ d ∧ k ≠ m ∧ ∀ q ∈ L, q.1.nm ≠ p.1.nm → blk q.2 ≠ some k)
    (hrow : w1.ownsRow base 5 1 p.2 p.1.b.length (bv p.1.b)) (hloc : ∀ k, blk p.2 = some k → (∀ q ∈ L, q.1.nm ≠ p.1.nm → blk q.2 ≠ some k) ∨ w.heap.size ≤ k)
    (hm : MapIs w2 m (putL p L)) (c2 : Chg (fun k => k = m) w1 w2) (hf : p.1.sy ≤ p.1.b.length ∧ p.1.b.length ≤ 4194304) (hu : (used (putF p.1 (L.map Prod.fst)) : Int) ≤ room) :
    Dk w2 base d m room (putL p L) := by
  have hN := h.map.names
  have hlt := h.lt
  have hdm := h.ne
  have hpm : ∀ k, blk p.2 = some k → k ≠ m := by
    intro k hk e
    subst e
    obtain ⟨cur, hc, _⟩ := owns_block hrow hk
    obtain ⟨es, c, hb, _⟩ := hm
    have hmap := h.map
    obtain ⟨es', c', hb', _⟩ := hmap
    rw [c1.block k (hlt k (.inr (.inl rfl))).2 (fun e => (hT k (hlt k (.inr (.inl rfl))).2 e).2.1 rfl), hb'] at hc
    cases hc
  refine ⟨?_, hm, ?_, ?_, ?_, h.rm, by rw [put_F]; exact hu, h.low⟩
  · have hd := heap_lt h.cell
    rw [c2.block d (c1.lt_of hd) hdm, c1.block d hd (fun e => (hT d hd e).1 rfl)]
    exact h.cell
  · intro q hq
    rcases put_mem' hN hq with rfl | ⟨hq, hne⟩
    · exact owns_keep hrow c2 (fun k hk e => hpm k hk e)
    · exact owns_keep (owns_keep (h.rows q hq) c1 (fun k hk e => (hT k (hlt k (.inr (.inr ⟨q, hq, hk⟩))).2 e).2.2 q hq hne hk)) c2 (fun k hk e => (h.row_ne hq hk).2 e)
  · refine put_pair hN h.apart fun q hq hne => ⟨fun k hk e => ?_, fun k hk e => ?_⟩
    · rcases hloc k hk with h1 | h1
      · exact h1 q hq hne e
      · have := (hlt k (.inr (.inr ⟨q, hq, e⟩))).2; omega
    · rcases hloc k e with h1 | h1
      · exact h1 q hq hne hk
      · have := (hlt k (.inr (.inr ⟨q, hq, hk⟩))).2; omega
  · intro q hq
    rcases put_mem' hN hq with rfl | ⟨hq, _⟩
    · exact hf
    · exact h.fits q hq
theorem Dk.del {w w2 : World} {base d m : Nat} {room : Int} {L : List Fv} (h : Dk w base d m room L) (k : List UInt8) (hm : MapIs w2 m (delL k L)) (c2 : Chg (fun k => k = m) w w2) : Dk w2 base d m room (delL k L) := by
  refine ⟨?_, hm, ?_, h.apart.sublist (del_sub k L), fun p hp => h.fits p (del_mem hp), h.rm, ?_, h.low⟩
  · rw [c2.block d (heap_lt h.cell) h.ne]; exact h.cell
  · intro p hp
    exact owns_keep (h.rows p (del_mem hp)) c2 (fun i hi e => (h.row_ne (del_mem hp) hi).2 e)
  · have := used_del k (L.map Prod.fst)
    have := h.usd
    rw [del_F]; omega
theorem apart_ne : ∀ {L : List Fv}, L.Pairwise (fun p q => ∀ k, blk p.2 = some k → blk q.2 ≠ some k) → ∀ {p q : Fv}, p ∈ L → q ∈ L → p.1.nm ≠ q.1.nm → ∀ {b : Nat}, blk p.2 = some b → blk q.2 = some b → False
  | x :: L, h, p, q, hp, hq, hne, b, h1, h2 => by
    obtain ⟨ha, hb⟩ := List.pairwise_cons.1 h
    rcases List.mem_cons.1 hp with hp | hp
    · rcases List.mem_cons.1 hq with hq | hq
      · exact hne (by rw [hp, hq])
      · rw [hp] at h1; exact ha q hq b h1 h2
    · rcases List.mem_cons.1 hq with hq | hq
      · rw [hq] at h2; exact ha p hp b h2 h1
      · exact apart_ne hb hp hq hne h1 h2
theorem look_ne {L : List Fv} {q p : Fv} {k : List UInt8} (hL : L.Pairwise (fun p q => ∀ k, blk p.2 = some k → blk q.2 ≠ some k)) (hq : look k L = some q) (hp : p ∈ L) (hne : p.1.nm ≠ k) {b : Nat} (hb : blk q.2 = some b) : blk p.2 ≠ some b :=
  fun e => apart_ne hL hp (look_some hq).1 (by rw [(look_some hq).2]; exact hne) e hb

/- The disk d has the files F; S: blocks that may be its own. -/
def Dsk (w : World) (base d : Nat) (room : Int) (F : List Fi) (S : Nat → Prop) : Prop := ∃ m L, L.map Prod.fst = F ∧ Dk w base d m room L ∧ (∀ k, Sx d m L k → S k) ∧ (∀ k, S k → base ≤ k ∧ k < w.heap.size)
theorem Dsk.keep {T S : Nat → Prop} {w w' : World} {base d : Nat} {room : Int} {F : List Fi} (h : Dsk w base d room F S) (hc : Chg T w w') (hn : ∀ k, S k → ¬ T k) : Dsk w' base d room F S := by
  obtain ⟨m, L, h1, h2, h3, h4⟩ := h; exact ⟨m, L, h1, h2.keep hc (fun k hk => hn k (h3 k hk)), h3, fun k hk => ⟨(h4 k hk).1, hc.lt_of (h4 k hk).2⟩⟩
theorem Dsk.bound {w : World} {base d : Nat} {room : Int} {F : List Fi} {S : Nat → Prop} (h : Dsk w base d room F S) : ∀ k, S k → base ≤ k ∧ k < w.heap.size := by
  obtain ⟨m, L, h1, h2, h3, h4⟩ := h; exact h4
/- What a call leaves that changes the disk: its own blocks alone may have turned, and what is new may be its own. -/
def Nxt (base d : Nat) (room : Int) (S : Nat → Prop) (w w' : World) (F : List Fi) : Prop :=
  Chg S w w' ∧ Dsk w' base d room F (fun k => S k ∨ (w.heap.size ≤ k ∧ k < w'.heap.size))
theorem Nxt.of {base d : Nat} {room : Int} {S : Nat → Prop} {w w' : World} {m : Nat} {L : List Fv} {F : List Fi} (hb : base ≤ w.heap.size) (hS : ∀ k, S k → base ≤ k ∧ k < w.heap.size) (hc : Chg S w w') (hF : L.map Prod.fst = F) (h : Dk w' base d m room L)
    (hx : ∀ k, Sx d m L k → S k ∨ w.heap.size ≤ k) : Nxt base d room S w w' F := by
  refine ⟨hc, m, L, hF, h, fun k hk => (hx k hk).imp id (fun e => ⟨e, (h.lt k hk).2⟩), fun k hk => ?_⟩
  rcases hk with hk | hk
  · exact ⟨(hS k hk).1, hc.lt_of (hS k hk).2⟩
  · exact ⟨Nat.le_trans hb hk.1, hk.2⟩
theorem Nxt.refl {base d : Nat} {room : Int} {S : Nat → Prop} {w w' : World} {F : List Fi} (hb : base ≤ w.heap.size) (h : Dsk w base d room F S) (hB : Below w.heap.size w w') : Nxt base d room S w w' F := by
  obtain ⟨m, L, h1, h2, h3, h4⟩ := h
  exact Nxt.of hb h4 ((Chg.of_below hB).weak (fun _ _ e => e.elim)) h1 (h2.below hB) (fun k hk => .inl (h3 k hk))
end Go.Proofs.Ytndjlnlmlgimlaa
