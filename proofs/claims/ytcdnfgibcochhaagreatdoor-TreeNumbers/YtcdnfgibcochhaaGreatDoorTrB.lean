/- Trees: the laws of both maps at the operations, their mathematics, and what lies in memory for a tree. -/
import Derived.Test.YtcdnfgibcochhaaGreatDoorTrS
namespace Go.Proofs.YtcdnfgibcochhaaGreatDoor
open Go.RowKit Go.MapKept

section
variable {w : World} {ops : Array Oper} {rest : List Oper} {o : Oper} {a : Act} {Q : Exit → Act → World → Prop}
theorem wpList_upd (hg : o.guard = none) (m x v : Operand) (hop : o.op = Op.mapUpdate 35 m x v) {mb : Nat} {L : List Fv} (p : Fv) (hm : a.eval m = .map (some mb)) (hx : a.eval x = .string (mkS p.1.nm)) (hv : a.eval v = valOf p) (h : MapIs w mb L)
    (hK : ∀ w', MapIs w' mb (putL p L) → Chg (fun k => k = mb) w w' → w'.heap.size = w.heap.size → wpList Tryz.prog ops Q rest (a.put o.dst undef) w') : wpList Tryz.prog ops Q (o :: rest) a w := by
  refine wpList_plain hg fun K' hK' => ?_
  obtain ⟨w', hrun, r1, r2, r3⟩ := h.update p
  unfold Oper.wp
  simp [execOp, hop, hm, hx, hv, hrun, Result.andThen]
  exact hK' _ _ (hK w' r1 r2 r3)
theorem wpList_updR (hg : o.guard = none) (m x v : Operand) (hop : o.op = Op.mapUpdate 35 m x v) {mb r : Nat} {L : List Fv} {left : List (List UInt8)} (p : Fv) {q : Fv} (hq : look p.1.nm L = some q) (hm : a.eval m = .map (some mb)) (hx : a.eval x = .string (mkS p.1.nm)) (hv : a.eval v = valOf p) (h : Ranges w mb r L left)
    (hK : ∀ w', Ranges w' mb r (putL p L) left → Chg (fun k => k = mb) w w' → w'.heap.size = w.heap.size → wpList Tryz.prog ops Q rest (a.put o.dst undef) w') : wpList Tryz.prog ops Q (o :: rest) a w := by
  refine wpList_plain hg fun K' hK' => ?_
  obtain ⟨w', hrun, r1, r2, r3⟩ := h.update p hq
  unfold Oper.wp
  simp [execOp, hop, hm, hx, hv, hrun, Result.andThen]
  exact hK' _ _ (hK w' r1 r2 r3)
theorem wpList_del (hg : o.guard = none) (m x : Operand) (hop : o.op = Op.call { callee := Callee.builtin Builtin.delete, args := #[m, x], argTypes := #[35, 9] }) {mb : Nat} {L : List Fv} (k : List UInt8) (hm : a.eval m = .map (some mb)) (hx : a.eval x = .string (mkS k)) (h : MapIs w mb L)
    (hK : ∀ w', MapIs w' mb (delL k L) → Chg (fun k => k = mb) w w' → w'.heap.size = w.heap.size → wpList Tryz.prog ops Q rest (a.put o.dst (.tuple #[])) w') : wpList Tryz.prog ops Q (o :: rest) a w := by
  refine wpList_plain hg fun K' hK' => ?_
  obtain ⟨w', hrun, r1, r2, r3⟩ := h.delete k o.type
  unfold Oper.wp
  simp [execOp, hop, resolve, invoke, builtin, hm, hx, hrun, Result.andThen]
  exact hK' _ _ (hK w' r1 r2 r3)
theorem wpList_rng (hg : o.guard = none) (m : Operand) (hop : o.op = Op.range 35 m) {mb : Nat} {L : List Fv} (hm : a.eval m = .map (some mb)) (h : MapIs w mb L)
    (hK : ∀ w', Ranges w' mb w.heap.size L (L.map fun p => p.1.nm) → Chg Non w w' → w'.heap.size = w.heap.size + 1 → wpList Tryz.prog ops Q rest (a.put o.dst (.pointer (some ⟨w.heap.size, 0, none⟩))) w') : wpList Tryz.prog ops Q (o :: rest) a w := by
  refine wpList_plain hg fun K' hK' => ?_
  obtain ⟨w', hrun, r1, r2, r3⟩ := h.range
  unfold Oper.wp
  simp [execOp, hop, hm, hrun, Result.andThen]
  exact hK' _ _ (hK w' r1 r2 r3)
theorem wpList_nxt (hg : o.guard = none) (it : Operand) (hop : o.op = Op.next it false) {mb r : Nat} {L : List Fv} {left : List (List UInt8)} (hit : a.eval it = .pointer (some ⟨r, 0, none⟩)) (h : Ranges w mb r L left) (hsl : ∀ p ∈ L, ∃ A C, p.2 = .slice A p.1.b.length C)
    (hDone : left = [] → wpList Tryz.prog ops Q rest (a.put o.dst (.tuple #[.bool false])) w)
    (hMore : ∀ (l1 l2 : List (List UInt8)) (f : Fi) (A : Option Addr) (C : Nat) (w' : World), left = l1 ++ f.nm :: l2 → look f.nm L = some (f, .slice A f.b.length C) → Ranges w' mb r L (l1 ++ l2) → Chg (fun k => k = r) w w' → w'.heap.size = w.heap.size →
      (Instr.entry (.pointer (some ⟨r, 0, none⟩))).run Tryz.prog w' = .ok (.tuple #[.string (mkS f.nm), valOf (f, .slice A f.b.length C)]) w' → wpList Tryz.prog ops Q rest (a.put o.dst (.tuple #[.bool true, .string (mkS f.nm), valOf (f, .slice A f.b.length C)])) w') : wpList Tryz.prog ops Q (o :: rest) a w := by
  refine wpList_plain hg fun K' hK' => ?_
  unfold Oper.wp
  rcases h.next o.type with ⟨h0, hrun⟩ | ⟨l1, l2, p, w', h1, h2, hrun, h3, h4, h5, h6⟩
  · simp [execOp, hop, hit, hrun, Result.andThen]
    exact hK' _ _ (hDone h0)
  · obtain ⟨A, C, hv⟩ := hsl p (look_some h2).1
    obtain ⟨f, v⟩ := p
    simp only at hv
    subst hv
    simp [execOp, hop, hit, hrun, Result.andThen]
    exact hK' _ _ (hMore l1 l2 f A C w' h1 h2 h3 h4 h5 h6)
end

theorem Ranges.left_eq {w : World} {m r : Nat} {L : List Fv} {left : List (List UInt8)} (h : Ranges w m r L left) : w.rangeLeft m r = left.length := by
  obtain ⟨es, clock, since, seen, c0, h1, h2, h3, h4, _, _, _, h5⟩ := h
  simp only [World.rangeLeft, h1, h4]
  have := congrArg List.length h5
  simpa using this

def lookF (k : List UInt8) : List Fi → Option Fi
  | [] => none
  | q :: L => if q.nm = k then some q else lookF k L
def putF (p : Fi) : List Fi → List Fi
  | [] => [p]
  | q :: L => if q.nm = p.nm then p :: L else q :: putF p L
def delF (k : List UInt8) : List Fi → List Fi
  | [] => []
  | q :: L => if q.nm = k then L else q :: delF k L
theorem look_F (k : List UInt8) : ∀ L : List Fv, (look k L).map Prod.fst = lookF k (L.map Prod.fst)
  | [] => rfl
  | q :: L => by
    unfold look lookF
    simp only [List.map_cons]
    split
    · rfl
    · exact look_F k L
theorem put_F (p : Fv) : ∀ L : List Fv, (putL p L).map Prod.fst = putF p.1 (L.map Prod.fst)
  | [] => rfl
  | q :: L => by
    unfold putL putF
    simp only [List.map_cons]
    split
    · rfl
    · simp [put_F p L]
theorem del_F (k : List UInt8) : ∀ L : List Fv, (delL k L).map Prod.fst = delF k (L.map Prod.fst)
  | [] => rfl
  | q :: L => by
    unfold delL delF
    simp only [List.map_cons]
    split
    · rfl
    · simp [del_F k L]
theorem put_mem : ∀ {L : List Fv} {p q : Fv}, q ∈ putL p L → q = p ∨ q ∈ L
  | [], p, q, h => by simp [putL] at h; exact .inl h
  | x :: L, p, q, h => by
    unfold putL at h
    split at h
    · rcases List.mem_cons.1 h with h | h
      · exact .inl h
      · exact .inr (.tail _ h)
    · rcases List.mem_cons.1 h with h | h
      · exact .inr (by rw [h]; exact .head _)
      · exact (put_mem h).imp id (.tail _)
theorem del_mem : ∀ {L : List Fv} {k : List UInt8} {q : Fv}, q ∈ delL k L → q ∈ L
  | [], k, q, h => by simp [delL] at h
  | x :: L, k, q, h => by
    unfold delL at h
    split at h
    · exact .tail _ h
    · rcases List.mem_cons.1 h with h | h
      · rw [h]; exact .head _
      · exact .tail _ (del_mem h)
theorem del_sub (k : List UInt8) : ∀ L : List Fv, (delL k L).Sublist L
  | [] => .slnil
  | x :: L => by
    unfold delL
    split
    · exact (List.Sublist.refl _).cons _
    · exact (del_sub k L).cons_cons _
theorem put_mem' : ∀ {L : List Fv} {p q : Fv}, (L.map fun p => p.1.nm).Nodup → q ∈ putL p L → q = p ∨ (q ∈ L ∧ q.1.nm ≠ p.1.nm)
  | [], p, q, _, h => by simp [putL] at h; exact .inl h
  | x :: L, p, q, hn, h => by
    simp only [List.map_cons, List.nodup_cons] at hn
    unfold putL at h
    split at h
    · next hx =>
      rcases List.mem_cons.1 h with h | h
      · exact .inl h
      · exact .inr ⟨.tail _ h, fun e => hn.1 (List.mem_map.2 ⟨q, h, by rw [e, hx]⟩)⟩
    · next hx =>
      rcases List.mem_cons.1 h with h | h
      · exact .inr (by rw [h]; exact ⟨.head _, hx⟩)
      · exact (put_mem' hn.2 h).imp id (fun h => ⟨.tail _ h.1, h.2⟩)
theorem put_pair {R : Fv → Fv → Prop} : ∀ {L : List Fv} {p : Fv}, (L.map fun p => p.1.nm).Nodup → L.Pairwise R → (∀ q ∈ L, q.1.nm ≠ p.1.nm → R p q ∧ R q p) → (putL p L).Pairwise R
  | [], p, _, _, _ => by simp [putL]
  | x :: L, p, hn, hL, hp => by
    simp only [List.map_cons, List.nodup_cons] at hn
    obtain ⟨h1, h2⟩ := List.pairwise_cons.1 hL
    unfold putL
    split
    · next hx =>
      refine List.pairwise_cons.2 ⟨fun q hq => (hp q (.tail _ hq) (fun e => hn.1 (List.mem_map.2 ⟨q, hq, by rw [e, hx]⟩))).1, h2⟩
    · next hx =>
      refine List.pairwise_cons.2 ⟨fun q hq => ?_, put_pair hn.2 h2 (fun q hq => hp q (.tail _ hq))⟩
      rcases put_mem' hn.2 hq with rfl | ⟨hq, _⟩
      · exact (hp x (.head _) hx).2
      · exact h1 q hq

end Go.Proofs.YtcdnfgibcochhaaGreatDoor
namespace Go.Proofs.YtcdnfgibcochhaaGreatDoor.Si
open Go.RowKit Go.MapKept

section
variable {w : World} {ops : Array Oper} {rest : List Oper} {o : Oper} {a : Act} {Q : Exit → Act → World → Prop}
theorem wpList_upd (hg : o.guard = none) (m x v : Operand) (hop : o.op = Op.mapUpdate 36 m x v) {mb : Nat} {L : List Fv} (p : Fv) (hm : a.eval m = .map (some mb)) (hx : a.eval x = .int .i64 p.1.nm) (hv : a.eval v = valOf p) (h : MapIs w mb L)
    (hK : ∀ w', MapIs w' mb (putL p L) → Chg (fun k => k = mb) w w' → w'.heap.size = w.heap.size → wpList Tryz.prog ops Q rest (a.put o.dst undef) w') : wpList Tryz.prog ops Q (o :: rest) a w := by
  refine wpList_plain hg fun K' hK' => ?_
  obtain ⟨w', hrun, r1, r2, r3⟩ := h.update p
  unfold Oper.wp
  simp [execOp, hop, hm, hx, hv, hrun, Result.andThen]
  exact hK' _ _ (hK w' r1 r2 r3)
theorem wpList_updR (hg : o.guard = none) (m x v : Operand) (hop : o.op = Op.mapUpdate 36 m x v) {mb r : Nat} {L : List Fv} {left : List Int} (p : Fv) {q : Fv} (hq : look p.1.nm L = some q) (hm : a.eval m = .map (some mb)) (hx : a.eval x = .int .i64 p.1.nm) (hv : a.eval v = valOf p) (h : Ranges w mb r L left)
    (hK : ∀ w', Ranges w' mb r (putL p L) left → Chg (fun k => k = mb) w w' → w'.heap.size = w.heap.size → wpList Tryz.prog ops Q rest (a.put o.dst undef) w') : wpList Tryz.prog ops Q (o :: rest) a w := by
  refine wpList_plain hg fun K' hK' => ?_
  obtain ⟨w', hrun, r1, r2, r3⟩ := h.update p hq
  unfold Oper.wp
  simp [execOp, hop, hm, hx, hv, hrun, Result.andThen]
  exact hK' _ _ (hK w' r1 r2 r3)
theorem wpList_del (hg : o.guard = none) (m x : Operand) (hop : o.op = Op.call { callee := Callee.builtin Builtin.delete, args := #[m, x], argTypes := #[36, 2] }) {mb : Nat} {L : List Fv} (k : Int) (hm : a.eval m = .map (some mb)) (hx : a.eval x = .int .i64 k) (h : MapIs w mb L)
    (hK : ∀ w', MapIs w' mb (delL k L) → Chg (fun k => k = mb) w w' → w'.heap.size = w.heap.size → wpList Tryz.prog ops Q rest (a.put o.dst (.tuple #[])) w') : wpList Tryz.prog ops Q (o :: rest) a w := by
  refine wpList_plain hg fun K' hK' => ?_
  obtain ⟨w', hrun, r1, r2, r3⟩ := h.delete k o.type
  unfold Oper.wp
  simp [execOp, hop, resolve, invoke, builtin, hm, hx, hrun, Result.andThen]
  exact hK' _ _ (hK w' r1 r2 r3)
theorem wpList_rng (hg : o.guard = none) (m : Operand) (hop : o.op = Op.range 36 m) {mb : Nat} {L : List Fv} (hm : a.eval m = .map (some mb)) (h : MapIs w mb L)
    (hK : ∀ w', Ranges w' mb w.heap.size L (L.map fun p => p.1.nm) → Chg Non w w' → w'.heap.size = w.heap.size + 1 → wpList Tryz.prog ops Q rest (a.put o.dst (.pointer (some ⟨w.heap.size, 0, none⟩))) w') : wpList Tryz.prog ops Q (o :: rest) a w := by
  refine wpList_plain hg fun K' hK' => ?_
  obtain ⟨w', hrun, r1, r2, r3⟩ := h.range
  unfold Oper.wp
  simp [execOp, hop, hm, hrun, Result.andThen]
  exact hK' _ _ (hK w' r1 r2 r3)
theorem wpList_nxt (hg : o.guard = none) (it : Operand) (hop : o.op = Op.next it false) {mb r : Nat} {L : List Fv} {left : List Int} (hit : a.eval it = .pointer (some ⟨r, 0, none⟩)) (h : Ranges w mb r L left)
    (hDone : left = [] → wpList Tryz.prog ops Q rest (a.put o.dst (.tuple #[.bool false])) w)
    (hMore : ∀ (l1 l2 : List Int) (f : Fv) (w' : World), left = l1 ++ f.1.nm :: l2 → look f.1.nm L = some f → Ranges w' mb r L (l1 ++ l2) → Chg (fun k => k = r) w w' → w'.heap.size = w.heap.size →
      (Instr.entry (.pointer (some ⟨r, 0, none⟩))).run Tryz.prog w' = .ok (.tuple #[.int .i64 f.1.nm, valOf f]) w' → wpList Tryz.prog ops Q rest (a.put o.dst (.tuple #[.bool true, .int .i64 f.1.nm, valOf f])) w') : wpList Tryz.prog ops Q (o :: rest) a w := by
  refine wpList_plain hg fun K' hK' => ?_
  unfold Oper.wp
  rcases h.next o.type with ⟨h0, hrun⟩ | ⟨l1, l2, p, w', h1, h2, hrun, h3, h4, h5, h6⟩
  · simp [execOp, hop, hit, hrun, Result.andThen]
    exact hK' _ _ (hDone h0)
  · simp [execOp, hop, hit, hrun, Result.andThen]
    exact hK' _ _ (hMore l1 l2 p w' h1 h2 h3 h4 h5 h6)
end

theorem Ranges.left_eq {w : World} {m r : Nat} {L : List Fv} {left : List Int} (h : Ranges w m r L left) : w.rangeLeft m r = left.length := by
  obtain ⟨es, clock, since, seen, c0, h1, h2, h3, h4, _, _, _, h5⟩ := h
  simp only [World.rangeLeft, h1, h4]
  have := congrArg List.length h5
  simpa using this

def lookF (k : Int) : List Fi → Option Fi
  | [] => none
  | q :: L => if q.nm = k then some q else lookF k L
def putF (p : Fi) : List Fi → List Fi
  | [] => [p]
  | q :: L => if q.nm = p.nm then p :: L else q :: putF p L
def delF (k : Int) : List Fi → List Fi
  | [] => []
  | q :: L => if q.nm = k then L else q :: delF k L
theorem look_F (k : Int) : ∀ L : List Fv, (look k L).map Prod.fst = lookF k (L.map Prod.fst)
  | [] => rfl
  | q :: L => by
    unfold look lookF
    simp only [List.map_cons]
    split
    · rfl
    · exact look_F k L
theorem put_F (p : Fv) : ∀ L : List Fv, (putL p L).map Prod.fst = putF p.1 (L.map Prod.fst)
  | [] => rfl
  | q :: L => by
    unfold putL putF
    simp only [List.map_cons]
    split
    · rfl
    · simp [put_F p L]
theorem del_F (k : Int) : ∀ L : List Fv, (delL k L).map Prod.fst = delF k (L.map Prod.fst)
  | [] => rfl
  | q :: L => by
    unfold delL delF
    simp only [List.map_cons]
    split
    · rfl
    · simp [del_F k L]
theorem put_mem : ∀ {L : List Fv} {p q : Fv}, q ∈ putL p L → q = p ∨ q ∈ L
  | [], p, q, h => by simp [putL] at h; exact .inl h
  | x :: L, p, q, h => by
    unfold putL at h
    split at h
    · rcases List.mem_cons.1 h with h | h
      · exact .inl h
      · exact .inr (.tail _ h)
    · rcases List.mem_cons.1 h with h | h
      · exact .inr (by rw [h]; exact .head _)
      · exact (put_mem h).imp id (.tail _)
theorem del_mem : ∀ {L : List Fv} {k : Int} {q : Fv}, q ∈ delL k L → q ∈ L
  | [], k, q, h => by simp [delL] at h
  | x :: L, k, q, h => by
    unfold delL at h
    split at h
    · exact .tail _ h
    · rcases List.mem_cons.1 h with h | h
      · rw [h]; exact .head _
      · exact .tail _ (del_mem h)
theorem del_sub (k : Int) : ∀ L : List Fv, (delL k L).Sublist L
  | [] => .slnil
  | x :: L => by
    unfold delL
    split
    · exact (List.Sublist.refl _).cons _
    · exact (del_sub k L).cons_cons _
end Go.Proofs.YtcdnfgibcochhaaGreatDoor.Si
namespace Go.Proofs.YtcdnfgibcochhaaGreatDoor
open Go.RowKit Go.MapKept

/- A tree in memory: its block t, its map of nodes m, its map of sittings n. -/
structure Tk (w : World) (t m n : Nat) (L : List Fv) (K : List Si.Fv) : Prop where
  cell : w.heap[t]? = some (.cells #[.map (some m), .map (some n)] 38 (0, 0))
  nodes : MapIs w m L
  seats : Si.MapIs w n K
  ne : m ≠ n
  bs : ∀ p ∈ L, w.ownsRow 0 5 1 p.2 p.1.b.length (bv p.1.b)
  fits : ∀ p ∈ L, p.1.b.length ≤ 1000 ∧ p.1.st.len = 0 ∧ p.1.st.chd = 0
/- What it writes. -/
def Wt (t m n : Nat) (k : Nat) : Prop := k = t ∨ k = m ∨ k = n
theorem theap_lt {w : World} {g : Nat} {o : Obj} (h : w.heap[g]? = some o) : g < w.heap.size := (Array.getElem?_eq_some_iff.1 h).1
theorem towns_keep {T : TypeId} {sz : Nat} {S : Nat → Prop} {w w' : World} {base : Nat} {v : Value} {n : Nat} {xs : List Value} (h : w.ownsRow base T sz v n xs) (hc : Chg S w w') (hn : ∀ k, v.ownBlock = some k → ¬ S k) : w'.ownsRow base T sz v n xs := by
  refine ⟨h.1, ?_⟩
  rcases h.2 with h | ⟨g, cap, cur, rfl, hb, hg, hr⟩
  · exact .inl h
  · exact .inr ⟨g, cap, cur, rfl, hb, by rw [hc.block g (theap_lt hg) (hn g rfl)]; exact hg, hr⟩
theorem towns_block {T : TypeId} {sz : Nat} {w : World} {base : Nat} {v : Value} {n : Nat} {xs : List Value} (h : w.ownsRow base T sz v n xs) {k : Nat} (hk : v.ownBlock = some k) : ∃ cur, w.heap[k]? = some (.cells cur T (0, 0)) ∧ base ≤ k := by
  rcases h.2 with ⟨rfl, _⟩ | ⟨g, cap, cur, rfl, hb, hg, hr⟩
  · cases hk
  · cases hk; exact ⟨cur, hg, hb⟩
theorem Tk.keep {S : Nat → Prop} {w w' : World} {t m n : Nat} {L : List Fv} {K : List Si.Fv} (h : Tk w t m n L K) (hc : Chg S w w') (hn : ∀ k, Wt t m n k → ¬ S k) (hb : ∀ p ∈ L, ∀ k, p.2.ownBlock = some k → ¬ S k) : Tk w' t m n L K := by
  obtain ⟨h1, h2, h3, h4, h5, h6⟩ := h
  exact ⟨by rw [hc.block t (theap_lt h1) (hn t (.inl rfl))]; exact h1, h2.keep hc (hn m (.inr (.inl rfl))), h3.keep hc (hn n (.inr (.inr rfl))), h4, fun p hp => towns_keep (h5 p hp) hc (hb p hp), h6⟩
theorem Tk.below {w w' : World} {t m n : Nat} {L : List Fv} {K : List Si.Fv} (h : Tk w t m n L K) (hb : Below w.heap.size w w') : Tk w' t m n L K := h.keep (Chg.of_below hb) (fun _ _ => id) (fun _ _ _ _ => id)
theorem Tk.alloc {w : World} {t m n : Nat} {L : List Fv} {K : List Si.Fv} (h : Tk w t m n L K) (o : Obj) : Tk (w.alloc o) t m n L K := h.keep (Chg.alloc Non w o) (fun _ _ => id) (fun _ _ _ _ => id)
/- Bytes are no tree's to write. -/
theorem Tk.bs_ne {w : World} {t m n t' m' n' : Nat} {L L' : List Fv} {K K' : List Si.Fv} (h : Tk w t m n L K) (h' : Tk w t' m' n' L' K') {p : Fv} (hp : p ∈ L) {k : Nat} (hk : p.2.ownBlock = some k) : ¬ Wt t' m' n' k := by
  obtain ⟨cur, hc, _⟩ := towns_block (h.bs p hp) hk
  rintro (e | e | e)
  · rw [e, h'.cell] at hc; cases hc
  · obtain ⟨es, c, hb, _⟩ := h'.nodes
    rw [e, hb] at hc; cases hc
  · obtain ⟨es, c, hb, _⟩ := h'.seats
    rw [e, hb] at hc; cases hc
theorem Tk.lt {w : World} {t m n : Nat} {L : List Fv} {K : List Si.Fv} (h : Tk w t m n L K) : ∀ k, Wt t m n k → k < w.heap.size := by
  rintro k (rfl | rfl | rfl)
  · exact theap_lt h.cell
  · exact h.nodes.lt
  · exact h.seats.lt
/- The tree t has the nodes N and the sittings S. -/
def Tr (w : World) (t m n : Nat) (N : List Fi) (S : List Si.Fi) : Prop := ∃ L K, Tk w t m n L K ∧ L.map Prod.fst = N ∧ K.map Prod.fst = S
theorem Tr.below {w w' : World} {t m n : Nat} {N : List Fi} {S : List Si.Fi} (h : Tr w t m n N S) (hb : Below w.heap.size w w') : Tr w' t m n N S := by
  obtain ⟨L, K, h1, h2, h3⟩ := h; exact ⟨L, K, h1.below hb, h2, h3⟩
/- A node put: its bytes lie in a row that nobody writes. -/
theorem Tk.put {w w1 w2 : World} {t m n : Nat} {L : List Fv} {K : List Si.Fv} (h : Tk w t m n L K) (p : Fv) (c1 : Below w.heap.size w w1) (hrow : w1.ownsRow 0 5 1 p.2 p.1.b.length (bv p.1.b)) (hne : ∀ k, p.2.ownBlock = some k → k ≠ m)
    (hm : MapIs w2 m (putL p L)) (c2 : Chg (fun k => k = m) w1 w2) (hf : p.1.b.length ≤ 1000 ∧ p.1.st.len = 0 ∧ p.1.st.chd = 0) : Tk w2 t m n (putL p L) K := by
  have h1 := h.below c1
  have hN := h.nodes.names
  have htm : t ≠ m := by
    intro e
    obtain ⟨es, c, hb, _⟩ := h.nodes
    have := h.cell
    rw [e, hb] at this; cases this
  refine ⟨by rw [c2.block t (theap_lt h1.cell) htm]; exact h1.cell, hm, h1.seats.keep c2 (fun e => h.ne e.symm), h.ne, fun q hq => ?_, fun q hq => ?_⟩
  · rcases put_mem' hN hq with rfl | ⟨hq, _⟩
    · exact towns_keep hrow c2 (fun k hk e => hne k hk e)
    · exact towns_keep (h1.bs q hq) c2 (fun k hk e => h1.bs_ne h1 hq hk (.inr (.inl e)))
  · rcases put_mem' hN hq with rfl | ⟨hq, _⟩
    · exact hf
    · exact h.fits q hq
theorem Tk.del {w w2 : World} {t m n : Nat} {L : List Fv} {K : List Si.Fv} (h : Tk w t m n L K) (k : List UInt8) (hm : MapIs w2 m (delL k L)) (c2 : Chg (fun k => k = m) w w2) : Tk w2 t m n (delL k L) K := by
  have htm : t ≠ m := by
    intro e
    obtain ⟨es, c, hb, _⟩ := h.nodes
    have := h.cell
    rw [e, hb] at this; cases this
  refine ⟨by rw [c2.block t (theap_lt h.cell) htm]; exact h.cell, hm, h.seats.keep c2 (fun e => h.ne e.symm), h.ne, fun q hq => ?_, fun q hq => h.fits q (del_mem hq)⟩
  exact towns_keep (h.bs q (del_mem hq)) c2 (fun k hk e => h.bs_ne h (del_mem hq) hk (.inr (.inl e)))
theorem Tk.seat {w w2 : World} {t m n : Nat} {L : List Fv} {K K' : List Si.Fv} (h : Tk w t m n L K) (hm : Si.MapIs w2 n K') (c2 : Chg (fun k => k = n) w w2) : Tk w2 t m n L K' := by
  have htn : t ≠ n := by
    intro e
    obtain ⟨es, c, hb, _⟩ := h.seats
    have := h.cell
    rw [e, hb] at this; cases this
  refine ⟨by rw [c2.block t (theap_lt h.cell) htn]; exact h.cell, h.nodes.keep c2 h.ne, hm, h.ne, fun q hq => ?_, h.fits⟩
  exact towns_keep (h.bs q hq) c2 (fun k hk e => h.bs_ne h hq hk (.inr (.inr e)))
end Go.Proofs.YtcdnfgibcochhaaGreatDoor
