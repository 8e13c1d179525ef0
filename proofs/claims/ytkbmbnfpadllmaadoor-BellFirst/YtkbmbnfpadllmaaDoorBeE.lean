/- The rings of one change. -/
import Derived.Test.YtkbmbnfpadllmaaDoorBeDt
import Derived.Shelf.SlSortCmp.NoneTotal
namespace Go.Proofs.YtkbmbnfpadllmaaDoor.We
set_option linter.unusedSimpArgs false
set_option linter.unusedVariables false
open Go.RowKit Go.MapKept
open Go.Sort (Holds putRow grow)
set_option linter.unusedVariables false
set_option linter.unusedSimpArgs false

section
variable {α : Type} [Inhabited α]
theorem heap_put {w : World} {g n : Nat} {cur : Array Value} {e : TypeId} {fr : Nat × Nat} (enc : α → Value) (d : Array α) (hb : w.heap[g]? = some (.cells cur e fr)) :
    (putRow enc (Go.Sort.ahead w n) g 0 d).heap[g]? = some (.cells (Go.Sort.putCells enc 0 d cur) e fr) := by
  simp [putRow, Go.Sort.mapBlock, Go.Sort.ahead, Array.getElem?_modify, hb, Go.Sort.onCells]
theorem chg_put {w : World} {g n : Nat} (enc : α → Value) (d : Array α) : Chg (fun k => k = g) w (putRow enc (Go.Sort.ahead w n) g 0 d) := by
  refine ⟨rfl, rfl, rfl, by simp, fun k hk hne => ?_⟩
  have : g ≠ k := fun e => hne e.symm
  simp [putRow, Go.Sort.mapBlock, Go.Sort.ahead, Array.getElem?_modify, this]
theorem take_put (enc : α → Value) (cur : Array Value) (ts : List α) (M : Nat) (h : ts.length ≤ cur.size) (hM : M ≤ ts.length) : (Go.Sort.putCells enc 0 ts.toArray cur).toList.take M = (ts.take M).map enc := by
  apply List.ext_getElem?
  intro j
  by_cases hj : j < M
  · rw [List.getElem?_take_of_lt hj, Array.getElem?_toList]
    have h1 : j < ts.length := by omega
    simp [Go.Sort.putCells, h1, hj, show j < cur.size by omega]
  · rw [List.getElem?_take_eq_none (by omega), List.getElem?_eq_none (by simp; omega)]
theorem holds_block {w : World} {g : Nat} {cur : Array Value} {e : TypeId} (enc : α → Value) {ss : List α} (hb : w.heap[g]? = some (.cells cur e (0, 0))) (ht : cur.toList.take ss.length = ss.map enc) : Holds enc w g 0 ss.toArray := by
  intro j hj
  have hj' : j < ss.length := by simpa using hj
  refine ⟨?_, by simp [World.frozen?, hb]⟩
  have h1 : (cur.toList.take ss.length)[j]? = (ss.map enc)[j]? := by rw [ht]
  rw [List.getElem?_take_of_lt hj'] at h1
  simp only [World.cell?, hb, Nat.zero_add]
  simp only [Option.isSome_none, Bool.false_eq_true, if_false]
  rw [← Array.getElem?_toList, h1]
  simp [hj']
omit [Inhabited α] in
theorem flat_len (enc : α → List Value) (k : Nat) (hk : ∀ x, (enc x).length = k) : ∀ ns : List α, (ns.flatMap enc).length = ns.length * k
  | [] => by simp
  | x :: ns => by rw [List.flatMap_cons, List.length_append, hk, flat_len enc k hk ns, List.length_cons, Nat.add_mul, Nat.one_mul, Nat.add_comm]
theorem flat_at (enc : α → List Value) (k : Nat) (hk : ∀ x, (enc x).length = k) (h0 : 0 < k) : ∀ (ns : List α) (t : Nat), t < ns.length * k → (ns.flatMap enc)[t]? = some ((enc (ns.toArray)[t / k]!)[t % k]!)
  | [], t, h => by simp at h
  | x :: ns, t, h => by
    rw [List.length_cons, Nat.add_mul, Nat.one_mul] at h
    rw [List.flatMap_cons]
    by_cases ht : t < k
    · have e : (x :: ns).toArray[0]! = x := by simp
      rw [List.getElem?_append_left (by rw [hk]; exact ht), Nat.div_eq_of_lt ht, Nat.mod_eq_of_lt ht, e, getElem!_pos _ _ (by rw [hk]; exact ht), List.getElem?_eq_getElem (by rw [hk]; exact ht)]
    · have e1 : t / k = (t - k) / k + 1 := Nat.div_eq_sub_div h0 (by omega)
      have e2 : t % k = (t - k) % k := Nat.mod_eq_sub_mod (by omega)
      have hlt : (t - k) / k < ns.length := (Nat.div_lt_iff_lt_mul h0).2 (by omega)
      have e3 : (x :: ns).toArray[(t - k) / k + 1]! = ns.toArray[(t - k) / k]! := by
        rw [getElem!_pos _ _ (by simpa using hlt), getElem!_pos _ _ (by simpa using hlt)]
        simp
      rw [List.getElem?_append_right (by rw [hk]; omega), hk, flat_at enc k hk h0 ns (t - k) (by omega), e1, e2, e3]
theorem flat_gen (enc : α → List Value) (k : Nat) (hk : ∀ x, (enc x).length = k) (h0 : 0 < k) (ns : List α) : (Go.Sort.flatK enc k ns.toArray).toList = ns.flatMap enc := by
  have hs : (Go.Sort.flatK enc k ns.toArray).size = ns.length * k := by simp
  apply List.ext_getElem?
  intro t
  by_cases ht : t < ns.length * k
  · have e1 := Go.Sort.get_flatK enc k ns.toArray t (by simpa using ht)
    rw [getElem!_pos _ t (by rw [hs]; exact ht)] at e1
    rw [Array.getElem?_toList, Array.getElem?_eq_getElem (by rw [hs]; exact ht), e1, flat_at enc k hk h0 ns t ht]
  · rw [Array.getElem?_toList, Array.getElem?_eq_none (by rw [hs]; omega), List.getElem?_eq_none (by rw [flat_len enc k hk]; omega)]
theorem sorted_gen (enc : α → List Value) (k : Nat) (hk : ∀ x, (enc x).length = k) (h0 : 0 < k) {T : TypeId} {w w' : World} {base g cap N : Nat} {os : Array Obj} {cur : Array Value} {ss : List α} {n : Nat} (hN : ss.length = N) (hbase : base ≤ g) (hb : w.heap[g]? = some (.cells cur T (0, 0))) (h1 : N ≤ cap) (h2 : cap ≤ maxLen) (h3 : cur.size = cap * k)
    (hw : w' = Go.Proofs.sortWorldK enc k w g 0 n ss.toArray os) :
    w'.ownsRow base T k (.slice (some ⟨g, 0, none⟩) N cap) N (ss.flatMap enc) ∧ Chg (fun i => i = g) w w' := by
  subst hN
  have hfl := flat_gen enc k hk h0 ss
  have hfs := flat_len enc k hk ss
  have hg : g < w.heap.size := heapLt hb
  have hwp : w' = grow (putRow id (Go.Sort.ahead w n) g 0 (ss.flatMap enc).toArray) os := by
    rw [hw]; unfold Go.Proofs.sortWorldK Go.Sort.putRowK
    rw [← hfl]
  have hsz : g < (putRow id (Go.Sort.ahead w n) g 0 (ss.flatMap enc).toArray).heap.size := by simpa using hg
  have hle : (ss.flatMap enc).length ≤ cur.size := by rw [hfs, h3]; exact Nat.mul_le_mul_right k h1
  refine ⟨⟨hfs, .inr ⟨g, cap, _, rfl, hbase, by rw [hwp, Go.Sort.heap_grow_old _ _ hsz]; exact heap_put id _ hb, h1, h2, by simp [Go.Sort.putCells, h3], ?_⟩⟩, ?_⟩
  · rw [take_put id cur _ _ hle (by omega), List.map_id, List.take_of_length_le (by omega)]
  · rw [hwp]
    have c1 : Chg (fun k => k = g) w (putRow id (Go.Sort.ahead w n) g 0 (ss.flatMap enc).toArray) := chg_put id _
    refine c1.trans ⟨rfl, rfl, rfl, by simp, fun k hk _ => by rw [Go.Sort.heap_grow_old _ _ hk]⟩
theorem holds_gen (enc : α → List Value) (k : Nat) (hk : ∀ x, (enc x).length = k) (h0 : 0 < k) {T : TypeId} {w : World} {g : Nat} {cur : Array Value} {ns : List α} (hb : w.heap[g]? = some (.cells cur T (0, 0))) (h4 : cur.toList.take (ns.length * k) = ns.flatMap enc) : Go.Sort.HoldsK enc k w g 0 ns.toArray := by
  unfold Go.Sort.HoldsK
  have e1 : Go.Sort.flatK enc k ns.toArray = (ns.flatMap enc).toArray := by
    apply Array.toList_inj.1
    rw [flat_gen enc k hk h0]
  rw [e1]
  refine holds_block id hb ?_
  rw [List.map_id, flat_len enc k hk]
  exact h4
end
theorem flat_enc (kd : Wa → Int) (z : Int) (ws : List Wa) : ws.flatMap (encE kd z) = (ws.map fun x => rgOf (kd x) z x).flatMap rgC := by
  induction ws with
  | nil => rfl
  | cons x ws ih => rw [List.flatMap_cons, List.map_cons, List.flatMap_cons, ih]; rfl
/- The rings put in order. -/
set_option maxRecDepth 100000 in
theorem sort_any {w : World} {base : Nat} {v : Value} {ws : List Wa} (kd : Wa → Int) (z : Int) (ho : w.ownsRow base 56 5 v ws.length ((ws.map fun x => rgOf (kd x) z x).flatMap rgC)) (hn : ws.length ≤ 1000000) :
    Calls Tryd.prog 37 #[v, .func (.func 38) #[] #[]] w fun e w' => e = .returned (.tuple #[]) ∧ w'.ownsRow base 56 5 v ws.length (((sortW ws).map fun x => rgOf (kd x) z x).flatMap rgC) ∧ Chg (fun k => v.ownBlock = some k) w w' := by
  rw [← flat_enc] at ho
  rcases ho.2 with ⟨rfl, h0⟩ | ⟨g, cp0, cur, rfl, hbase, hb, h1, h2, h3, h4⟩
  · have hns : ws = [] := List.length_eq_zero_iff.1 h0
    subst hns
    refine (Tryd.slices_SortFunc_none (α := Nat) none 0 _ _).mono ?_
    rintro e w5 ⟨rfl, rfl⟩
    refine ⟨rfl, ?_, Chg.refl _ _⟩
    rw [show sortW [] = [] by simp [sortW]]
    exact ho
  · have eg : ∀ args w, (callFunc 38 args).run Tryd.prog w = .ok (.enter 38 args) w := enters_of Tryd.func38 (by kernel_rfl) rfl
    have hHold := holds_gen (encE kd z) 5 (encE_len kd z) (by omega) hb h4
    have hsort := Tryd.slices_SortFunc_total 5 Tryd.isAgg56 Tryd.sizeOf56 (encE kd z) (encE_len kd z) (encE_one kd z) cfW swoW 38 #[] g 0 cp0 ws.toArray w eg (cmpLaysW kd z g 0 _ w) hHold (heapLt hb) (by simp; omega) totW
    simp only [List.size_toArray] at hsort
    refine hsort.mono ?_
    rintro e w5 ⟨rfl, n5, os5, hw5⟩
    obtain ⟨ho5, hc5⟩ := sorted_gen (encE kd z) 5 (encE_len kd z) (by omega) (ss := sortW ws) (N := ws.length) (sortW_len ws) hbase hb h1 h2 h3 hw5
    rw [flat_enc] at ho5
    exact ⟨rfl, ho5, hc5.weak fun k _ e => by rw [e]; rfl⟩

/- Two ways in which watches are taken out, one behind the other, as one. -/
theorem two_hits {k : Int} {p : List UInt8} {q1 q2 : Wa → Bool} {k1 k2 z : Int} {L hs1 hs2 : List Wa} (h1 : ∀ x ∈ L, q1 x = true → rgK k p x = k1) (h2 : ∀ x ∈ L, q1 x = false → q2 x = true → rgK k p x = k2) (h3 : ∀ x ∈ L, q1 x = false → q2 x = false → rgK k p x = 0) (n1 : ¬ k1 = 0) (n2 : ¬ k2 = 0)
    (p1 : hs1.Perm (L.filter q1)) (p2 : hs2.Perm ((L.filter fun x => !q1 x).filter q2)) :
    hs1.map (rgOf k1 z) ++ hs2.map (rgOf k2 z) = (hs1 ++ hs2).map (fun x => rgOf (rgK k p x) z x) ∧ (hs1 ++ hs2).Perm (L.filter fun x => !decide (rgK k p x = 0)) ∧ ((L.filter fun x => !q1 x).filter fun x => !q2 x) = left1 k p L := by
  refine ⟨?_, ?_, ?_⟩
  · rw [List.map_append]
    congr 1
    · apply List.map_congr_left
      intro x hx
      obtain ⟨m1, m2⟩ := List.mem_filter.1 (p1.mem_iff.1 hx)
      rw [h1 x m1 m2]
    · apply List.map_congr_left
      intro x hx
      obtain ⟨m1, m2⟩ := List.mem_filter.1 (p2.mem_iff.1 hx)
      obtain ⟨m3, m4⟩ := List.mem_filter.1 m1
      rw [h2 x m3 (by simpa using m4) m2]
  · refine (p1.append p2).trans ?_
    clear p1 p2
    induction L with
    | nil => simp
    | cons x L ih =>
      have ih := ih (fun y hy => h1 y (.tail _ hy)) (fun y hy => h2 y (.tail _ hy)) (fun y hy => h3 y (.tail _ hy))
      have g1 := h1 x (.head _)
      have g2 := h2 x (.head _)
      have g3 := h3 x (.head _)
      cases e1 : q1 x with
      | true =>
        have := g1 e1
        simp only [List.filter_cons, e1, this, n1, Bool.not_true, Bool.false_eq_true, if_false, if_true, decide_false, Bool.not_false, List.cons_append]
        exact ih.cons x
      | false =>
        cases e2 : q2 x with
        | true =>
          have := g2 e1 e2
          simp only [List.filter_cons, e1, e2, this, n2, Bool.not_true, Bool.false_eq_true, if_false, if_true, decide_false, Bool.not_false]
          exact List.perm_middle.trans (ih.cons x)
        | false =>
          have := g3 e1 e2
          simp only [List.filter_cons, e1, e2, this, Bool.false_eq_true, if_false, if_true, decide_true, Bool.not_true, Bool.not_false]
          exact ih
  · unfold left1
    rw [List.filter_filter]
    apply List.filter_congr
    intro x hx
    cases e1 : q1 x with
    | true => have := h1 x hx e1; simp [this, n1]
    | false =>
      cases e2 : q2 x with
      | true => have := h2 x hx e1 e2; simp [this, n2]
      | false => have := h3 x hx e1 e2; simp [this]
end Go.Proofs.YtkbmbnfpadllmaaDoor.We
