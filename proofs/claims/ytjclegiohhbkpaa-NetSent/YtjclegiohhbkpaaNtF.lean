/- The walk of Take. -/
import Derived.Test.YtjclegiohhbkpaaNtE
import Derived.Test.YtjclegiohhbkpaaShelf
namespace Go.Proofs.Ytjclegiohhbkpaa
open Go.RowKit Go.MapKept
open Go.Sort (Holds putRow)

def encS (x : Option Addr × Nat × Nat) : Value := .slice x.1 x.2.1 x.2.2
set_option maxRecDepth 100000 in
theorem take_no {w : World} {v : Value} (h : NoNet w v) (k : Int × Int) (i : Value) : Calls Try.prog 19 #[v, .int .i64 k.1, .int .i64 k.2, i] w fun e w' => e = .returned (.tuple #[.slice none 0 0, .bool false]) ∧ Below w.heap.size w w' := by
  have hf := find_no (h.alloc (kB k)) k i
  simp only [keyV] at hf
  go_enter Try.func19, Try.ntmps19
  go_wp2_with fail
  refine hf.mono ?_
  rintro e w1 ⟨rfl, hB⟩
  go_wp2_with fail
  go_ret2
  exact ⟨rfl, (below1 _ _).trans (hB.mono (by simp))⟩
set_option maxRecDepth 100000 in
theorem take_none {w : World} {n : Nat} {l : List Pk} {T : Nat → Prop} (h : Nx w n l T) (k : Int × Int) (i : Int) (hp : peek l k i = none) : Calls Try.prog 19 #[.pointer (some ⟨n, 0, none⟩), .int .i64 k.1, .int .i64 k.2, .int .i64 i] w fun e w' => e = .returned (.tuple #[.slice none 0 0, .bool false]) ∧ Below w.heap.size w w' := by
  have hf := find_none (h.alloc (kB k)) k i hp
  simp only [keyV] at hf
  go_enter Try.func19, Try.ntmps19
  go_wp2_with fail
  refine hf.mono ?_
  rintro e w1 ⟨rfl, hB⟩
  go_wp2_with fail
  go_ret2
  exact ⟨rfl, (below1 _ _).trans (hB.mono (by simp))⟩
section
variable {α : Type} [Inhabited α]
theorem heap_put {w : World} {g n : Nat} {cur : Array Value} {e : TypeId} {fr : Nat × Nat} (enc : α → Value) (d : Array α) (hb : w.heap[g]? = some (.cells cur e fr)) :
    (putRow enc (Go.Sort.ahead w n) g 0 d).heap[g]? = some (.cells (Go.Sort.putCells enc 0 d cur) e fr) := by
  simp [putRow, Go.Sort.mapBlock, Go.Sort.ahead, Array.getElem?_modify, hb, Go.Sort.onCells]
theorem chg_put {w : World} {g n : Nat} (enc : α → Value) (d : Array α) : Chg (fun k => k = g) w (putRow enc (Go.Sort.ahead w n) g 0 d) := by
  refine ⟨rfl, rfl, rfl, by simp, fun k hk hne => ?_⟩
  have : g ≠ k := fun e => hne e.symm
  simp [putRow, Go.Sort.mapBlock, Go.Sort.ahead, Array.getElem?_modify, this]
theorem take_put (enc : α → Value) (cur : Array Value) (ts : List α) (M : Nat) (h : ts.length ≤ cur.size) (hM : M ≤ ts.length) : (Go.Sort.putCells enc 0 ts.toArray cur).toList.take M = (ts.take M).map enc := by
  apply List.ext_getElem?
  intro j
  by_cases hj : j < M
  · rw [List.getElem?_take_of_lt hj, Array.getElem?_toList]
    have h1 : j < ts.length := by omega
    simp [Go.Sort.putCells, h1, hj, show j < cur.size by omega]
  · rw [List.getElem?_take_eq_none (by omega), List.getElem?_eq_none (by simp; omega)]
theorem holds_block {w : World} {g : Nat} {cur : Array Value} {e : TypeId} (enc : α → Value) {ss : List α} (hb : w.heap[g]? = some (.cells cur e (0, 0))) (ht : cur.toList.take ss.length = ss.map enc) : Holds enc w g 0 ss.toArray := by
  intro j hj
  have hj' : j < ss.length := by simpa using hj
  refine ⟨?_, by simp [World.frozen?, hb]⟩
  have h1 : (cur.toList.take ss.length)[j]? = (ss.map enc)[j]? := by rw [ht]
  rw [List.getElem?_take_of_lt hj'] at h1
  simp only [World.cell?, hb, Nat.zero_add]
  simp only [Option.isSome_none, Bool.false_eq_true, if_false]
  rw [← Array.getElem?_toList, h1]
  simp [hj']
end
/- The slices of a bag's packets, as their parts. -/
def partsOf (v : Value) : Option Addr × Nat × Nat := match v with
  | .slice A n c => (A, n, c)
  | _ => (none, 0, 0)
theorem parts_enc {w : World} {base n m : Nat} {L : List Bg} (h : Nk w base n m L) {q : Bg} (hq : q ∈ L) : ((q.ps.map Prod.snd).map partsOf).map encS = q.ps.map Prod.snd := by
  rw [List.map_map]
  refine (List.map_congr_left fun v hv => ?_).trans (List.map_id _)
  obtain ⟨x, hx, rfl⟩ := List.mem_map.1 hv
  obtain ⟨A, C, e⟩ := owns_formT (h.rows q hq x hx)
  rw [e]; rfl
theorem del_math {W w6 : World} {base n m : Nat} {L : List Bg} (h : Nk W base n m L) {k : Int × Int} {q : Bg} (hq : look k L = some q) (i : Nat) (hi : i < q.ps.length) {g cap j : Nat} (hv : q.v = .slice (some ⟨g, 0, none⟩) q.ps.length cap)
    (hw : w6 = putRow encS (Go.Sort.ahead W j) g 0 (((q.ps.map Prod.snd).map partsOf).take i ++ ((q.ps.map Prod.snd).map partsOf).drop (i + 1) ++ List.replicate 1 (none, 0, 0)).toArray) :
    Chg (fun x => x = g) W w6 ∧ w6.ownsRow base 27 1 (.slice (some ⟨g, 0, none⟩) (q.ps.length - 1) cap) (q.ps.length - 1) ((q.ps.eraseIdx i).map Prod.snd) := by
  have ho := h.bags q (look_some hq).1
  rcases ho.2 with ⟨e, h0⟩ | ⟨g', cap', cur, hv', hb, hg, hc, hm, hs, ht⟩
  · omega
  rw [hv] at hv'
  injection hv' with e1 _ e3
  injection e1 with e1
  injection e1 with e1
  subst e1 e3
  have hlen : (q.ps.eraseIdx i).length = q.ps.length - 1 := by rw [List.length_eraseIdx]; simp [hi]
  refine ⟨by rw [hw]; exact chg_put _ _, ⟨by simp [hlen], .inr ⟨g, cap, _, rfl, hb, by rw [hw]; exact heap_put encS _ hg, by omega, hm, by simp [Go.Sort.putCells, hs], ?_⟩⟩⟩
  rw [Nat.mul_one, take_put encS cur _ (q.ps.length - 1) (by simp [hs]; omega) (by simp; omega)]
  have hL : (((q.ps.map Prod.snd).map partsOf).take i ++ ((q.ps.map Prod.snd).map partsOf).drop (i + 1) ++ List.replicate 1 (none, 0, 0)).take (q.ps.length - 1) = ((q.ps.eraseIdx i).map Prod.snd).map partsOf := by
    rw [List.take_left' (by simp; omega), List.eraseIdx_eq_take_drop_succ]
    simp [List.map_take, List.map_drop]
  rw [hL]
  rw [List.map_map]
  refine (List.map_congr_left fun v hv => ?_).trans (List.map_id _)
  obtain ⟨x, hx, rfl⟩ := List.mem_map.1 hv
  obtain ⟨A, C, e⟩ := owns_formT (h.rows q (look_some hq).1 x (List.mem_of_mem_eraseIdx hx))
  rw [e]; rfl
/- A net behind a take. -/
def TakeEnd (base n m : Nat) (L : List Bg) (l : List Pk) (k : Int × Int) (i : Nat) (v : Value) (W w' : World) : Prop :=
  ∃ L', Nk w' base n m L' ∧ Fit L' (takeP l k i) ∧ Chg (fun g => Sx n m L g ∧ blk v ≠ some g) W w' ∧ ∀ g, Sx n m L' g → Sx n m L g ∧ blk v ≠ some g
theorem pair_erase {q : Bg} {R : (List UInt8 × Value) → (List UInt8 × Value) → Prop} (h : q.ps.Pairwise R) (i : Nat) : (q.ps.eraseIdx i).Pairwise R := h.sublist (List.eraseIdx_sublist _ _)
theorem pair_other {l : List (List UInt8 × Value)} (h : l.Pairwise fun x y => ∀ g, blk x.2 = some g → blk y.2 ≠ some g) (i : Nat) (hi : i < l.length) {y : List UInt8 × Value} (hy : y ∈ l.eraseIdx i) : ∀ g, blk y.2 = some g → blk (l[i]'hi).2 ≠ some g := by
  intro g hg e
  rw [List.eraseIdx_eq_take_drop_succ] at hy
  have hs : l = l.take i ++ l[i]'hi :: l.drop (i + 1) := by simp
  rw [hs, List.pairwise_append, List.pairwise_cons] at h
  rcases List.mem_append.1 hy with hy | hy
  · exact h.2.2 y hy _ (.head _) g hg e
  · exact h.2.1.1 y hy g e hg
theorem fst_erase (l : List (List UInt8 × Value)) (i : Nat) : (l.eraseIdx i).map Prod.fst = (l.map Prod.fst).eraseIdx i := (Go.ChangeMaps.map_eraseIdx ..)
theorem take_bag {W w6 w7 : World} {base n m : Nat} {L : List Bg} (h : Nk W base n m L) {l : List Pk} (hf : Fit L l) {k : Int × Int} {q : Bg} (hq : look k L = some q) (i : Nat) (hi : i < q.ps.length) {g cap : Nat} (hv : q.v = .slice (some ⟨g, 0, none⟩) q.ps.length cap)
    (c6 : Chg (fun x => x = g) W w6) (ho : w6.ownsRow base 27 1 (.slice (some ⟨g, 0, none⟩) (q.ps.length - 1) cap) (q.ps.length - 1) ((q.ps.eraseIdx i).map Prod.snd))
    (hM : (1 < q.ps.length ∧ MapIs w7 m (putL ⟨k, .slice (some ⟨g, 0, none⟩) (q.ps.length - 1) cap, q.ps.eraseIdx i⟩ L)) ∨ (q.ps.length = 1 ∧ MapIs w7 m (delL k L))) (c7 : Chg (fun x => x = m) w6 w7) :
    TakeEnd base n m L l k i (q.ps[i]'hi).2 W w7 := by
  have hqm := (look_some hq).1
  have hlen : (q.ps.eraseIdx i).length = q.ps.length - 1 := by rw [List.length_eraseIdx]; simp [hi]
  have hbg : blk q.v = some g := by rw [hv]; rfl
  have hT : ∀ x, x < W.heap.size → x = g → ∃ r, look k L = some r ∧ blk r.v = some x := fun x _ e => ⟨q, hq, by rw [e]; exact hbg⟩
  have hxi : ∀ x, blk (q.ps[i]'hi).2 = some x → x ≠ g ∧ x ≠ m ∧ x ≠ n ∧ ∀ p ∈ L, blk p.v ≠ some x := by
    intro x hx
    have := h.row_ne hqm (List.getElem_mem hi) hx
    exact ⟨fun e => this.2.2 q hqm (by rw [e]; exact hbg), this.2.1, this.1, this.2.2⟩
  have hC : Chg (fun x => Sx n m L x ∧ blk (q.ps[i]'hi).2 ≠ some x) W w7 := by
    refine (c6.weak fun x _ e => ⟨.inr (.inr (.inl ⟨q, hqm, by rw [e]; exact hbg⟩)), fun e' => (hxi x e').1 e⟩).trans (c7.weak fun x _ e => ⟨.inr (.inl e), fun e' => (hxi x e').2.1 e⟩)
  rcases hM with ⟨h1, hM⟩ | ⟨h1, hM⟩
  · refine ⟨_, h.put _ c6 hT (by show w6.ownsRow base 27 1 (.slice (some ⟨g, 0, none⟩) (q.ps.length - 1) cap) (q.ps.eraseIdx i).length ((q.ps.eraseIdx i).map Prod.snd); rw [hlen]; exact ho) ?_ ?_ ?_ (pair_erase (h.apP q hqm) i) ⟨by show 0 < (q.ps.eraseIdx i).length; omega, by show (q.ps.eraseIdx i).length ≤ 32; have := (h.fits q hqm).2.1; omega, fun x hx => (h.fits q hqm).2.2 x (List.mem_of_mem_eraseIdx hx)⟩ hM c7, ?_, hC, ?_⟩
    · intro x hx
      exact .inr ⟨q, hq, by rw [hbg]; exact hx⟩
    · intro x hx
      exact owns_keepT (h.rows q hqm x (List.mem_of_mem_eraseIdx hx)) c6 fun y hy e => (h.row_ne hqm (List.mem_of_mem_eraseIdx hx) hy).2.2 q hqm (by rw [e]; exact hbg)
    · intro x hx
      exact .inr ⟨q, hq, List.mem_of_mem_eraseIdx hx⟩
    · refine hf.put _ _ ?_ ?_
      · show (q.ps.eraseIdx i).map Prod.fst = bagOf (takeP l k i) k
        rw [bag_take, if_pos rfl, fst_erase, hf.at hq]
      · intro k' hk'
        rw [bag_take, if_neg hk']
    · rintro x (rfl | rfl | ⟨p, hp, hk⟩ | ⟨p, hp, y, hy, hk⟩)
      · exact ⟨.inl rfl, fun e => (hxi _ e).2.2.1 rfl⟩
      · exact ⟨.inr (.inl rfl), fun e => (hxi _ e).2.1 rfl⟩
      · rcases put_mem' h.map.names hp with rfl | ⟨hp, _⟩
        · have hk' : some g = some x := hk
          cases hk'
          exact ⟨.inr (.inr (.inl ⟨q, hqm, hbg⟩)), fun e => (hxi _ e).1 rfl⟩
        · exact ⟨.inr (.inr (.inl ⟨p, hp, hk⟩)), fun e => (hxi x e).2.2.2 p hp hk⟩
      · rcases put_mem' h.map.names hp with rfl | ⟨hp, hne⟩
        · exact ⟨.inr (.inr (.inr ⟨q, hqm, y, List.mem_of_mem_eraseIdx hy, hk⟩)), pair_other (h.apP q hqm) i hi hy x hk⟩
        · refine ⟨.inr (.inr (.inr ⟨p, hp, y, hy, hk⟩)), fun e => ?_⟩
          exact h.apQ p hp q hqm (by rw [(look_some hq).2]; exact hne) y hy _ (List.getElem_mem hi) x hk e
  · refine ⟨_, h.del k c6 hT hM c7, ?_, hC, ?_⟩
    · refine hf.del h.map.names k _ ?_ ?_
      · rw [bag_take, if_pos rfl, ← hf.at hq]
        have h0 : i = 0 := by omega
        subst h0
        apply List.length_eq_zero_iff.1
        rw [List.length_eraseIdx]; simp [h1]
      · intro k' hk'
        rw [bag_take, if_neg hk']
    · rintro x (rfl | rfl | ⟨p, hp, hk⟩ | ⟨p, hp, y, hy, hk⟩)
      · exact ⟨.inl rfl, fun e => (hxi _ e).2.2.1 rfl⟩
      · exact ⟨.inr (.inl rfl), fun e => (hxi _ e).2.1 rfl⟩
      · have hp' := del_mem' h.map.names hp
        exact ⟨.inr (.inr (.inl ⟨p, hp'.1, hk⟩)), fun e => (hxi x e).2.2.2 p hp'.1 hk⟩
      · have hp' := del_mem' h.map.names hp
        refine ⟨.inr (.inr (.inr ⟨p, hp'.1, y, hy, hk⟩)), fun e => ?_⟩
        exact h.apQ p hp'.1 q hqm (by rw [(look_some hq).2]; exact hp'.2) y hy _ (List.getElem_mem hi) x hk e
end Go.Proofs.Ytjclegiohhbkpaa
