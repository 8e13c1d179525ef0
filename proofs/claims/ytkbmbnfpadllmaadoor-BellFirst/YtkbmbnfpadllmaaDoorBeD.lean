/- The closure that takes out what a change rings. -/
import Derived.Test.YtkbmbnfpadllmaaDoorBeC
import Derived.Maps.AppendAt
import Derived.Maps.OwnSet
import Derived.Deep.AppendLies
namespace Go.Proofs.YtkbmbnfpadllmaaDoor.We
set_option linter.unusedSimpArgs false
set_option linter.unusedVariables false
open Go.RowKit Go.MapKept
set_option linter.unusedVariables false
set_option linter.unusedSimpArgs false

set_option maxRecDepth 100000 in
theorem event_any (k : Wa) (kd z : Int) (w : World) : Calls Tryd.prog 29 #[.agg #[.int .i64 k.cn, .int .u8 k.so, .string (mkS k.p)], .int .u8 kd, .int .i64 z] w fun e w' => e = .returned (.agg #[.int .u8 kd, .int .u8 k.so, .string (mkS k.p), .int .i64 z]) ∧ Below w.heap.size w w' := by
  obtain ⟨cn, so, p⟩ := k
  simp only
  have h0 := heap_alloc_new w (.cells #[.int .i64 cn, .int .u8 so, .string (mkS p)] 69)
  have h1 := heap_alloc_new (w.alloc (.cells #[.int .i64 cn, .int .u8 so, .string (mkS p)] 69)) (.cells #[.int .u8 0, .int .u8 0, .string ⟨#[]⟩, .int .i64 0] 54)
  have h0' : ((w.alloc (.cells #[.int .i64 cn, .int .u8 so, .string (mkS p)] 69)).alloc (.cells #[.int .u8 0, .int .u8 0, .string ⟨#[]⟩, .int .i64 0] 54)).heap[w.heap.size]? = some (.cells #[.int .i64 cn, .int .u8 so, .string (mkS p)] 69 (0, 0)) := by
    rw [Below.heap_alloc _ _ _ (by simp)]; exact h0
  have h1' : ((w.alloc (.cells #[.int .i64 cn, .int .u8 so, .string (mkS p)] 69)).alloc (.cells #[.int .u8 0, .int .u8 0, .string ⟨#[]⟩, .int .i64 0] 54)).heap[w.heap.size + 1]? = some (.cells #[.int .u8 0, .int .u8 0, .string ⟨#[]⟩, .int .i64 0] 54 (0, 0)) := by
    rwa [show (w.alloc (.cells #[.int .i64 cn, .int .u8 so, .string (mkS p)] 69)).heap.size = w.heap.size + 1 by simp] at h1
  have HB : Hid (Below w.heap.size w ((w.alloc (.cells #[.int .i64 cn, .int .u8 so, .string (mkS p)] 69)).alloc (.cells #[.int .u8 0, .int .u8 0, .string ⟨#[]⟩, .int .i64 0] 54))) := ((Below.refl _ _).alloc (Nat.le_refl _) _).alloc (by simp) _
  obtain ⟨W, hW⟩ : ∃ W, W = (w.alloc (.cells #[.int .i64 cn, .int .u8 so, .string (mkS p)] 69)).alloc (.cells #[.int .u8 0, .int .u8 0, .string ⟨#[]⟩, .int .i64 0] 54) := ⟨_, rfl⟩
  rw [← hW] at h0' h1' HB
  have c0 := cellAt h0' 1
  have c1 := cellAt h0' 2
  have d0 := cellAt h1' 0
  have d1 := cellAt h1' 1
  have d2 := cellAt h1' 2
  have d3 := cellAt h1' 3
  have f0 := frozenAt h1' 0
  have f1 := frozenAt h1' 1
  have f2 := frozenAt h1' 2
  have f3 := frozenAt h1' 3
  simp at c0 c1 d0 d1 d2 d3
  clear h0 h1 h0' h1'
  go_enter Tryd.func29, Tryd.ntmps29
  go_upto_region 1 with fail
  rw [← hW]
  clear hW
  go_wp2_with fail
  refine bodyPost_ret (v := .agg #[.int .u8 kd, .int .u8 so, .string (mkS p), .int .i64 z]) (by simp [results, Tryd.results29, go_sem, d0, d1, d2, d3, f0, f1, f2, f3]) rfl ⟨rfl, ?_⟩
  exact (((HB.out.setCell (p := ⟨w.heap.size + 1, 0, none⟩) (Nat.le_succ _) _).setCell (p := ⟨w.heap.size + 1, 1, none⟩) (Nat.le_succ _) _).setCell (p := ⟨w.heap.size + 1, 2, none⟩) (Nat.le_succ _) _).setCell (p := ⟨w.heap.size + 1, 3, none⟩) (Nat.le_succ _) _

/- A change's watches among those that are there. -/
def hitB (p : List UInt8) (ss : List Int) (x : Wa) : Bool := decide (x.p = p) && decide (x.so ∈ ss)
structure Tk (hit : Wa → Bool) (L Lc left ns : List Wa) : Prop where
  is : Lc = L.filter fun x => !hit x || decide (x ∈ left)
  nd : left.Nodup
  ndL : L.Nodup
  sub : ∀ x ∈ left, x ∈ L
  perm : (ns ++ left.filter hit).Perm (L.filter hit)
theorem Tk.start {hit : Wa → Bool} {L : List Wa} (h : L.Nodup) : Tk hit L L L [] :=
  ⟨(List.filter_eq_self.2 fun x hx => by simp [hx]).symm, h, h, fun _ h => h, by simp⟩
theorem Tk.kept {hit : Wa → Bool} {L Lc l1 l2 ns : List Wa} {q : Wa} (h : Tk hit L Lc (l1 ++ q :: l2) ns) (hq : hit q = false) : Tk hit L Lc (l1 ++ l2) ns := by
  refine ⟨?_, ?_, h.ndL, fun x hx => h.sub x ?_, ?_⟩
  · rw [h.is]
    apply List.filter_congr
    intro x _
    by_cases hx : x = q
    · subst hx; simp [hq]
    · simp [hx]
  · have := h.nd
    rw [List.nodup_append] at this ⊢
    exact ⟨this.1, (List.nodup_cons.1 this.2.1).2, fun a ha b hb => this.2.2 a ha b (.tail _ hb)⟩
  · rcases List.mem_append.1 hx with hx | hx
    · exact List.mem_append.2 (.inl hx)
    · exact List.mem_append.2 (.inr (.tail _ hx))
  · have := h.perm
    rw [List.filter_append, List.filter_cons, hq] at this
    rw [List.filter_append]
    simpa using this
theorem Tk.gone {hit : Wa → Bool} {L Lc l1 l2 ns : List Wa} {q : Wa} (h : Tk hit L Lc (l1 ++ q :: l2) ns) (hq : hit q = true) : Tk hit L (Lc.erase q) (l1 ++ l2) (ns ++ [q]) := by
  have hnq : q ∉ l1 ++ l2 := by
    have := h.nd
    rw [List.nodup_append] at this
    intro e
    rcases List.mem_append.1 e with e | e
    · exact this.2.2 _ e _ (.head _) rfl
    · exact (List.nodup_cons.1 this.2.1).1 e
  refine ⟨?_, ?_, h.ndL, fun x hx => h.sub x ?_, ?_⟩
  · rw [h.is, List.Nodup.erase_eq_filter (List.Pairwise.filter _ h.ndL), List.filter_filter]
    apply List.filter_congr
    intro x _
    by_cases hx : x = q
    · subst hx; simp only [List.mem_append, not_or] at hnq; simp [hq, hnq.1, hnq.2]
    · simp [hx]
  · have := h.nd
    rw [List.nodup_append] at this ⊢
    exact ⟨this.1, (List.nodup_cons.1 this.2.1).2, fun a ha b hb => this.2.2 a ha b (.tail _ hb)⟩
  · rcases List.mem_append.1 hx with hx | hx
    · exact List.mem_append.2 (.inl hx)
    · exact List.mem_append.2 (.inr (.tail _ hx))
  · have := h.perm
    rw [List.filter_append, List.filter_cons, hq] at this
    rw [List.filter_append]
    refine List.Perm.trans ?_ this
    simp only [if_true, List.append_assoc]
    refine List.Perm.append_left ns ?_
    simp only [List.singleton_append]
    exact List.perm_middle.symm
theorem Tk.fin {hit : Wa → Bool} {L Lc ns : List Wa} (h : Tk hit L Lc [] ns) : Lc = L.filter (fun x => !hit x) ∧ ns.Perm (L.filter hit) :=
  ⟨by rw [h.is]; apply List.filter_congr; intro x _; simp, by simpa using h.perm⟩
theorem Tk.len {hit : Wa → Bool} {L Lc left ns : List Wa} (h : Tk hit L Lc left ns) : ns.length ≤ L.length := by
  have h1 := h.perm.length_eq
  have h2 := List.length_filter_le hit L
  simp at h1
  omega
theorem Tk.len' {hit : Wa → Bool} {L Lc l1 l2 ns : List Wa} {q : Wa} (h : Tk hit L Lc (l1 ++ q :: l2) ns) (hq : hit q = true) : ns.length + 1 ≤ L.length := by
  have := (h.gone hq).len
  simpa using this
theorem infoR : (Tryd.prog.info? 56).map (fun i => (i.zero, i.size, i.bytes)) = some (some (.agg #[.int .i64 0, .int .u8 0, .int .u8 0, .string ⟨#[]⟩, .int .i64 0]), 5, 40) := by kernel_rfl
theorem ownForm {T : TypeId} {sz : Nat} {w : World} {base n : Nat} {v : Value} {xs : List Value} (h : w.ownsRow base T sz v n xs) : ∃ A C, v = .slice A n C := by
  rcases h.2 with ⟨rfl, rfl⟩ | ⟨g, cap, cur, rfl, _⟩
  · exact ⟨none, 0, rfl⟩
  · exact ⟨_, cap, rfl⟩
theorem ownBlk {T : TypeId} {sz : Nat} {w : World} {base : Nat} {v : Value} {n : Nat} {xs : List Value} (h : w.ownsRow base T sz v n xs) {k : Nat} (hk : v.ownBlock = some k) : ∃ cur, w.heap[k]? = some (.cells cur T (0, 0)) ∧ base ≤ k := by
  rcases h.2 with ⟨rfl, _⟩ | ⟨g, cap, cur, rfl, hb, hg, hr⟩
  · cases hk
  · cases hk; exact ⟨cur, hg, hb⟩
theorem ownKeep {S : Nat → Prop} {w w' : World} {base e size n : Nat} {v : Value} {xs : List Value} (h : w.ownsRow base e size v n xs) (hc : Chg S w w') (hn : ∀ k, v.ownBlock = some k → ¬ S k) : w'.ownsRow base e size v n xs := by
  refine ⟨h.1, ?_⟩
  rcases h.2 with h | ⟨g, cap, cur, rfl, hb, hg, hr⟩
  · exact .inl h
  · exact .inr ⟨g, cap, cur, rfl, hb, by rw [hc.block g (heapLt hg) (hn g rfl)]; exact hg, hr⟩

/- What the closure may write. -/
abbrev Sw (m br base : Nat) : Nat → Prop := fun k => k = m ∨ k = br ∨ base ≤ k
/- What lies where the closure is called. -/
structure Cl (w : World) (t m bt br bz base : Nat) (z : Int) : Prop where
  tw : w.heap[bt]? = some (.cells #[.pointer (some ⟨t, 0, none⟩)] 40 (0, 0))
  zx : w.heap[bz]? = some (.cells #[.int .i64 z] 23 (0, 0))
  le : t < base ∧ m < base ∧ bt < base ∧ br < base ∧ bz < base ∧ base ≤ w.heap.size
  ne : bt ≠ br ∧ bz ≠ br ∧ t ≠ br ∧ m ≠ br ∧ bt ≠ m ∧ bz ≠ m ∧ t ≠ m
theorem Cl.keep {w w' : World} {t m bt br bz base : Nat} {z : Int} (h : Cl w t m bt br bz base z) (hc : Chg (Sw m br base) w w') : Cl w' t m bt br bz base z := by
  obtain ⟨l1, l2, l3, l4, l5, l6⟩ := h.le
  obtain ⟨n1, n2, n3, n4, n5, n6, n7⟩ := h.ne
  refine ⟨?_, ?_, ⟨l1, l2, l3, l4, l5, Nat.le_trans l6 hc.size⟩, h.ne⟩
  · rw [hc.block bt (by omega) (by rintro (e | e | e) <;> omega)]; exact h.tw
  · rw [hc.block bz (by omega) (by rintro (e | e | e) <;> omega)]; exact h.zx
theorem heapSet {w : World} {g T : Nat} {cs : Array Value} {fr : Nat × Nat} (h : w.heap[g]? = some (.cells cs T fr)) (i : Nat) (v : Value) : (w.setCell ⟨g, i, none⟩ v).heap[g]? = some (.cells (cs.setIfInBounds i v) T fr) := by
  simp [World.setCell, Array.getElem?_modify, h]
/- What holds behind a round that has taken a watch out. -/
theorem hit_end {w w5 w6 w7 : World} {m br base g K : Nat} {v v1 : Value} {R RN : List Rg} {ns Lc left : List Wa} {kd z cn so : Int} {qp : List UInt8} {g7 cap7 : Nat}
    (hr : Ranges w5 m w.heap.size Lc left) (hb : w5.heap[br]? = some (.cells #[v1] 50 (0, 0))) (hRN : RN = R ++ ns.map (rgOf kd z)) (hB : Below w5.heap.size w5 w6)
    (ho : w7.ownsRow base 56 5 (.slice (some ⟨g7, 0, none⟩) (RN.length + 1) cap7) (RN.length + 1) (RN.flatMap rgC ++ [.int .i64 cn, .int .u8 kd, .int .u8 so, .string (mkS qp), .int .i64 z]))
    (hg7 : (w6.alloc (.cells #[.int .i64 cn, .int .u8 kd, .int .u8 so, .string (mkS qp), .int .i64 z] 56)).grownBy w7 v1.ownBlock) (hat : v1.ownBlock = some g7 ∨ g7 = (w6.alloc (.cells #[.int .i64 cn, .int .u8 kd, .int .u8 so, .string (mkS qp), .int .i64 z] 56)).heap.size)
    (hl : m < base ∧ br < base ∧ base ≤ w.heap.size ∧ m ≠ br) (hg : base ≤ g ∧ g < w.heap.size ∧ v.ownBlock ≠ some g) (hvg : v1.ownBlock ≠ some g) (hvr : v1.ownBlock ≠ some w.heap.size) (hK : K < w5.heap.size) (hwK : w.heap.size < K)
    (hch : Chg (fun k => k = m ∨ k = br ∨ base ≤ k ∧ k ≠ g) w w5) (hvb : ∀ k, v1.ownBlock = some k → base ≤ k) :
    Ranges (w7.setCell ⟨br, 0, none⟩ (.slice (some ⟨g7, 0, none⟩) (RN.length + 1) cap7)) m w.heap.size Lc left ∧
    ((w7.setCell ⟨br, 0, none⟩ (.slice (some ⟨g7, 0, none⟩) (RN.length + 1) cap7)).heap[br]? = some (.cells #[.slice (some ⟨g7, 0, none⟩) (RN.length + 1) cap7] 50 (0, 0)) ∧
      (w7.setCell ⟨br, 0, none⟩ (.slice (some ⟨g7, 0, none⟩) (RN.length + 1) cap7)).ownsRow base 56 5 (.slice (some ⟨g7, 0, none⟩) (RN.length + 1) cap7) (R ++ (ns ++ [(⟨cn, so, qp⟩ : Wa)]).map (rgOf kd z)).length ((R ++ (ns ++ [(⟨cn, so, qp⟩ : Wa)]).map (rgOf kd z)).flatMap rgC) ∧
      (Value.slice (some ⟨g7, 0, none⟩) (RN.length + 1) cap7).ownBlock ≠ some g ∧ (Value.slice (some ⟨g7, 0, none⟩) (RN.length + 1) cap7).ownBlock ≠ some w.heap.size ∧ w.heap.size < (w7.setCell ⟨br, 0, none⟩ (.slice (some ⟨g7, 0, none⟩) (RN.length + 1) cap7)).heap.size ∧
      Chg (fun k => k = m ∨ k = br ∨ base ≤ k ∧ k ≠ g) w (w7.setCell ⟨br, 0, none⟩ (.slice (some ⟨g7, 0, none⟩) (RN.length + 1) cap7))) ∧
    (w7.setCell ⟨br, 0, none⟩ (.slice (some ⟨g7, 0, none⟩) (RN.length + 1) cap7)).rangeLeft m w.heap.size = left.length := by
  obtain ⟨h1, h2, h3, h4⟩ := hl
  have c67 : Chg (fun k => v1.ownBlock = some k) w5 w7 := ((Chg.of_below hB).weak fun _ _ e => e.elim).trans ((Chg.alloc (fun k => v1.ownBlock = some k) w6 _).trans (Chg.of_grown hg7))
  have c8 : Chg (fun k => k = br) w7 (w7.setCell ⟨br, 0, none⟩ (.slice (some ⟨g7, 0, none⟩) (RN.length + 1) cap7)) := Chg.setCell w7 ⟨br, 0, none⟩ _ rfl
  have hb7 : w7.heap[br]? = some (.cells #[v1] 50 (0, 0)) := by rw [c67.block br (heapLt hb) (fun e => by have := hvb _ e; omega)]; exact hb
  have hr8 : Ranges (w7.setCell ⟨br, 0, none⟩ (.slice (some ⟨g7, 0, none⟩) (RN.length + 1) cap7)) m w.heap.size Lc left := (hr.keep c67 (fun e => by have := hvb _ e; omega) (fun e => hvr e)).keep c8 h4 (by omega)
  have hsz6 : w5.heap.size ≤ w6.heap.size := hB.size
  have hsz7 : w5.heap.size ≤ w7.heap.size := c67.size
  have hg7b : base ≤ g7 := (ownBlk ho rfl).choose_spec.2
  refine ⟨hr8, ⟨?_, ?_, ?_, ?_, ?_, ?_⟩, hr8.left_eq⟩
  · have := heapSet hb7 0 (.slice (some ⟨g7, 0, none⟩) (RN.length + 1) cap7)
    simpa using this
  · have e1 : R ++ (ns ++ [(⟨cn, so, qp⟩ : Wa)]).map (rgOf kd z) = RN ++ [⟨cn, kd, so, qp, z⟩] := by rw [hRN, List.map_append, List.append_assoc]; rfl
    rw [e1, List.length_append, List.flatMap_append]
    have := ownKeep ho c8 (fun k hk e => by
      have hk' : g7 = k := by injection hk
      have e' : k = br := e
      omega)
    simpa [rgC] using this
  · intro e
    have e : g7 = g := by injection e
    rcases hat with h | h
    · rw [e] at h; exact hvg h
    · simp at h; omega
  · intro e
    have e : g7 = w.heap.size := by injection e
    rcases hat with h | h
    · rw [e] at h; exact hvr h
    · simp at h; omega
  · have := c8.size; omega
  · refine (hch.trans' c67 fun k hk e => .inr (.inr ⟨hvb k e, fun e' => hvg (by rw [← e']; exact e)⟩)).trans (c8.weak fun k _ e => .inr (.inl e))
end Go.Proofs.YtkbmbnfpadllmaaDoor.We
