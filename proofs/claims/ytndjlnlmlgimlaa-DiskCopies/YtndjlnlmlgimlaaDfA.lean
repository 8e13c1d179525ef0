/- The document's disk: what lies in memory for one; the mathematics of its files in a row by rising names. -/
import Derived.Test.YtndjlnlmlgimlaaDkP
namespace Go.Proofs.Ytndjlnlmlgimlaa
open Go.RowKit Go.MapKept

def cel (p : Fv) : List Value := [.string (mkS p.1.nm), p.2, .int .i64 (p.1.sy : Int)]
theorem cel_at (L : List Fv) (j : Nat) (h : j < L.length) : (L.flatMap cel)[j * 3]? = some (.string (mkS (L[j]'h).1.nm)) ∧ (L.flatMap cel)[j * 3 + 1]? = some (L[j]'h).2 ∧ (L.flatMap cel)[j * 3 + 2]? = some (.int .i64 ((L[j]'h).1.sy : Int)) := by
  induction L generalizing j with
  | nil => simp at h
  | cons x L ih =>
    cases j with
    | zero => exact ⟨rfl, rfl, rfl⟩
    | succ j =>
      have := ih j (by simpa using h)
      rw [List.flatMap_cons, show (j + 1) * 3 = j * 3 + 3 by omega, show j * 3 + 3 + 1 = j * 3 + 1 + 3 by omega, show j * 3 + 3 + 2 = j * 3 + 2 + 3 by omega]
      rw [List.getElem?_append_right (by simp [cel]), List.getElem?_append_right (by simp [cel]), List.getElem?_append_right (by simp [cel])]
      simpa [cel] using this
theorem cel_len (L : List Fv) : (L.flatMap cel).length = L.length * 3 := by
  induction L with
  | nil => rfl
  | cons x L ih => rw [List.flatMap_cons, List.length_append, ih, List.length_cons]; simp [cel]; omega
theorem cel_drop (L : List Fv) (d : Nat) : (L.drop d).flatMap cel = (L.flatMap cel).drop (d * 3) := by
  induction d generalizing L with
  | zero => simp
  | succ d ih =>
    cases L with
    | nil => simp
    | cons x L =>
      rw [List.drop_succ_cons, ih, List.flatMap_cons, show (d + 1) * 3 = 3 + d * 3 by omega, ← List.drop_drop]
      rfl
theorem cel_take (L : List Fv) (d : Nat) : (L.take d).flatMap cel = (L.flatMap cel).take (d * 3) := by
  induction d generalizing L with
  | zero => simp
  | succ d ih =>
    cases L with
    | nil => simp
    | cons x L =>
      rw [List.take_succ_cons, List.flatMap_cons, ih, List.flatMap_cons, show (d + 1) * 3 = (cel x).length + d * 3 by simp [cel]; omega, List.take_length_add_append]
theorem cel_set (L : List Fv) (j : Nat) (p : Fv) (h : j < L.length) : (L.set j p).flatMap cel = (((L.flatMap cel).set (j * 3) (.string (mkS p.1.nm))).set (j * 3 + 1) p.2).set (j * 3 + 2) (.int .i64 (p.1.sy : Int)) := by
  induction L generalizing j with
  | nil => simp at h
  | cons x L ih =>
    cases j with
    | zero => rfl
    | succ j =>
      have := ih j (by simpa using h)
      rw [List.set_cons_succ, List.flatMap_cons, this, List.flatMap_cons, show (j + 1) * 3 = j * 3 + 3 by omega]
      simp [cel]
/- A disk of the document's in memory: its block r, the slice v of its files. -/
structure Rk (w : World) (base r : Nat) (room : Int) (v : Value) (L : List Fv) : Prop where
  cell : w.heap[r]? = some (.cells #[.int .i64 room, v] 48 (0, 0))
  row : w.ownsRow base 64 3 v L.length (L.flatMap cel)
  bs : ∀ p ∈ L, w.ownsRow base 5 1 p.2 p.1.b.length (bv p.1.b)
  fits : ∀ p ∈ L, p.1.sy ≤ p.1.b.length ∧ p.1.b.length ≤ 4194304
  rm : 0 ≤ room ∧ room < 9223372036854775808
  low : base ≤ r
/- What it writes, and what it reaches. -/
def Wr (r : Nat) (v : Value) (g : Nat) : Prop := g = r ∨ blk v = some g
def Bx (r : Nat) (v : Value) (L : List Fv) (g : Nat) : Prop := g = r ∨ blk v = some g ∨ ∃ p ∈ L, blk p.2 = some g
theorem owns_keepN {T : TypeId} {sz : Nat} {S : Nat → Prop} {w w' : World} {base : Nat} {v : Value} {n : Nat} {xs : List Value} (h : w.ownsRow base T sz v n xs) (hc : Chg S w w') (hn : ∀ k, blk v = some k → ¬ S k) : w'.ownsRow base T sz v n xs := by
  refine ⟨h.1, ?_⟩
  rcases h.2 with h | ⟨g, cap, cur, rfl, hb, hg, hr⟩
  · exact .inl h
  · exact .inr ⟨g, cap, cur, rfl, hb, by rw [hc.block g (heap_lt hg) (hn g rfl)]; exact hg, hr⟩
theorem owns_blockN {T : TypeId} {sz : Nat} {w : World} {base : Nat} {v : Value} {n : Nat} {xs : List Value} (h : w.ownsRow base T sz v n xs) {k : Nat} (hk : blk v = some k) : ∃ cur, w.heap[k]? = some (.cells cur T (0, 0)) ∧ base ≤ k := by
  rcases h.2 with ⟨rfl, _⟩ | ⟨g, cap, cur, rfl, hb, hg, hr⟩
  · cases hk
  · cases hk; exact ⟨cur, hg, hb⟩
theorem owns_formN {T : TypeId} {sz : Nat} {w : World} {base n : Nat} {v : Value} {xs : List Value} (h : w.ownsRow base T sz v n xs) : ∃ A C, v = .slice A n C := by
  rcases h.2 with ⟨rfl, rfl⟩ | ⟨g, cap, cur, rfl, _⟩
  · exact ⟨none, 0, rfl⟩
  · exact ⟨_, cap, rfl⟩
theorem owns_lowN {T : TypeId} {sz : Nat} {w : World} {base base' : Nat} {v : Value} {n : Nat} {xs : List Value} (h : w.ownsRow base T sz v n xs) (hb : base' ≤ base) : w.ownsRow base' T sz v n xs := by
  refine ⟨h.1, ?_⟩
  rcases h.2 with h | ⟨g, cap, cur, rfl, hg, hr⟩
  · exact .inl h
  · exact .inr ⟨g, cap, cur, rfl, Nat.le_trans hb hg, hr⟩
theorem Rk.lt {w : World} {base r : Nat} {room : Int} {v : Value} {L : List Fv} (h : Rk w base r room v L) : ∀ g, Bx r v L g → base ≤ g ∧ g < w.heap.size := by
  rintro g (rfl | hk | ⟨p, hp, hk⟩)
  · exact ⟨h.low, heap_lt h.cell⟩
  · obtain ⟨cur, hc, hb⟩ := owns_blockN h.row hk
    exact ⟨hb, heap_lt hc⟩
  · obtain ⟨cur, hc, hb⟩ := owns_blockN (h.bs p hp) hk
    exact ⟨hb, heap_lt hc⟩
theorem Rk.keep {S : Nat → Prop} {w w' : World} {base r : Nat} {room : Int} {v : Value} {L : List Fv} (h : Rk w base r room v L) (hc : Chg S w w') (hn : ∀ g, Bx r v L g → ¬ S g) : Rk w' base r room v L := by
  obtain ⟨h1, h2, h3, h4, h5, h6⟩ := h
  exact ⟨by rw [hc.block r (heap_lt h1) (hn r (.inl rfl))]; exact h1, owns_keepN h2 hc (fun k hk => hn k (.inr (.inl hk))), fun p hp => owns_keepN (h3 p hp) hc (fun k hk => hn k (.inr (.inr ⟨p, hp, hk⟩))), h4, h5, h6⟩
theorem Rk.below {w w' : World} {base r : Nat} {room : Int} {v : Value} {L : List Fv} (h : Rk w base r room v L) (hb : Below w.heap.size w w') : Rk w' base r room v L := h.keep (Chg.of_below hb) (fun _ _ => id)
theorem Rk.alloc {w : World} {base r : Nat} {room : Int} {v : Value} {L : List Fv} (h : Rk w base r room v L) (o : Obj) : Rk (w.alloc o) base r room v L := h.keep (Chg.alloc Non w o) (fun _ _ => id)
theorem Rk.drew {w : World} {base r : Nat} {room : Int} {v : Value} {L : List Fv} (h : Rk w base r room v L) : Rk w.drew base r room v L := h.keep (Chg.drew Non w) (fun _ _ => id)
theorem Rk.drewN {w : World} {base r : Nat} {room : Int} {v : Value} {L : List Fv} (h : Rk w base r room v L) (q : Nat) : Rk (w.drewN q) base r room v L := h.keep (Chg.drewN Non w q) (fun _ _ => id)
/- The three kinds of blocks are not one another's. -/
theorem Rk.row_ne {w : World} {base r : Nat} {room : Int} {v : Value} {L : List Fv} (h : Rk w base r room v L) {g : Nat} (hg : blk v = some g) : g ≠ r := by
  obtain ⟨cur, hc, _⟩ := owns_blockN h.row hg
  intro e
  rw [e, h.cell] at hc; cases hc
theorem Rk.bs_ne {w : World} {base r : Nat} {room : Int} {v : Value} {L : List Fv} (h : Rk w base r room v L) {p : Fv} (hp : p ∈ L) {g : Nat} (hg : blk p.2 = some g) : ¬ Wr r v g := by
  obtain ⟨cur, hc, _⟩ := owns_blockN (h.bs p hp) hg
  rintro (e | e)
  · rw [e, h.cell] at hc; cases hc
  · obtain ⟨cur', hc', _⟩ := owns_blockN h.row e
    rw [hc'] at hc; cases hc
/- Where a file's cells lie. -/
theorem add_at (g i : Nat) : (⟨g, 0, none⟩ : Addr).add i = ⟨g, i, none⟩ := by simp only [Addr.add]; split <;> simp_all
theorem Rk.at {w : World} {base r : Nat} {room : Int} {A : Option Addr} {N C : Nat} {L : List Fv} (h : Rk w base r room (.slice A N C) L) (j : Nat) (hj : j < L.length) : ∃ g, A = some ⟨g, 0, none⟩ ∧ w.cell? ⟨g, j * 3, none⟩ = some (.string (mkS (L[j]'hj).1.nm)) ∧ w.cell? ⟨g, j * 3 + 1, none⟩ = some (L[j]'hj).2 ∧ w.cell? ⟨g, j * 3 + 2, none⟩ = some (.int .i64 ((L[j]'hj).1.sy : Int)) := by
  rcases h.row.2 with ⟨_, h0⟩ | ⟨g, cap, cur, hv, hb, hg, hc, hm, hs, ht⟩
  · omega
  · have hv' := hv
    injection hv with e1
    refine ⟨g, e1, ?_, ?_, ?_⟩
    · have := h.row.cells (g := g) (by rw [hv']; rfl) (j * 3) _ (cel_at L j hj).1
      rwa [add_at] at this
    · have := h.row.cells (g := g) (by rw [hv']; rfl) (j * 3 + 1) _ (cel_at L j hj).2.1
      rwa [add_at] at this
    · have := h.row.cells (g := g) (by rw [hv']; rfl) (j * 3 + 2) _ (cel_at L j hj).2.2
      rwa [add_at] at this
theorem Rk.head {w : World} {base r : Nat} {room : Int} {v : Value} {L : List Fv} (h : Rk w base r room v L) : w.cell? ⟨r, 0, none⟩ = some (.int .i64 room) ∧ w.cell? ⟨r, 1, none⟩ = some v := by
  have h0 := cell_at h.cell 0
  have h1 := cell_at h.cell 1
  exact ⟨by simpa using h0, by simpa using h1⟩
theorem cel_one {w : World} {base r : Nat} {room : Int} {v : Value} {L : List Fv} (h : Rk w base r room v L) {M : List Fv} (hM : ∀ p ∈ M, p ∈ L) : ∀ u ∈ M.flatMap cel, u.oneCell' = true := by
  intro u hu
  obtain ⟨p, hp, hx⟩ := List.mem_flatMap.1 hu
  obtain ⟨A, C, e⟩ := owns_formN (h.bs p (hM p hp))
  simp [cel] at hx
  rcases hx with rfl | rfl | rfl
  · rfl
  · rw [e]; rfl
  · rfl

/- Where a file of a name stands. -/
def plF (k : List UInt8) : List Fi → Option Nat
  | [] => none
  | q :: L => if q.nm = k then some 0 else (plF k L).map (· + 1)
def plI (k : List UInt8) (F : List Fi) : Int := match plF k F with
  | some j => (j : Int)
  | none => -1
theorem plF_some : ∀ {k : List UInt8} {F : List Fi} {j : Nat}, plF k F = some j → ∃ h : j < F.length, (F[j]'h).nm = k ∧ lookF k F = some (F[j]'h) ∧ delF k F = F.eraseIdx j ∧ ∀ p : Fi, p.nm = k → putF p F = F.set j p
  | k, [], j, h => by cases h
  | k, q :: F, j, h => by
    unfold plF at h
    by_cases hq : q.nm = k
    · rw [if_pos hq] at h
      cases h
      exact ⟨by simp, hq, by simp [lookF, hq], by simp [delF, hq], fun p hp => by simp [putF, hq, hp]⟩
    · rw [if_neg hq] at h
      simp only [Option.map_eq_some_iff] at h
      obtain ⟨i, hi, rfl⟩ := h
      obtain ⟨h1, h2, h3, h4, h5⟩ := plF_some hi
      exact ⟨by simpa using h1, h2, by simp [lookF, hq, h3], by simp [delF, hq, h4], fun p hp => by simp [putF, hq, hp, h5 p hp]⟩
theorem plF_none : ∀ {k : List UInt8} {F : List Fi}, plF k F = none → lookF k F = none
  | k, [], h => rfl
  | k, q :: F, h => by
    unfold plF at h
    by_cases hq : q.nm = k
    · rw [if_pos hq] at h; cases h
    · rw [if_neg hq, Option.map_eq_none_iff] at h
      simp [lookF, hq, plF_none h]
theorem plF_drop (k : List UInt8) (F : List Fi) (j : Nat) (hj : j < F.length) : plF k (F.drop j) = if (F[j]'hj).nm = k then some 0 else (plF k (F.drop (j + 1))).map (· + 1) := by
  rw [List.drop_eq_getElem_cons hj]; rfl
/- A file among the others, by its name. -/
def insF (p : Fi) : List Fi → List Fi
  | [] => [p]
  | q :: F => if p.nm < q.nm then p :: q :: F else q :: insF p F
theorem insF_perm (p : Fi) : ∀ F, (insF p F).Perm (p :: F)
  | [] => .refl _
  | q :: F => by
    unfold insF
    split
    · exact .refl _
    · exact ((insF_perm p F).cons q).trans (.swap p q F)
theorem putF_perm (p : Fi) : ∀ F, (putF p F).Perm (p :: delF p.nm F)
  | [] => .refl _
  | q :: F => by
    unfold putF delF
    split
    · exact .refl _
    · exact ((putF_perm p F).cons q).trans (.swap p q _)
theorem delF_filter : ∀ {F : List Fi} (k : List UInt8), (F.map (·.nm)).Nodup → delF k F = F.filter (fun q => decide (q.nm ≠ k))
  | [], _, _ => rfl
  | q :: F, k, h => by
    simp only [List.map_cons, List.nodup_cons] at h
    unfold delF
    by_cases hq : q.nm = k
    · rw [if_pos hq, List.filter_cons_of_neg (by simp [hq])]
      refine (List.filter_eq_self.2 fun x hx => ?_).symm
      simp only [decide_eq_true_eq]
      intro e
      exact h.1 (List.mem_map.2 ⟨x, hx, by rw [e, hq]⟩)
    · rw [if_neg hq, List.filter_cons_of_pos (by simp [hq]), delF_filter k h.2]
/- Rising names. -/
def Up (F : List Fi) : Prop := F.Pairwise fun p q => p.nm < q.nm
theorem Up.nodup {F : List Fi} (h : Up F) : (F.map (·.nm)).Nodup := by
  unfold List.Nodup
  rw [List.pairwise_map]
  exact List.Pairwise.imp (fun {a b} hab e => by rw [e] at hab; exact List.lt_irrefl _ hab) h
theorem perm_nodup {F G : List Fi} (h : F.Perm G) (hG : (G.map (·.nm)).Nodup) : (F.map (·.nm)).Nodup := (h.map (·.nm)).symm.nodup hG
theorem del_perm {F G : List Fi} (h : F.Perm G) (hG : (G.map (·.nm)).Nodup) (k : List UInt8) : (delF k F).Perm (delF k G) := by
  rw [delF_filter k hG, delF_filter k (perm_nodup h hG)]
  exact h.filter _
theorem put_perm {F G : List Fi} (h : F.Perm G) (hG : (G.map (·.nm)).Nodup) (p : Fi) : (putF p F).Perm (putF p G) :=
  (putF_perm p F).trans (((del_perm h hG p.nm).cons p).trans (putF_perm p G).symm)
theorem ins_perm {F G : List Fi} (h : F.Perm G) (hG : (G.map (·.nm)).Nodup) (p : Fi) (hn : lookF p.nm G = none) : (putF p F).Perm (insF p G) := by
  refine (put_perm h hG p).trans ((putF_perm p G).trans ?_)
  rw [del_none hn]
  exact (insF_perm p G).symm
theorem lookF_none : ∀ {F : List Fi} {k : List UInt8}, lookF k F = none → ∀ f ∈ F, f.nm ≠ k
  | [], _, _, f, hf => by cases hf
  | q :: F, k, h, f, hf => by
    unfold lookF at h
    split at h
    · cases h
    · next hq =>
      rcases List.mem_cons.1 hf with rfl | hf
      · exact hq
      · exact lookF_none h f hf
theorem Up.ins : ∀ {F : List Fi} {p : Fi}, Up F → (∀ f ∈ F, f.nm ≠ p.nm) → Up (insF p F)
  | [], p, _, _ => by simp [insF, Up]
  | q :: F, p, h, hn => by
    obtain ⟨h1, h2⟩ := List.pairwise_cons.1 h
    unfold insF
    split
    · next hlt =>
      refine List.pairwise_cons.2 ⟨fun x hx => ?_, h⟩
      rcases List.mem_cons.1 hx with rfl | hx
      · exact hlt
      · exact List.lt_trans hlt (h1 x hx)
    · next hlt =>
      refine List.pairwise_cons.2 ⟨fun x hx => ?_, Up.ins h2 fun f hf => hn f (.tail _ hf)⟩
      rcases List.mem_cons.1 ((insF_perm p F).subset hx) with rfl | hx
      · rcases List.le_iff_lt_or_eq.1 (List.not_lt.1 hlt) with e | e
        · exact e
        · exact absurd e (hn q (.head _))
      · exact h1 x hx
theorem Up.sub {F G : List Fi} (h : Up F) (hs : G.Sublist F) : Up G := h.sublist hs
theorem delF_sub (k : List UInt8) : ∀ F : List Fi, (delF k F).Sublist F
  | [] => .slnil
  | x :: L => by
    unfold delF
    split
    · exact (List.Sublist.refl _).cons _
    · exact (delF_sub k L).cons_cons _
theorem Up.names {F G : List Fi} (h : Up F) (hn : G.map (·.nm) = F.map (·.nm)) : Up G := by
  have h1 : (F.map (·.nm)).Pairwise (· < ·) := by rw [List.pairwise_map]; exact h
  rw [← hn, List.pairwise_map] at h1
  exact h1
theorem putF_names : ∀ {F : List Fi} {p : Fi}, (lookF p.nm F).isSome → (putF p F).map (·.nm) = F.map (·.nm)
  | [], p, h => by cases h
  | q :: F, p, h => by
    unfold putF
    by_cases hq : q.nm = p.nm
    · simp [hq]
    · rw [if_neg hq]
      unfold lookF at h
      rw [if_neg hq] at h
      simp [putF_names h]
theorem Up.sorted {F G : List Fi} (h : Up G) (hp : F.Perm G) : sortN (F.map (·.nm)) = G.map (·.nm) := by
  rw [sortN_perm (hp.map (·.nm))]
  unfold sortN
  refine List.mergeSort_of_pairwise ?_
  rw [List.pairwise_map]
  exact List.Pairwise.imp (fun {a b} hab => by simpa using List.le_of_lt hab) h
end Go.Proofs.Ytndjlnlmlgimlaa
