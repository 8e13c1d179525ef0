/- The document's disk: reading; a file taken out of the row, a file put into it. -/
import Derived.Test.YtndjlnlmlgimlaaDfC
namespace Go.Proofs.Ytndjlnlmlgimlaa
open Go.RowKit Go.MapKept

theorem infoF : (Try.prog.info? 64).map (fun i => (i.zero, i.size, i.bytes)) = some (some (.agg #[.string ⟨#[]⟩, .slice none 0 0, .int .i64 0]), 3, 48) := by kernel_rfl
theorem new_own (W : World) : (W.alloc (.cells #[] 5)).ownsRow W.heap.size 5 1 (.slice (some ⟨W.heap.size, 0, none⟩) 0 0) 0 (bv []) :=
  ⟨rfl, .inr ⟨W.heap.size, 0, #[], rfl, Nat.le_refl _, heap_alloc_new W _, Nat.le_refl _, by unfold maxLen; omega, rfl, rfl⟩⟩
set_option maxRecDepth 100000 in
theorem rread_any {w : World} {base r : Nat} {room : Int} {v : Value} {L : List Fv} (h : Rk w base r room v L) (hL : L.length ≤ 1000000) (k : List UInt8) :
    Calls Try.prog 10 #[.pointer (some ⟨r, 0, none⟩), .string (mkS k)] w fun e w' => ∃ A C, e = .returned (.tuple #[.slice A (getF k (L.map Prod.fst)).b.length C, .int .i64 (synE (L.map Prod.fst) k)]) ∧ Bs w' (.slice A (getF k (L.map Prod.fst)).b.length C) (getF k (L.map Prod.fst)).b ∧ Below w.heap.size w w' := by
  have hc := rfind_any h hL k
  obtain ⟨A1, C1, rfl⟩ := owns_formN h.row
  have hc0 := h.head.2
  unfold plI at hc
  cases hq : plF k (L.map Prod.fst) with
  | none =>
    have hl := plF_none hq
    rw [hq] at hc
    simp only at hc
    have HE : Hid (synE (L.map Prod.fst) k = 6 ∧ getF k (L.map Prod.fst) = ⟨[], [], 0⟩) := by simp [Hid, synE, getF, hl]
    rw [HE.out.1, HE.out.2]
    clear hl hq HE h
    go_enter Try.func10, Try.ntmps10
    go_wp2_with fail
    refine hc.mono ?_
    rintro e w1 ⟨rfl, rfl⟩
    clear hc
    go_wp2_with fail
    go_ret2
    exact ⟨none, 0, rfl, Bs.nil _, Below.refl _ _⟩
  | some j =>
    obtain ⟨hj0, hj1, hj2, _⟩ := plF_some hq
    have hj : j < L.length := by simpa using hj0
    rw [hq] at hc
    simp only at hc
    have hgf : getF k (L.map Prod.fst) = (L[j]'hj).1 := by simp [getF, hj2]
    have hse : synE (L.map Prod.fst) k = 0 := by simp [synE, hj2]
    rw [hgf, hse]
    obtain ⟨g, hA, y0, y1, y2⟩ := h.at j hj
    have hbs := h.bs _ (List.getElem_mem hj)
    have hfit := (h.fits _ (List.getElem_mem hj)).2
    obtain ⟨A3, C3, hv3⟩ := owns_formN hbs
    rw [hv3] at y1 hbs
    obtain ⟨f, hf⟩ : ∃ f, f = (L[j]'hj).1 := ⟨_, rfl⟩
    rw [← hf] at hbs hfit y1 ⊢
    subst hA
    have HX : Hid (Bs w (.slice A3 f.b.length C3) f.b) := Bs.of_owns hbs
    obtain ⟨N, hN⟩ : ∃ N, N = L.length := ⟨_, rfl⟩
    have hjN : j < N := by omega
    rw [← hN] at hc0
    have hrl := heap_lt h.cell
    have hgl : g < w.heap.size := World.block_lt_of_cell? w _ y1
    clear hgf hse hf hbs hv3 hj0 hj1 hj2 hq h hN hL y0 y2 hj
    go_enter Try.func10, Try.ntmps10
    go_wp2_with fail
    refine hc.mono ?_
    rintro e w1 ⟨rfl, rfl⟩
    clear hc
    go_wp2_with (first
      | (at_builtin; refine wpList_app rfl _ _ rfl _ _ rfl rfl (new_own w1) (HX.out.alloc _) (by simp) (by simp; omega) ?_; intro A9 C9 w9 ho9 hg9 hl9 hn9)
      | fail)
    go_ret2
    simp only [List.length_nil, Nat.zero_add, List.nil_append] at ho9
    have hB9 : Below w1.heap.size w1 w9 := (below1 _ _).trans ((Chg.of_grown hg9).below (fun k hk => by cases hk; exact Nat.le_refl _) (by simp))
    exact ⟨A9, C9, by simp, Bs.of_owns ho9, hB9⟩
/- The cells of a part of a row. -/
theorem Rk.news {w : World} {base r g N C : Nat} {room : Int} {L : List Fv} (h : Rk w base r room (.slice (some ⟨g, 0, none⟩) N C) L) (d : Nat) {M : List Value} (hM : ∀ t u, M[t]? = some u → (L.flatMap cel)[d * 3 + t]? = some u) :
    ∀ t u, M[t]? = some u → w.cell? ((⟨g, d * 3, none⟩ : Addr).add t) = some u := by
  intro t u hu
  have := h.row.cells (g := g) rfl (d * 3 + t) u (hM t u hu)
  rw [show (⟨g, 0, none⟩ : Addr).add (d * 3 + t) = (⟨g, d * 3, none⟩ : Addr).add t by simp only [Addr.add]; split <;> simp_all] at this
  exact this
theorem heap_set1 {w : World} {g T : Nat} {a v u : Value} (h : w.heap[g]? = some (.cells #[a, v] T (0, 0))) : (w.setCell ⟨g, 1, none⟩ u).heap[g]? = some (.cells #[a, u] T (0, 0)) := by
  simp [World.setCell, Array.getElem?_modify, h]
/- A row of files put in the place of the document's own. -/
theorem Rk.row_set {w1 w6 : World} {base r : Nat} {room : Int} {v v7 : Value} {L L' : List Fv} {S : Nat → Prop} (h : Rk w1 base r room v L) (c : Chg S w1 w6) (hS : ∀ g, S g → w1.heap.size ≤ g) (ho : w6.ownsRow base 64 3 v7 L'.length (L'.flatMap cel)) (hn : ∀ g, blk v7 = some g → w1.heap.size ≤ g) (hL : ∀ p ∈ L', p ∈ L ∨ (w1.ownsRow base 5 1 p.2 p.1.b.length (bv p.1.b) ∧ p.1.sy ≤ p.1.b.length ∧ p.1.b.length ≤ 4194304)) :
    Rk (w6.setCell ⟨r, 1, none⟩ v7) base r room v7 L' ∧ Chg (Wr r v) w1 (w6.setCell ⟨r, 1, none⟩ v7) := by
  have hrl := heap_lt h.cell
  have h6 : w6.heap[r]? = some (.cells #[.int .i64 room, v] 48 (0, 0)) := by
    rw [c.block r hrl (fun e => by have := hS r e; omega)]; exact h.cell
  have c7 : Chg (fun g => g = r) w6 (w6.setCell ⟨r, 1, none⟩ v7) := Chg.setCell w6 ⟨r, 1, none⟩ _ rfl
  have hbs : ∀ p ∈ L', w1.ownsRow base 5 1 p.2 p.1.b.length (bv p.1.b) ∧ p.1.sy ≤ p.1.b.length ∧ p.1.b.length ≤ 4194304 := by
    intro p hp
    rcases hL p hp with hp | hp
    · exact ⟨h.bs p hp, h.fits p hp⟩
    · exact hp
  refine ⟨⟨heap_set1 h6, owns_keepN ho c7 (fun g hg e => by have := hn g hg; omega), fun p hp => owns_keepN (owns_keepN (hbs p hp).1 c fun g hg e => ?_) c7 fun g hg e => ?_, fun p hp => (hbs p hp).2, h.rm, h.low⟩, ?_⟩
  · obtain ⟨cur, hc, _⟩ := owns_blockN (hbs p hp).1 hg
    have := heap_lt hc
    have := hS g e
    omega
  · obtain ⟨cur, hc, _⟩ := owns_blockN (hbs p hp).1 hg
    rw [e, h.cell] at hc; cases hc
  · have a1 : Chg (Wr r v) w1 w6 := c.weak (fun g hg e => by have := hS g e; omega)
    exact a1.trans (c7.weak fun g _ e => .inl e)
set_option maxRecDepth 100000 in
theorem rdrop_any {w : World} {base r : Nat} {room : Int} {v : Value} {L : List Fv} (hb : base ≤ w.heap.size) (h : Rk w base r room v L) (hL : L.length ≤ 1000000) (j : Nat) (hj : j < L.length) :
    Calls Try.prog 41 #[.pointer (some ⟨r, 0, none⟩), .int .i64 j] w fun e w' => e = .returned (.tuple #[]) ∧ ∃ v', Rk w' base r room v' (L.eraseIdx j) ∧ Chg (Wr r v) w w' ∧ ∀ g, blk v' = some g → w.heap.size ≤ g := by
  obtain ⟨A1, C1, rfl⟩ := owns_formN h.row
  have hc0 := h.head.2
  have HH : Hid (Rk w base r room (.slice A1 L.length C1) L) := h
  obtain ⟨g, hA, y0, y1, y2⟩ := h.at j hj
  subst hA
  obtain ⟨N, hN⟩ : ∃ N, N = L.length := ⟨_, rfl⟩
  have HN : Hid (N = L.length) := hN
  rw [← hN] at hc0
  have hjN : j < N := by omega
  have hN6 : N ≤ 1000000 := by omega
  clear h y0 y1 y2 hN
  obtain ⟨i0, hi0, hz0, hz1, hz2⟩ := info_parts infoF
  have HL1 : Hid (((L.take j).flatMap cel).length = j * 3) := by unfold Hid; rw [cel_len, List.length_take]; omega
  have HNW : Hid (∀ t u, ((L.take j).flatMap cel)[t]? = some u → w.cell? ((⟨g, 0, none⟩ : Addr).add t) = some u) := by
    have := HH.out.news 0 (M := (L.take j).flatMap cel) (fun t u hu => by
      rw [cel_take] at hu
      rw [Nat.zero_mul, Nat.zero_add]
      rw [List.getElem?_take] at hu
      split at hu
      · exact hu
      · cases hu)
    unfold Hid
    simpa using this
  have HON : Hid (∀ u ∈ (L.take j).flatMap cel, u.oneCell' = true) := cel_one HH.out (fun p hp => List.mem_of_mem_take hp)
  have hNL : L.length = N := HN.out.symm
  have HNL : Hid (L.length = N) := hNL
  have hNC : N ≤ C1 ∧ C1 ≤ maxLen := by
    rcases HH.out.row.2 with ⟨_, h0⟩ | ⟨g', cap', cur', hv', _, _, hc', hm', _⟩
    · omega
    · injection hv' with _ _ e3
      subst e3
      exact ⟨by omega, hm'⟩
  clear hNL
  have HKR : Hid (∀ {w5 : World}, w.grownBy w5 none → Rk w5 base r room (.slice (some ⟨g, 0, none⟩) L.length C1) L ∧ w5.cell? ⟨r, 1, none⟩ = some (.slice (some ⟨g, 0, none⟩) N C1)) := by
    intro w5 hg5
    have h5 := HH.out.keep (Chg.of_grown hg5) (fun g _ e => by cases e)
    have := h5.head.2
    rw [HNL.out] at this
    exact ⟨h5, this⟩
  have hwr : IntKind.i64.wrap ((j : Int) + 1) = ((j + 1 : Nat) : Int) := by rw [Go.IntWalk.i64_in _ (by omega)]; omega
  obtain ⟨A6, hA6, HS6⟩ : ∃ A6 : Addr, (if C1 = j + 1 then some (⟨g, 0, none⟩ : Addr) else some ⟨g, (j + 1) * 3, none⟩) = some A6 ∧ Hid (∀ {w5 : World}, Rk w5 base r room (.slice (some ⟨g, 0, none⟩) L.length C1) L → ∀ t u, ((L.drop (j + 1)).flatMap cel)[t]? = some u → w5.cell? (A6.add t) = some u) := by
    by_cases hC : C1 = j + 1
    · refine ⟨⟨g, 0, none⟩, by rw [if_pos hC], fun _ t u hu => ?_⟩
      rw [List.drop_eq_nil_of_le (by have := HNL.out; omega)] at hu
      simp at hu
    · refine ⟨⟨g, (j + 1) * 3, none⟩, by rw [if_neg hC], fun h5 t u hu => ?_⟩
      refine h5.news (j + 1) (M := (L.drop (j + 1)).flatMap cel) (fun t u hu => ?_) t u hu
      rw [cel_drop, List.getElem?_drop] at hu
      exact hu
  have HL6 : Hid (((L.drop (j + 1)).flatMap cel).length = (N - (j + 1)) * 3) := by unfold Hid; rw [cel_len, List.length_drop]; have := HNL.out; omega
  have HON6 : Hid (∀ u ∈ (L.drop (j + 1)).flatMap cel, u.oneCell' = true) := cel_one HH.out (fun p hp => List.mem_of_mem_drop hp)
  have HLB : Hid (∀ {w5 : World} {A5 : Option Addr} {C5 : Nat}, (blk (.slice A5 (0 + j) C5) = blk (.slice none 0 0) ∨ blk (.slice A5 (0 + j) C5) = some w.heap.size) → w5.ownsRow base 64 3 (.slice A5 (0 + j) C5) (0 + j) ([] ++ (L.take j).flatMap cel) → ∀ k, blk (.slice A5 j C5) = some k → w.heap.size ≤ k) := by
    intro w5 A5 C5 h _ k hk
    rw [Nat.zero_add] at h
    rcases h with h | h
    · rw [h] at hk; cases hk
    · rw [h] at hk; cases hk; exact Nat.le_refl _
  have HKS : Hid (∀ {w5 w6 : World} {A5 : Option Addr} {C5 : Nat} {A7 : Option Addr} {C7 : Nat}, w.grownBy w5 none → Rk w5 base r room (.slice (some ⟨g, 0, none⟩) L.length C1) L → (∀ k, blk (.slice A5 j C5) = some k → w.heap.size ≤ k) → w5.grownBy w6 (blk (.slice A5 j C5)) →
      w6.ownsRow base 64 3 (.slice A7 (j + (N - (j + 1))) C7) (j + (N - (j + 1))) ((L.take j).flatMap cel ++ (L.drop (j + 1)).flatMap cel) → (blk (.slice A7 (j + (N - (j + 1))) C7) = blk (.slice A5 j C5) ∨ blk (.slice A7 (j + (N - (j + 1))) C7) = some w5.heap.size) →
      w6.cell? ⟨r, 1, none⟩ = some (.slice (some ⟨g, 0, none⟩) N C1) ∧ w6.frozen? ⟨r, 1, none⟩ = false ∧
      Hid (Rk (w6.setCell ⟨r, 1, none⟩ (.slice A7 (j + (N - (j + 1))) C7)) base r room (.slice A7 (j + (N - (j + 1))) C7) (L.eraseIdx j) ∧ Chg (Wr r (.slice (some ⟨g, 0, none⟩) L.length C1)) w (w6.setCell ⟨r, 1, none⟩ (.slice A7 (j + (N - (j + 1))) C7)) ∧ ∀ k, blk (.slice A7 (j + (N - (j + 1))) C7) = some k → w.heap.size ≤ k)) := by
    intro w5 w6 A5 C5 A7 C7 hg5 h5 hk hg ho hl
    have hrl := heap_lt HH.out.cell
    have c5 : Chg (fun k => blk (.slice A5 j C5) = some k) w w5 := (Chg.of_grown hg5).weak (fun _ _ e => by cases e)
    have c6 : Chg (fun k => blk (.slice A5 j C5) = some k) w w6 := c5.trans (Chg.of_grown hg)
    have hlen : (L.eraseIdx j).length = j + (N - (j + 1)) := by rw [List.length_eraseIdx]; simp [hj]; have := HNL.out; omega
    have hfl : (L.eraseIdx j).flatMap cel = (L.take j).flatMap cel ++ (L.drop (j + 1)).flatMap cel := by rw [List.eraseIdx_eq_take_drop_succ, List.flatMap_append]
    have hnew : ∀ k, blk (.slice A7 (j + (N - (j + 1))) C7) = some k → w.heap.size ≤ k := fun k hk' => by
      rcases hl with e | e
      · exact hk k (e.symm.trans hk')
      · have e' : some w5.heap.size = some k := e.symm.trans hk'
        cases e'
        exact c5.size
    have hcc := HH.out.row_set c6 hk (v7 := .slice A7 (j + (N - (j + 1))) C7) (L' := L.eraseIdx j) (by rw [hlen, hfl]; exact ho) hnew (fun p hp => .inl (List.mem_of_mem_eraseIdx hp))
    have h6 : w6.heap[r]? = some (.cells #[.int .i64 room, .slice (some ⟨g, 0, none⟩) L.length C1] 48 (0, 0)) := by
      rw [c6.block r hrl (fun e => by have := hk r e; omega)]; exact HH.out.cell
    have h0 := cell_at h6 1
    simp at h0
    rw [HNL.out] at h0
    exact ⟨h0, frozen_at h6 1, hcc.1, hcc.2, hnew⟩
  go_enter Try.func41, Try.ntmps41
  go_wp2_with (first
    | (at_builtin; refine wpList_append_own_at _ rfl (.tmp 5) (.tmp 11) 46 rfl base 64 i0 (.agg #[.string ⟨#[]⟩, .slice none 0 0, .int .i64 0]) 3 48 Try.underlying46 hi0 hz0 hz1 hz2 rfl (by decide) _ 0 [] rfl (World.ownsRow_nil _ _ _ _) ⟨g, 0, none⟩ j C1 ((L.take j).flatMap cel) rfl HL1.out HNW.out HON.out (by unfold maxLen; omega) (by omega) hb ?_; intro v5 w5 ho5 hg5 hn5 hl5; obtain ⟨A5, C5, hv5⟩ := owns_formN ho5; subst hv5; obtain ⟨h5, c5⟩ := HKR.out hg5; have HO5 : Hid (w5.ownsRow base 64 3 (.slice A5 (0 + j) C5) (0 + j) ([] ++ (L.take j).flatMap cel)) := ho5; have hs5 := hg5.size; simp only [Nat.zero_add, List.nil_append] at HO5; have HL5 : Hid (∀ k, blk (.slice A5 j C5) = some k → w.heap.size ≤ k) := HLB.out hl5 ho5; clear ho5 hn5)
    | (at_builtin; refine wpList_append_own_at _ rfl (.tmp 14) (.tmp 21) 46 rfl base 64 i0 (.agg #[.string ⟨#[]⟩, .slice none 0 0, .int .i64 0]) 3 48 Try.underlying46 hi0 hz0 hz1 hz2 rfl (by decide) _ j ((L.take j).flatMap cel) rfl HO5.out A6 (N - (j + 1)) (C1 - (j + 1)) ((L.drop (j + 1)).flatMap cel) rfl HL6.out (HS6.out h5) HON6.out (by unfold maxLen; omega) (by omega) (by omega) ?_; intro v6 w6 ho6 hg6 hn6 hl6; obtain ⟨A7, C7, hv7⟩ := owns_formN ho6; subst hv7; obtain ⟨c6, f6, HK7⟩ := HKS.out hg5 h5 HL5.out hg6 ho6 hl6; clear ho6 hn6 hl6)
    | fail)
  go_end0
  exact ⟨rfl, _, HK7.out⟩
/- A file among the others, with its slice. -/
def insV (p : Fv) : List Fv → List Fv
  | [] => [p]
  | q :: L => if p.1.nm < q.1.nm then p :: q :: L else q :: insV p L
theorem insV_F (p : Fv) : ∀ L, (insV p L).map Prod.fst = insF p.1 (L.map Prod.fst)
  | [] => rfl
  | q :: L => by
    unfold insV insF
    simp only [List.map_cons]
    split
    · rfl
    · simp [insV_F p L]
theorem insV_mem {p x : Fv} : ∀ {L : List Fv}, x ∈ insV p L → x ∈ L ∨ x = p
  | [], h => by simp [insV] at h; exact .inr h
  | q :: L, h => by
    unfold insV at h
    split at h
    · rcases List.mem_cons.1 h with h | h
      · exact .inr h
      · exact .inl h
    · rcases List.mem_cons.1 h with h | h
      · exact .inl (by rw [h]; exact .head _)
      · exact (insV_mem h).imp (.tail _) id
theorem insV_len (p : Fv) : ∀ L, (insV p L).length = L.length + 1
  | [] => rfl
  | q :: L => by
    unfold insV
    split
    · rfl
    · simp [insV_len p L]
theorem insV_drop (p : Fv) (L : List Fv) (j : Nat) (hj : j < L.length) : insV p (L.drop j) = if p.1.nm < (L[j]'hj).1.nm then p :: L[j]'hj :: L.drop (j + 1) else L[j]'hj :: insV p (L.drop (j + 1)) := by
  rw [List.drop_eq_getElem_cons hj]; rfl
end Go.Proofs.Ytndjlnlmlgimlaa
