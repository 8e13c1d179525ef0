/- The document's net: what lies in memory for one; its counting and its finding. -/
import Derived.Test.YtjclegiohhbkpaaNtS
namespace Go.Proofs.Ytjclegiohhbkpaa
open Go.RowKit Go.MapKept

/- A packet with the slice that holds its bytes. -/
abbrev PkV := Pk × Value
def cel (p : PkV) : List Value := [.int .i64 p.1.1.1, .int .i64 p.1.1.2, p.2]
theorem cel_at (L : List PkV) (j : Nat) (h : j < L.length) : (L.flatMap cel)[j * 3]? = some (.int .i64 (L[j]'h).1.1.1) ∧ (L.flatMap cel)[j * 3 + 1]? = some (.int .i64 (L[j]'h).1.1.2) ∧ (L.flatMap cel)[j * 3 + 2]? = some (L[j]'h).2 := by
  induction L generalizing j with
  | nil => simp at h
  | cons x L ih =>
    cases j with
    | zero => exact ⟨rfl, rfl, rfl⟩
    | succ j =>
      have := ih j (by simpa using h)
      rw [List.flatMap_cons, show (j + 1) * 3 = j * 3 + 3 by omega, show j * 3 + 3 + 1 = j * 3 + 1 + 3 by omega, show j * 3 + 3 + 2 = j * 3 + 2 + 3 by omega]
      rw [List.getElem?_append_right (by simp [cel]), List.getElem?_append_right (by simp [cel]), List.getElem?_append_right (by simp [cel])]
      simpa [cel] using this
theorem cel_len (L : List PkV) : (L.flatMap cel).length = L.length * 3 := by
  induction L with
  | nil => rfl
  | cons x L ih => rw [List.flatMap_cons, List.length_append, ih, List.length_cons]; simp [cel]; omega
structure Rk (w : World) (base r : Nat) (v : Value) (L : List PkV) : Prop where
  cell : w.heap[r]? = some (.cells #[v] 54 (0, 0))
  row : w.ownsRow base 58 3 v L.length (L.flatMap cel)
  bs : ∀ p ∈ L, w.ownsRow base 5 1 p.2 p.1.2.length (bv p.1.2) ∧ p.1.2.length ≤ 1048576
  low : base ≤ r
def Bx (r : Nat) (v : Value) (L : List PkV) (g : Nat) : Prop := g = r ∨ blk v = some g ∨ ∃ p ∈ L, blk p.2 = some g
theorem owns_keepN {T : TypeId} {sz : Nat} {S : Nat → Prop} {w w' : World} {base : Nat} {v : Value} {n : Nat} {xs : List Value} (h : w.ownsRow base T sz v n xs) (hc : Chg S w w') (hn : ∀ k, blk v = some k → ¬ S k) : w'.ownsRow base T sz v n xs := by
  refine ⟨h.1, ?_⟩
  rcases h.2 with h | ⟨g, cap, cur, rfl, hb, hg, hr⟩
  · exact .inl h
  · exact .inr ⟨g, cap, cur, rfl, hb, by rw [hc.block g (heap_lt hg) (hn g rfl)]; exact hg, hr⟩
theorem owns_blockN {T : TypeId} {sz : Nat} {w : World} {base : Nat} {v : Value} {n : Nat} {xs : List Value} (h : w.ownsRow base T sz v n xs) {k : Nat} (hk : blk v = some k) : ∃ cur, w.heap[k]? = some (.cells cur T (0, 0)) ∧ base ≤ k := by
  rcases h.2 with ⟨rfl, _⟩ | ⟨g, cap, cur, rfl, hb, hg, hr⟩
  · cases hk
  · cases hk; exact ⟨cur, hg, hb⟩
theorem owns_formN {T : TypeId} {sz : Nat} {w : World} {base n : Nat} {v : Value} {xs : List Value} (h : w.ownsRow base T sz v n xs) : ∃ A C, v = .slice A n C := by
  rcases h.2 with ⟨rfl, rfl⟩ | ⟨g, cap, cur, rfl, _⟩
  · exact ⟨none, 0, rfl⟩
  · exact ⟨_, cap, rfl⟩
theorem Rk.lt {w : World} {base r : Nat} {v : Value} {L : List PkV} (h : Rk w base r v L) : ∀ g, Bx r v L g → base ≤ g ∧ g < w.heap.size := by
  rintro g (rfl | hk | ⟨p, hp, hk⟩)
  · exact ⟨h.low, heap_lt h.cell⟩
  · obtain ⟨cur, hc, hb⟩ := owns_blockN h.row hk
    exact ⟨hb, heap_lt hc⟩
  · obtain ⟨cur, hc, hb⟩ := owns_blockN (h.bs p hp).1 hk
    exact ⟨hb, heap_lt hc⟩
theorem Rk.keep {S : Nat → Prop} {w w' : World} {base r : Nat} {v : Value} {L : List PkV} (h : Rk w base r v L) (hc : Chg S w w') (hn : ∀ g, Bx r v L g → ¬ S g) : Rk w' base r v L := by
  obtain ⟨h1, h2, h3, h4⟩ := h
  exact ⟨by rw [hc.block r (heap_lt h1) (hn r (.inl rfl))]; exact h1, owns_keepN h2 hc (fun k hk => hn k (.inr (.inl hk))), fun p hp => ⟨owns_keepN (h3 p hp).1 hc (fun k hk => hn k (.inr (.inr ⟨p, hp, hk⟩))), (h3 p hp).2⟩, h4⟩
theorem Rk.below {w w' : World} {base r : Nat} {v : Value} {L : List PkV} (h : Rk w base r v L) (hb : Below w.heap.size w w') : Rk w' base r v L := h.keep (Chg.of_below hb) (fun _ _ => id)
theorem Rk.alloc {w : World} {base r : Nat} {v : Value} {L : List PkV} (h : Rk w base r v L) (o : Obj) : Rk (w.alloc o) base r v L := h.keep (Chg.alloc Non w o) (fun _ _ => id)
theorem Rk.drewN {w : World} {base r : Nat} {v : Value} {L : List PkV} (h : Rk w base r v L) (q : Nat) : Rk (w.drewN q) base r v L := h.keep (Chg.drewN Non w q) (fun _ _ => id)
/- Where a packet's cells lie. -/
theorem Rk.at {w : World} {base r : Nat} {A : Option Addr} {N C : Nat} {L : List PkV} (h : Rk w base r (.slice A N C) L) (j : Nat) (hj : j < L.length) : ∃ g, A = some ⟨g, 0, none⟩ ∧ w.cell? ⟨g, j * 3, none⟩ = some (.int .i64 (L[j]'hj).1.1.1) ∧ w.cell? ⟨g, j * 3 + 1, none⟩ = some (.int .i64 (L[j]'hj).1.1.2) ∧ w.cell? ⟨g, j * 3 + 2, none⟩ = some (L[j]'hj).2 := by
  rcases h.row.2 with ⟨_, h0⟩ | ⟨g, cap, cur, hv, hb, hg, hc, hm, hs, ht⟩
  · omega
  · have hv' := hv
    injection hv with e1
    refine ⟨g, e1, ?_, ?_, ?_⟩
    · have := h.row.cells (g := g) (by rw [hv']; rfl) (j * 3) _ (cel_at L j hj).1
      rw [show (⟨g, 0, none⟩ : Addr).add (j * 3) = ⟨g, j * 3, none⟩ by simp only [Addr.add]; split <;> simp_all] at this
      exact this
    · have := h.row.cells (g := g) (by rw [hv']; rfl) (j * 3 + 1) _ (cel_at L j hj).2.1
      rw [show (⟨g, 0, none⟩ : Addr).add (j * 3 + 1) = ⟨g, j * 3 + 1, none⟩ by simp only [Addr.add]; split <;> simp_all] at this
      exact this
    · have := h.row.cells (g := g) (by rw [hv']; rfl) (j * 3 + 2) _ (cel_at L j hj).2.2
      rw [show (⟨g, 0, none⟩ : Addr).add (j * 3 + 2) = ⟨g, j * 3 + 2, none⟩ by simp only [Addr.add]; split <;> simp_all] at this
      exact this
set_option maxRecDepth 100000 in
theorem rnew_any (w : World) : Calls Try.prog 7 #[] w fun e w' => ∃ r, e = .returned (.pointer (some ⟨r, 0, none⟩)) ∧ Rk w' w.heap.size r (.slice none 0 0) [] ∧ Below w.heap.size w w' := by
  go_enter Try.func7, Try.ntmps7
  go_wp2_with fail
  go_ret
  exact ⟨w.heap.size, rfl, ⟨heap_alloc_new w _, World.ownsRow_nil _ _ _ _, by simp, Nat.le_refl _⟩, below1 _ _⟩
theorem bag_take_succ (L : List PkV) (k : Int × Int) (j : Nat) (hj : j < L.length) : (bagOf ((L.take (j + 1)).map Prod.fst) k) = if (L[j]'hj).1.1 = k then bagOf ((L.take j).map Prod.fst) k ++ [(L[j]'hj).1.2] else bagOf ((L.take j).map Prod.fst) k := by
  rw [List.take_succ_eq_append_getElem hj, List.map_append]
  exact bag_app _ (L[j]'hj).1.1 k (L[j]'hj).1.2
set_option maxRecDepth 100000 in
theorem rcount_any {w : World} {base r : Nat} {v : Value} {L : List PkV} (h : Rk w base r v L) (hL : L.length ≤ 1000000) (k : Int × Int) :
    Calls Try.prog 10 #[.pointer (some ⟨r, 0, none⟩), .int .i64 k.1, .int .i64 k.2] w fun e w' => e = .returned (.int .i64 (bagOf (L.map Prod.fst) k).length) ∧ w' = w := by
  obtain ⟨A, C, rfl⟩ := owns_formN h.row
  have hc0 := cell_at h.cell 0
  simp at hc0
  have HR : Hid (Rk w base r (.slice A L.length C) L) := h
  obtain ⟨N, hN⟩ : ∃ N, N = L.length := ⟨_, rfl⟩
  have HN : Hid (N = L.length) := hN
  rw [← hN] at hc0 hL
  clear h hN
  go_enter Try.func10, Try.ntmps10
  go_wp2_with fail
  go_loopw [7, 8] (fun c i wr => ∃ (j : Nat), j ≤ N ∧ i = .int .i64 j ∧ c = .int .i64 (bagOf ((L.take j).map Prod.fst) k).length ∧ wr = w) (fun _ i _ => N - (intOf i).toNat)
  case atStart => exact ⟨0, Nat.zero_le _, rfl, rfl, rfl⟩
  case round =>
    obtain ⟨j, hj, rfl, rfl, rfl⟩ := hrel
    by_cases hlt : j < N
    · have hj' : j < L.length := by have := HN.out; omega
      obtain ⟨g, hA, y0, y1, y2⟩ := HR.out.at j hj'
      have hbt := bag_take_succ L k j hj'
      have hbl : (bagOf ((L.take j).map Prod.fst) k).length ≤ 1000000 := by
        have := bag_len ((L.take j).map Prod.fst) k
        rw [List.length_map, List.length_take] at this
        have := HN.out
        omega
      obtain ⟨x, hx⟩ : ∃ x : Int × Int, x = (L[j]'hj').1.1 := ⟨_, rfl⟩
      rw [← hx] at y0 y1 hbt
      have HBT : Hid (bagOf ((L.take (j + 1)).map Prod.fst) k = if x = k then bagOf ((L.take j).map Prod.fst) k ++ [(L[j]'hj').1.2] else bagOf ((L.take j).map Prod.fst) k) := hbt
      clear hx hbt y2
      generalize hc : (bagOf ((L.take j).map Prod.fst) k).length = c at hbl ⊢
      have HC : Hid ((bagOf ((L.take j).map Prod.fst) k).length = c) := hc
      clear hc
      subst hA
      obtain ⟨x0, x1⟩ := x
      obtain ⟨k0, k1⟩ := k
      simp only at y0 y1 ⊢
      by_cases h0 : x0 = k0
      · by_cases h1 : x1 = k1
        · have HE : Hid (bagOf ((L.take (j + 1)).map Prod.fst) (k0, k1) = bagOf ((L.take j).map Prod.fst) (k0, k1) ++ [(L[j]'hj').1.2]) := by rw [HBT.out, if_pos (by rw [h0, h1])]; rfl
          clear HBT
          subst h0 h1
          go_wp2_with fail
          go_roundw
          case rel => exact ⟨j + 1, by omega, by go_num, by rw [HE.out, List.length_append, HC.out]; rfl, trivial⟩
          case measure => simp [intOf]; omega
        · have HE : Hid (bagOf ((L.take (j + 1)).map Prod.fst) (k0, k1) = bagOf ((L.take j).map Prod.fst) (k0, k1)) := by rw [HBT.out, if_neg (by intro e; cases e; exact h1 rfl)]; rfl
          clear HBT
          subst h0
          have hb : (x1 == k1) = false := by simpa using h1
          go_wp2_with fail
          go_roundw
          case rel => exact ⟨j + 1, by omega, by go_num, by rw [HE.out, HC.out], trivial⟩
          case measure => simp [intOf]; omega
      · have HE : Hid (bagOf ((L.take (j + 1)).map Prod.fst) (k0, k1) = bagOf ((L.take j).map Prod.fst) (k0, k1)) := by rw [HBT.out, if_neg (by intro e; cases e; exact h0 rfl)]; rfl
        clear HBT
        have hb : (x0 == k0) = false := by simpa using h0
        go_wp2_with fail
        go_roundw
        case rel => exact ⟨j + 1, by omega, by go_num, by rw [HE.out, HC.out], trivial⟩
        case measure => simp [intOf]; omega
    · go_wp2_with fail
      go_ret
      have e : L.take j = L := List.take_of_length_le (by have := HN.out; omega)
      rw [e]
      exact ⟨rfl, rfl⟩
/- Where the packet at a place of a link stands in the row. -/
def placeP : List Pk → Int × Int → Nat → Option Nat
  | [], _, _ => none
  | p :: l, k, n => if p.1 = k then (match n with | 0 => some 0 | n + 1 => (placeP l k n).map (· + 1)) else (placeP l k n).map (· + 1)
theorem place_some : ∀ (l : List Pk) (k : Int × Int) (n i : Nat), placeP l k n = some i → ∃ h : i < l.length, (l[i]'h).1 = k ∧ (bagOf l k)[n]? = some (l[i]'h).2 ∧ takeP l k n = l.eraseIdx i
  | [], k, n, i, h => by cases h
  | p :: l, k, n, i, h => by
    unfold placeP at h
    by_cases hp : p.1 = k
    · rw [if_pos hp] at h
      cases n with
      | zero =>
        cases h
        exact ⟨by simp, hp, by simp [bagOf, hp], by simp [takeP, hp]⟩
      | succ n =>
        simp only [Option.map_eq_some_iff] at h
        obtain ⟨j, hj, rfl⟩ := h
        obtain ⟨h1, h2, h3, h4⟩ := place_some l k n j hj
        refine ⟨by simp; omega, h2, ?_, ?_⟩
        · simp only [bagOf, List.filter_cons, hp, decide_true, if_true, List.map_cons, List.getElem?_cons_succ, List.getElem_cons_succ]
          exact h3
        · simp [takeP, hp, h4]
    · rw [if_neg hp] at h
      simp only [Option.map_eq_some_iff] at h
      obtain ⟨j, hj, rfl⟩ := h
      obtain ⟨h1, h2, h3, h4⟩ := place_some l k n j hj
      refine ⟨by simp; omega, h2, ?_, ?_⟩
      · simp only [bagOf, List.filter_cons, hp, decide_false, List.getElem_cons_succ]
        exact h3
      · simp [takeP, hp, h4]
theorem place_none : ∀ (l : List Pk) (k : Int × Int) (n : Nat), placeP l k n = none → (bagOf l k)[n]? = none
  | [], k, n, h => by simp [bagOf]
  | p :: l, k, n, h => by
    unfold placeP at h
    by_cases hp : p.1 = k
    · rw [if_pos hp] at h
      cases n with
      | zero => cases h
      | succ n =>
        simp only [Option.map_eq_none_iff] at h
        have := place_none l k n h
        simp only [bagOf, List.filter_cons, hp, decide_true, if_true, List.map_cons, List.getElem?_cons_succ]
        exact this
    · rw [if_neg hp] at h
      simp only [Option.map_eq_none_iff] at h
      have := place_none l k n h
      simp only [bagOf, List.filter_cons, hp, decide_false]
      exact this
/- What place answers. -/
def placeI (l : List Pk) (k : Int × Int) (i : Int) : Int := if 0 ≤ i then (match placeP l k i.toNat with | some j => (j : Int) | none => -1) else -1
theorem place_drop (l : List Pk) (k : Int × Int) : ∀ (j : Nat) (hj : j < l.length) (n : Nat), placeP (l.drop j) k n = if (l[j]'hj).1 = k then (match n with | 0 => some 0 | n + 1 => (placeP (l.drop (j + 1)) k n).map (· + 1)) else (placeP (l.drop (j + 1)) k n).map (· + 1) := by
  intro j hj n
  rw [List.drop_eq_getElem_cons hj]
  rfl
set_option maxRecDepth 100000 in
theorem rplace_any {w : World} {base r : Nat} {v : Value} {L : List PkV} (h : Rk w base r v L) (hL : L.length ≤ 1000000) (k : Int × Int) (i : Int) (hi : -9223372036854775808 ≤ i ∧ i < 9223372036854775808) :
    Calls Try.prog 35 #[.pointer (some ⟨r, 0, none⟩), .int .i64 k.1, .int .i64 k.2, .int .i64 i] w fun e w' => (0 ≤ i → e = .returned (.int .i64 (placeI (L.map Prod.fst) k i))) ∧ (∃ z : Int, e = .returned (.int .i64 z)) ∧ w' = w := by
  obtain ⟨A, C, rfl⟩ := owns_formN h.row
  have hc0 := cell_at h.cell 0
  simp at hc0
  have HR : Hid (Rk w base r (.slice A L.length C) L) := h
  obtain ⟨N, hN⟩ : ∃ N, N = L.length := ⟨_, rfl⟩
  have HN : Hid (N = L.length) := hN
  rw [← hN] at hc0 hL
  clear h hN
  go_enter Try.func35, Try.ntmps35
  go_wp2_with fail
  go_loopw [3, 9] (fun c i' wr => ∃ (j : Nat) (a : Int), j ≤ N ∧ i' = .int .i64 j ∧ c = .int .i64 a ∧ (-9223372036854775808 ≤ a ∧ a < 9223372036854775808) ∧ (0 ≤ i → 0 ≤ a ∧ placeP (L.map Prod.fst) k i.toNat = (placeP ((L.map Prod.fst).drop j) k a.toNat).map (· + j)) ∧ wr = w) (fun _ i _ => N - (intOf i).toNat)
  case atStart => exact ⟨0, i, Nat.zero_le _, rfl, rfl, hi, fun h => ⟨h, by simp⟩, rfl⟩
  case round =>
    obtain ⟨j, a, hj, rfl, rfl, ha, hP, rfl⟩ := hrel
    have HP : Hid (0 ≤ i → 0 ≤ a ∧ placeP (L.map Prod.fst) k i.toNat = (placeP ((L.map Prod.fst).drop j) k a.toNat).map (· + j)) := hP
    clear hP
    by_cases hlt : j < N
    · have hj' : j < L.length := by have := HN.out; omega
      obtain ⟨g, hA, y0, y1, y2⟩ := HR.out.at j hj'
      have hbt := place_drop (L.map Prod.fst) k j (by simpa using hj')
      obtain ⟨x, hx⟩ : ∃ x : Int × Int, x = (L[j]'hj').1.1 := ⟨_, rfl⟩
      simp only [List.getElem_map] at hbt
      rw [← hx] at y0 y1 hbt
      have HBT : Hid (∀ (n : Nat), placeP ((L.map Prod.fst).drop j) k n = if x = k then (match n with | 0 => some 0 | n + 1 => (placeP ((L.map Prod.fst).drop (j + 1)) k n).map (· + 1)) else (placeP ((L.map Prod.fst).drop (j + 1)) k n).map (· + 1)) := hbt
      clear hx hbt y2
      subst hA
      obtain ⟨x0, x1⟩ := x
      obtain ⟨k0, k1⟩ := k
      simp only at y0 y1 ⊢
      have hshift : ∀ o : Option Nat, (o.map (· + 1)).map (· + j) = o.map (· + (j + 1)) := fun o => by cases o <;> simp; omega
      have HSH : Hid (∀ o : Option Nat, (o.map (· + 1)).map (· + j) = o.map (· + (j + 1))) := hshift
      clear hshift
      by_cases h0 : x0 = k0
      · by_cases h1 : x1 = k1
        · have HXK : Hid ((x0, x1) = (k0, k1)) := by unfold Hid; rw [h0, h1]
          subst h0 h1
          by_cases hz : a = 0
          · have HZ : Hid (a = 0) := hz
            subst hz
            go_wp2_with fail
            go_ret
            refine ⟨fun h => ?_, ⟨_, rfl⟩, rfl⟩
            have h2 := (HP.out h).2
            rw [HBT.out, if_pos HXK.out] at h2
            simp only [Int.toNat_zero, Option.map_some, Nat.zero_add] at h2
            unfold placeI
            rw [if_pos h, h2]
            rfl
          · have hb : (a == 0) = false := by simpa using hz
            obtain ⟨a', ha'⟩ : ∃ a' : Int, IntKind.i64.wrap (a - 1) = a' ∧ (-9223372036854775808 ≤ a' ∧ a' < 9223372036854775808) ∧ (0 ≤ a → a' = a - 1) := by
              by_cases hm : a = -9223372036854775808
              · subst hm; exact ⟨9223372036854775807, by decide, by omega, by omega⟩
              · exact ⟨a - 1, Go.IntWalk.i64_in _ (by omega), by omega, fun _ => rfl⟩
            have hwr := ha'.1
            have HA' : Hid ((-9223372036854775808 ≤ a' ∧ a' < 9223372036854775808) ∧ (0 ≤ a → a' = a - 1)) := ha'.2
            have HZ : Hid (¬ a = 0) := hz
            clear ha' hz
            go_wp2_with fail
            go_roundw
            case rel =>
              refine ⟨j + 1, a', by omega, by go_num, rfl, HA'.out.1, fun h => ?_, trivial⟩
              obtain ⟨p1, p2⟩ := HP.out h
              have p3 := HA'.out.2 p1
              have p4 := HZ.out
              refine ⟨by omega, ?_⟩
              rw [p2, HBT.out, if_pos HXK.out]
              obtain ⟨m, hm⟩ : ∃ m, a.toNat = m + 1 := ⟨a.toNat - 1, by omega⟩
              have hm' : a'.toNat = m := by omega
              rw [hm, hm']
              exact HSH.out _
            case measure => simp [intOf]; omega
        · have HXK : Hid (¬ (x0, x1) = (k0, k1)) := by intro e; cases e; exact h1 rfl
          subst h0
          have hb : (x1 == k1) = false := by simpa using h1
          go_wp2_with fail
          go_roundw
          case rel =>
            refine ⟨j + 1, a, by omega, by go_num, rfl, ha, fun h => ?_, trivial⟩
            obtain ⟨p1, p2⟩ := HP.out h
            refine ⟨p1, ?_⟩
            rw [p2, HBT.out, if_neg HXK.out]
            exact HSH.out _
          case measure => simp [intOf]; omega
      · have HXK : Hid (¬ (x0, x1) = (k0, k1)) := by intro e; cases e; exact h0 rfl
        have hb : (x0 == k0) = false := by simpa using h0
        go_wp2_with fail
        go_roundw
        case rel =>
          refine ⟨j + 1, a, by omega, by go_num, rfl, ha, fun h => ?_, trivial⟩
          obtain ⟨p1, p2⟩ := HP.out h
          refine ⟨p1, ?_⟩
          rw [p2, HBT.out, if_neg HXK.out]
          exact HSH.out _
        case measure => simp [intOf]; omega
    · go_wp2_with fail
      go_ret
      refine ⟨fun h => ?_, ⟨_, rfl⟩, rfl⟩
      have h2 := (HP.out h).2
      rw [List.drop_eq_nil_of_le (by have := HN.out; simp; omega)] at h2
      unfold placeI
      rw [if_pos h, h2]
      rfl
end Go.Proofs.Ytjclegiohhbkpaa
