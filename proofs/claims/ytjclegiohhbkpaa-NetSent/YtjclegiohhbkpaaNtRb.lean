/- The document's net: taking and doubling. -/
import Derived.Test.YtjclegiohhbkpaaNtRa
namespace Go.Proofs.Ytjclegiohhbkpaa
open Go.RowKit Go.MapKept

set_option maxRecDepth 100000 in
theorem rtake_none {w : World} {base r : Nat} {v : Value} {L : List PkV} (h : Rk w base r v L) (hL : L.length ≤ 1000000) (k : Int × Int) (i : Int) (hi : -9223372036854775808 ≤ i ∧ i < 9223372036854775808) (hp : peek (L.map Prod.fst) k i = none) :
    Calls Try.prog 25 #[.pointer (some ⟨r, 0, none⟩), .int .i64 k.1, .int .i64 k.2, .int .i64 i] w fun e w' => e = .returned (.tuple #[.slice none 0 0, .bool false]) ∧ w' = w := by
  have hc := rplace_any h hL k i hi
  have hz : 0 ≤ i → placeI (L.map Prod.fst) k i = -1 := by
    intro h0
    unfold peek at hp
    rw [if_pos h0] at hp
    unfold placeI
    rw [if_pos h0]
    cases hq : placeP (L.map Prod.fst) k i.toNat with
    | none => rfl
    | some j =>
      obtain ⟨_, _, h3, _⟩ := place_some _ _ _ _ hq
      rw [hp] at h3; cases h3
  clear h hp
  go_enter Try.func25, Try.ntmps25
  go_wp2_with fail
  refine hc.mono ?_
  rintro e w1 ⟨h1, ⟨z, rfl⟩, rfl⟩
  by_cases h0 : i < 0
  · clear hz h1
    go_wp2_with fail
    go_ret2
    exact ⟨rfl, rfl⟩
  · have h2 := h1 (by omega)
    rw [hz (by omega)] at h2
    injection h2 with h2
    injection h2 with _ h2
    subst h2
    clear h1 hz
    go_wp2_with fail
    go_ret2
    exact ⟨rfl, rfl⟩
theorem cel_one {w : World} {base r : Nat} {v : Value} {L : List PkV} (h : Rk w base r v L) {M : List PkV} (hM : ∀ p ∈ M, p ∈ L) : ∀ u ∈ M.flatMap cel, u.oneCell' = true := by
  intro u hu
  obtain ⟨p, hp, hx⟩ := List.mem_flatMap.1 hu
  obtain ⟨A, C, e⟩ := owns_formN (h.bs p (hM p hp)).1
  simp [cel] at hx
  rcases hx with rfl | rfl | rfl
  · rfl
  · rfl
  · rw [e]; rfl
theorem cel_drop (L : List PkV) (d : Nat) : (L.drop d).flatMap cel = (L.flatMap cel).drop (d * 3) := by
  induction d generalizing L with
  | zero => simp
  | succ d ih =>
    cases L with
    | nil => simp
    | cons x L =>
      rw [List.drop_succ_cons, ih, List.flatMap_cons, show (d + 1) * 3 = 3 + d * 3 by omega, ← List.drop_drop]
      rfl
theorem cel_take (L : List PkV) (d : Nat) : (L.take d).flatMap cel = (L.flatMap cel).take (d * 3) := by
  induction d generalizing L with
  | zero => simp
  | succ d ih =>
    cases L with
    | nil => simp
    | cons x L =>
      rw [List.take_succ_cons, List.flatMap_cons, ih, List.flatMap_cons, show (d + 1) * 3 = (cel x).length + d * 3 by simp [cel]; omega, List.take_length_add_append]
/- The cells of a part of a row. -/
theorem Rk.news {w : World} {base r g N C : Nat} {L : List PkV} (h : Rk w base r (.slice (some ⟨g, 0, none⟩) N C) L) (d : Nat) {M : List Value} (hM : ∀ t u, M[t]? = some u → (L.flatMap cel)[d * 3 + t]? = some u) :
    ∀ t u, M[t]? = some u → w.cell? ((⟨g, d * 3, none⟩ : Addr).add t) = some u := by
  intro t u hu
  have := h.row.cells (g := g) rfl (d * 3 + t) u (hM t u hu)
  rw [show (⟨g, 0, none⟩ : Addr).add (d * 3 + t) = (⟨g, d * 3, none⟩ : Addr).add t by simp only [Addr.add]; split <;> simp_all] at this
  exact this
/- A row of packets put in the place of the document's own. -/
theorem Rk.row_set {w1 w6 : World} {base r : Nat} {v v7 : Value} {L L' : List PkV} {S : Nat → Prop} (h : Rk w1 base r v L) (c : Chg S w1 w6) (hS : ∀ g, S g → w1.heap.size ≤ g) (ho : w6.ownsRow base 58 3 v7 L'.length (L'.flatMap cel)) (hn : ∀ g, blk v7 = some g → w1.heap.size ≤ g) (hL : ∀ p ∈ L', p ∈ L) :
    Rk (w6.setCell ⟨r, 0, none⟩ v7) base r v7 L' ∧ Chg (fun g => g = r ∨ blk v = some g) w1 (w6.setCell ⟨r, 0, none⟩ v7) ∧ ∀ g, Bx r v7 L' g → Bx r v L g ∨ w1.heap.size ≤ g := by
  have hrl := heap_lt h.cell
  have h6 : w6.heap[r]? = some (.cells #[v] 54 (0, 0)) := by
    rw [c.block r hrl (fun e => by have := hS r e; omega)]; exact h.cell
  have c7 : Chg (fun g => g = r) w6 (w6.setCell ⟨r, 0, none⟩ v7) := Chg.setCell w6 ⟨r, 0, none⟩ _ rfl
  refine ⟨⟨heap_setCell h6, owns_keepN ho c7 (fun g hg e => by have := hn g hg; omega), fun p hp => ⟨owns_keepN (owns_keepN (h.bs p (hL p hp)).1 c fun g hg e => ?_) c7 fun g hg e => ?_, (h.bs p (hL p hp)).2⟩, h.low⟩, ?_, ?_⟩
  · have := (h.lt g (.inr (.inr ⟨p, hL p hp, hg⟩))).2
    have := hS g e
    omega
  · obtain ⟨cur, hc, _⟩ := owns_blockN (h.bs p (hL p hp)).1 hg
    rw [e, h.cell] at hc; cases hc
  · have a1 : Chg (fun g => g = r ∨ blk v = some g) w1 w6 := c.weak (fun g hg e => by have := hS g e; omega)
    exact a1.trans (c7.weak fun g _ e => .inl e)
  · rintro g (rfl | hk | ⟨p, hp, hk⟩)
    · exact .inl (.inl rfl)
    · exact .inr (hn g hk)
    · exact .inl (.inr (.inr ⟨p, hL p hp, hk⟩))
theorem new_own (W : World) : (W.alloc (.cells #[] 5)).ownsRow W.heap.size 5 1 (.slice (some ⟨W.heap.size, 0, none⟩) 0 0) 0 (bv []) :=
  ⟨rfl, .inr ⟨W.heap.size, 0, #[], rfl, Nat.le_refl _, heap_alloc_new W _, Nat.le_refl _, by unfold maxLen; omega, rfl, rfl⟩⟩
theorem size_setCell (w : World) (a : Addr) (u : Value) : (w.setCell a u).heap.size = w.heap.size := by simp [World.setCell]
theorem new_own' (w : World) (a : Addr) (u : Value) : ((w.setCell a u).alloc (.cells #[] 5)).ownsRow w.heap.size 5 1 (.slice (some ⟨w.heap.size, 0, none⟩) 0 0) 0 (bv []) := by
  have := new_own (w.setCell a u)
  rw [size_setCell] at this
  exact this
set_option maxRecDepth 100000 in
theorem rtake_some {w : World} {base r : Nat} {v : Value} {L : List PkV} (hb : base ≤ w.heap.size) (h : Rk w base r v L) (hL : L.length ≤ 1000000) (k : Int × Int) (i : Int) (hi : -9223372036854775808 ≤ i ∧ i < 9223372036854775808) {b : List UInt8} (hp : peek (L.map Prod.fst) k i = some b) :
    Calls Try.prog 25 #[.pointer (some ⟨r, 0, none⟩), .int .i64 k.1, .int .i64 k.2, .int .i64 i] w fun e w' => ∃ A C, e = .returned (.tuple #[.slice A b.length C, .bool true]) ∧ w'.ownsRow w.heap.size 5 1 (.slice A b.length C) b.length (bv b) ∧ ∃ v' L', L'.map Prod.fst = takeP (L.map Prod.fst) k i.toNat ∧ Rk w' base r v' L' ∧ Chg (fun g => g = r ∨ blk v = some g) w w' ∧ (∀ g, Bx r v' L' g → Bx r v L g ∨ w.heap.size ≤ g) := by
  have hc := rplace_any h hL k i hi
  have hpl : ∃ j, placeI (L.map Prod.fst) k i = (j : Nat) ∧ ∃ hj : j < L.length, (L[j]'hj).1.2 = b ∧ takeP (L.map Prod.fst) k i.toNat = (L.eraseIdx j).map Prod.fst := by
    unfold peek at hp
    split at hp
    · next h0 =>
      cases hq : placeP (L.map Prod.fst) k i.toNat with
      | none =>
        rw [place_none _ _ _ hq] at hp; cases hp
      | some j =>
        obtain ⟨h1, h2, h3, h4⟩ := place_some _ _ _ _ hq
        rw [h3] at hp
        refine ⟨j, by unfold placeI; rw [if_pos h0, hq], by simpa using h1, by simpa using hp, ?_⟩
        rw [h4]
        exact (Go.ChangeMaps.map_eraseIdx ..).symm
    · cases hp
  have hi0 : 0 ≤ i := (peek_some hp).1
  obtain ⟨j, hj1, hj, hj2, hj3⟩ := hpl
  clear hp
  obtain ⟨A1, C1, rfl⟩ := owns_formN h.row
  have HH : Hid (Rk w base r (.slice A1 L.length C1) L) := h
  obtain ⟨g, hA, y0, y1, y2⟩ := h.at j hj
  have hbs := (h.bs _ (List.getElem_mem hj)).1
  rw [hj2] at hbs
  obtain ⟨A3, C3, hv3⟩ := owns_formN hbs
  rw [hv3] at y2 hbs
  have hc0 := cell_at h.cell 0
  simp at hc0
  subst hA
  obtain ⟨N, hN⟩ : ∃ N, N = L.length := ⟨_, rfl⟩
  have HN : Hid (N = L.length) := hN
  rw [← hN] at hc0
  clear h
  go_enter Try.func25, Try.ntmps25
  go_wp2_with fail
  refine hc.mono ?_
  rintro e w1 ⟨h1, ⟨z, rfl⟩, rfl⟩
  have h2 := h1 hi0
  rw [hj1] at h2
  injection h2 with h2
  injection h2 with _ h2
  subst h2
  clear h1 hj1 hc
  have hjN : j < N := by omega
  have hNL : L.length = N := hN.symm
  clear hN
  obtain ⟨i0, hi0, hz0, hz1, hz2⟩ := info_parts infoP
  have HL1 : Hid (((L.take j).flatMap cel).length = j * 3) := by unfold Hid; rw [cel_len, List.length_take]; omega
  have HNW : Hid (∀ t u, ((L.take j).flatMap cel)[t]? = some u → w1.cell? ((⟨g, 0, none⟩ : Addr).add t) = some u) := by
    have := HH.out.news 0 (M := (L.take j).flatMap cel) (fun t u hu => by
      rw [cel_take] at hu
      rw [Nat.zero_mul, Nat.zero_add]
      rw [List.getElem?_take] at hu
      split at hu
      · exact hu
      · cases hu)
    unfold Hid
    simpa using this
  have HON : Hid (∀ u ∈ (L.take j).flatMap cel, u.oneCell' = true) := cel_one HH.out (fun p hp => List.mem_of_mem_take hp)
  have hNC : N ≤ C1 ∧ C1 ≤ maxLen := by
    rcases HH.out.row.2 with ⟨_, h0⟩ | ⟨g', cap', cur', hv', _, _, hc', hm', _⟩
    · omega
    · injection hv' with _ _ e3
      subst e3
      exact ⟨by omega, hm'⟩
  have HKR : Hid (∀ {w5 : World}, w1.grownBy w5 none → Rk w5 base r (.slice (some ⟨g, 0, none⟩) L.length C1) L ∧ w5.cell? ⟨r, 0, none⟩ = some (.slice (some ⟨g, 0, none⟩) N C1)) := by
    intro w5 hg5
    have h5 := HH.out.keep (Chg.of_grown hg5) (fun g _ e => by cases e)
    have := cell_at h5.cell 0
    simp at this
    rw [hNL] at this
    exact ⟨h5, this⟩
  have hwr : IntKind.i64.wrap ((j : Int) + 1) = ((j + 1 : Nat) : Int) := by rw [Go.IntWalk.i64_in _ (by omega)]; omega
  obtain ⟨A6, hA6, HS6⟩ : ∃ A6 : Addr, (if C1 = j + 1 then some (⟨g, 0, none⟩ : Addr) else some ⟨g, (j + 1) * 3, none⟩) = some A6 ∧ Hid (∀ {w5 : World}, Rk w5 base r (.slice (some ⟨g, 0, none⟩) L.length C1) L → ∀ t u, ((L.drop (j + 1)).flatMap cel)[t]? = some u → w5.cell? (A6.add t) = some u) := by
    by_cases hC : C1 = j + 1
    · refine ⟨⟨g, 0, none⟩, by rw [if_pos hC], fun _ t u hu => ?_⟩
      rw [List.drop_eq_nil_of_le (by omega)] at hu
      simp at hu
    · refine ⟨⟨g, (j + 1) * 3, none⟩, by rw [if_neg hC], fun h5 t u hu => ?_⟩
      refine h5.news (j + 1) (M := (L.drop (j + 1)).flatMap cel) (fun t u hu => ?_) t u hu
      rw [cel_drop, List.getElem?_drop] at hu
      exact hu
  have HL6 : Hid (((L.drop (j + 1)).flatMap cel).length = (N - (j + 1)) * 3) := by unfold Hid; rw [cel_len, List.length_drop]; omega
  have HON6 : Hid (∀ u ∈ (L.drop (j + 1)).flatMap cel, u.oneCell' = true) := cel_one HH.out (fun p hp => List.mem_of_mem_drop hp)
  have HLB : Hid (∀ {w5 : World} {A5 : Option Addr} {C5 : Nat}, (blk (.slice A5 (0 + j) C5) = blk (.slice none 0 0) ∨ blk (.slice A5 (0 + j) C5) = some w1.heap.size) → w5.ownsRow base 58 3 (.slice A5 (0 + j) C5) (0 + j) ([] ++ (L.take j).flatMap cel) → ∀ k, blk (.slice A5 j C5) = some k → w1.heap.size ≤ k) := by
    intro w5 A5 C5 h _ k hk
    rw [Nat.zero_add] at h
    rcases h with h | h
    · rw [h] at hk; cases hk
    · rw [h] at hk; cases hk; exact Nat.le_refl _
  have hbl : b.length ≤ 1048576 := by have := (HH.out.bs _ (List.getElem_mem hj)).2; rw [hj2] at this; exact this
  have HBB : Hid (Bs w1 (.slice A3 b.length C3) b) := Bs.of_owns hbs
  have HKS : Hid (∀ {w5 w6 : World} {A5 : Option Addr} {C5 : Nat} {A7 : Option Addr} {C7 : Nat}, w1.grownBy w5 none → Rk w5 base r (.slice (some ⟨g, 0, none⟩) L.length C1) L → (∀ k, blk (.slice A5 j C5) = some k → w1.heap.size ≤ k) → w5.grownBy w6 (blk (.slice A5 j C5)) →
      w6.ownsRow base 58 3 (.slice A7 (j + (N - (j + 1))) C7) (j + (N - (j + 1))) ((L.take j).flatMap cel ++ (L.drop (j + 1)).flatMap cel) → (blk (.slice A7 (j + (N - (j + 1))) C7) = blk (.slice A5 j C5) ∨ blk (.slice A7 (j + (N - (j + 1))) C7) = some w5.heap.size) →
      w6.cell? ⟨r, 0, none⟩ = some (.slice (some ⟨g, 0, none⟩) N C1) ∧ w6.frozen? ⟨r, 0, none⟩ = false ∧
      Hid (Rk (w6.setCell ⟨r, 0, none⟩ (.slice A7 (j + (N - (j + 1))) C7)) base r (.slice A7 (j + (N - (j + 1))) C7) (L.eraseIdx j) ∧ Chg (fun k => k = r ∨ blk (.slice (some ⟨g, 0, none⟩) L.length C1) = some k) w1 (w6.setCell ⟨r, 0, none⟩ (.slice A7 (j + (N - (j + 1))) C7)) ∧ ∀ k, Bx r (.slice A7 (j + (N - (j + 1))) C7) (L.eraseIdx j) k → Bx r (.slice (some ⟨g, 0, none⟩) L.length C1) L k ∨ w1.heap.size ≤ k) ∧
      Hid (Bs (w6.setCell ⟨r, 0, none⟩ (.slice A7 (j + (N - (j + 1))) C7)) (.slice A3 b.length C3) b ∧ w1.heap.size ≤ w6.heap.size)) := by
    intro w5 w6 A5 C5 A7 C7 hg5 h5 hk hg ho hl
    have hrl := heap_lt HH.out.cell
    have c5 : Chg (fun k => blk (.slice A5 j C5) = some k) w1 w5 := (Chg.of_grown hg5).weak (fun _ _ e => by cases e)
    have c6 : Chg (fun k => blk (.slice A5 j C5) = some k) w1 w6 := c5.trans (Chg.of_grown hg)
    have h6 : w6.heap[r]? = some (.cells #[.slice (some ⟨g, 0, none⟩) L.length C1] 54 (0, 0)) := by
      rw [c6.block r hrl (fun e => by have := hk r e; omega)]; exact HH.out.cell
    have h0 := cell_at h6 0
    simp at h0
    rw [hNL] at h0
    have hlen : (L.eraseIdx j).length = j + (N - (j + 1)) := by rw [List.length_eraseIdx]; simp [hj]; omega
    have hfl : (L.eraseIdx j).flatMap cel = (L.take j).flatMap cel ++ (L.drop (j + 1)).flatMap cel := by rw [List.eraseIdx_eq_take_drop_succ, List.flatMap_append]
    have hcc := HH.out.row_set c6 hk (v7 := .slice A7 (j + (N - (j + 1))) C7) (L' := L.eraseIdx j) (by rw [hlen, hfl]; exact ho) (fun k hk' => by
      rcases hl with e | e
      · exact hk k (e.symm.trans hk')
      · have e' : some w5.heap.size = some k := e.symm.trans hk'
        cases e'
        exact c5.size) (fun p hp => List.mem_of_mem_eraseIdx hp)
    refine ⟨h0, frozen_at h6 0, hcc, ?_, c6.size⟩
    refine HBB.out.keep hcc.2.1 fun k hk' e => ?_
    obtain ⟨cur, hcu, _⟩ := owns_blockN hbs (bk_blk hk')
    rcases e with e | e
    · rw [e, HH.out.cell] at hcu; cases hcu
    · obtain ⟨cur', hcu', _⟩ := owns_blockN HH.out.row e
      rw [hcu] at hcu'; cases hcu'
  go_wp2_with (first
    | (at_builtin; refine wpList_append_own_at _ rfl (.tmp 32) (.tmp 38) 52 rfl base 58 i0 (.agg #[.int .i64 0, .int .i64 0, .slice none 0 0]) 3 40 Try.underlying52 hi0 hz0 hz1 hz2 rfl (by decide) _ 0 [] rfl (World.ownsRow_nil _ _ _ _) ⟨g, 0, none⟩ j C1 ((L.take j).flatMap cel) rfl HL1.out HNW.out HON.out (by unfold maxLen; omega) (by omega) hb ?_; intro v5 w5 ho5 hg5 hn5 hl5; obtain ⟨A5, C5, hv5⟩ := owns_formN ho5; subst hv5; obtain ⟨h5, c5⟩ := HKR.out hg5; have HO5 : Hid (w5.ownsRow base 58 3 (.slice A5 (0 + j) C5) (0 + j) ([] ++ (L.take j).flatMap cel)) := ho5; have hs5 := hg5.size; simp only [Nat.zero_add, List.nil_append] at HO5; have HL5 : Hid (∀ k, blk (.slice A5 j C5) = some k → w1.heap.size ≤ k) := HLB.out hl5 ho5; clear ho5 hn5)
    | (at_builtin; refine wpList_append_own_at _ rfl (.tmp 41) (.tmp 48) 52 rfl base 58 i0 (.agg #[.int .i64 0, .int .i64 0, .slice none 0 0]) 3 40 Try.underlying52 hi0 hz0 hz1 hz2 rfl (by decide) _ j ((L.take j).flatMap cel) rfl HO5.out A6 (N - (j + 1)) (C1 - (j + 1)) ((L.drop (j + 1)).flatMap cel) rfl HL6.out (HS6.out h5) HON6.out (by unfold maxLen; omega) (by omega) (by omega) ?_; intro v6 w6 ho6 hg6 hn6 hl6; obtain ⟨A7, C7, hv7⟩ := owns_formN ho6; subst hv7; obtain ⟨c6, f6, HK7, HX7⟩ := HKS.out hg5 h5 HL5.out hg6 ho6 hl6; clear ho6 hn6 hl6)
    | (at_builtin; refine wpList_app rfl (.tmp 52) (.tmp 53) rfl _ _ rfl rfl (new_own' w6 ⟨r, 0, none⟩ (.slice A7 (j + (N - (j + 1))) C7)) (HX7.out.1.alloc _) (by simp) (by simp; omega) ?_; intro A9 C9 w9 ho9 hg9 hl9 hn9)
    | fail)
  go_ret2
  simp only [List.length_nil, Nat.zero_add, List.nil_append] at ho9
  obtain ⟨k1, k2, k3⟩ := HK7.out
  obtain ⟨x1, x2⟩ := HX7.out
  have hB9 : Below (w6.setCell ⟨r, 0, none⟩ (.slice A7 (j + (N - (j + 1))) C7)).heap.size (w6.setCell ⟨r, 0, none⟩ (.slice A7 (j + (N - (j + 1))) C7)) w9 := by
    refine (below1 _ (.cells #[] 5)).trans ?_
    exact (Chg.of_grown hg9).below (fun k hk => by rw [size_setCell]; cases hk; exact Nat.le_refl _) (by simp)
  refine ⟨A9, C9, by simp, owns_lowT ho9 x2, _, _, hj3.symm, k1.below hB9, k2.trans ((Chg.of_below hB9).weak fun _ _ e => e.elim), k3⟩
theorem rtake_rx {w : World} {r : Nat} {l : List Pk} {B : Nat → Prop} (h : Rx w r l B) (hL : l.length ≤ 1000000) (k : Int × Int) (i : Int) (hi : -9223372036854775808 ≤ i ∧ i < 9223372036854775808) {b : List UInt8} (hp : peek l k i = some b) :
    Calls Try.prog 25 #[.pointer (some ⟨r, 0, none⟩), .int .i64 k.1, .int .i64 k.2, .int .i64 i] w fun e w' => ∃ A C, e = .returned (.tuple #[.slice A b.length C, .bool true]) ∧ Bs w' (.slice A b.length C) b ∧ Rx w' r (takeP l k i.toNat) (Gw B w w') ∧ Chg B w w' := by
  obtain ⟨base, v, L, h1, h2, rfl, h4, h5⟩ := h
  refine (rtake_some h1 h2 (by simpa using hL) k i hi hp).mono ?_
  rintro e w' ⟨A, C, rfl, ho, v', L', e1, g1, g2, g3⟩
  have := Rx.of_next h1 h4 h5 g1 g2 g3
  rw [e1] at this
  exact ⟨A, C, rfl, Bs.of_owns ho, this⟩
theorem rtake_no {w : World} {r : Nat} {l : List Pk} {B : Nat → Prop} (h : Rx w r l B) (hL : l.length ≤ 1000000) (k : Int × Int) (i : Int) (hi : -9223372036854775808 ≤ i ∧ i < 9223372036854775808) (hp : peek l k i = none) :
    Calls Try.prog 25 #[.pointer (some ⟨r, 0, none⟩), .int .i64 k.1, .int .i64 k.2, .int .i64 i] w fun e w' => e = .returned (.tuple #[.slice none 0 0, .bool false]) ∧ w' = w := by
  obtain ⟨base, v, L, h1, h2, rfl, h4, h5⟩ := h
  exact rtake_none h2 (by simpa using hL) k i hi hp
set_option maxRecDepth 100000 in
theorem rtwice_none {w : World} {base r : Nat} {v : Value} {L : List PkV} (h : Rk w base r v L) (hL : L.length ≤ 1000000) (k : Int × Int) (i : Int) (hi : -9223372036854775808 ≤ i ∧ i < 9223372036854775808) (hp : peek (L.map Prod.fst) k i = none) :
    Calls Try.prog 27 #[.pointer (some ⟨r, 0, none⟩), .int .i64 k.1, .int .i64 k.2, .int .i64 i] w fun e w' => e = .returned (.bool false) ∧ w' = w := by
  have hc := rplace_any h hL k i hi
  have hz : 0 ≤ i → placeI (L.map Prod.fst) k i = -1 := by
    intro h0
    unfold peek at hp
    rw [if_pos h0] at hp
    unfold placeI
    rw [if_pos h0]
    cases hq : placeP (L.map Prod.fst) k i.toNat with
    | none => rfl
    | some j =>
      obtain ⟨_, _, h3, _⟩ := place_some _ _ _ _ hq
      rw [hp] at h3; cases h3
  clear h hp
  go_enter Try.func27, Try.ntmps27
  go_wp2_with fail
  refine hc.mono ?_
  rintro e w1 ⟨h1, ⟨z, rfl⟩, rfl⟩
  by_cases h0 : i < 0
  · clear hz h1
    go_wp2_with fail
    go_ret
    exact ⟨rfl, rfl⟩
  · have h2 := h1 (by omega)
    rw [hz (by omega)] at h2
    injection h2 with h2
    injection h2 with _ h2
    subst h2
    clear h1 hz
    go_wp2_with fail
    go_ret
    exact ⟨rfl, rfl⟩
set_option maxRecDepth 100000 in
theorem rtwice_rx {w : World} {r : Nat} {l : List Pk} {B : Nat → Prop} (h : Rx w r l B) (hL : l.length < 1000000) (k : Int × Int) (i : Int) (hi : -9223372036854775808 ≤ i ∧ i < 9223372036854775808) :
    Calls Try.prog 27 #[.pointer (some ⟨r, 0, none⟩), .int .i64 k.1, .int .i64 k.2, .int .i64 i] w fun e w' => e = .returned (.bool (twiceR l k i).1) ∧ Rx w' r (twiceR l k i).2 (Gw B w w') ∧ Chg B w w' := by
  have h0 := h
  obtain ⟨base, v, L, h1, h2, rfl, h4, h5⟩ := h
  unfold twiceR
  cases hp : peek (L.map Prod.fst) k i with
  | none =>
    refine (rtwice_none h2 (by simp at hL; omega) k i hi hp).mono ?_
    rintro e w' ⟨rfl, rfl⟩
    exact ⟨rfl, h0.grow (Below.refl _ _)⟩
  | some b =>
    have hi0 : 0 ≤ i := (peek_some hp).1
    have hc := rplace_any h2 (by simp at hL; omega) k i hi
    obtain ⟨j, hj1, hj, hj2⟩ : ∃ j, placeI (L.map Prod.fst) k i = (j : Nat) ∧ ∃ hj : j < L.length, (L[j]'hj).1.2 = b := by
      unfold peek at hp
      rw [if_pos hi0] at hp
      cases hq : placeP (L.map Prod.fst) k i.toNat with
      | none => rw [place_none _ _ _ hq] at hp; cases hp
      | some j =>
        obtain ⟨g1, g2, g3, g4⟩ := place_some _ _ _ _ hq
        rw [g3] at hp
        exact ⟨j, by unfold placeI; rw [if_pos hi0, hq], by simpa using g1, by simpa using hp⟩
    have hbl : b.length ≤ 1048576 := by have := (h2.bs _ (List.getElem_mem hj)).2; rw [hj2] at this; exact this
    have hbs := (h2.bs _ (List.getElem_mem hj)).1
    rw [hj2] at hbs
    obtain ⟨A3, C3, hv3⟩ := owns_formN hbs
    rw [hv3] at hbs
    have hsend := rsend_rx h0 hL k (Bs.of_owns hbs)
    have HR : Hid ((if (bagOf (L.map Prod.fst) k).length < 32 then (true, L.map Prod.fst ++ [(k, b)]) else (false, L.map Prod.fst)) = (sendOk (L.map Prod.fst) k b, if sendOk (L.map Prod.fst) k b = true then L.map Prod.fst ++ [(k, b)] else L.map Prod.fst)) := by
      unfold Hid
      by_cases hi : (bagOf (L.map Prod.fst) k).length < 32 <;> simp [sendOk, hi, hbl]
    show Calls Try.prog 27 _ w fun e w' => e = .returned (.bool (if (bagOf (L.map Prod.fst) k).length < 32 then (true, L.map Prod.fst ++ [(k, b)]) else (false, L.map Prod.fst)).1) ∧ Rx w' r (if (bagOf (L.map Prod.fst) k).length < 32 then (true, L.map Prod.fst ++ [(k, b)]) else (false, L.map Prod.fst)).2 (Gw B w w') ∧ Chg B w w'
    rw [HR.out]
    simp only
    generalize (if sendOk (L.map Prod.fst) k b = true then L.map Prod.fst ++ [(k, b)] else L.map Prod.fst) = l' at hsend ⊢
    generalize sendOk (L.map Prod.fst) k b = s at hsend ⊢
    obtain ⟨A1, C1, hv1⟩ := owns_formN h2.row
    rw [hv1] at h2
    obtain ⟨g, hA, y0, y1, y2⟩ := h2.at j hj
    rw [hv3] at y2
    have hc0 := cell_at h2.cell 0
    simp at hc0
    subst hA
    have hjN := hj
    generalize L.length = N at hc0 hjN
    clear HR h0 h1 h2 h4 hp y0 y1 hv3 hbs hj2 hv1
    go_enter Try.func27, Try.ntmps27
    go_wp2_with fail
    refine hc.mono ?_
    rintro e w1 ⟨h1, ⟨z, rfl⟩, rfl⟩
    have h2 := h1 hi0
    rw [hj1] at h2
    injection h2 with h2
    injection h2 with _ h2
    subst h2
    clear h1 hj1 hc
    go_wp2_with fail
    refine hsend.mono ?_
    rintro e w2 ⟨rfl, g1, g2⟩
    clear hsend
    go_wp2_with fail
    go_ret
    exact ⟨rfl, g1, g2⟩
end Go.Proofs.Ytjclegiohhbkpaa
