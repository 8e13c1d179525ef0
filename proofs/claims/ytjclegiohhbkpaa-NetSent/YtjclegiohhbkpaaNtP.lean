/- Where bytes stand among others. -/
import Derived.Test.YtjclegiohhbkpaaNtS
import Derived.Test.YtjclegiohhbkpaaNtH
namespace Go.Proofs.Ytjclegiohhbkpaa
open Go.RowKit Go.MapKept

/- A row of rows of bytes. -/
structure Rw (w : World) (v : Value) (L : List (List UInt8 × Value)) : Prop where
  row : w.ownsRow 0 27 1 v L.length (L.map Prod.snd)
  els : ∀ x ∈ L, w.ownsRow 0 5 1 x.2 x.1.length (bv x.1)
theorem Rw.keep {S : Nat → Prop} {w w' : World} {v : Value} {L : List (List UInt8 × Value)} (h : Rw w v L) (hc : Chg S w w') (h1 : ∀ k, blk v = some k → ¬ S k) (h2 : ∀ x ∈ L, ∀ k, blk x.2 = some k → ¬ S k) : Rw w' v L :=
  ⟨owns_keepT h.row hc h1, fun x hx => owns_keepT (h.els x hx) hc (h2 x hx)⟩
theorem Rw.below {w w' : World} {v : Value} {L : List (List UInt8 × Value)} (h : Rw w v L) (hb : Below w.heap.size w w') : Rw w' v L := h.keep (Chg.of_below hb) (fun _ _ => id) (fun _ _ _ _ => id)
theorem Rw.drewN {w : World} {v : Value} {L : List (List UInt8 × Value)} (h : Rw w v L) (q : Nat) : Rw (w.drewN q) v L := h.below (below_drewN (Below.refl _ _) q)
theorem Rw.nil (w : World) : Rw w (.slice none 0 0) [] := ⟨World.ownsRow_nil _ _ _ _, fun x hx => by simp at hx⟩
theorem Rw.form {w : World} {v : Value} {L : List (List UInt8 × Value)} (h : Rw w v L) : ∃ A C, v = .slice A L.length C := owns_formT h.row
theorem Rw.at {w : World} {A : Option Addr} {n C : Nat} {L : List (List UInt8 × Value)} (h : Rw w (.slice A n C) L) (i : Nat) (hi : i < L.length) : ∃ g A' C', A = some ⟨g, 0, none⟩ ∧ w.cell? ⟨g, i, none⟩ = some (.slice A' (L[i]'hi).1.length C') ∧ (L[i]'hi).2 = .slice A' (L[i]'hi).1.length C' ∧ Bs w (.slice A' (L[i]'hi).1.length C') (L[i]'hi).1 := by
  have hx := h.els _ (List.getElem_mem hi)
  obtain ⟨A', C', e⟩ := owns_formT hx
  have hb := Bs.of_owns hx
  rw [e] at hb
  rcases h.row.2 with ⟨h0, h1⟩ | ⟨g, cap, cur, hv, hb', hg, hnc, hcm, hcs, ht⟩
  · cases h0; omega
  · cases hv
    refine ⟨g, A', C', rfl, ?_, e, hb⟩
    rw [World.ownsRow.cellAt h.row i (by simpa using hi)]
    simp [e, hi]
theorem Rw.lt {w : World} {v : Value} {L : List (List UInt8 × Value)} (h : Rw w v L) : (∀ k, blk v = some k → k < w.heap.size) ∧ ∀ x ∈ L, ∀ k, blk x.2 = some k → k < w.heap.size := by
  refine ⟨fun k hk => ?_, fun x hx k hk => ?_⟩
  · obtain ⟨cur, hc, _⟩ := owns_blockT h.row hk; exact heap_lt hc
  · obtain ⟨cur, hc, _⟩ := owns_blockT (h.els x hx) hk; exact heap_lt hc
set_option maxRecDepth 100000 in
theorem place_any {w : World} {v x : Value} {L : List (List UInt8 × Value)} {b : List UInt8} (h : Rw w v L) (hl : ∀ x ∈ L, x.1.length ≤ 1048576) (hb : Bs w x b) (hn : L.length ≤ 1000000) :
    Calls Try.prog 20 #[v, x] w fun e w' => ∃ r : Int, e = .returned (.int .i64 r) ∧ ((r = -1 ∧ ∀ y ∈ L, y.1 ≠ b) ∨ ∃ (i : Nat) (y : List UInt8 × Value), r = i ∧ L[i]? = some y ∧ y.1 = b) ∧ ∃ q, w' = w.drewN q := by
  obtain ⟨A, C, rfl⟩ := h.form
  obtain ⟨B, D, rfl⟩ := bs_form hb
  have HR : Hid (Rw w (.slice A L.length C) L) := h
  have HB : Hid (Bs w (.slice B b.length D) b) := hb
  have HL : Hid (∀ x ∈ L, x.1.length ≤ 1048576) := hl
  clear h hb hl
  obtain ⟨n, hN⟩ : ∃ n, n = L.length := ⟨_, rfl⟩
  have HN : Hid (n = L.length) := hN
  rw [← hN] at hn ⊢
  clear hN
  go_enter Try.func20, Try.ntmps20
  go_wp2_with fail
  go_loopw [5] (fun i wr => ∃ (k q : Nat), k ≤ n ∧ i = .int .i64 k ∧ Hid (∀ j (h : j < L.length), j < k → (L[j]'h).1 ≠ b) ∧ wr = w.drewN q) (fun i _ => n - (intOf i).toNat)
  case atStart => exact ⟨0, 0, Nat.zero_le _, rfl, fun j _ h => by omega, rfl⟩
  case round =>
    obtain ⟨k, q, hk, rfl, HT, rfl⟩ := hrel
    by_cases hlt : k < n
    · have hk' : k < L.length := by have := HN.out; omega
      obtain ⟨g, A', C', hA, hc, he, hbs⟩ := (HR.out.drewN q).at k hk'
      obtain ⟨y, hy⟩ : ∃ y, y = (L[k]'hk').1 := ⟨_, rfl⟩
      have hyl : y.length ≤ 1048576 := by rw [hy]; exact HL.out _ (List.getElem_mem hk')
      rw [← hy] at hc hbs
      have hsm := same_any hbs (HB.out.drewN q) (by omega)
      have HY : Hid (y = (L[k]'hk').1) := hy
      clear hy he hbs
      subst hA
      by_cases hyb : y = b
      · rw [decide_eq_true hyb] at hsm
        have HE : Hid (y = b) := hyb
        clear hyb
        go_wp2_with fail
        refine hsm.mono ?_
        rintro e w2 ⟨rfl, q2, rfl⟩
        go_wp2_with fail
        go_ret
        exact ⟨k, rfl, .inr ⟨k, L[k]'hk', rfl, List.getElem?_eq_getElem hk', by rw [← HY.out]; exact HE.out⟩, q + q2, rfl⟩
      · rw [decide_eq_false hyb] at hsm
        have HE : Hid (¬ y = b) := hyb
        clear hyb
        go_wp2_with fail
        refine hsm.mono ?_
        rintro e w2 ⟨rfl, q2, rfl⟩
        go_wp2_with fail
        go_roundw
        case rel => exact ⟨k + 1, q + q2, by omega, by go_num, fun j hj hjk => (by
          by_cases e : j = k
          · subst e; rw [← HY.out]; exact HE.out
          · exact HT.out j hj (by omega)), rfl⟩
        case measure => simp [intOf]; omega
    · have hkn : k = n := by omega
      subst hkn
      go_wp2_with fail
      go_ret
      exact ⟨-1, rfl, .inl ⟨rfl, fun y hy => by
        obtain ⟨j, hj, rfl⟩ := List.getElem_of_mem hy
        exact HT.out j hj (by have := HN.out; omega)⟩, q, rfl⟩
end Go.Proofs.Ytjclegiohhbkpaa
