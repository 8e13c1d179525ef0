/- The walk of getFields. -/
import Derived.Test.YtaeoafedfgbcaaaGreatDoorDdP
import Derived.Deep.RegionHeld3
import Derived.Deep.DrawnRows
namespace Go.Proofs.YtaeoafedfgbcaaaGreatDoor.DD
set_option linter.unusedVariables false
open Go.RowKit
set_option linter.unusedVariables false

/- What is left of a reader behind the first k numbers, and the k-th one. -/
def rdSt (bt : Nat → Bool) (r : Rd) : Nat → Rd
  | 0 => r
  | k + 1 => if bt k = true then (rdInt (rdSt bt r k)).2 else rdSt bt r k
def numAt (bt : Nat → Bool) (r : Rd) (k : Nat) : Int := if bt k = true then (rdInt (rdSt bt r k)).1 else 0
def numUp (bt : Nat → Bool) (r : Rd) (k j : Nat) : Int := if j < k then numAt bt r j else 0
def arrUp (bt : Nat → Bool) (r : Rd) (k : Nat) : Array Value := #[.int .i64 (numUp bt r k 0), .int .i64 (numUp bt r k 1), .int .i64 (numUp bt r k 2), .int .i64 (numUp bt r k 3), .int .i64 (numUp bt r k 4)]
theorem shl_k (k : Nat) (h : k < 5) : IntKind.u16.wrap (4 * 2 ^ k) = 4 * 2 ^ k := by
  obtain rfl | rfl | rfl | rfl | rfl : k = 0 ∨ k = 1 ∨ k = 2 ∨ k = 3 ∨ k = 4 := by omega
  all_goals decide
theorem arrUp_set (bt : Nat → Bool) (r : Rd) (k : Nat) (h : k < 5) : (arrUp bt r k).setIfInBounds k (.int .i64 (numAt bt r k)) = arrUp bt r (k + 1) := by
  obtain rfl | rfl | rfl | rfl | rfl : k = 0 ∨ k = 1 ∨ k = 2 ∨ k = 3 ∨ k = 4 := by omega
  all_goals simp [arrUp, numUp]
theorem arrUp_same (bt : Nat → Bool) (r : Rd) (k : Nat) (h : bt k = false) : arrUp bt r (k + 1) = arrUp bt r k := by
  have : ∀ j, numUp bt r (k + 1) j = numUp bt r k j := by
    intro j
    unfold numUp
    by_cases hj : j < k
    · rw [if_pos (by omega), if_pos hj]
    · rw [if_neg hj]
      split
      · have : j = k := by omega
        subst this
        unfold numAt; rw [h]; rfl
      · rfl
  unfold arrUp
  simp only [this]
theorem arrUp_cell (bt : Nat → Bool) (r : Rd) (k : Nat) (h : k < 5) : (arrUp bt r k)[k]? = some (.int .i64 0) := by
  obtain rfl | rfl | rfl | rfl | rfl : k = 0 ∨ k = 1 ∨ k = 2 ∨ k = 3 ∨ k = 4 := by omega
  all_goals simp [arrUp, numUp]
theorem frozen16 {w : World} {b T : Nat} {cs : Array Value} (h : w.heap[b]? = some (.cells cs T (0, 0))) : w.frozen? ⟨b, 0, none⟩ = false ∧ w.frozen? ⟨b, 1, none⟩ = false ∧ w.frozen? ⟨b, 2, none⟩ = false ∧ w.frozen? ⟨b, 3, none⟩ = false ∧ w.frozen? ⟨b, 4, none⟩ = false ∧ w.frozen? ⟨b, 5, none⟩ = false ∧ w.frozen? ⟨b, 6, none⟩ = false ∧ w.frozen? ⟨b, 7, none⟩ = false ∧ w.frozen? ⟨b, 8, none⟩ = false ∧ w.frozen? ⟨b, 9, none⟩ = false ∧ w.frozen? ⟨b, 10, none⟩ = false ∧ w.frozen? ⟨b, 11, none⟩ = false ∧ w.frozen? ⟨b, 12, none⟩ = false ∧ w.frozen? ⟨b, 13, none⟩ = false ∧ w.frozen? ⟨b, 14, none⟩ = false ∧ w.frozen? ⟨b, 15, none⟩ = false := ⟨frozen_at h _, frozen_at h _, frozen_at h _, frozen_at h _, frozen_at h _, frozen_at h _, frozen_at h _, frozen_at h _, frozen_at h _, frozen_at h _, frozen_at h _, frozen_at h _, frozen_at h _, frozen_at h _, frozen_at h _, frozen_at h _⟩
theorem cells5 {w : World} {b : Nat} {v0 v1 v2 v3 v4 : Value} {T : TypeId} {fr : Nat × Nat} (h : w.heap[b]? = some (.cells #[v0, v1, v2, v3, v4] T fr)) : w.cell? ⟨b, 0, none⟩ = some v0 ∧ w.cell? ⟨b, 1, none⟩ = some v1 ∧ w.cell? ⟨b, 2, none⟩ = some v2 ∧ w.cell? ⟨b, 3, none⟩ = some v3 ∧ w.cell? ⟨b, 4, none⟩ = some v4 := ⟨by rw [cell_at h]; rfl, by rw [cell_at h]; rfl, by rw [cell_at h]; rfl, by rw [cell_at h]; rfl, by rw [cell_at h]; rfl⟩

/- While a deed is got: the reader at g, the deed at block p + 1, what is answered at block p; nothing of what was there before has turned but the reader. -/
structure GS (w0 w : World) (g : Nat) (q : Option Nat) (r : Rd) (cs : Array Value) : Prop where
  rd : Rdr w g q r
  d : w.heap[w0.heap.size + 1]? = some (.cells cs 41 (0, 0))
  res : w.heap[w0.heap.size]? = some (.cells #[.int .i64 0, .int .u8 0, .int .i64 0, .int .i64 0, .int .i64 0, .int .i64 0, .string ⟨#[]⟩, .slice none 0 0, .int .i64 0, .int .i64 0, .int .i64 0, .int .i64 0, .int .i64 0, .int .i64 0, .slice none 0 0, .slice none 0 0] 41 (0, 0))
  chg : Chg (One g) w0 w
  g : g < w0.heap.size
  q : ∀ k, q = some k → k < w0.heap.size
theorem GS.read {w0 w w' : World} {g : Nat} {q : Option Nat} {r r' : Rd} {cs : Array Value} (h : GS w0 w g q r cs) (hr : Rdr w' g q r') (hc : Chg (One g) w w') : GS w0 w' g q r' cs :=
  ⟨hr, by rw [hc.block _ (heap_lt h.d) (fun e => by have := h.g; unfold One at e; omega)]; exact h.d, by rw [hc.block _ (heap_lt h.res) (fun e => by have := h.g; unfold One at e; omega)]; exact h.res, h.chg.trans hc, h.g, h.q⟩
theorem GS.below {w0 w w' : World} {g : Nat} {q : Option Nat} {r : Rd} {cs : Array Value} (h : GS w0 w g q r cs) (hb : Below w.heap.size w w') : GS w0 w' g q r cs :=
  h.read (h.rd.keep (Chg.of_below hb) (fun e => e) (fun _ _ e => e)) ((Chg.of_below hb).weak fun _ _ e => e.elim)
theorem GS.turn {w0 w w' : World} {g : Nat} {q : Option Nat} {r : Rd} {cs : Array Value} {S : Nat → Prop} (h : GS w0 w g q r cs) (hc : Chg S w w') (hs : ∀ k, S k → w0.heap.size + 1 < k) : GS w0 w' g q r cs :=
  ⟨h.rd.keep hc (fun e => by have := hs _ e; have := h.g; omega) (fun k hk e => by have := hs _ e; have := h.q k hk; omega), by rw [hc.block _ (heap_lt h.d) (fun e => by have := hs _ e; omega)]; exact h.d, by rw [hc.block _ (heap_lt h.res) (fun e => by have := hs _ e; omega)]; exact h.res,
    h.chg.trans' hc (fun i hi e => by have := hs _ e; omega), h.g, h.q⟩
theorem GS.set {w0 w : World} {g : Nat} {q : Option Nat} {r : Rd} {cs : Array Value} (h : GS w0 w g q r cs) (j : Nat) (v : Value) : GS w0 (w.setCell ⟨w0.heap.size + 1, j, none⟩ v) g q r (cs.setIfInBounds j v) := by
  have hc : Chg (fun k => k = w0.heap.size + 1) w (w.setCell ⟨w0.heap.size + 1, j, none⟩ v) := Chg.setCell w ⟨w0.heap.size + 1, j, none⟩ v rfl
  exact ⟨h.rd.keep hc (fun e => by have := h.g; omega) (fun k hk e => by have := h.q k hk; omega), heap_set h.d j v, by rw [hc.block _ (heap_lt h.res) (by omega)]; exact h.res, h.chg.trans' hc (fun i hi e => by omega), h.g, h.q⟩
theorem sixteen {w0 w : World} {g : Nat} {q : Option Nat} {r : Rd} {cs : Array Value} (h : GS w0 w g q r cs) {w' : World} (hc : Chg (fun k => k = w0.heap.size) w w') : Rdr w' g q r ∧ Chg (One g) w0 w' :=
  ⟨h.rd.keep hc (fun e => by have := h.g; omega) (fun k hk e => by have := h.q k hk; omega), h.chg.trans' hc (fun i hi e => by omega)⟩
theorem chg16 (w : World) (p : Nat) (v0 v1 v2 v3 v4 v5 v6 v7 v8 v9 v10 v11 v12 v13 v14 v15 : Value) : Chg (fun k => k = p) w ((((((((((((((((w.setCell ⟨p, 0, none⟩ v0).setCell ⟨p, 1, none⟩ v1).setCell ⟨p, 2, none⟩ v2).setCell ⟨p, 3, none⟩ v3).setCell ⟨p, 4, none⟩ v4).setCell ⟨p, 5, none⟩ v5).setCell ⟨p, 6, none⟩ v6).setCell ⟨p, 7, none⟩ v7).setCell ⟨p, 8, none⟩ v8).setCell ⟨p, 9, none⟩ v9).setCell ⟨p, 10, none⟩ v10).setCell ⟨p, 11, none⟩ v11).setCell ⟨p, 12, none⟩ v12).setCell ⟨p, 13, none⟩ v13).setCell ⟨p, 14, none⟩ v14).setCell ⟨p, 15, none⟩ v15) := by
  have h : ∀ (x : World) (j : Nat) (v : Value), Chg (fun k => k = p) x (x.setCell ⟨p, j, none⟩ v) := fun x j v => Chg.setCell x ⟨p, j, none⟩ v rfl
  exact ((((((((((((((((h _ 0 _).trans (h _ 1 _)).trans (h _ 2 _)).trans (h _ 3 _)).trans (h _ 4 _)).trans (h _ 5 _)).trans (h _ 6 _)).trans (h _ 7 _)).trans (h _ 8 _)).trans (h _ 9 _)).trans (h _ 10 _)).trans (h _ 11 _)).trans (h _ 12 _)).trans (h _ 13 _)).trans (h _ 14 _)).trans (h _ 15 _))
theorem set16 {w : World} {p T : Nat} {u0 u1 u2 u3 u4 u5 u6 u7 u8 u9 u10 u11 u12 u13 u14 u15 : Value} (h : w.heap[p]? = some (.cells #[u0, u1, u2, u3, u4, u5, u6, u7, u8, u9, u10, u11, u12, u13, u14, u15] T (0, 0))) (v0 v1 v2 v3 v4 v5 v6 v7 v8 v9 v10 v11 v12 v13 v14 v15 : Value) : ((((((((((((((((w.setCell ⟨p, 0, none⟩ v0).setCell ⟨p, 1, none⟩ v1).setCell ⟨p, 2, none⟩ v2).setCell ⟨p, 3, none⟩ v3).setCell ⟨p, 4, none⟩ v4).setCell ⟨p, 5, none⟩ v5).setCell ⟨p, 6, none⟩ v6).setCell ⟨p, 7, none⟩ v7).setCell ⟨p, 8, none⟩ v8).setCell ⟨p, 9, none⟩ v9).setCell ⟨p, 10, none⟩ v10).setCell ⟨p, 11, none⟩ v11).setCell ⟨p, 12, none⟩ v12).setCell ⟨p, 13, none⟩ v13).setCell ⟨p, 14, none⟩ v14).setCell ⟨p, 15, none⟩ v15).heap[p]? = some (.cells #[v0, v1, v2, v3, v4, v5, v6, v7, v8, v9, v10, v11, v12, v13, v14, v15] T (0, 0)) := by
  have h0 : (w.setCell ⟨p, 0, none⟩ v0).heap[p]? = some (.cells #[v0, u1, u2, u3, u4, u5, u6, u7, u8, u9, u10, u11, u12, u13, u14, u15] T (0, 0)) := heap_set h 0 v0
  have h1 : ((w.setCell ⟨p, 0, none⟩ v0).setCell ⟨p, 1, none⟩ v1).heap[p]? = some (.cells #[v0, v1, u2, u3, u4, u5, u6, u7, u8, u9, u10, u11, u12, u13, u14, u15] T (0, 0)) := heap_set h0 1 v1
  have h2 : (((w.setCell ⟨p, 0, none⟩ v0).setCell ⟨p, 1, none⟩ v1).setCell ⟨p, 2, none⟩ v2).heap[p]? = some (.cells #[v0, v1, v2, u3, u4, u5, u6, u7, u8, u9, u10, u11, u12, u13, u14, u15] T (0, 0)) := heap_set h1 2 v2
  have h3 : ((((w.setCell ⟨p, 0, none⟩ v0).setCell ⟨p, 1, none⟩ v1).setCell ⟨p, 2, none⟩ v2).setCell ⟨p, 3, none⟩ v3).heap[p]? = some (.cells #[v0, v1, v2, v3, u4, u5, u6, u7, u8, u9, u10, u11, u12, u13, u14, u15] T (0, 0)) := heap_set h2 3 v3
  have h4 : (((((w.setCell ⟨p, 0, none⟩ v0).setCell ⟨p, 1, none⟩ v1).setCell ⟨p, 2, none⟩ v2).setCell ⟨p, 3, none⟩ v3).setCell ⟨p, 4, none⟩ v4).heap[p]? = some (.cells #[v0, v1, v2, v3, v4, u5, u6, u7, u8, u9, u10, u11, u12, u13, u14, u15] T (0, 0)) := heap_set h3 4 v4
  have h5 : ((((((w.setCell ⟨p, 0, none⟩ v0).setCell ⟨p, 1, none⟩ v1).setCell ⟨p, 2, none⟩ v2).setCell ⟨p, 3, none⟩ v3).setCell ⟨p, 4, none⟩ v4).setCell ⟨p, 5, none⟩ v5).heap[p]? = some (.cells #[v0, v1, v2, v3, v4, v5, u6, u7, u8, u9, u10, u11, u12, u13, u14, u15] T (0, 0)) := heap_set h4 5 v5
  have h6 : (((((((w.setCell ⟨p, 0, none⟩ v0).setCell ⟨p, 1, none⟩ v1).setCell ⟨p, 2, none⟩ v2).setCell ⟨p, 3, none⟩ v3).setCell ⟨p, 4, none⟩ v4).setCell ⟨p, 5, none⟩ v5).setCell ⟨p, 6, none⟩ v6).heap[p]? = some (.cells #[v0, v1, v2, v3, v4, v5, v6, u7, u8, u9, u10, u11, u12, u13, u14, u15] T (0, 0)) := heap_set h5 6 v6
  have h7 : ((((((((w.setCell ⟨p, 0, none⟩ v0).setCell ⟨p, 1, none⟩ v1).setCell ⟨p, 2, none⟩ v2).setCell ⟨p, 3, none⟩ v3).setCell ⟨p, 4, none⟩ v4).setCell ⟨p, 5, none⟩ v5).setCell ⟨p, 6, none⟩ v6).setCell ⟨p, 7, none⟩ v7).heap[p]? = some (.cells #[v0, v1, v2, v3, v4, v5, v6, v7, u8, u9, u10, u11, u12, u13, u14, u15] T (0, 0)) := heap_set h6 7 v7
  have h8 : (((((((((w.setCell ⟨p, 0, none⟩ v0).setCell ⟨p, 1, none⟩ v1).setCell ⟨p, 2, none⟩ v2).setCell ⟨p, 3, none⟩ v3).setCell ⟨p, 4, none⟩ v4).setCell ⟨p, 5, none⟩ v5).setCell ⟨p, 6, none⟩ v6).setCell ⟨p, 7, none⟩ v7).setCell ⟨p, 8, none⟩ v8).heap[p]? = some (.cells #[v0, v1, v2, v3, v4, v5, v6, v7, v8, u9, u10, u11, u12, u13, u14, u15] T (0, 0)) := heap_set h7 8 v8
  have h9 : ((((((((((w.setCell ⟨p, 0, none⟩ v0).setCell ⟨p, 1, none⟩ v1).setCell ⟨p, 2, none⟩ v2).setCell ⟨p, 3, none⟩ v3).setCell ⟨p, 4, none⟩ v4).setCell ⟨p, 5, none⟩ v5).setCell ⟨p, 6, none⟩ v6).setCell ⟨p, 7, none⟩ v7).setCell ⟨p, 8, none⟩ v8).setCell ⟨p, 9, none⟩ v9).heap[p]? = some (.cells #[v0, v1, v2, v3, v4, v5, v6, v7, v8, v9, u10, u11, u12, u13, u14, u15] T (0, 0)) := heap_set h8 9 v9
  have h10 : (((((((((((w.setCell ⟨p, 0, none⟩ v0).setCell ⟨p, 1, none⟩ v1).setCell ⟨p, 2, none⟩ v2).setCell ⟨p, 3, none⟩ v3).setCell ⟨p, 4, none⟩ v4).setCell ⟨p, 5, none⟩ v5).setCell ⟨p, 6, none⟩ v6).setCell ⟨p, 7, none⟩ v7).setCell ⟨p, 8, none⟩ v8).setCell ⟨p, 9, none⟩ v9).setCell ⟨p, 10, none⟩ v10).heap[p]? = some (.cells #[v0, v1, v2, v3, v4, v5, v6, v7, v8, v9, v10, u11, u12, u13, u14, u15] T (0, 0)) := heap_set h9 10 v10
  have h11 : ((((((((((((w.setCell ⟨p, 0, none⟩ v0).setCell ⟨p, 1, none⟩ v1).setCell ⟨p, 2, none⟩ v2).setCell ⟨p, 3, none⟩ v3).setCell ⟨p, 4, none⟩ v4).setCell ⟨p, 5, none⟩ v5).setCell ⟨p, 6, none⟩ v6).setCell ⟨p, 7, none⟩ v7).setCell ⟨p, 8, none⟩ v8).setCell ⟨p, 9, none⟩ v9).setCell ⟨p, 10, none⟩ v10).setCell ⟨p, 11, none⟩ v11).heap[p]? = some (.cells #[v0, v1, v2, v3, v4, v5, v6, v7, v8, v9, v10, v11, u12, u13, u14, u15] T (0, 0)) := heap_set h10 11 v11
  have h12 : (((((((((((((w.setCell ⟨p, 0, none⟩ v0).setCell ⟨p, 1, none⟩ v1).setCell ⟨p, 2, none⟩ v2).setCell ⟨p, 3, none⟩ v3).setCell ⟨p, 4, none⟩ v4).setCell ⟨p, 5, none⟩ v5).setCell ⟨p, 6, none⟩ v6).setCell ⟨p, 7, none⟩ v7).setCell ⟨p, 8, none⟩ v8).setCell ⟨p, 9, none⟩ v9).setCell ⟨p, 10, none⟩ v10).setCell ⟨p, 11, none⟩ v11).setCell ⟨p, 12, none⟩ v12).heap[p]? = some (.cells #[v0, v1, v2, v3, v4, v5, v6, v7, v8, v9, v10, v11, v12, u13, u14, u15] T (0, 0)) := heap_set h11 12 v12
  have h13 : ((((((((((((((w.setCell ⟨p, 0, none⟩ v0).setCell ⟨p, 1, none⟩ v1).setCell ⟨p, 2, none⟩ v2).setCell ⟨p, 3, none⟩ v3).setCell ⟨p, 4, none⟩ v4).setCell ⟨p, 5, none⟩ v5).setCell ⟨p, 6, none⟩ v6).setCell ⟨p, 7, none⟩ v7).setCell ⟨p, 8, none⟩ v8).setCell ⟨p, 9, none⟩ v9).setCell ⟨p, 10, none⟩ v10).setCell ⟨p, 11, none⟩ v11).setCell ⟨p, 12, none⟩ v12).setCell ⟨p, 13, none⟩ v13).heap[p]? = some (.cells #[v0, v1, v2, v3, v4, v5, v6, v7, v8, v9, v10, v11, v12, v13, u14, u15] T (0, 0)) := heap_set h12 13 v13
  have h14 : (((((((((((((((w.setCell ⟨p, 0, none⟩ v0).setCell ⟨p, 1, none⟩ v1).setCell ⟨p, 2, none⟩ v2).setCell ⟨p, 3, none⟩ v3).setCell ⟨p, 4, none⟩ v4).setCell ⟨p, 5, none⟩ v5).setCell ⟨p, 6, none⟩ v6).setCell ⟨p, 7, none⟩ v7).setCell ⟨p, 8, none⟩ v8).setCell ⟨p, 9, none⟩ v9).setCell ⟨p, 10, none⟩ v10).setCell ⟨p, 11, none⟩ v11).setCell ⟨p, 12, none⟩ v12).setCell ⟨p, 13, none⟩ v13).setCell ⟨p, 14, none⟩ v14).heap[p]? = some (.cells #[v0, v1, v2, v3, v4, v5, v6, v7, v8, v9, v10, v11, v12, v13, v14, u15] T (0, 0)) := heap_set h13 14 v14
  have h15 : ((((((((((((((((w.setCell ⟨p, 0, none⟩ v0).setCell ⟨p, 1, none⟩ v1).setCell ⟨p, 2, none⟩ v2).setCell ⟨p, 3, none⟩ v3).setCell ⟨p, 4, none⟩ v4).setCell ⟨p, 5, none⟩ v5).setCell ⟨p, 6, none⟩ v6).setCell ⟨p, 7, none⟩ v7).setCell ⟨p, 8, none⟩ v8).setCell ⟨p, 9, none⟩ v9).setCell ⟨p, 10, none⟩ v10).setCell ⟨p, 11, none⟩ v11).setCell ⟨p, 12, none⟩ v12).setCell ⟨p, 13, none⟩ v13).setCell ⟨p, 14, none⟩ v14).setCell ⟨p, 15, none⟩ v15).heap[p]? = some (.cells #[v0, v1, v2, v3, v4, v5, v6, v7, v8, v9, v10, v11, v12, v13, v14, v15] T (0, 0)) := heap_set h14 15 v15
  exact h15
theorem rdText_le (r : Rd) (m : Int) (hm : 0 ≤ m) : ((rdText r m).1.length : Int) ≤ m := by
  cases h : (rdText r m).2 with
  | some t => exact (rdText_inv h).2
  | none =>
    have : (rdText r m).1 = [] := by
      unfold rdText at h ⊢
      cases h1 : (rdCount r m).2 with
      | none => rfl
      | some l =>
        rw [h1] at h
        simp only [rdTake] at h ⊢
        split at h
        · next hl => rw [if_pos hl]
        · cases h
    rw [this]; simpa using hm
/- What a body that is got leaves. -/
def GotF (w w' : World) (g : Nat) (q : Option Nat) (e : Ending) (f : Fl) (r : Rd) : Prop :=
  ∃ A1 c1 A2 c2, e = .returned (.agg #[.int .i64 f.zxid, .int .u8 f.kind, .int .i64 f.session, .int .i64 f.turn, .int .i64 f.xid, .int .i64 f.time, .string (mkS f.path), .slice A1 f.data.length c1, .int .i64 f.owner, .int .i64 f.version, .int .i64 f.cversion, .int .i64 f.timeout, .int .i64 f.err, .int .i64 f.cver, .slice A2 f.mems.length c2, .slice none 0 0]) ∧ Rdr w' g q r ∧ Chg (One g) w w' ∧
    Bs w' (.slice A1 f.data.length c1) f.data ∧ (∀ k, bk (.slice A1 f.data.length c1) = some k → w.heap.size ≤ k) ∧ Mems w' (.slice A2 f.mems.length c2) f.mems ∧ (∀ k, bk (.slice A2 f.mems.length c2) = some k → w.heap.size ≤ k)
end Go.Proofs.YtaeoafedfgbcaaaGreatDoor.DD
/- What ensemble.Get leaves, in one form. -/
namespace Go.Proofs.YtaeoafedfgbcaaaGreatDoor.DD
set_option linter.unusedVariables false
open Go.RowKit

theorem get_or {w : World} {x : Value} {b : List UInt8} (hx : Bs w x b) (hb : b.length ≤ 140737488355328) :
    Calls Tryz.prog 58 #[x] w fun e w' => ∃ AM CM eo, e = .returned (.tuple #[.agg #[.int .i64 (cfgOr (cfgOf b)).1, .slice AM (cfgOr (cfgOf b)).2.length CM], .int .i64 eo]) ∧ Mems w' (.slice AM (cfgOr (cfgOf b)).2.length CM) (cfgOr (cfgOf b)).2 ∧ (∀ k, bk (.slice AM (cfgOr (cfgOf b)).2.length CM) = some k → w.heap.size ≤ k ∧ k < w'.heap.size) ∧ Below w.heap.size w w' := by
  refine (get_any hx hb).mono ?_
  intro e w' h
  cases hc : cfgOf b with
  | none =>
    rw [hc] at h
    obtain ⟨rfl, hB⟩ := h
    exact ⟨none, 0, 4, rfl, .inl ⟨rfl, rfl⟩, (fun k hk => absurd hk (bk_zero _ _ _)), hB⟩
  | some y =>
    rw [hc] at h
    obtain ⟨ver, ml⟩ := y
    obtain ⟨v, rfl, ho, hB⟩ := h
    have hm := mems_of_owns ho
    have hl : ∀ k, bk v = some k → w.heap.size ≤ k ∧ k < w'.heap.size := fun k hk => ho.lt k (bk_blk hk)
    obtain ⟨A, C, rfl⟩ := hm.form
    exact ⟨A, C, 0, rfl, hm, hl, hB⟩
end Go.Proofs.YtaeoafedfgbcaaaGreatDoor.DD
