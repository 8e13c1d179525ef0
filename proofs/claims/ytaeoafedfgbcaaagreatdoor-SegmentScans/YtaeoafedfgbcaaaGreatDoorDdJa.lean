/- While a deed is got: what serves the walks of Get. -/
import Derived.Test.YtaeoafedfgbcaaaGreatDoorDdI
import Derived.Test.YtaeoafedfgbcaaaGreatDoorDdR
import Derived.Test.YtaeoafedfgbcaaaGreatDoorDdGa
import Derived.Deep.RegionHeld3
import Derived.Deep.DrawnRows
import Derived.Deep.MidRow
namespace Go.Proofs.YtaeoafedfgbcaaaGreatDoor.DD
set_option linter.unusedVariables false
open Go.RowKit
set_option linter.unusedVariables false

structure GT (w0 w : World) (g : Nat) (q : Option Nat) (r : Rd) : Prop where
  rd : Rdr w g q r
  res : w.heap[w0.heap.size]? = some (.cells #[.int .i64 0, .int .u8 0, .int .i64 0, .int .i64 0, .int .i64 0, .int .i64 0, .string ⟨#[]⟩, .slice none 0 0, .int .i64 0, .int .i64 0, .int .i64 0, .int .i64 0, .int .i64 0, .int .i64 0, .slice none 0 0, .slice none 0 0] 41 (0, 0))
  bel : Below w0.heap.size w0 w
  g : w0.heap.size < g
  q : ∀ k, q = some k → w0.heap.size < k ∧ k < w.heap.size
theorem GT.read {w0 w w' : World} {g : Nat} {q : Option Nat} {r r' : Rd} (h : GT w0 w g q r) (hr : Rdr w' g q r') (hc : Chg (One g) w w') : GT w0 w' g q r' :=
  ⟨hr, by rw [hc.block _ (heap_lt h.res) (fun e => by have := h.g; unfold One at e; omega)]; exact h.res, h.bel.trans (hc.below (fun k e => by have := h.g; unfold One at e; omega) h.bel.size), h.g, fun k hk => ⟨(h.q k hk).1, Nat.lt_of_lt_of_le (h.q k hk).2 hc.size⟩⟩
theorem GT.turn {w0 w w' : World} {g : Nat} {q : Option Nat} {r : Rd} {S : Nat → Prop} (h : GT w0 w g q r) (hc : Chg S w w') (hs : ∀ k, S k → w0.heap.size < k ∧ k ≠ g ∧ q ≠ some k) : GT w0 w' g q r :=
  ⟨h.rd.keep hc (fun e => (hs _ e).2.1 rfl) (fun k hk e => (hs k e).2.2 hk), by rw [hc.block _ (heap_lt h.res) (fun e => by have := (hs _ e).1; omega)]; exact h.res, h.bel.trans (hc.below (fun k e => by have := (hs k e).1; omega) h.bel.size), h.g, fun k hk => ⟨(h.q k hk).1, Nat.lt_of_lt_of_le (h.q k hk).2 hc.size⟩⟩
theorem GT.below {w0 w w' : World} {g : Nat} {q : Option Nat} {r : Rd} (h : GT w0 w g q r) (hb : Below w.heap.size w w') : GT w0 w' g q r := h.turn (Chg.of_below hb) (fun _ e => e.elim)
theorem GT.laid {w0 w : World} {g : Nat} {q : Option Nat} {r : Rd} (h : GT w0 w g q r) (hL : PA.Laid w0) : PA.Laid w := hL.below h.bel
def bT : Nat → Bool := fun _ => true
theorem rdSt5 (r : Rd) : rdSt bT r 5 = (rdHead r).2 := rfl
theorem numAt0 (r : Rd) : numAt bT r 0 = (rdHead r).1.zxid := rfl
theorem numAt1 (r : Rd) : numAt bT r 1 = (rdHead r).1.session := rfl
theorem numAt2 (r : Rd) : numAt bT r 2 = (rdHead r).1.turn := rfl
theorem numAt3 (r : Rd) : numAt bT r 3 = (rdHead r).1.xid := rfl
theorem numAt4 (r : Rd) : numAt bT r 4 = (rdHead r).1.time := rfl
theorem and_partsG {k : Int} (h : 0 ≤ k ∧ k < 256) : (bits BinOp.and IntKind.u16 (PA.kTab k.toNat) 256 != 0) = hasParts k := by
  by_cases hk : 1 ≤ k ∧ k ≤ 9
  · have : ∀ j : Fin 10, 0 < j.val → (bits BinOp.and IntKind.u16 (PA.kTab j.val) 256 != 0) = hasParts (j.val : Int) := by decide +kernel
    have := this ⟨k.toNat, by omega⟩ (by dsimp only; omega)
    dsimp only at this
    rwa [show ((k.toNat : Nat) : Int) = k by omega] at this
  · rw [kTab_zero h.1 hk]
    have : hasParts k = false := by simp [hasParts]; omega
    rw [this]; decide +kernel
theorem infoDs : (Tryz.prog.info? 41).map (·.size) = some 16 := by kernel_rfl
theorem range16 {w : World} {p : Nat} {v0 v1 v2 v3 v4 v5 v6 v7 v8 v9 v10 v11 v12 v13 v14 v15 : Value} {T : TypeId} (h : w.heap[p]? = some (.cells #[v0, v1, v2, v3, v4, v5, v6, v7, v8, v9, v10, v11, v12, v13, v14, v15] T (0, 0))) : w.rangeAt p 0 [v0, v1, v2, v3, v4, v5, v6, v7, v8, v9, v10, v11, v12, v13, v14, v15] := by
  intro j v hj
  rw [cell_at h, Nat.zero_add, List.getElem?_toArray]
  exact hj
theorem there16 {w : World} {p : Nat} {u0 u1 u2 u3 u4 u5 u6 u7 u8 u9 u10 u11 u12 u13 u14 u15 : Value} {T : TypeId} (h : w.heap[p]? = some (.cells #[u0, u1, u2, u3, u4, u5, u6, u7, u8, u9, u10, u11, u12, u13, u14, u15] T (0, 0))) : w.there p 0 16 := by
  intro j hj
  refine ⟨?_, frozen_at h _⟩
  rw [cell_at h, Nat.zero_add]
  rcases j with _ | _ | _ | _ | _ | _ | _ | _ | _ | _ | _ | _ | _ | _ | _ | _ | j <;> first | rfl | omega
theorem set16L {w : World} {p T : Nat} {u0 u1 u2 u3 u4 u5 u6 u7 u8 u9 u10 u11 u12 u13 u14 u15 : Value} (h : w.heap[p]? = some (.cells #[u0, u1, u2, u3, u4, u5, u6, u7, u8, u9, u10, u11, u12, u13, u14, u15] T (0, 0))) (v0 v1 v2 v3 v4 v5 v6 v7 v8 v9 v10 v11 v12 v13 v14 v15 : Value) : (w.setCells p 0 [v0, v1, v2, v3, v4, v5, v6, v7, v8, v9, v10, v11, v12, v13, v14, v15]).heap[p]? = some (.cells #[v0, v1, v2, v3, v4, v5, v6, v7, v8, v9, v10, v11, v12, v13, v14, v15] T (0, 0)) ∧ Chg (fun k => k = p) w (w.setCells p 0 [v0, v1, v2, v3, v4, v5, v6, v7, v8, v9, v10, v11, v12, v13, v14, v15]) := ⟨set16 h v0 v1 v2 v3 v4 v5 v6 v7 v8 v9 v10 v11 v12 v13 v14 v15, chg16 w p v0 v1 v2 v3 v4 v5 v6 v7 v8 v9 v10 v11 v12 v13 v14 v15⟩
theorem body_head {k : Int} {r : Rd} : (rdBody k r).1.zxid = 0 ∧ (rdBody k r).1.session = 0 ∧ (rdBody k r).1.turn = 0 ∧ (rdBody k r).1.xid = 0 ∧ (rdBody k r).1.time = 0 ∧ (rdBody k r).1.kind = k := by
  unfold rdBody
  repeat' split
  all_goals exact ⟨rfl, rfl, rfl, rfl, rfl, rfl⟩
end Go.Proofs.YtaeoafedfgbcaaaGreatDoor.DD
