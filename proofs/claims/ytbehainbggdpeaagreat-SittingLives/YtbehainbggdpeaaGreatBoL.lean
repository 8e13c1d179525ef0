/- A row of steps: what it is in memory, and what one that comes in gives. -/
import Derived.Test.YtbehainbggdpeaaGreatRows
import Derived.ProofKit
import Derived.OpenShut
import Derived.ShutString
import Derived.ChangeOld
import Derived.SizedLaws
import Derived.Deep.Slices
import Derived.Deep.Strs
import Derived.Test.YtbehainbggdpeaaGreatBoB
namespace Go.Proofs.YtbehainbggdpeaaGreat
open Go.ChangeShapes Go.WideShapes Go.ChangeAt Go.RowKit

def i64 (n : Int) : Prop := -9223372036854775808 ≤ n ∧ n < 9223372036854775808
structure Do1 where
  op : Int
  ses : Int
  tmo : Int
  nw : Int
structure DoIs (w : World) (g o j : Nat) (x : Do1) : Prop where
  c0 : w.cell? ⟨g, o + j * 4, none⟩ = some (.int .i64 x.op)
  c1 : w.cell? ⟨g, o + j * 4 + 1, none⟩ = some (.int .i64 x.ses)
  c2 : w.cell? ⟨g, o + j * 4 + 2, none⟩ = some (.int .i64 x.tmo)
  c3 : w.cell? ⟨g, o + j * 4 + 3, none⟩ = some (.int .i64 x.nw)
def DoOk (x : Do1) : Prop := i64 x.op ∧ i64 x.ses ∧ i64 x.tmo ∧ i64 x.nw
def Dos (w : World) (v : Value) (l : List Do1) : Prop :=
  ∃ A C, v = .slice A l.length C ∧ l.length ≤ C ∧ (∀ x ∈ l, DoOk x) ∧ ∀ j (h : j < l.length), ∃ g o, A = some ⟨g, o, none⟩ ∧ DoIs w g o j (l[j]'h)
theorem Dos.at {w : World} {A : Option Addr} {n C : Nat} {l : List Do1} (h : Dos w (.slice A n C) l) (j : Nat) (hj : j < l.length) : ∃ g o, A = some ⟨g, o, none⟩ ∧ DoIs w g o j (l[j]'hj) ∧ DoOk (l[j]'hj) ∧ g < w.heap.size := by
  obtain ⟨A', C', e, _, h1, h⟩ := h
  injection e with e
  subst e
  obtain ⟨g, o, h2, h3⟩ := h j hj
  exact ⟨g, o, h2, h3, h1 _ (List.getElem_mem hj), cell_lt h3.c0⟩
theorem DoIs.keep {S : Nat → Prop} {w w' : World} {g o j : Nat} {x : Do1} (q : DoIs w g o j x) (hc : Chg S w w') (hS : ¬ S g) : DoIs w' g o j x :=
  ⟨(hc.cell (a := ⟨g, _, none⟩) (cell_lt q.c0) hS).trans q.c0, (hc.cell (a := ⟨g, _, none⟩) (cell_lt q.c0) hS).trans q.c1, (hc.cell (a := ⟨g, _, none⟩) (cell_lt q.c0) hS).trans q.c2, (hc.cell (a := ⟨g, _, none⟩) (cell_lt q.c0) hS).trans q.c3⟩
theorem Dos.keep {S : Nat → Prop} {w w' : World} {v : Value} {l : List Do1} (h : Dos w v l) (hc : Chg S w w') (hn : ∀ k, k < w.heap.size → ∀ A n C, v = .slice A n C → (∃ o, A = some ⟨k, o, none⟩) → ¬ S k) : Dos w' v l := by
  obtain ⟨A, C, rfl, h1, h2, h3⟩ := h
  refine ⟨A, C, rfl, h1, h2, fun j hj => ?_⟩
  obtain ⟨g, o, hA, q⟩ := h3 j hj
  have hS : ¬ S g := hn g (cell_lt q.c0) _ _ _ rfl ⟨o, hA⟩
  have hl := cell_lt q.c0
  exact ⟨g, o, hA, (hc.cell (a := ⟨g, _, none⟩) hl hS).trans q.c0, (hc.cell (a := ⟨g, _, none⟩) hl hS).trans q.c1, (hc.cell (a := ⟨g, _, none⟩) hl hS).trans q.c2, (hc.cell (a := ⟨g, _, none⟩) hl hS).trans q.c3⟩
theorem Dos.below {w w' : World} {v : Value} {l : List Do1} (h : Dos w v l) (hb : Below w.heap.size w w') : Dos w' v l := h.keep (Chg.of_below hb) (fun _ _ _ _ _ _ _ => id)
theorem Dos.form {w : World} {v : Value} {l : List Do1} (h : Dos w v l) : ∃ A C, v = .slice A l.length C ∧ l.length ≤ C := by
  obtain ⟨A, C, rfl, h1, _⟩ := h
  exact ⟨A, C, rfl, h1⟩
theorem Dos.take {w : World} {A : Option Addr} {n C : Nat} {l : List Do1} (h : Dos w (.slice A n C) l) (k : Nat) (hk : k ≤ l.length) : Dos w (.slice A k C) (l.take k) := by
  obtain ⟨A', C', e, h1, h2, h3⟩ := h
  injection e with e1 e2 e3
  subst e1 e3
  refine ⟨A, C, by rw [List.length_take, Nat.min_eq_left hk], by rw [List.length_take]; omega, fun x hx => h2 x (List.mem_of_mem_take hx), fun j hj => ?_⟩
  have hj' : j < l.length := by rw [List.length_take] at hj; omega
  obtain ⟨g, o, hA, q⟩ := h3 j hj'
  exact ⟨g, o, hA, by rw [List.getElem_take]; exact q⟩

theorem wf_i64 {n : Int} (h : (Lit.int .i64 n).wf = true) : -9223372036854775808 ≤ n ∧ n < 9223372036854775808 := by
  have : -9223372036854775808 ≤ n ∧ n ≤ 9223372036854775807 := by simpa [Lit.wf, IntKind.min, IntKind.max, IntKind.signed, IntKind.bits] using h
  omega
theorem plain_add (b o j : Nat) : (⟨b, o, none⟩ : Addr).add j = ⟨b, o + j, none⟩ := by simp only [Addr.add]; split <;> simp_all
theorem list_of {α : Type} (P : Nat → α → Prop) : ∀ n, (∀ i, i < n → ∃ x, P i x) → ∃ l : List α, l.length = n ∧ ∀ i (h : i < l.length), P i (l[i]'h)
  | 0, _ => ⟨[], rfl, fun i h => by simp at h⟩
  | n + 1, h => by
    obtain ⟨l, hl, hp⟩ := list_of P n (fun i hi => h i (by omega))
    obtain ⟨x, hx⟩ := h n (by omega)
    refine ⟨l ++ [x], by simp [hl], fun i hi => ?_⟩
    by_cases hlt : i < l.length
    · rw [List.getElem_append_left hlt]; exact hp i hlt
    · have : i = l.length := by simp at hi; omega
      subst this
      rw [List.getElem_append_right (Nat.le_refl _)]
      simp only [Nat.sub_self, List.getElem_cons_zero]
      rw [hl]; exact hx
theorem cells_at {w : World} {b o n : Nat} {cs : List Value} (h : w.cells? 0 ⟨b, o, none⟩ n = some cs) : cs.length = n ∧ ∀ i, i < n → w.cell? ⟨b, o + i, none⟩ = cs[i]? := by
  unfold World.cells? at h
  rw [if_pos (Nat.zero_le _)] at h
  refine ⟨by simpa using mapM_some_length h, fun i hi => ?_⟩
  have := mapM_some_get h i i (by simp [hi])
  rwa [plain_add] at this
theorem trod_four {P : Program} {H : Type} {enc : TypeId × Value → H} {w : World} {base : Nat} {spare : Nat → Bool} {held : Bool} {t : TypeId} {f0 f1 f2 f3 : Field} {fuel : Nat} {cs : List Value} {x : DataW H × List MemPlace} (ht : P.underlying t = some (.struct #[f0, f1, f2, f3])) (h : DataW.trod enc P w base spare held fuel t cs = some x) :
    ∃ y0 y1 y2 y3 n, DataW.trod enc P w base spare held n f0.type ((cs.drop f0.offset).take (P.cellsOf f0.type)) = some y0 ∧ DataW.trod enc P w base spare held n f1.type ((cs.drop f1.offset).take (P.cellsOf f1.type)) = some y1 ∧
      DataW.trod enc P w base spare held n f2.type ((cs.drop f2.offset).take (P.cellsOf f2.type)) = some y2 ∧ DataW.trod enc P w base spare held n f3.type ((cs.drop f3.offset).take (P.cellsOf f3.type)) = some y3 := by
  obtain ⟨xs, n, _, rfl, hl, hlen, hf⟩ := DataW.trod_struct ht h
  match xs, hlen with
  | [y0, y1, y2, y3], _ => exact ⟨y0, y1, y2, y3, n, by simpa using hf 0 f0 rfl, by simpa using hf 1 f1 rfl, by simpa using hf 2 f2 rfl, by simpa using hf 3 f3 rfl⟩
theorem do_cells : Tryz.prog.cellsOf 29 = 4 := by kernel_rfl
set_option maxRecDepth 100000 in
theorem dos_in {H : Type} {enc : TypeId × Value → H} {W : World} {base : Nat} {a : Option Addr} {len cap : Nat} {d : DataW H} {p : List MemPlace}
    (hv : Value.okWide Tryz.prog W .any base 22 (.slice a len cap)) (h : DataW.Trod enc Tryz.prog W 0 (fun _ => true) true 22 (.slice a len cap) d p) : ∃ l, Dos W (.slice a len cap) l := by
  obtain ⟨fuel, hf⟩ := h
  rcases Go.Deep.open_slice Tryz.underlying22 hf with ⟨hcs, hx⟩ | ⟨ad, len', cap', m, n, D, Pl, hcs, _, hl, hmx, hm, hx, hel⟩
  · simp [Value.cells] at hcs
    obtain ⟨rfl, rfl, rfl⟩ := hcs
    exact ⟨[], none, 0, rfl, Nat.le_refl _, fun x hx => by simp at hx, fun j hj => by simp at hj⟩
  · simp [Value.cells] at hcs
    obtain ⟨rfl, rfl, rfl⟩ := hcs
    simp only [if_true] at hm
    subst hm
    simp only [Value.okWide, Tryz.underlying22, Cell.okWide, Cell.ok] at hv
    obtain ⟨_, _, _, hspot, row, cells, hsh, _⟩ := hv
    obtain ⟨b, o, spot⟩ := ad
    dsimp only at hspot
    subst hspot
    have key : ∀ i, i < len → ∃ x : Do1, DoOk x ∧ DoIs W b o i x := by
      intro i hi
      obtain ⟨cs', hc1, hc2⟩ := hel i (by omega)
      rw [do_cells, plain_add] at hc1
      obtain ⟨hlen, hat⟩ := cells_at hc1
      obtain ⟨y0, y1, y2, y3, n', t0, t1, t2, t3⟩ := trod_four Tryz.underlying29 hc2
      match cs', hlen with
      | [v0, v1, v2, v3], _ =>
      obtain ⟨a0, h0, _, w0⟩ := DataW.trod_int Tryz.underlying3 t0
      obtain ⟨a1, h1, _, w1⟩ := DataW.trod_int Tryz.underlying2 t1
      obtain ⟨a2, h2, _, w2⟩ := DataW.trod_int Tryz.underlying3 t2
      obtain ⟨a3, h3, _, w3⟩ := DataW.trod_int Tryz.underlying2 t3
      have k3 : Tryz.prog.cellsOf 3 = 1 := by kernel_rfl
      have k2 : Tryz.prog.cellsOf 2 = 1 := by kernel_rfl
      have e0 : v0 = .int .i64 a0 := by have := h0; revert this; simp [k3]
      have e1 : v1 = .int .i64 a1 := by have := h1; revert this; simp [k2]
      have e2 : v2 = .int .i64 a2 := by have := h2; revert this; simp [k3]
      have e3 : v3 = .int .i64 a3 := by have := h3; revert this; simp [k2]
      subst e0 e1 e2 e3
      exact ⟨⟨a0, a1, a2, a3⟩, ⟨wf_i64 w0, wf_i64 w1, wf_i64 w2, wf_i64 w3⟩, hat 0 (by omega), hat 1 (by omega), hat 2 (by omega), hat 3 (by omega)⟩
    obtain ⟨l, hll, hp⟩ := list_of _ len key
    subst hll
    refine ⟨l, _, _, rfl, by omega, fun x hx => ?_, fun j hj => ⟨b, o, rfl, (hp j hj).2⟩⟩
    obtain ⟨j, hj, rfl⟩ := List.getElem_of_mem hx
    exact (hp j hj).1
end Go.Proofs.YtbehainbggdpeaaGreat
