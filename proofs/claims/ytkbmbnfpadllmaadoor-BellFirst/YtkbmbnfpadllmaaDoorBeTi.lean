/- A row of deeds as it comes in. -/
import Derived.Test.YtkbmbnfpadllmaaDoorDdIn
import Derived.Test.YtkbmbnfpadllmaaDoorBeX
namespace Go.Proofs.YtkbmbnfpadllmaaDoor.DD
set_option linter.unusedVariables false
open Go.ChangeShapes Go.WideShapes Go.ChangeAt Go.RowKit
set_option linter.unusedVariables false

structure El2 where
  p : Fl × List Fl
  A1 : Option Addr
  c1 : Nat
  A2 : Option Addr
  c2 : Nat
  A3 : Option Addr
  c3 : Nat
def ev2 (e : El2) : List Value := [.int .i64 e.p.1.zxid, .int .u8 e.p.1.kind, .int .i64 e.p.1.session, .int .i64 e.p.1.turn, .int .i64 e.p.1.xid, .int .i64 e.p.1.time, .string (mkS e.p.1.path), .slice e.A1 e.p.1.data.length e.c1, .int .i64 e.p.1.owner, .int .i64 e.p.1.version, .int .i64 e.p.1.cversion, .int .i64 e.p.1.timeout, .int .i64 e.p.1.err, .int .i64 e.p.1.cver, .slice e.A2 e.p.1.mems.length e.c2, .slice e.A3 e.p.1.np e.c3]
theorem ev2_len (e : El2) : (ev2 e).length = 16 := rfl
abbrev DV (w : World) (e : El2) : Prop := DVal w e.p.1 e.p.2 e.A1 e.c1 e.A2 e.c2 e.A3 e.c3
/- Deeds side by side from a place on. -/
def Rowed (w : World) (A : Option Addr) (els : List El2) (C : Nat) : Prop :=
  els = [] ∨ ∃ b o, A = some ⟨b, o, none⟩ ∧ b < w.heap.size ∧ els.length ≤ C ∧ ∀ (i : Nat) (h : i < els.length) (j : Nat), j < 16 → w.cell? ⟨b, o + i * 16 + j, none⟩ = (ev2 (els[i]'h))[j]?
set_option maxRecDepth 100000 in
theorem deeds_in {H : Type} {enc : TypeId × Value → H} {W : World} {fuel : Nat} {v : Value} {x : DataW H × List MemPlace}
    (hf : DataW.trod enc Tryd.prog W 0 (fun _ => true) true fuel 30 [v] = some x) :
    ∃ (els : List El2) (A : Option Addr) (C : Nat), v = .slice A els.length C ∧ (els = [] → C = 0 ∨ ∃ b o, A = some ⟨b, o, none⟩ ∨ True) ∧ Rowed W A els C ∧ (∀ e ∈ els, DV W e ∧ DedFit e.p.1 e.p.2 ∧ e.p.1.np ≤ 9223372036854775807) ∧ els.length ≤ 9223372036854775807 ∧ (A = none → els = [] ∧ C = 0) := by
  rcases Go.Deep.open_slice Tryd.underlying30 hf with ⟨hcs, hx⟩ | ⟨ad, N, cap, m, n, D, Pl, hcs, _, hl, hmx, hm, hx, hel⟩
  · simp at hcs
    subst hcs
    exact ⟨[], none, 0, rfl, fun _ => .inl rfl, .inl rfl, fun e he => (nomatch he), by simp, fun _ => ⟨rfl, rfl⟩⟩
  · simp at hcs
    subst hcs
    simp only [if_true] at hm
    subst hm
    have hmL : maxLen = 9223372036854775807 := rfl
    by_cases h0 : 0 < N
    · obtain ⟨cs0, hc0, _⟩ := hel 0 (by omega)
      obtain ⟨b, o, spot⟩ := ad
      rw [deed_cells] at hel hc0
      have hsp : spot = none := spot_of (n := 0) hc0
      subst hsp
      have key : ∀ i, i < N → ∃ e : El2, (∀ j, j < 16 → W.cell? ⟨b, o + i * 16 + j, none⟩ = (ev2 e)[j]?) ∧ DV W e ∧ DedFit e.p.1 e.p.2 ∧ e.p.1.np ≤ 9223372036854775807 := by
        intro i hi
        obtain ⟨cs', hc1, hc2⟩ := hel i (by omega)
        rw [plain_add] at hc1
        obtain ⟨f, ps, A1, A2, A3, c1, c2, c3, rfl, g1, g2, g3⟩ := deed_in hc2
        obtain ⟨-, hc⟩ := cells_at hc1
        exact ⟨⟨(f, ps), A1, c1, A2, c2, A3, c3⟩, hc, g1, g2, g3⟩
      obtain ⟨l, hll, hp⟩ := list_of _ N key
      subst hll
      refine ⟨l, some ⟨b, o, none⟩, _, rfl, fun _ => .inr ⟨b, o, .inr trivial⟩, .inr ⟨b, o, rfl, ?_, by omega, fun i hi => (hp i hi).1⟩, fun e he => ?_, by omega, fun h => by cases h⟩
      · have hz := (hp 0 h0).1 0 (by omega)
        exact World.block_lt_of_cell? W _ (hz.trans rfl)
      · obtain ⟨j, hj, rfl⟩ := List.getElem_of_mem he
        exact (hp j hj).2
    · have hl0 : N = 0 := by omega
      subst hl0
      exact ⟨[], some ad, _, rfl, fun _ => .inr ⟨0, 0, .inr trivial⟩, .inl rfl, fun e he => (nomatch he), by simp, fun h => by cases h⟩
theorem Rowed.grow {w w' : World} {A : Option Addr} {els : List El2} {C : Nat} (h : Rowed w A els C) (hb : Below w.heap.size w w') : Rowed w' A els C := by
  rcases h with h | ⟨b, o, h1, h2, h3, h4⟩
  · exact .inl h
  · exact .inr ⟨b, o, h1, Nat.lt_of_lt_of_le h2 hb.size, h3, fun i hi j hj => (hb.cell (p := ⟨b, o + i * 16 + j, none⟩) h2).trans (h4 i hi j hj)⟩
theorem Rowed.deed {w : World} {A : Option Addr} {els : List El2} {C : Nat} (h : Rowed w A els C) (k : Nat) (hk : k < els.length) : ∃ b o, A = some ⟨b, o, none⟩ ∧ b < w.heap.size ∧ els.length ≤ C ∧ DCells w b (o + k * 16) (els[k]'hk).p.1 (els[k]'hk).A1 (els[k]'hk).c1 (els[k]'hk).A2 (els[k]'hk).c2 (els[k]'hk).A3 (els[k]'hk).c3 := by
  rcases h with h | ⟨b, o, h1, h2, h3, h4⟩
  · subst h; simp at hk
  · exact ⟨b, o, h1, h2, h3, h4 k hk 0 (by omega), h4 k hk 1 (by omega), h4 k hk 2 (by omega), h4 k hk 3 (by omega), h4 k hk 4 (by omega), h4 k hk 5 (by omega), h4 k hk 6 (by omega), h4 k hk 7 (by omega), h4 k hk 8 (by omega), h4 k hk 9 (by omega), h4 k hk 10 (by omega), h4 k hk 11 (by omega), h4 k hk 12 (by omega), h4 k hk 13 (by omega), h4 k hk 14 (by omega), h4 k hk 15 (by omega)⟩
theorem Rowed.len {w : World} {A : Option Addr} {els : List El2} {C : Nat} (h : Rowed w A els C) (hn : els ≠ []) : els.length ≤ C := by
  rcases h with h | ⟨_, _, _, _, h3, _⟩
  · exact absurd h hn
  · exact h3
theorem Rowed.take {w : World} {A : Option Addr} {els : List El2} {C : Nat} (h : Rowed w A els C) (m : Nat) (hm : m ≤ els.length) : Rowed w A (els.take m) C := by
  rcases h with h | ⟨b, o, h1, h2, h3, h4⟩
  · exact .inl (by rw [h]; simp)
  · refine .inr ⟨b, o, h1, h2, by rw [List.length_take]; omega, fun i hi j hj => ?_⟩
    have hi' : i < els.length := by rw [List.length_take] at hi; omega
    rw [List.getElem_take]
    exact h4 i hi' j hj
theorem spot_of34 {w : World} {b o n : Nat} {sp : Option Nat} {cs : List Value} (h : w.cells? 0 (({ block := b, off := o, spot := sp } : Addr).add (0 * 34)) 34 = some cs) : sp = none := by
  unfold World.cells? at h
  rw [if_pos (Nat.zero_le _)] at h
  have := mapM_some_get h 0 0 (by simp)
  have hl := mapM_some_length h
  cases hc : w.cell? ((({ block := b, off := o, spot := sp } : Addr).add (0 * 34)).add 0) with
  | none => rw [hc] at this; have h2 := List.getElem?_eq_none_iff.1 this.symm; simp at hl; omega
  | some u => simpa [Addr.add] using World.cell?_spot hc
/- Steps side by side from a place on. -/
def RowDo (w : World) (A : Option Addr) (ds : List Dst) : Prop :=
  ds = [] ∨ ∃ b o, A = some ⟨b, o, none⟩ ∧ b < w.heap.size ∧ ∀ (i : Nat) (h : i < ds.length) (j : Nat), j < 34 → w.cell? ⟨b, o + i * 34 + j, none⟩ = (ds[i]'h).cells.toList[j]?
theorem RowDo.grow {w w' : World} {A : Option Addr} {ds : List Dst} (h : RowDo w A ds) (hb : Below w.heap.size w w') : RowDo w' A ds := by
  rcases h with h | ⟨b, o, h1, h2, h4⟩
  · exact .inl h
  · exact .inr ⟨b, o, h1, Nat.lt_of_lt_of_le h2 hb.size, fun i hi j hj => (hb.cell (p := ⟨b, o + i * 34 + j, none⟩) h2).trans (h4 i hi j hj)⟩
set_option maxRecDepth 100000 in
theorem dos_in {H : Type} {enc : TypeId × Value → H} {W : World} {fuel : Nat} {v : Value} {x : DataW H × List MemPlace}
    (hf : DataW.trod enc Tryd.prog W 0 (fun _ => true) true fuel 46 [v] = some x) :
    ∃ (ds : List Dst) (A : Option Addr) (C : Nat), v = .slice A ds.length C ∧ RowDo W A ds ∧ (∀ d ∈ ds, d.Ok W) := by
  rcases Go.Deep.open_slice Tryd.underlying46 hf with ⟨hcs, hx⟩ | ⟨ad, N, cap, m, n, D, Pl, hcs, _, hl, hmx, hm, hx, hel⟩
  · simp at hcs
    subst hcs
    exact ⟨[], none, 0, rfl, .inl rfl, fun e he => (nomatch he)⟩
  · simp at hcs
    subst hcs
    simp only [if_true] at hm
    subst hm
    by_cases h0 : 0 < N
    · obtain ⟨cs0, hc0, _⟩ := hel 0 (by omega)
      obtain ⟨b, o, spot⟩ := ad
      rw [do_cells] at hel hc0
      have hsp : spot = none := spot_of34 (n := 0) hc0
      subst hsp
      have key : ∀ i, i < N → ∃ d : Dst, (∀ j, j < 34 → W.cell? ⟨b, o + i * 34 + j, none⟩ = d.cells.toList[j]?) ∧ d.Ok W := by
        intro i hi
        obtain ⟨cs', hc1, hc2⟩ := hel i (by omega)
        rw [plain_add] at hc1
        obtain ⟨d, rfl, hd⟩ := do_in hc2
        obtain ⟨-, hc⟩ := cells_at hc1
        exact ⟨d, hc, hd⟩
      obtain ⟨l, hll, hp⟩ := list_of _ N key
      subst hll
      refine ⟨l, some ⟨b, o, none⟩, _, rfl, .inr ⟨b, o, rfl, ?_, fun i hi => (hp i hi).1⟩, fun d hd => ?_⟩
      · have hz := (hp 0 h0).1 0 (by omega)
        exact World.block_lt_of_cell? W _ (hz.trans rfl)
      · obtain ⟨j, hj, rfl⟩ := List.getElem_of_mem hd
        exact (hp j hj).2
    · have hl0 : N = 0 := by omega
      subst hl0
      exact ⟨[], some ad, _, rfl, .inl rfl, fun e he => (nomatch he)⟩
end Go.Proofs.YtkbmbnfpadllmaaDoor.DD
