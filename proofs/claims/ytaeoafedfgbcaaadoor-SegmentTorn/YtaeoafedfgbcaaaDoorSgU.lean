/- What a row of bytes that comes in gives: where it lies, and how long it may be. What a deed that comes in gives: its fields, what its slices hold, its parts. A row of deeds as it comes in: each deed's cells, its fields, what its slices hold, its parts. Deeds one behind the other, cut off, with one byte behind that is not the next one: what is told of them; no program in this text. Beginnings of rows of one's own; SameInts at two rows of the same numbers; CopyBytes, Pick. What SegmentTorn holds between two deeds; its appends as runs. -/
import Derived.Test.YtaeoafedfgbcaaaDoorRows
import Derived.ProofKit
import Derived.OpenShut
import Derived.ShutString
import Derived.ChangeOld
import Derived.SizedLaws
import Derived.Test.YtaeoafedfgbcaaaDoorBase
import Derived.Deep.Slices
import Derived.Deep.Strs
import Derived.Lib.SmallJoins
import Derived.JoinedCond
import Derived.Test.YtaeoafedfgbcaaaDoorEnsB
import Derived.Test.YtaeoafedfgbcaaaDoorDdR
import Derived.Test.YtaeoafedfgbcaaaDoorSgB
import Derived.Test.YtaeoafedfgbcaaaDoorSgXa
import Derived.Deep.QuietTactic
namespace Go.Proofs.YtaeoafedfgbcaaaDoor
open Go.ChangeShapes Go.WideShapes Go.ChangeAt Go.RowKit

theorem wf_u8 {n : Int} (h : (Lit.int .u8 n).wf = true) : 0 ≤ n ∧ n < 256 := by
  have : 0 ≤ n ∧ n ≤ 255 := by simpa [Lit.wf, IntKind.min, IntKind.max, IntKind.signed, IntKind.bits] using h
  omega
theorem wf_i64 {n : Int} (h : (Lit.int .i64 n).wf = true) : -9223372036854775808 ≤ n ∧ n < 9223372036854775808 := by
  have : -9223372036854775808 ≤ n ∧ n ≤ 9223372036854775807 := by simpa [Lit.wf, IntKind.min, IntKind.max, IntKind.signed, IntKind.bits] using h
  omega
def toB (zs : List Int) : List UInt8 := zs.map fun n => UInt8.ofNat n.toNat
theorem toB_len (zs : List Int) : (toB zs).length = zs.length := by simp [toB]
theorem toB_at (zs : List Int) (h : ∀ n ∈ zs, (Lit.int .u8 n).wf = true) (j : Nat) (hj : j < zs.length) (hj2 : j < (toB zs).length) : (((toB zs)[j]'hj2).toNat : Int) = zs.getD j 0 := by
  have h1 := wf_u8 (h _ (List.getElem_mem hj))
  simp only [toB, List.getElem_map, List.getD_eq_getElem?_getD, List.getElem?_eq_getElem hj, Option.getD_some, UInt8.toNat_ofNat']
  omega
theorem plain_add (b o j : Nat) : (⟨b, o, none⟩ : Addr).add j = ⟨b, o + j, none⟩ := by simp only [Addr.add]; split <;> simp_all
theorem bytes_read {H : Type} {enc : TypeId × Value → H} {W : World} {fuel : Nat} {cs : List Value} {x : DataW H × List MemPlace}
    (hf : DataW.trod enc Tryd.prog W 0 (fun _ => true) true fuel 25 cs = some x) :
    ∃ l A C, cs = [.slice A l.length C] ∧ Bs W (.slice A l.length C) l ∧ ((∀ y ∈ DataW.weights Tryd.prog 25 x.1, y ≤ reachBytes) → l.length ≤ 140737488351232) ∧ (x.1 = .nil ∧ l = [] ∨ ∃ zs sp : List Int, x.1 = .slice (lits .u8 zs) (lits .u8 sp) ∧ zs.length = l.length) := by
  rcases open_ints Tryd.underlying25 Tryd.underlying5 (by kernel_rfl) hf with ⟨hcs, hx⟩ | ⟨a, len, cap, zs, hcs, _, hl, hm, hz, hx, hcell, hwz⟩
  · exact ⟨[], none, 0, hcs, Bs.nil _, fun _ => by simp, .inl ⟨by rw [hx], rfl⟩⟩
  · simp only [if_true] at hz
    have hlen : (toB (zs.take len)).length = len := by rw [toB_len, List.length_take]; omega
    refine ⟨toB (zs.take len), some a, cap, by rw [hlen]; exact hcs, ?_, fun hw => ?_, .inr ⟨zs.take len, zs.drop len, by rw [hx], by rw [hlen, List.length_take]; omega⟩⟩
    · by_cases h0 : 0 < len
      · obtain ⟨b, o, spot⟩ := a
        have hsp : spot = none := by simpa [Addr.add] using World.cell?_spot (hcell 0 (by omega))
        subst hsp
        have hlt : b < W.heap.size := World.block_lt_of_cell? W _ (hcell 0 (by omega))
        refine Bs.mk b o cap rfl (by omega) hlt fun j hj => ?_
        have hj2 : j < len := by omega
        rw [toB_at (zs.take len) (fun n hn => hwz n (List.mem_of_mem_take hn)) j (by rw [List.length_take]; omega)]
        have := hcell j (by omega)
        rw [plain_add] at this
        rw [this]
        simp [List.getD_eq_getElem?_getD, hj2]
      · have e : toB (zs.take len) = [] := List.length_eq_zero_iff.1 (by omega)
        rw [e]
        exact .inr (.inl ⟨a, cap, rfl, rfl⟩)
    · have hb : Tryd.prog.bytesOf 5 = 1 := by kernel_rfl
      have := hw (((lits IntKind.u8 (zs.take len) : List (DataW H)).length + (lits IntKind.u8 (zs.drop len) : List (DataW H)).length) * Tryd.prog.bytesOf 5) (by
        rw [hx]
        simp only [DataW.weights, Tryd.underlying25]
        exact List.mem_cons_self)
      rw [hb] at this
      have hr : reachBytes = 140737488351232 := rfl
      rw [hr] at this
      simp [lits] at this
      omega
theorem bytes_in {H : Type} {enc : TypeId × Value → H} {W : World} {fuel : Nat} {a : Option Addr} {len cap : Nat} {d : DataW H} {p : List MemPlace}
    (hf : DataW.trod enc Tryd.prog W 0 (fun _ => true) true fuel 25 (Value.slice a len cap).cells.toList = some (d, p)) :
    ∃ l, Bs W (.slice a len cap) l ∧ ((∀ x ∈ DataW.weights Tryd.prog 25 d, x ≤ reachBytes) → l.length ≤ 140737488351232) ∧ (d = .nil ∧ l = [] ∨ ∃ zs sp : List Int, d = .slice (lits .u8 zs) (lits .u8 sp) ∧ zs.length = l.length) := by
  obtain ⟨l, A, C, hcs, h1, h2, h3⟩ := bytes_read hf
  simp [Value.cells] at hcs
  obtain ⟨rfl, rfl, rfl⟩ := hcs
  exact ⟨l, h1, h2, h3⟩
end Go.Proofs.YtaeoafedfgbcaaaDoor
/- What a config, numbers and configs that come in give: where they lie, and how many they may be. -/
namespace Go.Proofs.YtaeoafedfgbcaaaDoor
open Go.ChangeShapes Go.WideShapes Go.ChangeAt Go.RowKit

theorem list_of {α : Type} (P : Nat → α → Prop) : ∀ n, (∀ i, i < n → ∃ x, P i x) → ∃ l : List α, l.length = n ∧ ∀ i (h : i < l.length), P i (l[i]'h)
  | 0, _ => ⟨[], rfl, fun i h => by simp at h⟩
  | n + 1, h => by
    obtain ⟨l, hl, hp⟩ := list_of P n (fun i hi => h i (by omega))
    obtain ⟨x, hx⟩ := h n (by omega)
    refine ⟨l ++ [x], by simp [hl], fun i hi => ?_⟩
    by_cases hlt : i < l.length
    · rw [List.getElem_append_left hlt]; exact hp i hlt
    · have : i = l.length := by simp at hi; omega
      subst this
      rw [List.getElem_append_right (Nat.le_refl _)]
      simp only [Nat.sub_self, List.getElem_cons_zero]
      rw [hl]; exact hx
theorem cells4 {w : World} {b o : Nat} {cs : List Value} (h : w.cells? 0 ⟨b, o, none⟩ 4 = some cs) : ∃ v0 v1 v2 v3, cs = [v0, v1, v2, v3] ∧ w.cell? ⟨b, o, none⟩ = some v0 ∧ w.cell? ⟨b, o + 1, none⟩ = some v1 ∧ w.cell? ⟨b, o + 2, none⟩ = some v2 ∧ w.cell? ⟨b, o + 3, none⟩ = some v3 := by
  unfold World.cells? at h
  rw [if_pos (Nat.zero_le _), show List.range 4 = [0, 1, 2, 3] from rfl] at h
  simp only [List.mapM_cons, List.mapM_nil, plain_add, Nat.add_zero] at h
  cases h0 : w.cell? ⟨b, o, none⟩ with
  | none => simp [h0] at h
  | some v0 =>
    cases h1 : w.cell? ⟨b, o + 1, none⟩ with
    | none => simp [h0, h1] at h
    | some v1 =>
      cases h2 : w.cell? ⟨b, o + 2, none⟩ with
      | none => simp [h0, h1, h2] at h
      | some v2 =>
        cases h3 : w.cell? ⟨b, o + 3, none⟩ with
        | none => simp [h0, h1, h2, h3] at h
        | some v3 =>
          simp [h0, h1, h2, h3] at h
          exact ⟨v0, v1, v2, v3, h.symm, rfl, rfl, rfl, rfl⟩
theorem cells2 {w : World} {b o : Nat} {cs : List Value} (h : w.cells? 0 ⟨b, o, none⟩ 2 = some cs) : ∃ v0 v1, cs = [v0, v1] ∧ w.cell? ⟨b, o, none⟩ = some v0 ∧ w.cell? ⟨b, o + 1, none⟩ = some v1 := by
  unfold World.cells? at h
  rw [if_pos (Nat.zero_le _), show List.range 2 = [0, 1] from rfl] at h
  simp only [List.mapM_cons, List.mapM_nil, plain_add, Nat.add_zero] at h
  cases h0 : w.cell? ⟨b, o, none⟩ with
  | none => simp [h0] at h
  | some v0 =>
    cases h1 : w.cell? ⟨b, o + 1, none⟩ with
    | none => simp [h0, h1] at h
    | some v1 =>
      simp [h0, h1] at h
      exact ⟨v0, v1, h.symm, rfl, rfl⟩
theorem mem_cells : Tryd.prog.cellsOf 116 = 4 := by kernel_rfl
theorem ens_cells : Tryd.prog.cellsOf 31 = 2 := by kernel_rfl
/- A member's numbers fit their fields. -/
def MemFit (m : Mem) : Prop := (-9223372036854775808 ≤ m.id ∧ m.id < 9223372036854775808) ∧ (0 ≤ m.role ∧ m.role < 256) ∧ (-9223372036854775808 ≤ m.weight ∧ m.weight < 9223372036854775808) ∧ (-9223372036854775808 ≤ m.group ∧ m.group < 9223372036854775808)
set_option maxRecDepth 100000 in
theorem mems_read {H : Type} {enc : TypeId × Value → H} {W : World} {fuel : Nat} {cs : List Value} {x : DataW H × List MemPlace}
    (hf : DataW.trod enc Tryd.prog W 0 (fun _ => true) true fuel 29 cs = some x) :
    ∃ l A C, cs = [.slice A l.length C] ∧ Mems W (.slice A l.length C) l ∧ l.length ≤ maxLen ∧ (∀ m ∈ l, MemFit m) ∧ ((∀ y ∈ DataW.weights Tryd.prog 29 x.1, y ≤ reachBytes) → l.length ≤ 4398046511104) := by
  rcases Go.Deep.open_slice Tryd.underlying29 hf with ⟨hcs, hx⟩ | ⟨ad, len, cap, m, n, D, Pl, hcs, _, hl, hmx, hm, hx, hel⟩
  · exact ⟨[], none, 0, hcs, .inl ⟨rfl, rfl⟩, by simp, fun m hm => by simp at hm, fun _ => by simp⟩
  · simp only [if_true] at hm
    subst hm
    have hd : x.1 = .slice ((List.range len).map D) ((List.range (m - len)).map fun j => D (len + j)) := congrArg Prod.fst hx
    have hsz : (∀ y ∈ DataW.weights Tryd.prog 29 x.1, y ≤ reachBytes) → len ≤ 4398046511104 := by
      intro hw
      have hb : Tryd.prog.bytesOf 116 = 32 := by kernel_rfl
      have := hw ((((List.range len).map D).length + ((List.range (m - len)).map fun j => D (len + j)).length) * Tryd.prog.bytesOf 116) (by
        rw [hd]
        simp only [DataW.weights, Tryd.underlying29]
        exact List.mem_cons_self)
      rw [hb] at this
      have hr : reachBytes = 140737488351232 := rfl
      rw [hr, List.length_map, List.length_map, List.length_range, List.length_range] at this
      omega
    by_cases h0 : 0 < len
    · obtain ⟨cs0, hc0, _⟩ := hel 0 (by omega)
      obtain ⟨b, o, spot⟩ := ad
      rw [mem_cells] at hel hc0
      have hsp : spot = none := by
        unfold World.cells? at hc0
        rw [if_pos (Nat.zero_le _), show List.range 4 = [0, 1, 2, 3] from rfl] at hc0
        simp only [List.mapM_cons] at hc0
        cases h : W.cell? ((({ block := b, off := o, spot := spot } : Addr).add (0 * 4)).add 0) with
        | none => simp [h] at hc0
        | some u => simpa [Addr.add] using World.cell?_spot h
      subst hsp
      have key : ∀ i, i < len → ∃ z : Mem, (W.cell? ⟨b, o + i * 4, none⟩ = some (.int .i64 z.id) ∧ W.cell? ⟨b, o + i * 4 + 1, none⟩ = some (.int .u8 z.role) ∧ W.cell? ⟨b, o + i * 4 + 2, none⟩ = some (.int .i64 z.weight) ∧ W.cell? ⟨b, o + i * 4 + 3, none⟩ = some (.int .i64 z.group)) ∧ MemFit z := by
        intro i hi
        obtain ⟨cs', hc1, hc2⟩ := hel i (by omega)
        rw [plain_add] at hc1
        obtain ⟨v0, v1, v2, v3, rfl, c0, c1, c2, c3⟩ := cells4 hc1
        obtain ⟨y0, y1, y2, y3, n', hy, _, t0, t1, t2, t3⟩ := Joins.trod_struct4 Tryd.underlying116 hc2
        obtain ⟨z0, hz0, _, w0⟩ := DataW.trod_int Tryd.underlying3 t0
        obtain ⟨z1, hz1, _, w1⟩ := DataW.trod_int Tryd.underlying114 t1
        obtain ⟨z2, hz2, _, w2⟩ := DataW.trod_int Tryd.underlying3 t2
        obtain ⟨z3, hz3, _, w3⟩ := DataW.trod_int Tryd.underlying3 t3
        have e0 : v0 = .int .i64 z0 := by have := hz0; revert this; simp [show Tryd.prog.cellsOf 3 = 1 by kernel_rfl]
        have e1 : v1 = .int .u8 z1 := by have := hz1; revert this; simp [show Tryd.prog.cellsOf 114 = 1 by kernel_rfl]
        have e2 : v2 = .int .i64 z2 := by have := hz2; revert this; simp [show Tryd.prog.cellsOf 3 = 1 by kernel_rfl]
        have e3 : v3 = .int .i64 z3 := by have := hz3; revert this; simp [show Tryd.prog.cellsOf 3 = 1 by kernel_rfl]
        subst e0; subst e1; subst e2; subst e3
        exact ⟨⟨z0, z1, z2, z3⟩, ⟨c0, c1, c2, c3⟩, wf_i64 w0, wf_u8 w1, wf_i64 w2, wf_i64 w3⟩
      obtain ⟨l, hll, hp⟩ := list_of _ len key
      refine ⟨l, _, m, by rw [hll]; exact hcs, .inr (.inr ⟨by omega, b, o, m, rfl, by omega, ?_, fun j hj => (hp j hj).1⟩), by omega, fun z hz => ?_, fun hw => by rw [hll]; exact hsz hw⟩
      · obtain ⟨z, hz, _⟩ := key 0 h0
        exact World.block_lt_of_cell? W _ hz.1
      · obtain ⟨j, hj, rfl⟩ := List.getElem_of_mem hz
        exact (hp j hj).2
    · have hl0 : len = 0 := by omega
      subst hl0
      exact ⟨[], some ad, m, hcs, .inr (.inl ⟨ad, m, rfl, rfl⟩), by simp, fun m hm => by simp at hm, fun _ => by simp⟩
set_option maxRecDepth 100000 in
theorem ints_read {H : Type} {enc : TypeId × Value → H} {W : World} {fuel : Nat} {cs : List Value} {x : DataW H × List MemPlace}
    (hf : DataW.trod enc Tryd.prog W 0 (fun _ => true) true fuel 24 cs = some x) :
    ∃ l A C, cs = [.slice A l.length C] ∧ Ns W (.slice A l.length C) l ∧ l.length ≤ maxLen ∧ (∀ n ∈ l, -9223372036854775808 ≤ n ∧ n < 9223372036854775808) ∧ ((∀ y ∈ DataW.weights Tryd.prog 24 x.1, y ≤ reachBytes) → l.length ≤ 17592186044416) := by
  rcases open_ints Tryd.underlying24 Tryd.underlying3 (by kernel_rfl) hf with ⟨hcs, hx⟩ | ⟨a, len, cap, zs, hcs, _, hl, hm, hz, hx, hcell, hwz⟩
  · exact ⟨[], none, 0, hcs, .inl ⟨rfl, rfl⟩, by simp, fun n hn => by simp at hn, fun _ => by simp⟩
  · simp only [if_true] at hz
    have hlen : (zs.take len).length = len := by rw [List.length_take]; omega
    refine ⟨zs.take len, some a, cap, by rw [hlen]; exact hcs, ?_, by rw [hlen]; omega, fun n hn => wf_i64 (hwz n (List.mem_of_mem_take hn)), fun hw => ?_⟩
    · by_cases h0 : 0 < len
      · obtain ⟨b, o, spot⟩ := a
        have hsp : spot = none := by simpa [Addr.add] using World.cell?_spot (hcell 0 (by omega))
        subst hsp
        have hlt : b < W.heap.size := World.block_lt_of_cell? W _ (hcell 0 (by omega))
        refine .inr (.inr ⟨by rw [hlen]; exact h0, b, o, cap, rfl, by rw [hlen]; omega, hlt, fun j hj => ?_⟩)
        have := hcell j (by omega)
        rw [plain_add] at this
        rw [this, List.getElem_take]
        simp [List.getD_eq_getElem?_getD, show j < zs.length by omega]
      · have e : zs.take len = [] := List.length_eq_zero_iff.1 (by omega)
        rw [e]
        exact .inr (.inl ⟨a, cap, rfl, rfl⟩)
    · have hb : Tryd.prog.bytesOf 3 = 8 := by kernel_rfl
      have := hw (((lits IntKind.i64 (zs.take len) : List (DataW H)).length + (lits IntKind.i64 (zs.drop len) : List (DataW H)).length) * Tryd.prog.bytesOf 3) (by
        rw [hx]
        simp only [DataW.weights, Tryd.underlying24]
        exact List.mem_cons_self)
      rw [hb] at this
      have hr : reachBytes = 140737488351232 := rfl
      rw [hr] at this
      simp [lits] at this
      rw [hlen]
      omega
theorem ints_in {H : Type} {enc : TypeId × Value → H} {W : World} {fuel : Nat} {a : Option Addr} {len cap : Nat} {d : DataW H} {p : List MemPlace}
    (hf : DataW.trod enc Tryd.prog W 0 (fun _ => true) true fuel 24 (Value.slice a len cap).cells.toList = some (d, p)) :
    ∃ l, Ns W (.slice a len cap) l ∧ l.length ≤ maxLen ∧ (∀ n ∈ l, -9223372036854775808 ≤ n ∧ n < 9223372036854775808) ∧ ((∀ y ∈ DataW.weights Tryd.prog 24 d, y ≤ reachBytes) → l.length ≤ 17592186044416) := by
  obtain ⟨l, A, C, hcs, h1, h2, h3, h4⟩ := ints_read hf
  simp [Value.cells] at hcs
  obtain ⟨rfl, rfl, rfl⟩ := hcs
  exact ⟨l, h1, h2, h3, h4⟩
set_option maxRecDepth 100000 in
theorem ens_in {H : Type} {enc : TypeId × Value → H} {W : World} {base : Nat} {v : Value} {d : DataW H} {p : List MemPlace}
    (hv : Value.okWide Tryd.prog W .any base 31 v) (h : DataW.Trod enc Tryd.prog W 0 (fun _ => true) true 31 v d p) :
    ∃ ver u l d0 d1, v = .agg #[.int .i64 ver, u] ∧ d = .agg [d0, d1] ∧ Mems W u l ∧ l.length ≤ maxLen ∧ (-9223372036854775808 ≤ ver ∧ ver < 9223372036854775808) ∧ (∀ m ∈ l, MemFit m) ∧ ((∀ y ∈ DataW.weights Tryd.prog 29 d1, y ≤ reachBytes) → l.length ≤ 4398046511104) := by
  obtain ⟨v0, v1, y0, y1, n, rfl, rfl, rfl, t0, t1⟩ := Joins.open_agg2 Tryd.underlying31 (by kernel_rfl) ens_cells hv h
  obtain ⟨z, hz, _, wz⟩ := DataW.trod_int Tryd.underlying26 t0
  obtain ⟨l, A, C, hcs, h1, h2, h3, h4⟩ := mems_read t1
  have e0 : v0 = .int .i64 z := by simpa using hz
  have e1 : v1 = .slice A l.length C := by simpa using hcs
  subst e0; subst e1
  exact ⟨z, _, l, y0.1, y1.1, rfl, rfl, h1, h2, wf_i64 wz, h3, h4⟩
end Go.Proofs.YtaeoafedfgbcaaaDoor

namespace Go.Proofs.YtaeoafedfgbcaaaDoor.DD
set_option linter.unusedVariables false
open Go.ChangeShapes Go.WideShapes Go.ChangeAt Go.RowKit
set_option linter.unusedVariables false

theorem list16 {cs : List Value} (h : cs.length = 16) : ∃ v0 v1 v2 v3 v4 v5 v6 v7 v8 v9 v10 v11 v12 v13 v14 v15, cs = [v0, v1, v2, v3, v4, v5, v6, v7, v8, v9, v10, v11, v12, v13, v14, v15] := by
  match cs, h with
  | [v0, v1, v2, v3, v4, v5, v6, v7, v8, v9, v10, v11, v12, v13, v14, v15], _ => exact ⟨v0, v1, v2, v3, v4, v5, v6, v7, v8, v9, v10, v11, v12, v13, v14, v15, rfl⟩
theorem deed_cells : Tryd.prog.cellsOf 33 = 16 := by kernel_rfl
/- One deed, its parts unread. -/
set_option maxRecDepth 100000 in
set_option maxHeartbeats 2000000 in
theorem flat_read {H : Type} {enc : TypeId × Value → H} {W : World} {fuel : Nat} {cs : List Value} {x : DataW H × List MemPlace}
    (hf : DataW.trod enc Tryd.prog W 0 (fun _ => true) true fuel 33 cs = some x) :
    ∃ (f : Fl) (A1 A2 : Option Addr) (c1 c2 : Nat) (u : Value) (n : Nat) (y : DataW H × List MemPlace), cs = [.int .i64 f.zxid, .int .u8 f.kind, .int .i64 f.session, .int .i64 f.turn, .int .i64 f.xid, .int .i64 f.time, .string (mkS f.path), .slice A1 f.data.length c1, .int .i64 f.owner, .int .i64 f.version, .int .i64 f.cversion, .int .i64 f.timeout, .int .i64 f.err, .int .i64 f.cver, .slice A2 f.mems.length c2, u] ∧
      Bs W (.slice A1 f.data.length c1) f.data ∧ Mems W (.slice A2 f.mems.length c2) f.mems ∧ FlFit f ∧ DataW.trod enc Tryd.prog W 0 (fun _ => true) true n 22 [u] = some y := by
  obtain ⟨xs, n, _, hx, hl, hlen, hfs⟩ := DataW.trod_struct Tryd.underlying33 hf
  rw [deed_cells] at hl
  obtain ⟨v0, v1, v2, v3, v4, v5, v6, v7, v8, v9, v10, v11, v12, v13, v14, v15, rfl⟩ := list16 hl
  have hget : ∀ i (h : i < 15), xs[i]? = some (xs[i]'(by rw [hlen]; exact h)) := fun i h => List.getElem?_eq_getElem _
  obtain ⟨z0, hz0, -, w0⟩ := DataW.trod_int Tryd.underlying26 ((hfs 0 _ rfl).trans (hget 0 (by decide)))
  have e0 : v0 = .int .i64 z0 := by simpa [show Tryd.prog.cellsOf 26 = 1 by kernel_rfl] using hz0
  obtain ⟨z1, hz1, -, w1⟩ := DataW.trod_int Tryd.underlying27 ((hfs 1 _ rfl).trans (hget 1 (by decide)))
  have e1 : v1 = .int .u8 z1 := by simpa [show Tryd.prog.cellsOf 27 = 1 by kernel_rfl] using hz1
  obtain ⟨z2, hz2, -, w2⟩ := DataW.trod_int Tryd.underlying2 ((hfs 2 _ rfl).trans (hget 2 (by decide)))
  have e2 : v2 = .int .i64 z2 := by simpa [show Tryd.prog.cellsOf 2 = 1 by kernel_rfl] using hz2
  obtain ⟨z3, hz3, -, w3⟩ := DataW.trod_int Tryd.underlying3 ((hfs 3 _ rfl).trans (hget 3 (by decide)))
  have e3 : v3 = .int .i64 z3 := by simpa [show Tryd.prog.cellsOf 3 = 1 by kernel_rfl] using hz3
  obtain ⟨z4, hz4, -, w4⟩ := DataW.trod_int Tryd.underlying3 ((hfs 4 _ rfl).trans (hget 4 (by decide)))
  have e4 : v4 = .int .i64 z4 := by simpa [show Tryd.prog.cellsOf 3 = 1 by kernel_rfl] using hz4
  obtain ⟨z5, hz5, -, w5⟩ := DataW.trod_int Tryd.underlying2 ((hfs 5 _ rfl).trans (hget 5 (by decide)))
  have e5 : v5 = .int .i64 z5 := by simpa [show Tryd.prog.cellsOf 2 = 1 by kernel_rfl] using hz5
  obtain ⟨z8, hz8, -, w8⟩ := DataW.trod_int Tryd.underlying2 ((hfs 8 _ rfl).trans (hget 8 (by decide)))
  have e8 : v8 = .int .i64 z8 := by simpa [show Tryd.prog.cellsOf 2 = 1 by kernel_rfl] using hz8
  obtain ⟨z9, hz9, -, w9⟩ := DataW.trod_int Tryd.underlying3 ((hfs 9 _ rfl).trans (hget 9 (by decide)))
  have e9 : v9 = .int .i64 z9 := by simpa [show Tryd.prog.cellsOf 3 = 1 by kernel_rfl] using hz9
  obtain ⟨z10, hz10, -, w10⟩ := DataW.trod_int Tryd.underlying3 ((hfs 10 _ rfl).trans (hget 10 (by decide)))
  have e10 : v10 = .int .i64 z10 := by simpa [show Tryd.prog.cellsOf 3 = 1 by kernel_rfl] using hz10
  obtain ⟨z11, hz11, -, w11⟩ := DataW.trod_int Tryd.underlying3 ((hfs 11 _ rfl).trans (hget 11 (by decide)))
  have e11 : v11 = .int .i64 z11 := by simpa [show Tryd.prog.cellsOf 3 = 1 by kernel_rfl] using hz11
  obtain ⟨z12, hz12, -, w12⟩ := DataW.trod_int Tryd.underlying28 ((hfs 12 _ rfl).trans (hget 12 (by decide)))
  have e12 : v12 = .int .i64 z12 := by simpa [show Tryd.prog.cellsOf 28 = 1 by kernel_rfl] using hz12
  obtain ⟨s6, hz6, -, -⟩ := DataW.trod_string Tryd.underlying9 ((hfs 6 _ rfl).trans (hget 6 (by decide)))
  have e6 : v6 = .string s6 := by simpa [show Tryd.prog.cellsOf 9 = 1 by kernel_rfl] using hz6
  obtain ⟨p6, rfl⟩ := PA.mkS_of s6
  obtain ⟨ld, A1, c1, hz7, hbs, -, -⟩ := bytes_read ((hfs 7 _ rfl).trans (hget 7 (by decide)))
  have e7 : v7 = .slice A1 ld.length c1 := by simpa [show Tryd.prog.cellsOf 25 = 1 by kernel_rfl] using hz7
  have t13 := (hfs 13 _ rfl).trans (hget 13 (by decide))
  obtain ⟨y0, y1, n', -, -, t0, t1⟩ := trod_struct2 Tryd.underlying31 t13
  obtain ⟨z13, hz13, -, w13⟩ := DataW.trod_int Tryd.underlying26 t0
  obtain ⟨lm, A2, c2, hz14, hms, -, -, -⟩ := mems_read t1
  have e13 : v13 = .int .i64 z13 := by simpa [show Tryd.prog.cellsOf 26 = 1 by kernel_rfl, ens_cells] using hz13
  have e14 : v14 = .slice A2 lm.length c2 := by simpa [show Tryd.prog.cellsOf 29 = 1 by kernel_rfl, ens_cells] using hz14
  have t15 := (hfs 14 _ rfl).trans (hget 14 (by decide))
  have t15' : DataW.trod enc Tryd.prog W 0 (fun _ => true) true n 22 [v15] = some (xs[14]'(by rw [hlen]; decide)) := by
    have hc : Tryd.prog.cellsOf 22 = 1 := by kernel_rfl
    simpa [hc] using t15
  subst e0 e1 e2 e3 e4 e5 e6 e7 e8 e9 e10 e11 e12 e13 e14
  exact ⟨⟨z0, z1, z2, z3, z4, z5, p6, ld, z8, z9, z10, z11, z12, z13, lm, 0⟩, A1, A2, c1, c2, v15, n, _, rfl, hbs, hms, ⟨wf_i64 w0, wf_u8 w1, wf_i64 w2, wf_i64 w3, wf_i64 w4, wf_i64 w5, wf_i64 w8, wf_i64 w9, wf_i64 w10, wf_i64 w11, wf_i64 w12, wf_i64 w13⟩, t15'⟩
/- One deed, the length of its parts told. -/
theorem form_read {H : Type} {enc : TypeId × Value → H} {W : World} {fuel : Nat} {u : Value} {x : DataW H × List MemPlace}
    (hf : DataW.trod enc Tryd.prog W 0 (fun _ => true) true fuel 22 [u] = some x) : ∃ A n C, u = .slice A n C ∧ n ≤ maxLen := by
  rcases Go.Deep.open_slice Tryd.underlying22 hf with ⟨hcs, _⟩ | ⟨ad, len, cap, m, n, D, Pl, hcs, _, hl, hmx, _⟩
  · exact ⟨none, 0, 0, by simpa using hcs, Nat.zero_le _⟩
  · exact ⟨some ad, len, cap, by simpa using hcs, Nat.le_trans hl hmx⟩
theorem deed_read {H : Type} {enc : TypeId × Value → H} {W : World} {fuel : Nat} {cs : List Value} {x : DataW H × List MemPlace}
    (hf : DataW.trod enc Tryd.prog W 0 (fun _ => true) true fuel 33 cs = some x) :
    ∃ (f : Fl) (A1 A2 A3 : Option Addr) (c1 c2 c3 : Nat) (n : Nat) (y : DataW H × List MemPlace), cs = [.int .i64 f.zxid, .int .u8 f.kind, .int .i64 f.session, .int .i64 f.turn, .int .i64 f.xid, .int .i64 f.time, .string (mkS f.path), .slice A1 f.data.length c1, .int .i64 f.owner, .int .i64 f.version, .int .i64 f.cversion, .int .i64 f.timeout, .int .i64 f.err, .int .i64 f.cver, .slice A2 f.mems.length c2, .slice A3 f.np c3] ∧
      Bs W (.slice A1 f.data.length c1) f.data ∧ Mems W (.slice A2 f.mems.length c2) f.mems ∧ FlFit f ∧ f.np ≤ maxLen ∧ DataW.trod enc Tryd.prog W 0 (fun _ => true) true n 22 [.slice A3 f.np c3] = some y := by
  obtain ⟨f, A1, A2, c1, c2, u, n, y, rfl, h1, h2, h3, h4⟩ := flat_read hf
  obtain ⟨A3, k, c3, rfl, hk⟩ := form_read h4
  exact ⟨{ f with np := k }, A1, A2, A3, c1, c2, c3, n, y, rfl, h1, h2, ⟨h3.1, h3.2, h3.3, h3.4, h3.5, h3.6, h3.7, h3.8, h3.9, h3.10, h3.11, h3.12⟩, hk, h4⟩
theorem cells_at {w : World} {b o n : Nat} {cs : List Value} (h : w.cells? 0 ⟨b, o, none⟩ n = some cs) : cs.length = n ∧ ∀ i, i < n → w.cell? ⟨b, o + i, none⟩ = cs[i]? := by
  unfold World.cells? at h
  rw [if_pos (Nat.zero_le _)] at h
  refine ⟨by simpa using mapM_some_length h, fun i hi => ?_⟩
  have := mapM_some_get h i i (by simp [hi])
  rwa [plain_add] at this
theorem spot_of {w : World} {b o n : Nat} {sp : Option Nat} {cs : List Value} (h : w.cells? 0 (({ block := b, off := o, spot := sp } : Addr).add (0 * 16)) 16 = some cs) : sp = none := by
  unfold World.cells? at h
  rw [if_pos (Nat.zero_le _)] at h
  have := mapM_some_get h 0 0 (by simp)
  have hl := mapM_some_length h
  cases hc : w.cell? ((({ block := b, off := o, spot := sp } : Addr).add (0 * 16)).add 0) with
  | none => rw [hc] at this; have h2 := List.getElem?_eq_none_iff.1 this.symm; simp at hl; omega
  | some u => simpa [Addr.add] using World.cell?_spot hc
set_option maxRecDepth 100000 in
theorem parts_read {H : Type} {enc : TypeId × Value → H} {W : World} {fuel : Nat} {A : Option Addr} {N C : Nat} {x : DataW H × List MemPlace}
    (hf : DataW.trod enc Tryd.prog W 0 (fun _ => true) true fuel 22 [.slice A N C] = some x) :
    ∃ ps, N = ps.length ∧ Prts W W.heap.size (.slice A N C) ps ∧ ∀ p ∈ ps, FlFit p := by
  rcases Go.Deep.open_slice Tryd.underlying22 hf with ⟨hcs, hx⟩ | ⟨ad, len, cap, m, n, D, Pl, hcs, _, hl, hmx, hm, hx, hel⟩
  · simp at hcs
    obtain ⟨rfl, rfl, rfl⟩ := hcs
    exact ⟨[], rfl, .inl ⟨rfl, rfl⟩, fun p hp => by simp at hp⟩
  · simp at hcs
    obtain ⟨rfl, rfl, rfl⟩ := hcs
    simp only [if_true] at hm
    subst hm
    by_cases h0 : 0 < N
    · obtain ⟨cs0, hc0, _⟩ := hel 0 (by omega)
      obtain ⟨b, o, spot⟩ := ad
      rw [deed_cells] at hel hc0
      have hsp : spot = none := spot_of (n := 0) hc0
      subst hsp
      have key : ∀ i, i < N → ∃ p : Fl, (∃ A1 c1 A2 c2 A3 c3, DCells W b (o + i * 16) p A1 c1 A2 c2 A3 c3 ∧ DRest W W.heap.size p A1 c1 A2 c2) ∧ FlFit p := by
        intro i hi
        obtain ⟨cs', hc1, hc2⟩ := hel i (by omega)
        rw [plain_add] at hc1
        obtain ⟨f, A1, A2, A3, c1, c2, c3, n', y, rfl, g1, g2, g3, g4, g5⟩ := deed_read hc2
        obtain ⟨-, hc⟩ := cells_at hc1
        exact ⟨f, ⟨A1, c1, A2, c2, A3, c3, ⟨hc 0 (by decide), hc 1 (by decide), hc 2 (by decide), hc 3 (by decide), hc 4 (by decide), hc 5 (by decide), hc 6 (by decide), hc 7 (by decide), hc 8 (by decide), hc 9 (by decide), hc 10 (by decide), hc 11 (by decide), hc 12 (by decide), hc 13 (by decide), hc 14 (by decide), hc 15 (by decide)⟩, ⟨g1, fun k hk => g1.lt hk, g2, fun k hk => g2.lt hk⟩⟩, g3⟩
      obtain ⟨l, hll, hp⟩ := list_of _ N key
      refine ⟨l, hll.symm, .inr (.inr ⟨by omega, b, o, m, by rw [hll], by omega, ?_, Nat.le_refl _, fun j hj => (hp j hj).1⟩), fun z hz => ?_⟩
      · obtain ⟨z, ⟨_, _, _, _, _, _, hz, _⟩, _⟩ := key 0 h0
        exact World.block_lt_of_cell? W _ hz.1
      · obtain ⟨j, hj, rfl⟩ := List.getElem_of_mem hz
        exact (hp j hj).2
    · have hl0 : N = 0 := by omega
      subst hl0
      exact ⟨[], rfl, .inr (.inl ⟨ad, m, rfl, rfl⟩), fun p hp => by simp at hp⟩
/- A deed as it comes in. -/
theorem deed_in {H : Type} {enc : TypeId × Value → H} {W : World} {fuel : Nat} {cs : List Value} {x : DataW H × List MemPlace}
    (hf : DataW.trod enc Tryd.prog W 0 (fun _ => true) true fuel 33 cs = some x) :
    ∃ (f : Fl) (ps : List Fl) (A1 A2 A3 : Option Addr) (c1 c2 c3 : Nat), cs = [.int .i64 f.zxid, .int .u8 f.kind, .int .i64 f.session, .int .i64 f.turn, .int .i64 f.xid, .int .i64 f.time, .string (mkS f.path), .slice A1 f.data.length c1, .int .i64 f.owner, .int .i64 f.version, .int .i64 f.cversion, .int .i64 f.timeout, .int .i64 f.err, .int .i64 f.cver, .slice A2 f.mems.length c2, .slice A3 f.np c3] ∧ DVal W f ps A1 c1 A2 c2 A3 c3 ∧ DedFit f ps ∧ f.np ≤ 9223372036854775807 := by
  obtain ⟨f, A1, A2, A3, c1, c2, c3, n, y, rfl, h1, h2, h3, h4, h5⟩ := deed_read hf
  obtain ⟨ps, hn, hp, hq⟩ := parts_read h5
  exact ⟨f, ps, A1, A2, A3, c1, c2, c3, rfl, ⟨h1, h2, hp⟩, ⟨h3, hq, hn⟩, by have : maxLen = 9223372036854775807 := rfl; omega⟩
end Go.Proofs.YtaeoafedfgbcaaaDoor.DD

namespace Go.Proofs.YtaeoafedfgbcaaaDoor.DD
set_option linter.unusedVariables false
open Go.ChangeShapes Go.WideShapes Go.ChangeAt Go.RowKit
set_option linter.unusedVariables false

/- Deeds side by side from a place on. -/
def Rowed (w : World) (A : Option Addr) (els : List El2) (C : Nat) : Prop :=
  els = [] ∨ ∃ b o, A = some ⟨b, o, none⟩ ∧ b < w.heap.size ∧ els.length ≤ C ∧ ∀ (i : Nat) (h : i < els.length) (j : Nat), j < 16 → w.cell? ⟨b, o + i * 16 + j, none⟩ = (ev2 (els[i]'h))[j]?
set_option maxRecDepth 100000 in
theorem deeds_in {H : Type} {enc : TypeId × Value → H} {W : World} {fuel : Nat} {v : Value} {x : DataW H × List MemPlace}
    (hf : DataW.trod enc Tryd.prog W 0 (fun _ => true) true fuel 22 [v] = some x) :
    ∃ (els : List El2) (A : Option Addr) (C : Nat), v = .slice A els.length C ∧ (els = [] → C = 0 ∨ ∃ b o, A = some ⟨b, o, none⟩ ∨ True) ∧ Rowed W A els C ∧ (∀ e ∈ els, DV W e ∧ DedFit e.p.1 e.p.2 ∧ e.p.1.np ≤ 9223372036854775807) ∧ els.length ≤ 9223372036854775807 ∧ (A = none → els = [] ∧ C = 0) := by
  rcases Go.Deep.open_slice Tryd.underlying22 hf with ⟨hcs, hx⟩ | ⟨ad, N, cap, m, n, D, Pl, hcs, _, hl, hmx, hm, hx, hel⟩
  · simp at hcs
    subst hcs
    exact ⟨[], none, 0, rfl, fun _ => .inl rfl, .inl rfl, fun e he => (nomatch he), by simp, fun _ => ⟨rfl, rfl⟩⟩
  · simp at hcs
    subst hcs
    simp only [if_true] at hm
    subst hm
    have hmL : maxLen = 9223372036854775807 := rfl
    by_cases h0 : 0 < N
    · obtain ⟨cs0, hc0, _⟩ := hel 0 (by omega)
      obtain ⟨b, o, spot⟩ := ad
      rw [deed_cells] at hel hc0
      have hsp : spot = none := spot_of (n := 0) hc0
      subst hsp
      have key : ∀ i, i < N → ∃ e : El2, (∀ j, j < 16 → W.cell? ⟨b, o + i * 16 + j, none⟩ = (ev2 e)[j]?) ∧ DV W e ∧ DedFit e.p.1 e.p.2 ∧ e.p.1.np ≤ 9223372036854775807 := by
        intro i hi
        obtain ⟨cs', hc1, hc2⟩ := hel i (by omega)
        rw [plain_add] at hc1
        obtain ⟨f, ps, A1, A2, A3, c1, c2, c3, rfl, g1, g2, g3⟩ := deed_in hc2
        obtain ⟨-, hc⟩ := cells_at hc1
        exact ⟨⟨(f, ps), A1, c1, A2, c2, A3, c3⟩, hc, g1, g2, g3⟩
      obtain ⟨l, hll, hp⟩ := list_of _ N key
      subst hll
      refine ⟨l, some ⟨b, o, none⟩, _, rfl, fun _ => .inr ⟨b, o, .inr trivial⟩, .inr ⟨b, o, rfl, ?_, by omega, fun i hi => (hp i hi).1⟩, fun e he => ?_, by omega, fun h => by cases h⟩
      · have hz := (hp 0 h0).1 0 (by omega)
        exact World.block_lt_of_cell? W _ (hz.trans rfl)
      · obtain ⟨j, hj, rfl⟩ := List.getElem_of_mem he
        exact (hp j hj).2
    · have hl0 : N = 0 := by omega
      subst hl0
      exact ⟨[], some ad, _, rfl, fun _ => .inr ⟨0, 0, .inr trivial⟩, .inl rfl, fun e he => (nomatch he), by simp, fun h => by cases h⟩
end Go.Proofs.YtaeoafedfgbcaaaDoor.DD

namespace Go.Proofs.YtaeoafedfgbcaaaDoor.DD
set_option linter.unusedVariables false
open Go.RowKit
set_option linter.unusedVariables false

theorem unframe_junk (b : List UInt8) (hb : b.length ≤ 1048576) (r : Nat) (hr : r < (frameOf b).length) (j : UInt8) (hj : j ≠ (frameOf b)[r]'hr) : unframe ((frameOf b).take r ++ [j]) = none := by
  have hl := frameOf_len b
  by_cases he : r + 1 = (frameOf b).length
  · have e : (frameOf b).take r ++ [j] = (frameOf b).set r j := by
      rw [List.set_eq_take_append_cons_drop, if_pos hr, List.drop_of_length_le (by omega)]
    rw [e]
    exact unframe_turn b hb r hr (by omega) j hj
  · cases hu : unframe ((frameOf b).take r ++ [j]) with
    | none => rfl
    | some x =>
      exfalso
      obtain ⟨h1, h2, -, -, -⟩ := unframe_some hu
      rw [List.length_append, List.length_take, Nat.min_eq_left (by omega), List.length_singleton] at h2
      have e : (frameOf b).take r ++ [j] = four b.length ++ (((frameOf b).take r).drop 4 ++ [j]) := by
        rw [← List.append_assoc]
        have h4 : ((frameOf b).take r).take 4 = four b.length := by
          rw [List.take_take, Nat.min_eq_left (by omega), frameOf, List.append_assoc]
          exact List.take_left' rfl
        rw [← h4, List.take_append_drop]
      rw [e, numOf_four _ (by omega)] at h1
      omega
theorem unframe_one (j : UInt8) : unframe [j] = none := by
  cases hu : unframe [j] with
  | none => rfl
  | some x =>
    exfalso
    obtain ⟨-, h2, -, -, -⟩ := unframe_some hu
    simp at h2
theorem risen_take : ∀ (l : List It) (z : Int) (k : Nat), risen z l → risen z (l.take k)
  | [], z, k, h => by simp [risen]
  | p :: r, z, 0, h => trivial
  | p :: r, z, k + 1, h => ⟨h.1, risen_take r _ k h.2⟩
theorem take_past {α : Type} (a b : List α) (r : Nat) : (a ++ b).take (a.length + r) = a ++ b.take r := by
  rw [List.take_append, List.take_of_length_le (by omega), show a.length + r - a.length = r by omega]
theorem scan_torn (its : List It) (hok : ∀ p ∈ its, okIt p) (hz : risen 0 its) (n k : Nat) (hn : n ≤ (catI its).length) (hk : k ≤ its.length) (h1 : (catI (its.take k)).length ≤ n) (h2 : k < its.length → n < (catI (its.take (k + 1))).length) (j : UInt8) (hj : ∀ h : n < (catI its).length, j ≠ (catI its)[n]'h) : scanF ((catI its).take n ++ [j]) 0 = its.take k := by
  obtain ⟨r, hr⟩ : ∃ r, n = (catI (its.take k)).length + r := ⟨n - (catI (its.take k)).length, by omega⟩
  have e0 : catI its = catI (its.take k) ++ catI (its.drop k) := by rw [← catI_app, List.take_append_drop]
  have e1 : (catI its).take n = catI (its.take k) ++ (catI (its.drop k)).take r := by
    rw [e0, hr]
    exact take_past _ _ _
  rw [e1, List.append_assoc, scan_cat _ _ 0 (fun p hp => hok p (List.mem_of_mem_take hp)) (risen_take _ _ _ hz)]
  suffices h : unframe ((catI (its.drop k)).take r ++ [j]) = none by rw [scanF_none h, List.append_nil]
  by_cases hlt : k < its.length
  · have h3 := h2 hlt
    rw [cat_take hlt, List.length_append] at h3
    have hd : its.drop k = its[k]'hlt :: its.drop (k + 1) := List.drop_eq_getElem_cons hlt
    have hok' := hok _ (List.getElem_mem hlt)
    rw [hd, catI_cons] at e0 ⊢
    generalize (its[k]'hlt) = p at e0 h3 hok' ⊢
    have hrl : r < (itB p).length := by omega
    rw [List.take_append, show r - (itB p).length = 0 by omega, List.take_zero, List.append_nil]
    refine unframe_junk _ (Nat.le_trans hok'.len (by omega)) r hrl j (fun e => ?_)
    have hnl : n < (catI its).length := by rw [e0, List.length_append, List.length_append]; omega
    refine hj hnl (e.trans ?_)
    have hg : (catI its)[n]? = (itB p)[r]? := by
      rw [e0, hr, List.getElem?_append_right (by omega), show (catI (its.take k)).length + r - (catI (its.take k)).length = r by omega, List.getElem?_append_left hrl]
    rw [List.getElem?_eq_getElem hnl, List.getElem?_eq_getElem hrl] at hg
    exact (Option.some.inj hg).symm
  · have hd : its.drop k = [] := List.drop_of_length_le (by omega)
    rw [hd]
    show unframe (([] : List UInt8).take r ++ [j]) = none
    rw [List.take_nil]
    exact unframe_one j
theorem torn_len (its : List It) (n k : Nat) (hn : n ≤ (catI its).length) (j : UInt8) : ((catI its).take n ++ [j]).length = n + 1 := by
  rw [List.length_append, List.length_take, Nat.min_eq_left hn]
  rfl
end Go.Proofs.YtaeoafedfgbcaaaDoor.DD

namespace Go.Proofs.YtaeoafedfgbcaaaDoor.DD
set_option linter.unusedVariables false
open Go.RowKit
set_option linter.unusedVariables false

theorem owns_head {w : World} {base T size n C : Nat} {A : Option Addr} {xs : List Value} (h : w.ownsRow base T size (.slice A n C) n xs) (k : Nat) (hk : k ≤ n) : w.ownsRow base T size (.slice A k C) k (xs.take (k * size)) := by
  have hm : k * size ≤ n * size := Nat.mul_le_mul_right size hk
  refine ⟨by rw [List.length_take, h.1, Nat.min_eq_left hm], ?_⟩
  rcases h.2 with ⟨e, h0⟩ | ⟨g, cp0, cur, hv, hb, hg, hc, hmx, hs, ht⟩
  · subst h0
    obtain rfl : k = 0 := by omega
    cases e
    exact .inl ⟨rfl, rfl⟩
  · cases hv
    exact .inr ⟨g, _, cur, rfl, hb, hg, by omega, hmx, hs, by rw [← ht, List.take_take, Nat.min_eq_left hm]⟩
theorem evd2_take : ∀ (l : List El2) (k : Nat), (evd2 l).take (k * 16) = evd2 (l.take k)
  | [], k => by simp [evd2]
  | e :: l, 0 => by simp [evd2]
  | e :: l, k + 1 => by
    show (ev2 e ++ evd2 l).take ((k + 1) * 16) = ev2 e ++ evd2 (l.take k)
    rw [← evd2_take l k, List.take_append, ev2_len, List.take_of_length_le (by rw [ev2_len]; omega), show (k + 1) * 16 - 16 = k * 16 by omega]
theorem int_at {w : World} {base n C : Nat} {A : Option Addr} {xs : List Nat} (h : w.ownsRow base 3 1 (.slice A n C) n (xs.map nI)) (k : Nat) (hk : k < n) : ∃ g x, A = some ⟨g, 0, none⟩ ∧ g < w.heap.size ∧ base ≤ g ∧ xs[k]? = some x ∧ w.cell? ⟨g, k, none⟩ = some (.int .i64 (x : Int)) := by
  have hl := h.1
  rw [List.length_map, Nat.mul_one] at hl
  obtain ⟨g, rfl⟩ : ∃ g, A = some ⟨g, 0, none⟩ := by
    rcases h.2 with ⟨e, h0⟩ | ⟨g, cap, cur, e, _⟩
    · omega
    · cases e; exact ⟨g, rfl⟩
  have hb := h.lt g rfl
  obtain ⟨x, hx⟩ : ∃ x, xs[k]? = some x := ⟨xs[k]'(by omega), List.getElem?_eq_getElem _⟩
  have := h.cells (g := g) rfl k (.int .i64 (x : Int)) (by rw [List.getElem?_map, hx]; rfl)
  rw [show (⟨g, 0, none⟩ : Addr).add k = ⟨g, 0 + k, none⟩ by simp only [Addr.add]; split <;> simp_all, Nat.zero_add] at this
  exact ⟨g, x, rfl, hb.2, hb.1, hx, this⟩
set_option maxRecDepth 100000 in
set_option maxHeartbeats 2000000 in
theorem sameI_any {w : World} {base base' n C C' : Nat} {A A' : Option Addr} {xs : List Nat} (h : w.ownsRow base 3 1 (.slice A n C) n (xs.map nI)) (h' : w.ownsRow base' 3 1 (.slice A' n C') n (xs.map nI)) (hn : n ≤ 4294967296) :
    Calls Tryd.prog 12 #[.slice A n C, .slice A' n C'] w fun e w' => e = .returned (.bool true) ∧ Below w.heap.size w w' := by
  have HA : Hid _ := h
  have HB : Hid _ := h'
  clear h h'
  go_enter Tryd.func12, Tryd.ntmps12
  go_wp2
  go_loopw [5] (fun i wr => ∃ (k q : Nat), k ≤ n ∧ i = .int .i64 k ∧ wr = w.drewN q) (fun i _ => n - (intOf i).toNat)
  case atStart => exact ⟨0, 0, Nat.zero_le _, rfl, rfl⟩
  case round =>
    obtain ⟨k, q, hk, rfl, rfl⟩ := hrel
    by_cases hlt : k < n
    · obtain ⟨g1, x, rfl, -, -, e1, x1⟩ := int_at HA.out k hlt
      obtain ⟨g2, y, rfl, -, -, e2, x2⟩ := int_at HB.out k hlt
      obtain rfl : x = y := Option.some.inj (e1.symm.trans e2)
      clear e1 e2
      have hb : ((x : Int) != (x : Int)) = false := by simp
      go_wp2_with fail
      go_quiet (fail)
      go_wp2
      go_roundw
      case rel => exact ⟨k + 1, q + nq, by omega, by go_num, rfl⟩
      case measure => simp [intOf]; omega
    · go_wp2
      go_ret
      exact ⟨rfl, (Chg.drewN Non w q).below (fun _ h => h.elim) (Nat.le_refl _)⟩
theorem owns_nil' (w : World) (base : Nat) : w.ownsRow base 5 1 (.slice none 0 0) 0 (bv []) := World.ownsRow_nil _ _ _ _
set_option maxRecDepth 100000 in
theorem copyB_any {w : World} {x : Value} {l : List UInt8} (hx : Bs w x l) (hl : l.length ≤ 140737488355328) :
    Calls Tryd.prog 9 #[x] w fun e w' => ∃ A C, e = .returned (.slice A l.length C) ∧ w'.ownsRow w.heap.size 5 1 (.slice A l.length C) l.length (bv l) ∧ Below w.heap.size w w' := by
  have HX : Hid (Bs w x l) := hx
  obtain ⟨A, C, rfl⟩ := bs_form hx
  clear hx
  go_enter Tryd.func9, Tryd.ntmps9
  go_wp2_with (at_builtin; refine wpList_app rfl (.tmp 4) (.tmp 5) rfl (.slice none 0 0) (.slice A l.length C) rfl rfl (owns_nil' w w.heap.size) HX.out (Nat.le_refl _) (by simp; omega) ?_; intro A1 C1 w1 ho hg hat _)
  go_ret
  simp only [List.length_nil, Nat.zero_add, List.nil_append] at ho
  exact ⟨A1, C1, by simp, ho, (Below.refl _ _).grown hg (Nat.le_refl _) (fun k hk => by simp [blk, Value.ownBlock] at hk)⟩
set_option maxRecDepth 100000 in
theorem pick_any (x n : Int) (_hx : -9223372036854775808 ≤ x ∧ x < 9223372036854775808) (hn : n < 9223372036854775808) (h1 : 1 ≤ n) (w : World) : Calls Tryd.prog 8 #[.int .i64 x, .int .i64 n] w fun e w' => e = .returned (.int .i64 (x % n)) ∧ w' = w := by
  have hm : Int.tmod x n = if Int.tmod x n < 0 then x % n - n else x % n := by
    rw [Int.tmod_eq_emod]
    have := Int.emod_nonneg x (show n ≠ 0 by omega)
    have := Int.emod_lt_of_pos x (show 0 < n by omega)
    by_cases hx0 : 0 ≤ x ∨ n ∣ x
    · simp only [hx0, if_true]
      split <;> omega
    · simp only [hx0, if_false]
      have : (n.natAbs : Int) = n := by omega
      split <;> omega
  have hlo := Int.emod_nonneg x (show n ≠ 0 by omega)
  have hhi := Int.emod_lt_of_pos x (show 0 < n by omega)
  go_enter Tryd.func8, Tryd.ntmps8
  by_cases h : Int.tmod x n < 0
  · rw [if_pos h] at hm
    go_wp2
    go_ret
    exact ⟨by simp, rfl⟩
  · rw [if_neg h] at hm
    go_wp2
    go_ret
    exact ⟨by simp, rfl⟩
theorem addr_at (g n : Nat) : (⟨g, 0, none⟩ : Addr).add n = ⟨g, n, none⟩ := by
  simp only [Addr.add]
  split <;> simp_all
theorem byte_own {w : World} {base n C g : Nat} {l : List UInt8} (h : w.ownsRow base 5 1 (.slice (some ⟨g, 0, none⟩) n C) n (bv l)) (k : Nat) (x : UInt8) (hx : l[k]? = some x) : w.cell? ⟨g, k, none⟩ = some (.int .u8 (x.toNat : Int)) := by
  have := h.cells (g := g) rfl k (.int .u8 (x.toNat : Int)) (by rw [bv, List.getElem?_map, hx]; rfl)
  rw [addr_at] at this
  exact this
theorem at_end (l : List UInt8) (j : UInt8) (n : Nat) (h : l.length = n) : (l ++ [j])[n]? = some j := by
  rw [List.getElem?_append_right (by omega), h, Nat.sub_self]
  rfl
theorem take_len (l : List UInt8) (n : Nat) (h : n ≤ l.length) : (l.take n).length = n := by rw [List.length_take, Nat.min_eq_left h]
theorem owns_set1 {w : World} {base T g n C : Nat} {xs : List Value} (h : w.ownsRow base T 1 (.slice (some ⟨g, 0, none⟩) n C) n xs) (k : Nat) (hk : k < n) (v : Value) : (w.setCell ⟨g, k, none⟩ v).ownsRow base T 1 (.slice (some ⟨g, 0, none⟩) n C) n (xs.set k v) := by
  refine ⟨by rw [List.length_set]; exact h.1, ?_⟩
  rcases h.2 with ⟨e, h0⟩ | ⟨g', C', cur, hv, hb, hg, hc, hmx, hs, ht⟩
  · cases e
  · cases hv
    refine .inr ⟨g, _, cur.setIfInBounds k v, rfl, hb, heap_set hg k v, hc, hmx, by simpa using hs, ?_⟩
    rw [← ht, Array.toList_setIfInBounds, List.take_set]
theorem xor255n : ∀ x : Fin 256, bits BinOp.xor IntKind.u8 ((x.val : Nat) : Int) 255 = ((x.val ^^^ 255 : Nat) : Int) := by decide +kernel
theorem xor255 (j : UInt8) : bits BinOp.xor IntKind.u8 (j.toNat : Int) 255 = ((j ^^^ 255).toNat : Int) := by
  rw [UInt8.toNat_xor]
  exact xor255n ⟨j.toNat, j.toNat_lt⟩
theorem xor255_ne (j : UInt8) : j ^^^ 255 ≠ j := by
  intro h
  have h1 := congrArg UInt8.toNat h
  rw [UInt8.toNat_xor] at h1
  have : ∀ x : Fin 256, (x.val ^^^ 255 : Nat) ≠ x.val := by decide +kernel
  exact this ⟨j.toNat, j.toNat_lt⟩ h1
theorem bv_set (l : List UInt8) (j j' : UInt8) (n : Nat) (hn : l.length = n) : (bv (l ++ [j])).set n (.int .u8 (j'.toNat : Int)) = bv (l ++ [j']) := by
  subst hn
  simp [bv]
end Go.Proofs.YtaeoafedfgbcaaaDoor.DD

namespace Go.Proofs.YtaeoafedfgbcaaaDoor.DD
set_option linter.unusedVariables false
open Go.RowKit
set_option linter.unusedVariables false

structure Lp (w1 : World) (its : List It) (els : List El2) (Ad : Option Addr) (Cd : Nat) (Ae : Option Addr) (Ce : Nat) (Ab : Option Addr) (Cb : Nat) (k : Nat) (wr : World) : Prop where
  el : els.map El2.p = its
  rd : wr.ownsRow w1.heap.size 33 16 (.slice Ad its.length Cd) its.length (evd2 els)
  re : wr.ownsRow w1.heap.size 3 1 (.slice Ae its.length Ce) its.length ((endsF 0 its).map nI)
  rb : wr.ownsRow w1.heap.size 5 1 (.slice Ab (catI its).length Cb) (catI its).length (bv (catI its))
  ok : ∀ p ∈ its, okIt p
  ri : risen 0 its
  dv : ∀ e ∈ els, DV w1 e
  bel : Below w1.heap.size w1 wr
  lz : lastZ 0 its < 7 + 2 * (k : Int)
  ln : its.length ≤ k
theorem Lp.start (w1 : World) : Lp w1 [] [] none 0 none 0 none 0 0 w1 :=
  ⟨rfl, World.ownsRow_nil _ _ _ _, World.ownsRow_nil _ _ _ _, World.ownsRow_nil _ _ _ _, fun _ h => (nomatch h), trivial, fun _ h => (nomatch h), Below.refl _ _, by show (0 : Int) < _; omega, Nat.le_refl _⟩
theorem Lp.skip {w1 : World} {its : List It} {els : List El2} {Ad : Option Addr} {Cd : Nat} {Ae : Option Addr} {Ce : Nat} {Ab : Option Addr} {Cb k : Nat} {wr w' : World} (h : Lp w1 its els Ad Cd Ae Ce Ab Cb k wr) (hb : Below wr.heap.size wr w') : Lp w1 its els Ad Cd Ae Ce Ab Cb (k + 1) w' :=
  ⟨h.el, owns_keep h.rd (Chg.of_below hb) (fun _ _ e => e), owns_keep h.re (Chg.of_below hb) (fun _ _ e => e), owns_keep h.rb (Chg.of_below hb) (fun _ _ e => e), h.ok, h.ri, h.dv, h.bel.trans (hb.mono h.bel.size), by have := h.lz; omega, by have := h.ln; omega⟩
theorem cat_bound : ∀ l : List It, (∀ p ∈ l, okIt p) → (catI l).length ≤ 700008 * l.length
  | [], _ => by simp [catI]
  | p :: l, h => by
    have h1 := (h p List.mem_cons_self).len
    have h2 := cat_bound l (fun q hq => h q (List.mem_cons_of_mem _ hq))
    rw [catI_cons, List.length_append, itB_len, List.length_cons]
    omega
theorem Rowed.grow {w w' : World} {A : Option Addr} {els : List El2} {C : Nat} (h : Rowed w A els C) (hb : Below w.heap.size w w') : Rowed w' A els C := by
  rcases h with h | ⟨b, o, h1, h2, h3, h4⟩
  · exact .inl h
  · exact .inr ⟨b, o, h1, Nat.lt_of_lt_of_le h2 hb.size, h3, fun i hi j hj => (hb.cell (p := ⟨b, o + i * 16 + j, none⟩) h2).trans (h4 i hi j hj)⟩
theorem Rowed.at' {w : World} {A : Option Addr} {els : List El2} {C : Nat} (h : Rowed w A els C) (k : Nat) (hk : k < els.length) : ∃ b o, A = some ⟨b, o, none⟩ ∧ b < w.heap.size ∧ els.length ≤ C ∧ w.rangeAt b (o + k * 16) (ev2 (els[k]'hk)) := by
  rcases h with h | ⟨b, o, h1, h2, h3, h4⟩
  · subst h; simp at hk
  · refine ⟨b, o, h1, h2, h3, fun j v hj => ?_⟩
    have hj16 : j < 16 := by have := (List.getElem?_eq_some_iff.1 hj).1; rw [ev2_len] at this; exact this
    rw [h4 k hk j hj16]
    exact hj
theorem wpList_run_append {P : Program} {w w' : World} {ops : Array Oper} {rest : List Oper} {o : Oper} {a : Act} {Q : Exit → Act → World → Prop} (hg : o.guard = none) (s x : Operand) (t : TypeId) (hop : o.op = Op.call { callee := Callee.builtin Builtin.append, args := #[s, x], argTypes := #[t, t] }) {v u v' : Value} (hs : a.eval s = v) (hx : a.eval x = u)
    (hrun : (Builtin.append_ #[t, t] o.type #[v, u]).run P w = .ok v' w') (h : wpList P ops Q rest (a.put o.dst v') w') : wpList P ops Q (o :: rest) a w := by
  refine wpList_plain hg fun K hK => ?_
  unfold Oper.wp execOp
  simp only [hop, resolve, invoke, builtin, Sem.run_bind, Sem.run_pure, Result.andThen_ok, List.map_toArray, List.map_cons, List.map_nil, hs, hx, hrun]
  exact hK _ _ h
/- append(deeds, d): the deed lies in a block of its own. -/
theorem appD {W : World} {base k C : Nat} {A : Option Addr} {xs : List Value} (ho : W.ownsRow base 33 16 (.slice A k C) k xs) (hb : base ≤ W.heap.size) (hk : k ≤ 4294967296) (cells : Array Value) (hc : cells.size = 16) (h1 : ∀ u ∈ cells.toList, u.oneCell' = true) :
    ∃ g cap W1, (Builtin.append_ #[22, 22] 22 #[.slice A k C, .slice (some ⟨W.heap.size, 0, none⟩) 1 1]).run Tryd.prog (W.alloc (.cells cells 33)) = .ok (.slice (some ⟨g, 0, none⟩) (k + 1) cap) W1 ∧
      W1.ownsRow base 33 16 (.slice (some ⟨g, 0, none⟩) (k + 1) cap) (k + 1) (xs ++ cells.toList) ∧
      Chg (fun i => (Value.slice A k C).ownBlock = some i) W W1 := by
  obtain ⟨i0, hi, hz0, hz1, hz2⟩ := info_parts infoD
  obtain ⟨g, cap, W1, hr, h2, h3, h4, h5⟩ := run_append_lies (P := Tryd.prog) (W.alloc (.cells cells 33)) 22 22 base 33 i0 _ 16 184 Tryd.underlying22 hi hz0 hz1 hz2 rfl (by decide) (.slice A k C) k xs (ho.alloc _) ⟨W.heap.size, 0, none⟩ 1 1 cells.toList (by rw [Array.length_toList, hc]) (World.news_of_block (heap_alloc_new W _)) h1 (by omega) (by unfold maxLen; omega) (by omega) (by simp; omega) (W.heap.size + 1) (by simp)
  exact ⟨g, cap, W1, hr, h2, (Chg.alloc _ W _).trans (Chg.of_grown h3)⟩
theorem evd2_snoc (els : List El2) (f : Fl) (ps : List Fl) (A1 A2 A3 : Option Addr) (c1 c2 c3 : Nat) : evd2 els ++ [.int .i64 f.zxid, .int .u8 f.kind, .int .i64 f.session, .int .i64 f.turn, .int .i64 f.xid, .int .i64 f.time, .string (mkS f.path), .slice A1 f.data.length c1, .int .i64 f.owner, .int .i64 f.version, .int .i64 f.cversion, .int .i64 f.timeout, .int .i64 f.err, .int .i64 f.cver, .slice A2 f.mems.length c2, .slice A3 f.np c3] = evd2 (els ++ [⟨(f, ps), A1, c1, A2, c2, A3, c3⟩]) := (evd2_app els ⟨(f, ps), A1, c1, A2, c2, A3, c3⟩).symm
/- What the three appends of a round make. -/
theorem round_runs {w1 : World} {its : List It} {els : List El2} {Ad : Option Addr} {Cd : Nat} {Ae : Option Addr} {Ce : Nat} {Ab : Option Addr} {Cb k : Nat} {wr w4 : World} (h : Lp w1 its els Ad Cd Ae Ce Ab Cb k wr) (hb : Below wr.heap.size wr w4) (hk : k < 30) {f : Fl} {ps : List Fl} {A1 A2 A3 : Option Addr} {c1 c2 c3 : Nat} (hz : f.zxid = 7 + 2 * (k : Int)) (hok : okIt (f, ps)) (hdv : DVal w1 f ps A1 c1 A2 c2 A3 c3) {v : Value} (hv : Bs w4 v (itB (f, ps))) {M : Nat} (hM : M = (catI its).length + (itB (f, ps)).length) :
    ∃ A4 C4 w5 g6 C6 w6 g7 C7 w7, (Builtin.append_ #[25, 25] 25 #[.slice Ab (catI its).length Cb, v]).run Tryd.prog w4 = .ok (.slice A4 M C4) w5 ∧ Below w1.heap.size w1 w5 ∧ Below wr.heap.size wr w4 ∧ (∀ b, b < w4.heap.size → w1.heap.size ≤ b → (Value.slice Ab (catI its).length Cb).ownBlock ≠ some b → w5.heap[b]? = w4.heap[b]?) ∧ w4.heap.size ≤ w5.heap.size ∧
      (Builtin.append_ #[22, 22] 22 #[.slice Ad its.length Cd, .slice (some ⟨w5.heap.size, 0, none⟩) 1 1]).run Tryd.prog (w5.alloc (.cells #[.int .i64 f.zxid, .int .u8 f.kind, .int .i64 f.session, .int .i64 f.turn, .int .i64 f.xid, .int .i64 f.time, .string (mkS f.path), .slice A1 f.data.length c1, .int .i64 f.owner, .int .i64 f.version, .int .i64 f.cversion, .int .i64 f.timeout, .int .i64 f.err, .int .i64 f.cver, .slice A2 f.mems.length c2, .slice A3 f.np c3] 33)) = .ok (.slice (some ⟨g6, 0, none⟩) (its.length + 1) C6) w6 ∧
      (Builtin.append_ #[24, 24] 24 #[.slice Ae its.length Ce, .slice (some ⟨w6.heap.size, 0, none⟩) 1 1]).run Tryd.prog (w6.alloc (.cells #[.int .i64 M] 3)) = .ok (.slice (some ⟨g7, 0, none⟩) (its.length + 1) C7) w7 ∧
      Lp w1 (its ++ [(f, ps)]) (els ++ [⟨(f, ps), A1, c1, A2, c2, A3, c3⟩]) (some ⟨g6, 0, none⟩) C6 (some ⟨g7, 0, none⟩) C7 A4 C4 (k + 1) w7 := by
  have hs4 : w1.heap.size ≤ w4.heap.size := Nat.le_trans h.bel.size hb.size
  have rb4 := owns_keep h.rb (Chg.of_below hb) (fun _ _ e => e)
  have rd4 := owns_keep h.rd (Chg.of_below hb) (fun _ _ e => e)
  have re4 := owns_keep h.re (Chg.of_below hb) (fun _ _ e => e)
  have hcb := cat_bound its h.ok
  have hil : (itB (f, ps)).length ≤ 700008 := by rw [itB_len]; have := hok.len; omega
  have hln := h.ln
  obtain ⟨v', w5, hr5, ho5, hg5, -, -⟩ := app_bytes 25 rb4 hv hs4 (by omega)
  obtain ⟨A4, C4, rfl⟩ := owns_form' ho5
  rw [List.length_append, ← hM] at hr5 ho5
  have c45 : Chg (fun i => (Value.slice Ab (catI its).length Cb).ownBlock = some i) w4 w5 := Chg.of_grown hg5
  have b5 : Below w1.heap.size w1 w5 := (h.bel.trans (hb.mono h.bel.size)).grown hg5 hs4 (fun j e => (rb4.lt j e).1)
  have ap1 : ∀ j, (Value.slice Ab (catI its).length Cb).ownBlock = some j → (Value.slice Ad its.length Cd).ownBlock ≠ some j := by
    intro j e1 e2
    obtain ⟨x1, g1⟩ := own_cells rb4 e1
    obtain ⟨x2, g2⟩ := own_cells rd4 e2
    rw [g1] at g2
    cases g2
  have ap2 : ∀ j, (Value.slice Ab (catI its).length Cb).ownBlock = some j → (Value.slice Ae its.length Ce).ownBlock ≠ some j := by
    intro j e1 e2
    obtain ⟨x1, g1⟩ := own_cells rb4 e1
    obtain ⟨x2, g2⟩ := own_cells re4 e2
    rw [g1] at g2
    cases g2
  have rd5 := owns_keep rd4 c45 (fun j e1 e2 => ap1 j e2 e1)
  have re5 := owns_keep re4 c45 (fun j e1 e2 => ap2 j e2 e1)
  have hs5 : w1.heap.size ≤ w5.heap.size := b5.size
  obtain ⟨g6, C6, w6, hr6, ho6, c56⟩ := appD rd5 hs5 (by omega) #[.int .i64 f.zxid, .int .u8 f.kind, .int .i64 f.session, .int .i64 f.turn, .int .i64 f.xid, .int .i64 f.time, .string (mkS f.path), .slice A1 f.data.length c1, .int .i64 f.owner, .int .i64 f.version, .int .i64 f.cversion, .int .i64 f.timeout, .int .i64 f.err, .int .i64 f.cver, .slice A2 f.mems.length c2, .slice A3 f.np c3] rfl (ev2_one ⟨(f, ps), A1, c1, A2, c2, A3, c3⟩)
  have ap3 : ∀ j, (Value.slice Ad its.length Cd).ownBlock = some j → (Value.slice Ae its.length Ce).ownBlock ≠ some j := by
    intro j e1 e2
    obtain ⟨x1, g1⟩ := own_cells rd4 e1
    obtain ⟨x2, g2⟩ := own_cells re4 e2
    rw [g1] at g2
    cases g2
  have ap4 : ∀ j, (Value.slice Ad its.length Cd).ownBlock = some j → (Value.slice A4 M C4).ownBlock ≠ some j := by
    intro j e1 e2
    obtain ⟨x1, g1⟩ := own_cells rd5 e1
    obtain ⟨x2, g2⟩ := own_cells ho5 e2
    rw [g1] at g2
    cases g2
  have re6 := owns_keep re5 c56 (fun j e1 e2 => ap3 j e2 e1)
  have rb6 := owns_keep ho5 c56 (fun j e1 e2 => ap4 j e2 e1)
  have b6 : Below w1.heap.size w1 w6 := b5.trans (c56.below (fun j e => (rd5.lt j e).1) hs5)
  obtain ⟨g7, C7, w7, hr7, ho7, c67, -⟩ := appI re6 b6.size (by omega) (M : Int)
  have ap5 : ∀ j, (Value.slice Ae its.length Ce).ownBlock = some j → (Value.slice A4 M C4).ownBlock ≠ some j := by
    intro j e1 e2
    obtain ⟨x1, g1⟩ := own_cells re6 e1
    obtain ⟨x2, g2⟩ := own_cells rb6 e2
    rw [g1] at g2
    cases g2
  have ap6 : ∀ j, (Value.slice Ae its.length Ce).ownBlock = some j → (Value.slice (some ⟨g6, 0, none⟩) (its.length + 1) C6).ownBlock ≠ some j := by
    intro j e1 e2
    obtain ⟨x1, g1⟩ := own_cells re6 e1
    obtain ⟨x2, g2⟩ := own_cells ho6 e2
    rw [g1] at g2
    cases g2
  have rb7 := owns_keep rb6 c67 (fun j e1 e2 => ap5 j e2 e1)
  have rd7 := owns_keep ho6 c67 (fun j e1 e2 => ap6 j e2 e1)
  have b7 : Below w1.heap.size w1 w7 := b6.trans (c67.below (fun j e => (re6.lt j e).1) b6.size)
  refine ⟨A4, C4, w5, g6, C6, w6, g7, C7, w7, hr5, b5, hb, fun b hb4 _ hn => c45.block b hb4 hn, hg5.size, hr6, hr7, ?_⟩
  have e1 : (its ++ [(f, ps)]).length = its.length + 1 := by simp
  have e2 : catI (its ++ [(f, ps)]) = catI its ++ itB (f, ps) := by rw [catI_app, catI_one]
  have e3 : (catI (its ++ [(f, ps)])).length = M := by rw [e2, List.length_append, hM]
  refine ⟨by rw [List.map_append, h.el]; rfl, ?_, ?_, ?_, ?_, ?_, ?_, b7, ?_, ?_⟩
  · rw [e1, ← evd2_snoc]; exact rd7
  · rw [e1, endsF_app, List.map_append, Nat.zero_add, ← hM]; exact ho7
  · rw [e3, e2]; exact rb7
  · intro p hp
    rcases List.mem_append.1 hp with hp | hp
    · exact h.ok p hp
    · rw [List.mem_singleton.1 hp]; exact hok
  · exact (risen_app _ _ _).2 ⟨h.ri, by show lastZ 0 its < f.zxid; rw [hz]; exact h.lz⟩
  · intro e he
    rcases List.mem_append.1 he with he | he
    · exact h.dv e he
    · rw [List.mem_singleton.1 he]; exact hdv
  · rw [lastZ_app]; show f.zxid < _; rw [hz]; omega
  · rw [e1]; omega
end Go.Proofs.YtaeoafedfgbcaaaDoor.DD
