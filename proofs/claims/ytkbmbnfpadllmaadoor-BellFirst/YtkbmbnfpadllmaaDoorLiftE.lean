/- What a row of bytes that comes in gives: where it lies, and how long it may be. -/
import Derived.Test.YtkbmbnfpadllmaaDoorRows
import Derived.ProofKit
import Derived.OpenShut
import Derived.ShutString
import Derived.ChangeOld
import Derived.SizedLaws
import Derived.Test.YtkbmbnfpadllmaaDoorBase
import Derived.Deep.Slices
import Derived.Deep.Strs
import Derived.Lib.SmallJoins
import Derived.JoinedCond
import Derived.Test.YtkbmbnfpadllmaaDoorEnsB
namespace Go.Proofs.YtkbmbnfpadllmaaDoor
open Go.ChangeShapes Go.WideShapes Go.ChangeAt Go.RowKit

theorem wf_u8 {n : Int} (h : (Lit.int .u8 n).wf = true) : 0 ≤ n ∧ n < 256 := by
  have : 0 ≤ n ∧ n ≤ 255 := by simpa [Lit.wf, IntKind.min, IntKind.max, IntKind.signed, IntKind.bits] using h
  omega
theorem wf_i64 {n : Int} (h : (Lit.int .i64 n).wf = true) : -9223372036854775808 ≤ n ∧ n < 9223372036854775808 := by
  have : -9223372036854775808 ≤ n ∧ n ≤ 9223372036854775807 := by simpa [Lit.wf, IntKind.min, IntKind.max, IntKind.signed, IntKind.bits] using h
  omega
def toB (zs : List Int) : List UInt8 := zs.map fun n => UInt8.ofNat n.toNat
theorem toB_len (zs : List Int) : (toB zs).length = zs.length := by simp [toB]
theorem toB_at (zs : List Int) (h : ∀ n ∈ zs, (Lit.int .u8 n).wf = true) (j : Nat) (hj : j < zs.length) (hj2 : j < (toB zs).length) : (((toB zs)[j]'hj2).toNat : Int) = zs.getD j 0 := by
  have h1 := wf_u8 (h _ (List.getElem_mem hj))
  simp only [toB, List.getElem_map, List.getD_eq_getElem?_getD, List.getElem?_eq_getElem hj, Option.getD_some, UInt8.toNat_ofNat']
  omega
theorem plain_add (b o j : Nat) : (⟨b, o, none⟩ : Addr).add j = ⟨b, o + j, none⟩ := by simp only [Addr.add]; split <;> simp_all
theorem bytes_read {H : Type} {enc : TypeId × Value → H} {W : World} {fuel : Nat} {cs : List Value} {x : DataW H × List MemPlace}
    (hf : DataW.trod enc Tryd.prog W 0 (fun _ => true) true fuel 25 cs = some x) :
    ∃ l A C, cs = [.slice A l.length C] ∧ Bs W (.slice A l.length C) l ∧ ((∀ y ∈ DataW.weights Tryd.prog 25 x.1, y ≤ reachBytes) → l.length ≤ 140737488351232) ∧ (x.1 = .nil ∧ l = [] ∨ ∃ zs sp : List Int, x.1 = .slice (lits .u8 zs) (lits .u8 sp) ∧ zs.length = l.length) := by
  rcases open_ints Tryd.underlying25 Tryd.underlying5 (by kernel_rfl) hf with ⟨hcs, hx⟩ | ⟨a, len, cap, zs, hcs, _, hl, hm, hz, hx, hcell, hwz⟩
  · exact ⟨[], none, 0, hcs, Bs.nil _, fun _ => by simp, .inl ⟨by rw [hx], rfl⟩⟩
  · simp only [if_true] at hz
    have hlen : (toB (zs.take len)).length = len := by rw [toB_len, List.length_take]; omega
    refine ⟨toB (zs.take len), some a, cap, by rw [hlen]; exact hcs, ?_, fun hw => ?_, .inr ⟨zs.take len, zs.drop len, by rw [hx], by rw [hlen, List.length_take]; omega⟩⟩
    · by_cases h0 : 0 < len
      · obtain ⟨b, o, spot⟩ := a
        have hsp : spot = none := by simpa [Addr.add] using World.cell?_spot (hcell 0 (by omega))
        subst hsp
        have hlt : b < W.heap.size := World.block_lt_of_cell? W _ (hcell 0 (by omega))
        refine Bs.mk b o cap rfl (by omega) hlt fun j hj => ?_
        have hj2 : j < len := by omega
        rw [toB_at (zs.take len) (fun n hn => hwz n (List.mem_of_mem_take hn)) j (by rw [List.length_take]; omega)]
        have := hcell j (by omega)
        rw [plain_add] at this
        rw [this]
        simp [List.getD_eq_getElem?_getD, hj2]
      · have e : toB (zs.take len) = [] := List.length_eq_zero_iff.1 (by omega)
        rw [e]
        exact .inr (.inl ⟨a, cap, rfl, rfl⟩)
    · have hb : Tryd.prog.bytesOf 5 = 1 := by kernel_rfl
      have := hw (((lits IntKind.u8 (zs.take len) : List (DataW H)).length + (lits IntKind.u8 (zs.drop len) : List (DataW H)).length) * Tryd.prog.bytesOf 5) (by
        rw [hx]
        simp only [DataW.weights, Tryd.underlying25]
        exact List.mem_cons_self)
      rw [hb] at this
      have hr : reachBytes = 140737488351232 := rfl
      rw [hr] at this
      simp [lits] at this
      omega
theorem bytes_in {H : Type} {enc : TypeId × Value → H} {W : World} {fuel : Nat} {a : Option Addr} {len cap : Nat} {d : DataW H} {p : List MemPlace}
    (hf : DataW.trod enc Tryd.prog W 0 (fun _ => true) true fuel 25 (Value.slice a len cap).cells.toList = some (d, p)) :
    ∃ l, Bs W (.slice a len cap) l ∧ ((∀ x ∈ DataW.weights Tryd.prog 25 d, x ≤ reachBytes) → l.length ≤ 140737488351232) ∧ (d = .nil ∧ l = [] ∨ ∃ zs sp : List Int, d = .slice (lits .u8 zs) (lits .u8 sp) ∧ zs.length = l.length) := by
  obtain ⟨l, A, C, hcs, h1, h2, h3⟩ := bytes_read hf
  simp [Value.cells] at hcs
  obtain ⟨rfl, rfl, rfl⟩ := hcs
  exact ⟨l, h1, h2, h3⟩
end Go.Proofs.YtkbmbnfpadllmaaDoor
/- What a config, numbers and configs that come in give: where they lie, and how many they may be. -/
namespace Go.Proofs.YtkbmbnfpadllmaaDoor
open Go.ChangeShapes Go.WideShapes Go.ChangeAt Go.RowKit

theorem list_of {α : Type} (P : Nat → α → Prop) : ∀ n, (∀ i, i < n → ∃ x, P i x) → ∃ l : List α, l.length = n ∧ ∀ i (h : i < l.length), P i (l[i]'h)
  | 0, _ => ⟨[], rfl, fun i h => by simp at h⟩
  | n + 1, h => by
    obtain ⟨l, hl, hp⟩ := list_of P n (fun i hi => h i (by omega))
    obtain ⟨x, hx⟩ := h n (by omega)
    refine ⟨l ++ [x], by simp [hl], fun i hi => ?_⟩
    by_cases hlt : i < l.length
    · rw [List.getElem_append_left hlt]; exact hp i hlt
    · have : i = l.length := by simp at hi; omega
      subst this
      rw [List.getElem_append_right (Nat.le_refl _)]
      simp only [Nat.sub_self, List.getElem_cons_zero]
      rw [hl]; exact hx
theorem cells4 {w : World} {b o : Nat} {cs : List Value} (h : w.cells? 0 ⟨b, o, none⟩ 4 = some cs) : ∃ v0 v1 v2 v3, cs = [v0, v1, v2, v3] ∧ w.cell? ⟨b, o, none⟩ = some v0 ∧ w.cell? ⟨b, o + 1, none⟩ = some v1 ∧ w.cell? ⟨b, o + 2, none⟩ = some v2 ∧ w.cell? ⟨b, o + 3, none⟩ = some v3 := by
  unfold World.cells? at h
  rw [if_pos (Nat.zero_le _), show List.range 4 = [0, 1, 2, 3] from rfl] at h
  simp only [List.mapM_cons, List.mapM_nil, plain_add, Nat.add_zero] at h
  cases h0 : w.cell? ⟨b, o, none⟩ with
  | none => simp [h0] at h
  | some v0 =>
    cases h1 : w.cell? ⟨b, o + 1, none⟩ with
    | none => simp [h0, h1] at h
    | some v1 =>
      cases h2 : w.cell? ⟨b, o + 2, none⟩ with
      | none => simp [h0, h1, h2] at h
      | some v2 =>
        cases h3 : w.cell? ⟨b, o + 3, none⟩ with
        | none => simp [h0, h1, h2, h3] at h
        | some v3 =>
          simp [h0, h1, h2, h3] at h
          exact ⟨v0, v1, v2, v3, h.symm, rfl, rfl, rfl, rfl⟩
theorem cells2 {w : World} {b o : Nat} {cs : List Value} (h : w.cells? 0 ⟨b, o, none⟩ 2 = some cs) : ∃ v0 v1, cs = [v0, v1] ∧ w.cell? ⟨b, o, none⟩ = some v0 ∧ w.cell? ⟨b, o + 1, none⟩ = some v1 := by
  unfold World.cells? at h
  rw [if_pos (Nat.zero_le _), show List.range 2 = [0, 1] from rfl] at h
  simp only [List.mapM_cons, List.mapM_nil, plain_add, Nat.add_zero] at h
  cases h0 : w.cell? ⟨b, o, none⟩ with
  | none => simp [h0] at h
  | some v0 =>
    cases h1 : w.cell? ⟨b, o + 1, none⟩ with
    | none => simp [h0, h1] at h
    | some v1 =>
      simp [h0, h1] at h
      exact ⟨v0, v1, h.symm, rfl, rfl⟩
theorem mem_cells : Tryd.prog.cellsOf 140 = 4 := by kernel_rfl
theorem ens_cells : Tryd.prog.cellsOf 29 = 2 := by kernel_rfl
/- A member's numbers fit their fields. -/
def MemFit (m : Mem) : Prop := (-9223372036854775808 ≤ m.id ∧ m.id < 9223372036854775808) ∧ (0 ≤ m.role ∧ m.role < 256) ∧ (-9223372036854775808 ≤ m.weight ∧ m.weight < 9223372036854775808) ∧ (-9223372036854775808 ≤ m.group ∧ m.group < 9223372036854775808)
set_option maxRecDepth 100000 in
theorem mems_read {H : Type} {enc : TypeId × Value → H} {W : World} {fuel : Nat} {cs : List Value} {x : DataW H × List MemPlace}
    (hf : DataW.trod enc Tryd.prog W 0 (fun _ => true) true fuel 27 cs = some x) :
    ∃ l A C, cs = [.slice A l.length C] ∧ Mems W (.slice A l.length C) l ∧ l.length ≤ maxLen ∧ (∀ m ∈ l, MemFit m) ∧ ((∀ y ∈ DataW.weights Tryd.prog 27 x.1, y ≤ reachBytes) → l.length ≤ 4398046511104) := by
  rcases Go.Deep.open_slice Tryd.underlying27 hf with ⟨hcs, hx⟩ | ⟨ad, len, cap, m, n, D, Pl, hcs, _, hl, hmx, hm, hx, hel⟩
  · exact ⟨[], none, 0, hcs, .inl ⟨rfl, rfl⟩, by simp, fun m hm => by simp at hm, fun _ => by simp⟩
  · simp only [if_true] at hm
    subst hm
    have hd : x.1 = .slice ((List.range len).map D) ((List.range (m - len)).map fun j => D (len + j)) := congrArg Prod.fst hx
    have hsz : (∀ y ∈ DataW.weights Tryd.prog 27 x.1, y ≤ reachBytes) → len ≤ 4398046511104 := by
      intro hw
      have hb : Tryd.prog.bytesOf 140 = 32 := by kernel_rfl
      have := hw ((((List.range len).map D).length + ((List.range (m - len)).map fun j => D (len + j)).length) * Tryd.prog.bytesOf 140) (by
        rw [hd]
        simp only [DataW.weights, Tryd.underlying27]
        exact List.mem_cons_self)
      rw [hb] at this
      have hr : reachBytes = 140737488351232 := rfl
      rw [hr, List.length_map, List.length_map, List.length_range, List.length_range] at this
      omega
    by_cases h0 : 0 < len
    · obtain ⟨cs0, hc0, _⟩ := hel 0 (by omega)
      obtain ⟨b, o, spot⟩ := ad
      rw [mem_cells] at hel hc0
      have hsp : spot = none := by
        unfold World.cells? at hc0
        rw [if_pos (Nat.zero_le _), show List.range 4 = [0, 1, 2, 3] from rfl] at hc0
        simp only [List.mapM_cons] at hc0
        cases h : W.cell? ((({ block := b, off := o, spot := spot } : Addr).add (0 * 4)).add 0) with
        | none => simp [h] at hc0
        | some u => simpa [Addr.add] using World.cell?_spot h
      subst hsp
      have key : ∀ i, i < len → ∃ z : Mem, (W.cell? ⟨b, o + i * 4, none⟩ = some (.int .i64 z.id) ∧ W.cell? ⟨b, o + i * 4 + 1, none⟩ = some (.int .u8 z.role) ∧ W.cell? ⟨b, o + i * 4 + 2, none⟩ = some (.int .i64 z.weight) ∧ W.cell? ⟨b, o + i * 4 + 3, none⟩ = some (.int .i64 z.group)) ∧ MemFit z := by
        intro i hi
        obtain ⟨cs', hc1, hc2⟩ := hel i (by omega)
        rw [plain_add] at hc1
        obtain ⟨v0, v1, v2, v3, rfl, c0, c1, c2, c3⟩ := cells4 hc1
        obtain ⟨y0, y1, y2, y3, n', hy, _, t0, t1, t2, t3⟩ := Joins.trod_struct4 Tryd.underlying140 hc2
        obtain ⟨z0, hz0, _, w0⟩ := DataW.trod_int Tryd.underlying3 t0
        obtain ⟨z1, hz1, _, w1⟩ := DataW.trod_int Tryd.underlying138 t1
        obtain ⟨z2, hz2, _, w2⟩ := DataW.trod_int Tryd.underlying3 t2
        obtain ⟨z3, hz3, _, w3⟩ := DataW.trod_int Tryd.underlying3 t3
        have e0 : v0 = .int .i64 z0 := by have := hz0; revert this; simp [show Tryd.prog.cellsOf 3 = 1 by kernel_rfl]
        have e1 : v1 = .int .u8 z1 := by have := hz1; revert this; simp [show Tryd.prog.cellsOf 138 = 1 by kernel_rfl]
        have e2 : v2 = .int .i64 z2 := by have := hz2; revert this; simp [show Tryd.prog.cellsOf 3 = 1 by kernel_rfl]
        have e3 : v3 = .int .i64 z3 := by have := hz3; revert this; simp [show Tryd.prog.cellsOf 3 = 1 by kernel_rfl]
        subst e0; subst e1; subst e2; subst e3
        exact ⟨⟨z0, z1, z2, z3⟩, ⟨c0, c1, c2, c3⟩, wf_i64 w0, wf_u8 w1, wf_i64 w2, wf_i64 w3⟩
      obtain ⟨l, hll, hp⟩ := list_of _ len key
      refine ⟨l, _, m, by rw [hll]; exact hcs, .inr (.inr ⟨by omega, b, o, m, rfl, by omega, ?_, fun j hj => (hp j hj).1⟩), by omega, fun z hz => ?_, fun hw => by rw [hll]; exact hsz hw⟩
      · obtain ⟨z, hz, _⟩ := key 0 h0
        exact World.block_lt_of_cell? W _ hz.1
      · obtain ⟨j, hj, rfl⟩ := List.getElem_of_mem hz
        exact (hp j hj).2
    · have hl0 : len = 0 := by omega
      subst hl0
      exact ⟨[], some ad, m, hcs, .inr (.inl ⟨ad, m, rfl, rfl⟩), by simp, fun m hm => by simp at hm, fun _ => by simp⟩
set_option maxRecDepth 100000 in
theorem ints_read {H : Type} {enc : TypeId × Value → H} {W : World} {fuel : Nat} {cs : List Value} {x : DataW H × List MemPlace}
    (hf : DataW.trod enc Tryd.prog W 0 (fun _ => true) true fuel 124 cs = some x) :
    ∃ l A C, cs = [.slice A l.length C] ∧ Ns W (.slice A l.length C) l ∧ l.length ≤ maxLen ∧ (∀ n ∈ l, -9223372036854775808 ≤ n ∧ n < 9223372036854775808) ∧ ((∀ y ∈ DataW.weights Tryd.prog 124 x.1, y ≤ reachBytes) → l.length ≤ 17592186044416) := by
  rcases open_ints Tryd.underlying124 Tryd.underlying3 (by kernel_rfl) hf with ⟨hcs, hx⟩ | ⟨a, len, cap, zs, hcs, _, hl, hm, hz, hx, hcell, hwz⟩
  · exact ⟨[], none, 0, hcs, .inl ⟨rfl, rfl⟩, by simp, fun n hn => by simp at hn, fun _ => by simp⟩
  · simp only [if_true] at hz
    have hlen : (zs.take len).length = len := by rw [List.length_take]; omega
    refine ⟨zs.take len, some a, cap, by rw [hlen]; exact hcs, ?_, by rw [hlen]; omega, fun n hn => wf_i64 (hwz n (List.mem_of_mem_take hn)), fun hw => ?_⟩
    · by_cases h0 : 0 < len
      · obtain ⟨b, o, spot⟩ := a
        have hsp : spot = none := by simpa [Addr.add] using World.cell?_spot (hcell 0 (by omega))
        subst hsp
        have hlt : b < W.heap.size := World.block_lt_of_cell? W _ (hcell 0 (by omega))
        refine .inr (.inr ⟨by rw [hlen]; exact h0, b, o, cap, rfl, by rw [hlen]; omega, hlt, fun j hj => ?_⟩)
        have := hcell j (by omega)
        rw [plain_add] at this
        rw [this, List.getElem_take]
        simp [List.getD_eq_getElem?_getD, show j < zs.length by omega]
      · have e : zs.take len = [] := List.length_eq_zero_iff.1 (by omega)
        rw [e]
        exact .inr (.inl ⟨a, cap, rfl, rfl⟩)
    · have hb : Tryd.prog.bytesOf 3 = 8 := by kernel_rfl
      have := hw (((lits IntKind.i64 (zs.take len) : List (DataW H)).length + (lits IntKind.i64 (zs.drop len) : List (DataW H)).length) * Tryd.prog.bytesOf 3) (by
        rw [hx]
        simp only [DataW.weights, Tryd.underlying124]
        exact List.mem_cons_self)
      rw [hb] at this
      have hr : reachBytes = 140737488351232 := rfl
      rw [hr] at this
      simp [lits] at this
      rw [hlen]
      omega
theorem ints_in {H : Type} {enc : TypeId × Value → H} {W : World} {fuel : Nat} {a : Option Addr} {len cap : Nat} {d : DataW H} {p : List MemPlace}
    (hf : DataW.trod enc Tryd.prog W 0 (fun _ => true) true fuel 124 (Value.slice a len cap).cells.toList = some (d, p)) :
    ∃ l, Ns W (.slice a len cap) l ∧ l.length ≤ maxLen ∧ (∀ n ∈ l, -9223372036854775808 ≤ n ∧ n < 9223372036854775808) ∧ ((∀ y ∈ DataW.weights Tryd.prog 124 d, y ≤ reachBytes) → l.length ≤ 17592186044416) := by
  obtain ⟨l, A, C, hcs, h1, h2, h3, h4⟩ := ints_read hf
  simp [Value.cells] at hcs
  obtain ⟨rfl, rfl, rfl⟩ := hcs
  exact ⟨l, h1, h2, h3, h4⟩
set_option maxRecDepth 100000 in
theorem ens_in {H : Type} {enc : TypeId × Value → H} {W : World} {base : Nat} {v : Value} {d : DataW H} {p : List MemPlace}
    (hv : Value.okWide Tryd.prog W .any base 29 v) (h : DataW.Trod enc Tryd.prog W 0 (fun _ => true) true 29 v d p) :
    ∃ ver u l d0 d1, v = .agg #[.int .i64 ver, u] ∧ d = .agg [d0, d1] ∧ Mems W u l ∧ l.length ≤ maxLen ∧ (-9223372036854775808 ≤ ver ∧ ver < 9223372036854775808) ∧ (∀ m ∈ l, MemFit m) ∧ ((∀ y ∈ DataW.weights Tryd.prog 27 d1, y ≤ reachBytes) → l.length ≤ 4398046511104) := by
  obtain ⟨v0, v1, y0, y1, n, rfl, rfl, rfl, t0, t1⟩ := Joins.open_agg2 Tryd.underlying29 (by kernel_rfl) ens_cells hv h
  obtain ⟨z, hz, _, wz⟩ := DataW.trod_int Tryd.underlying23 t0
  obtain ⟨l, A, C, hcs, h1, h2, h3, h4⟩ := mems_read t1
  have e0 : v0 = .int .i64 z := by simpa using hz
  have e1 : v1 = .slice A l.length C := by simpa using hcs
  subst e0; subst e1
  exact ⟨z, _, l, y0.1, y1.1, rfl, rfl, h1, h2, wf_i64 wz, h3, h4⟩
end Go.Proofs.YtkbmbnfpadllmaaDoor
