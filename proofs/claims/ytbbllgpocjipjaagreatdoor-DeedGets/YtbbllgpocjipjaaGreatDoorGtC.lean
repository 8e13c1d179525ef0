/- What a row of bytes that comes in gives: where it lies, and how long it may be. -/
import Derived.Test.YtbbllgpocjipjaaGreatDoorRows
import Derived.ProofKit
import Derived.OpenShut
import Derived.ShutString
import Derived.ChangeOld
import Derived.SizedLaws
import Derived.Test.YtbbllgpocjipjaaGreatDoorBase
import Derived.Deep.Slices
import Derived.Deep.Strs
import Derived.Lib.SmallJoins
import Derived.JoinedCond
import Derived.Test.YtbbllgpocjipjaaGreatDoorEnsB
import Derived.Test.YtbbllgpocjipjaaGreatDoorDdR
import Derived.Test.YtbbllgpocjipjaaGreatDoorCards
import Derived.Test.YtbbllgpocjipjaaGreatDoorTie
import Derived.Deep.DeepHandedRow
import Derived.Lib.LaidTab
import Derived.Test.YtbbllgpocjipjaaGreatDoorWalksC
import Derived.Test.YtbbllgpocjipjaaGreatDoorPathW
import Derived.Stop.LaidErr
namespace Go.Proofs.YtbbllgpocjipjaaGreatDoor
set_option linter.unusedVariables false
open Go.ChangeShapes Go.WideShapes Go.ChangeAt Go.RowKit

theorem wf_u8 {n : Int} (h : (Lit.int .u8 n).wf = true) : 0 ≤ n ∧ n < 256 := by
  have : 0 ≤ n ∧ n ≤ 255 := by simpa [Lit.wf, IntKind.min, IntKind.max, IntKind.signed, IntKind.bits] using h
  omega
theorem wf_i64 {n : Int} (h : (Lit.int .i64 n).wf = true) : -9223372036854775808 ≤ n ∧ n < 9223372036854775808 := by
  have : -9223372036854775808 ≤ n ∧ n ≤ 9223372036854775807 := by simpa [Lit.wf, IntKind.min, IntKind.max, IntKind.signed, IntKind.bits] using h
  omega
def toB (zs : List Int) : List UInt8 := zs.map fun n => UInt8.ofNat n.toNat
theorem toB_len (zs : List Int) : (toB zs).length = zs.length := by simp [toB]
theorem toB_at (zs : List Int) (h : ∀ n ∈ zs, (Lit.int .u8 n).wf = true) (j : Nat) (hj : j < zs.length) (hj2 : j < (toB zs).length) : (((toB zs)[j]'hj2).toNat : Int) = zs.getD j 0 := by
  have h1 := wf_u8 (h _ (List.getElem_mem hj))
  simp only [toB, List.getElem_map, List.getD_eq_getElem?_getD, List.getElem?_eq_getElem hj, Option.getD_some, UInt8.toNat_ofNat']
  omega
theorem plain_add (b o j : Nat) : (⟨b, o, none⟩ : Addr).add j = ⟨b, o + j, none⟩ := by simp only [Addr.add]; split <;> simp_all
theorem bytes_read {H : Type} {enc : TypeId × Value → H} {W : World} {fuel : Nat} {cs : List Value} {x : DataW H × List MemPlace}
    (hf : DataW.trod enc Tryz.prog W 0 (fun _ => true) true fuel 24 cs = some x) :
    ∃ l A C, cs = [.slice A l.length C] ∧ Bs W (.slice A l.length C) l ∧ ((∀ y ∈ DataW.weights Tryz.prog 24 x.1, y ≤ reachBytes) → l.length ≤ 140737488351232) ∧ (x.1 = .nil ∧ l = [] ∨ ∃ zs sp : List Int, x.1 = .slice (lits .u8 zs) (lits .u8 sp) ∧ zs.length = l.length) := by
  rcases open_ints Tryz.underlying24 Tryz.underlying5 (by kernel_rfl) hf with ⟨hcs, hx⟩ | ⟨a, len, cap, zs, hcs, _, hl, hm, hz, hx, hcell, hwz⟩
  · exact ⟨[], none, 0, hcs, Bs.nil _, fun _ => by simp, .inl ⟨by rw [hx], rfl⟩⟩
  · simp only [if_true] at hz
    have hlen : (toB (zs.take len)).length = len := by rw [toB_len, List.length_take]; omega
    refine ⟨toB (zs.take len), some a, cap, by rw [hlen]; exact hcs, ?_, fun hw => ?_, .inr ⟨zs.take len, zs.drop len, by rw [hx], by rw [hlen, List.length_take]; omega⟩⟩
    · by_cases h0 : 0 < len
      · obtain ⟨b, o, spot⟩ := a
        have hsp : spot = none := by simpa [Addr.add] using World.cell?_spot (hcell 0 (by omega))
        subst hsp
        have hlt : b < W.heap.size := World.block_lt_of_cell? W _ (hcell 0 (by omega))
        refine Bs.mk b o cap rfl (by omega) hlt fun j hj => ?_
        have hj2 : j < len := by omega
        rw [toB_at (zs.take len) (fun n hn => hwz n (List.mem_of_mem_take hn)) j (by rw [List.length_take]; omega)]
        have := hcell j (by omega)
        rw [plain_add] at this
        rw [this]
        simp [List.getD_eq_getElem?_getD, hj2]
      · have e : toB (zs.take len) = [] := List.length_eq_zero_iff.1 (by omega)
        rw [e]
        exact .inr (.inl ⟨a, cap, rfl, rfl⟩)
    · have hb : Tryz.prog.bytesOf 5 = 1 := by kernel_rfl
      have := hw (((lits IntKind.u8 (zs.take len) : List (DataW H)).length + (lits IntKind.u8 (zs.drop len) : List (DataW H)).length) * Tryz.prog.bytesOf 5) (by
        rw [hx]
        simp only [DataW.weights, Tryz.underlying24]
        exact List.mem_cons_self)
      rw [hb] at this
      have hr : reachBytes = 140737488351232 := rfl
      rw [hr] at this
      simp [lits] at this
      omega
theorem bytes_in {H : Type} {enc : TypeId × Value → H} {W : World} {fuel : Nat} {a : Option Addr} {len cap : Nat} {d : DataW H} {p : List MemPlace}
    (hf : DataW.trod enc Tryz.prog W 0 (fun _ => true) true fuel 24 (Value.slice a len cap).cells.toList = some (d, p)) :
    ∃ l, Bs W (.slice a len cap) l ∧ ((∀ x ∈ DataW.weights Tryz.prog 24 d, x ≤ reachBytes) → l.length ≤ 140737488351232) ∧ (d = .nil ∧ l = [] ∨ ∃ zs sp : List Int, d = .slice (lits .u8 zs) (lits .u8 sp) ∧ zs.length = l.length) := by
  obtain ⟨l, A, C, hcs, h1, h2, h3⟩ := bytes_read hf
  simp [Value.cells] at hcs
  obtain ⟨rfl, rfl, rfl⟩ := hcs
  exact ⟨l, h1, h2, h3⟩
end Go.Proofs.YtbbllgpocjipjaaGreatDoor
/- What a config, numbers and configs that come in give: where they lie, and how many they may be. -/
namespace Go.Proofs.YtbbllgpocjipjaaGreatDoor
set_option linter.unusedVariables false
open Go.ChangeShapes Go.WideShapes Go.ChangeAt Go.RowKit

theorem list_of {α : Type} (P : Nat → α → Prop) : ∀ n, (∀ i, i < n → ∃ x, P i x) → ∃ l : List α, l.length = n ∧ ∀ i (h : i < l.length), P i (l[i]'h)
  | 0, _ => ⟨[], rfl, fun i h => by simp at h⟩
  | n + 1, h => by
    obtain ⟨l, hl, hp⟩ := list_of P n (fun i hi => h i (by omega))
    obtain ⟨x, hx⟩ := h n (by omega)
    refine ⟨l ++ [x], by simp [hl], fun i hi => ?_⟩
    by_cases hlt : i < l.length
    · rw [List.getElem_append_left hlt]; exact hp i hlt
    · have : i = l.length := by simp at hi; omega
      subst this
      rw [List.getElem_append_right (Nat.le_refl _)]
      simp only [Nat.sub_self, List.getElem_cons_zero]
      rw [hl]; exact hx
theorem cells4 {w : World} {b o : Nat} {cs : List Value} (h : w.cells? 0 ⟨b, o, none⟩ 4 = some cs) : ∃ v0 v1 v2 v3, cs = [v0, v1, v2, v3] ∧ w.cell? ⟨b, o, none⟩ = some v0 ∧ w.cell? ⟨b, o + 1, none⟩ = some v1 ∧ w.cell? ⟨b, o + 2, none⟩ = some v2 ∧ w.cell? ⟨b, o + 3, none⟩ = some v3 := by
  unfold World.cells? at h
  rw [if_pos (Nat.zero_le _), show List.range 4 = [0, 1, 2, 3] from rfl] at h
  simp only [List.mapM_cons, List.mapM_nil, plain_add, Nat.add_zero] at h
  cases h0 : w.cell? ⟨b, o, none⟩ with
  | none => simp [h0] at h
  | some v0 =>
    cases h1 : w.cell? ⟨b, o + 1, none⟩ with
    | none => simp [h0, h1] at h
    | some v1 =>
      cases h2 : w.cell? ⟨b, o + 2, none⟩ with
      | none => simp [h0, h1, h2] at h
      | some v2 =>
        cases h3 : w.cell? ⟨b, o + 3, none⟩ with
        | none => simp [h0, h1, h2, h3] at h
        | some v3 =>
          simp [h0, h1, h2, h3] at h
          exact ⟨v0, v1, v2, v3, h.symm, rfl, rfl, rfl, rfl⟩
theorem cells2 {w : World} {b o : Nat} {cs : List Value} (h : w.cells? 0 ⟨b, o, none⟩ 2 = some cs) : ∃ v0 v1, cs = [v0, v1] ∧ w.cell? ⟨b, o, none⟩ = some v0 ∧ w.cell? ⟨b, o + 1, none⟩ = some v1 := by
  unfold World.cells? at h
  rw [if_pos (Nat.zero_le _), show List.range 2 = [0, 1] from rfl] at h
  simp only [List.mapM_cons, List.mapM_nil, plain_add, Nat.add_zero] at h
  cases h0 : w.cell? ⟨b, o, none⟩ with
  | none => simp [h0] at h
  | some v0 =>
    cases h1 : w.cell? ⟨b, o + 1, none⟩ with
    | none => simp [h0, h1] at h
    | some v1 =>
      simp [h0, h1] at h
      exact ⟨v0, v1, h.symm, rfl, rfl⟩
theorem mem_cells : Tryz.prog.cellsOf 96 = 4 := by kernel_rfl
theorem ens_cells : Tryz.prog.cellsOf 28 = 2 := by kernel_rfl
/- A member's numbers fit their fields. -/
def MemFit (m : Mem) : Prop := (-9223372036854775808 ≤ m.id ∧ m.id < 9223372036854775808) ∧ (0 ≤ m.role ∧ m.role < 256) ∧ (-9223372036854775808 ≤ m.weight ∧ m.weight < 9223372036854775808) ∧ (-9223372036854775808 ≤ m.group ∧ m.group < 9223372036854775808)
set_option maxRecDepth 100000 in
theorem mems_read {H : Type} {enc : TypeId × Value → H} {W : World} {fuel : Nat} {cs : List Value} {x : DataW H × List MemPlace}
    (hf : DataW.trod enc Tryz.prog W 0 (fun _ => true) true fuel 26 cs = some x) :
    ∃ l A C, cs = [.slice A l.length C] ∧ Mems W (.slice A l.length C) l ∧ l.length ≤ maxLen ∧ (∀ m ∈ l, MemFit m) ∧ ((∀ y ∈ DataW.weights Tryz.prog 26 x.1, y ≤ reachBytes) → l.length ≤ 4398046511104) := by
  rcases Go.Deep.open_slice Tryz.underlying26 hf with ⟨hcs, hx⟩ | ⟨ad, len, cap, m, n, D, Pl, hcs, _, hl, hmx, hm, hx, hel⟩
  · exact ⟨[], none, 0, hcs, .inl ⟨rfl, rfl⟩, by simp, fun m hm => by simp at hm, fun _ => by simp⟩
  · simp only [if_true] at hm
    subst hm
    have hd : x.1 = .slice ((List.range len).map D) ((List.range (m - len)).map fun j => D (len + j)) := congrArg Prod.fst hx
    have hsz : (∀ y ∈ DataW.weights Tryz.prog 26 x.1, y ≤ reachBytes) → len ≤ 4398046511104 := by
      intro hw
      have hb : Tryz.prog.bytesOf 96 = 32 := by kernel_rfl
      have := hw ((((List.range len).map D).length + ((List.range (m - len)).map fun j => D (len + j)).length) * Tryz.prog.bytesOf 96) (by
        rw [hd]
        simp only [DataW.weights, Tryz.underlying26]
        exact List.mem_cons_self)
      rw [hb] at this
      have hr : reachBytes = 140737488351232 := rfl
      rw [hr, List.length_map, List.length_map, List.length_range, List.length_range] at this
      omega
    by_cases h0 : 0 < len
    · obtain ⟨cs0, hc0, _⟩ := hel 0 (by omega)
      obtain ⟨b, o, spot⟩ := ad
      rw [mem_cells] at hel hc0
      have hsp : spot = none := by
        unfold World.cells? at hc0
        rw [if_pos (Nat.zero_le _), show List.range 4 = [0, 1, 2, 3] from rfl] at hc0
        simp only [List.mapM_cons] at hc0
        cases h : W.cell? ((({ block := b, off := o, spot := spot } : Addr).add (0 * 4)).add 0) with
        | none => simp [h] at hc0
        | some u => simpa [Addr.add] using World.cell?_spot h
      subst hsp
      have key : ∀ i, i < len → ∃ z : Mem, (W.cell? ⟨b, o + i * 4, none⟩ = some (.int .i64 z.id) ∧ W.cell? ⟨b, o + i * 4 + 1, none⟩ = some (.int .u8 z.role) ∧ W.cell? ⟨b, o + i * 4 + 2, none⟩ = some (.int .i64 z.weight) ∧ W.cell? ⟨b, o + i * 4 + 3, none⟩ = some (.int .i64 z.group)) ∧ MemFit z := by
        intro i hi
        obtain ⟨cs', hc1, hc2⟩ := hel i (by omega)
        rw [plain_add] at hc1
        obtain ⟨v0, v1, v2, v3, rfl, c0, c1, c2, c3⟩ := cells4 hc1
        obtain ⟨y0, y1, y2, y3, n', hy, _, t0, t1, t2, t3⟩ := Joins.trod_struct4 Tryz.underlying96 hc2
        obtain ⟨z0, hz0, _, w0⟩ := DataW.trod_int Tryz.underlying3 t0
        obtain ⟨z1, hz1, _, w1⟩ := DataW.trod_int Tryz.underlying94 t1
        obtain ⟨z2, hz2, _, w2⟩ := DataW.trod_int Tryz.underlying3 t2
        obtain ⟨z3, hz3, _, w3⟩ := DataW.trod_int Tryz.underlying3 t3
        have e0 : v0 = .int .i64 z0 := by have := hz0; revert this; simp [show Tryz.prog.cellsOf 3 = 1 by kernel_rfl]
        have e1 : v1 = .int .u8 z1 := by have := hz1; revert this; simp [show Tryz.prog.cellsOf 94 = 1 by kernel_rfl]
        have e2 : v2 = .int .i64 z2 := by have := hz2; revert this; simp [show Tryz.prog.cellsOf 3 = 1 by kernel_rfl]
        have e3 : v3 = .int .i64 z3 := by have := hz3; revert this; simp [show Tryz.prog.cellsOf 3 = 1 by kernel_rfl]
        subst e0; subst e1; subst e2; subst e3
        exact ⟨⟨z0, z1, z2, z3⟩, ⟨c0, c1, c2, c3⟩, wf_i64 w0, wf_u8 w1, wf_i64 w2, wf_i64 w3⟩
      obtain ⟨l, hll, hp⟩ := list_of _ len key
      refine ⟨l, _, m, by rw [hll]; exact hcs, .inr (.inr ⟨by omega, b, o, m, rfl, by omega, ?_, fun j hj => (hp j hj).1⟩), by omega, fun z hz => ?_, fun hw => by rw [hll]; exact hsz hw⟩
      · obtain ⟨z, hz, _⟩ := key 0 h0
        exact World.block_lt_of_cell? W _ hz.1
      · obtain ⟨j, hj, rfl⟩ := List.getElem_of_mem hz
        exact (hp j hj).2
    · have hl0 : len = 0 := by omega
      subst hl0
      exact ⟨[], some ad, m, hcs, .inr (.inl ⟨ad, m, rfl, rfl⟩), by simp, fun m hm => by simp at hm, fun _ => by simp⟩
set_option maxRecDepth 100000 in
theorem ens_in {H : Type} {enc : TypeId × Value → H} {W : World} {base : Nat} {v : Value} {d : DataW H} {p : List MemPlace}
    (hv : Value.okWide Tryz.prog W .any base 28 v) (h : DataW.Trod enc Tryz.prog W 0 (fun _ => true) true 28 v d p) :
    ∃ ver u l d0 d1, v = .agg #[.int .i64 ver, u] ∧ d = .agg [d0, d1] ∧ Mems W u l ∧ l.length ≤ maxLen ∧ (-9223372036854775808 ≤ ver ∧ ver < 9223372036854775808) ∧ (∀ m ∈ l, MemFit m) ∧ ((∀ y ∈ DataW.weights Tryz.prog 26 d1, y ≤ reachBytes) → l.length ≤ 4398046511104) := by
  obtain ⟨v0, v1, y0, y1, n, rfl, rfl, rfl, t0, t1⟩ := Joins.open_agg2 Tryz.underlying28 (by kernel_rfl) ens_cells hv h
  obtain ⟨z, hz, _, wz⟩ := DataW.trod_int Tryz.underlying22 t0
  obtain ⟨l, A, C, hcs, h1, h2, h3, h4⟩ := mems_read t1
  have e0 : v0 = .int .i64 z := by simpa using hz
  have e1 : v1 = .slice A l.length C := by simpa using hcs
  subst e0; subst e1
  exact ⟨z, _, l, y0.1, y1.1, rfl, rfl, h1, h2, wf_i64 wz, h3, h4⟩
end Go.Proofs.YtbbllgpocjipjaaGreatDoor
/- What a deed that comes in gives: its fields, what its slices hold, its parts. -/
namespace Go.Proofs.YtbbllgpocjipjaaGreatDoor.DD
set_option linter.unusedVariables false
open Go.ChangeShapes Go.WideShapes Go.ChangeAt Go.RowKit
set_option linter.unusedVariables false

theorem list16 {cs : List Value} (h : cs.length = 16) : ∃ v0 v1 v2 v3 v4 v5 v6 v7 v8 v9 v10 v11 v12 v13 v14 v15, cs = [v0, v1, v2, v3, v4, v5, v6, v7, v8, v9, v10, v11, v12, v13, v14, v15] := by
  match cs, h with
  | [v0, v1, v2, v3, v4, v5, v6, v7, v8, v9, v10, v11, v12, v13, v14, v15], _ => exact ⟨v0, v1, v2, v3, v4, v5, v6, v7, v8, v9, v10, v11, v12, v13, v14, v15, rfl⟩
theorem deed_cells : Tryz.prog.cellsOf 31 = 16 := by kernel_rfl
/- One deed, its parts unread. -/
set_option maxRecDepth 100000 in
set_option maxHeartbeats 2000000 in
theorem flat_read {H : Type} {enc : TypeId × Value → H} {W : World} {fuel : Nat} {cs : List Value} {x : DataW H × List MemPlace}
    (hf : DataW.trod enc Tryz.prog W 0 (fun _ => true) true fuel 31 cs = some x) :
    ∃ (f : Fl) (A1 A2 : Option Addr) (c1 c2 : Nat) (u : Value) (n : Nat) (y : DataW H × List MemPlace), cs = [.int .i64 f.zxid, .int .u8 f.kind, .int .i64 f.session, .int .i64 f.turn, .int .i64 f.xid, .int .i64 f.time, .string (mkS f.path), .slice A1 f.data.length c1, .int .i64 f.owner, .int .i64 f.version, .int .i64 f.cversion, .int .i64 f.timeout, .int .i64 f.err, .int .i64 f.cver, .slice A2 f.mems.length c2, u] ∧
      Bs W (.slice A1 f.data.length c1) f.data ∧ Mems W (.slice A2 f.mems.length c2) f.mems ∧ FlFit f ∧ DataW.trod enc Tryz.prog W 0 (fun _ => true) true n 29 [u] = some y := by
  obtain ⟨xs, n, _, hx, hl, hlen, hfs⟩ := DataW.trod_struct Tryz.underlying31 hf
  rw [deed_cells] at hl
  obtain ⟨v0, v1, v2, v3, v4, v5, v6, v7, v8, v9, v10, v11, v12, v13, v14, v15, rfl⟩ := list16 hl
  have hget : ∀ i (h : i < 15), xs[i]? = some (xs[i]'(by rw [hlen]; exact h)) := fun i h => List.getElem?_eq_getElem _
  obtain ⟨z0, hz0, -, w0⟩ := DataW.trod_int Tryz.underlying22 ((hfs 0 _ rfl).trans (hget 0 (by decide)))
  have e0 : v0 = .int .i64 z0 := by simpa [show Tryz.prog.cellsOf 22 = 1 by kernel_rfl] using hz0
  obtain ⟨z1, hz1, -, w1⟩ := DataW.trod_int Tryz.underlying23 ((hfs 1 _ rfl).trans (hget 1 (by decide)))
  have e1 : v1 = .int .u8 z1 := by simpa [show Tryz.prog.cellsOf 23 = 1 by kernel_rfl] using hz1
  obtain ⟨z2, hz2, -, w2⟩ := DataW.trod_int Tryz.underlying2 ((hfs 2 _ rfl).trans (hget 2 (by decide)))
  have e2 : v2 = .int .i64 z2 := by simpa [show Tryz.prog.cellsOf 2 = 1 by kernel_rfl] using hz2
  obtain ⟨z3, hz3, -, w3⟩ := DataW.trod_int Tryz.underlying3 ((hfs 3 _ rfl).trans (hget 3 (by decide)))
  have e3 : v3 = .int .i64 z3 := by simpa [show Tryz.prog.cellsOf 3 = 1 by kernel_rfl] using hz3
  obtain ⟨z4, hz4, -, w4⟩ := DataW.trod_int Tryz.underlying3 ((hfs 4 _ rfl).trans (hget 4 (by decide)))
  have e4 : v4 = .int .i64 z4 := by simpa [show Tryz.prog.cellsOf 3 = 1 by kernel_rfl] using hz4
  obtain ⟨z5, hz5, -, w5⟩ := DataW.trod_int Tryz.underlying2 ((hfs 5 _ rfl).trans (hget 5 (by decide)))
  have e5 : v5 = .int .i64 z5 := by simpa [show Tryz.prog.cellsOf 2 = 1 by kernel_rfl] using hz5
  obtain ⟨z8, hz8, -, w8⟩ := DataW.trod_int Tryz.underlying2 ((hfs 8 _ rfl).trans (hget 8 (by decide)))
  have e8 : v8 = .int .i64 z8 := by simpa [show Tryz.prog.cellsOf 2 = 1 by kernel_rfl] using hz8
  obtain ⟨z9, hz9, -, w9⟩ := DataW.trod_int Tryz.underlying3 ((hfs 9 _ rfl).trans (hget 9 (by decide)))
  have e9 : v9 = .int .i64 z9 := by simpa [show Tryz.prog.cellsOf 3 = 1 by kernel_rfl] using hz9
  obtain ⟨z10, hz10, -, w10⟩ := DataW.trod_int Tryz.underlying3 ((hfs 10 _ rfl).trans (hget 10 (by decide)))
  have e10 : v10 = .int .i64 z10 := by simpa [show Tryz.prog.cellsOf 3 = 1 by kernel_rfl] using hz10
  obtain ⟨z11, hz11, -, w11⟩ := DataW.trod_int Tryz.underlying3 ((hfs 11 _ rfl).trans (hget 11 (by decide)))
  have e11 : v11 = .int .i64 z11 := by simpa [show Tryz.prog.cellsOf 3 = 1 by kernel_rfl] using hz11
  obtain ⟨z12, hz12, -, w12⟩ := DataW.trod_int Tryz.underlying25 ((hfs 12 _ rfl).trans (hget 12 (by decide)))
  have e12 : v12 = .int .i64 z12 := by simpa [show Tryz.prog.cellsOf 25 = 1 by kernel_rfl] using hz12
  obtain ⟨s6, hz6, -, -⟩ := DataW.trod_string Tryz.underlying9 ((hfs 6 _ rfl).trans (hget 6 (by decide)))
  have e6 : v6 = .string s6 := by simpa [show Tryz.prog.cellsOf 9 = 1 by kernel_rfl] using hz6
  obtain ⟨p6, rfl⟩ := PA.mkS_of s6
  obtain ⟨ld, A1, c1, hz7, hbs, -, -⟩ := bytes_read ((hfs 7 _ rfl).trans (hget 7 (by decide)))
  have e7 : v7 = .slice A1 ld.length c1 := by simpa [show Tryz.prog.cellsOf 24 = 1 by kernel_rfl] using hz7
  have t13 := (hfs 13 _ rfl).trans (hget 13 (by decide))
  obtain ⟨y0, y1, n', -, -, t0, t1⟩ := trod_struct2 Tryz.underlying28 t13
  obtain ⟨z13, hz13, -, w13⟩ := DataW.trod_int Tryz.underlying22 t0
  obtain ⟨lm, A2, c2, hz14, hms, -, -, -⟩ := mems_read t1
  have e13 : v13 = .int .i64 z13 := by simpa [show Tryz.prog.cellsOf 22 = 1 by kernel_rfl, ens_cells] using hz13
  have e14 : v14 = .slice A2 lm.length c2 := by simpa [show Tryz.prog.cellsOf 26 = 1 by kernel_rfl, ens_cells] using hz14
  have t15 := (hfs 14 _ rfl).trans (hget 14 (by decide))
  have t15' : DataW.trod enc Tryz.prog W 0 (fun _ => true) true n 29 [v15] = some (xs[14]'(by rw [hlen]; decide)) := by
    have hc : Tryz.prog.cellsOf 29 = 1 := by kernel_rfl
    simpa [hc] using t15
  subst e0 e1 e2 e3 e4 e5 e6 e7 e8 e9 e10 e11 e12 e13 e14
  exact ⟨⟨z0, z1, z2, z3, z4, z5, p6, ld, z8, z9, z10, z11, z12, z13, lm, 0⟩, A1, A2, c1, c2, v15, n, _, rfl, hbs, hms, ⟨wf_i64 w0, wf_u8 w1, wf_i64 w2, wf_i64 w3, wf_i64 w4, wf_i64 w5, wf_i64 w8, wf_i64 w9, wf_i64 w10, wf_i64 w11, wf_i64 w12, wf_i64 w13⟩, t15'⟩
/- One deed, the length of its parts told. -/
theorem form_read {H : Type} {enc : TypeId × Value → H} {W : World} {fuel : Nat} {u : Value} {x : DataW H × List MemPlace}
    (hf : DataW.trod enc Tryz.prog W 0 (fun _ => true) true fuel 29 [u] = some x) : ∃ A n C, u = .slice A n C ∧ n ≤ maxLen := by
  rcases Go.Deep.open_slice Tryz.underlying29 hf with ⟨hcs, _⟩ | ⟨ad, len, cap, m, n, D, Pl, hcs, _, hl, hmx, _⟩
  · exact ⟨none, 0, 0, by simpa using hcs, Nat.zero_le _⟩
  · exact ⟨some ad, len, cap, by simpa using hcs, Nat.le_trans hl hmx⟩
theorem deed_read {H : Type} {enc : TypeId × Value → H} {W : World} {fuel : Nat} {cs : List Value} {x : DataW H × List MemPlace}
    (hf : DataW.trod enc Tryz.prog W 0 (fun _ => true) true fuel 31 cs = some x) :
    ∃ (f : Fl) (A1 A2 A3 : Option Addr) (c1 c2 c3 : Nat) (n : Nat) (y : DataW H × List MemPlace), cs = [.int .i64 f.zxid, .int .u8 f.kind, .int .i64 f.session, .int .i64 f.turn, .int .i64 f.xid, .int .i64 f.time, .string (mkS f.path), .slice A1 f.data.length c1, .int .i64 f.owner, .int .i64 f.version, .int .i64 f.cversion, .int .i64 f.timeout, .int .i64 f.err, .int .i64 f.cver, .slice A2 f.mems.length c2, .slice A3 f.np c3] ∧
      Bs W (.slice A1 f.data.length c1) f.data ∧ Mems W (.slice A2 f.mems.length c2) f.mems ∧ FlFit f ∧ f.np ≤ maxLen ∧ DataW.trod enc Tryz.prog W 0 (fun _ => true) true n 29 [.slice A3 f.np c3] = some y := by
  obtain ⟨f, A1, A2, c1, c2, u, n, y, rfl, h1, h2, h3, h4⟩ := flat_read hf
  obtain ⟨A3, k, c3, rfl, hk⟩ := form_read h4
  exact ⟨{ f with np := k }, A1, A2, A3, c1, c2, c3, n, y, rfl, h1, h2, ⟨h3.1, h3.2, h3.3, h3.4, h3.5, h3.6, h3.7, h3.8, h3.9, h3.10, h3.11, h3.12⟩, hk, h4⟩
theorem cells_at {w : World} {b o n : Nat} {cs : List Value} (h : w.cells? 0 ⟨b, o, none⟩ n = some cs) : cs.length = n ∧ ∀ i, i < n → w.cell? ⟨b, o + i, none⟩ = cs[i]? := by
  unfold World.cells? at h
  rw [if_pos (Nat.zero_le _)] at h
  refine ⟨by simpa using mapM_some_length h, fun i hi => ?_⟩
  have := mapM_some_get h i i (by simp [hi])
  rwa [plain_add] at this
theorem spot_of {w : World} {b o n : Nat} {sp : Option Nat} {cs : List Value} (h : w.cells? 0 (({ block := b, off := o, spot := sp } : Addr).add (0 * 16)) 16 = some cs) : sp = none := by
  unfold World.cells? at h
  rw [if_pos (Nat.zero_le _)] at h
  have := mapM_some_get h 0 0 (by simp)
  have hl := mapM_some_length h
  cases hc : w.cell? ((({ block := b, off := o, spot := sp } : Addr).add (0 * 16)).add 0) with
  | none => rw [hc] at this; have h2 := List.getElem?_eq_none_iff.1 this.symm; simp at hl; omega
  | some u => simpa [Addr.add] using World.cell?_spot hc
set_option maxRecDepth 100000 in
theorem parts_read {H : Type} {enc : TypeId × Value → H} {W : World} {fuel : Nat} {A : Option Addr} {N C : Nat} {x : DataW H × List MemPlace}
    (hf : DataW.trod enc Tryz.prog W 0 (fun _ => true) true fuel 29 [.slice A N C] = some x) :
    ∃ ps, N = ps.length ∧ Prts W W.heap.size (.slice A N C) ps ∧ ∀ p ∈ ps, FlFit p := by
  rcases Go.Deep.open_slice Tryz.underlying29 hf with ⟨hcs, hx⟩ | ⟨ad, len, cap, m, n, D, Pl, hcs, _, hl, hmx, hm, hx, hel⟩
  · simp at hcs
    obtain ⟨rfl, rfl, rfl⟩ := hcs
    exact ⟨[], rfl, .inl ⟨rfl, rfl⟩, fun p hp => by simp at hp⟩
  · simp at hcs
    obtain ⟨rfl, rfl, rfl⟩ := hcs
    simp only [if_true] at hm
    subst hm
    by_cases h0 : 0 < N
    · obtain ⟨cs0, hc0, _⟩ := hel 0 (by omega)
      obtain ⟨b, o, spot⟩ := ad
      rw [deed_cells] at hel hc0
      have hsp : spot = none := spot_of (n := 0) hc0
      subst hsp
      have key : ∀ i, i < N → ∃ p : Fl, (∃ A1 c1 A2 c2 A3 c3, DCells W b (o + i * 16) p A1 c1 A2 c2 A3 c3 ∧ DRest W W.heap.size p A1 c1 A2 c2) ∧ FlFit p := by
        intro i hi
        obtain ⟨cs', hc1, hc2⟩ := hel i (by omega)
        rw [plain_add] at hc1
        obtain ⟨f, A1, A2, A3, c1, c2, c3, n', y, rfl, g1, g2, g3, g4, g5⟩ := deed_read hc2
        obtain ⟨-, hc⟩ := cells_at hc1
        exact ⟨f, ⟨A1, c1, A2, c2, A3, c3, ⟨hc 0 (by decide), hc 1 (by decide), hc 2 (by decide), hc 3 (by decide), hc 4 (by decide), hc 5 (by decide), hc 6 (by decide), hc 7 (by decide), hc 8 (by decide), hc 9 (by decide), hc 10 (by decide), hc 11 (by decide), hc 12 (by decide), hc 13 (by decide), hc 14 (by decide), hc 15 (by decide)⟩, ⟨g1, fun k hk => g1.lt hk, g2, fun k hk => g2.lt hk⟩⟩, g3⟩
      obtain ⟨l, hll, hp⟩ := list_of _ N key
      refine ⟨l, hll.symm, .inr (.inr ⟨by omega, b, o, m, by rw [hll], by omega, ?_, Nat.le_refl _, fun j hj => (hp j hj).1⟩), fun z hz => ?_⟩
      · obtain ⟨z, ⟨_, _, _, _, _, _, hz, _⟩, _⟩ := key 0 h0
        exact World.block_lt_of_cell? W _ hz.1
      · obtain ⟨j, hj, rfl⟩ := List.getElem_of_mem hz
        exact (hp j hj).2
    · have hl0 : N = 0 := by omega
      subst hl0
      exact ⟨[], rfl, .inr (.inl ⟨ad, m, rfl, rfl⟩), fun p hp => by simp at hp⟩
/- A deed as it comes in. -/
theorem deed_in {H : Type} {enc : TypeId × Value → H} {W : World} {fuel : Nat} {cs : List Value} {x : DataW H × List MemPlace}
    (hf : DataW.trod enc Tryz.prog W 0 (fun _ => true) true fuel 31 cs = some x) :
    ∃ (f : Fl) (ps : List Fl) (A1 A2 A3 : Option Addr) (c1 c2 c3 : Nat), cs = [.int .i64 f.zxid, .int .u8 f.kind, .int .i64 f.session, .int .i64 f.turn, .int .i64 f.xid, .int .i64 f.time, .string (mkS f.path), .slice A1 f.data.length c1, .int .i64 f.owner, .int .i64 f.version, .int .i64 f.cversion, .int .i64 f.timeout, .int .i64 f.err, .int .i64 f.cver, .slice A2 f.mems.length c2, .slice A3 f.np c3] ∧ DVal W f ps A1 c1 A2 c2 A3 c3 ∧ DedFit f ps ∧ f.np ≤ 9223372036854775807 := by
  obtain ⟨f, A1, A2, A3, c1, c2, c3, n, y, rfl, h1, h2, h3, h4, h5⟩ := deed_read hf
  obtain ⟨ps, hn, hp, hq⟩ := parts_read h5
  exact ⟨f, ps, A1, A2, A3, c1, c2, c3, rfl, ⟨h1, h2, hp⟩, ⟨h3, hq, hn⟩, by have : maxLen = 9223372036854775807 := rfl; omega⟩
end Go.Proofs.YtbbllgpocjipjaaGreatDoor.DD
/- What the listed variable of the program and the library's give a walk, and a world in which they hold what the program's text lays. -/
namespace Go.Proofs.YtbbllgpocjipjaaGreatDoor
set_option linter.unusedVariables false
open Go.ChangeShapes Go.WideShapes Go.ChangeAt Go.RowKit

theorem own : ownKnob Tryz.prog.godebug = none := by kernel_rfl
theorem gTab : Tryz.prog.globalNamed "beadle/deed.kinds" = some 0 := by kernel_rfl
theorem gTabType : (Tryz.prog.globals[0]?).map (·.type) = some 84 := by kernel_rfl
theorem cellsT : Tryz.prog.cellsOf 84 = 10 := by kernel_rfl
theorem cellsE : Tryz.prog.cellsOf 53 = 1 := by kernel_rfl
def kindsL : List Int := [0, 2071, 3089, 2059, 32, 260, 512, 128, 256, 64]
theorem tabData_eq : (Rows.laid_beadle_deed_kinds : DataW Unit) = Lib.tabData .u16 kindsL := by kernel_rfl
theorem tab_of_laid {rest : List (String × DataW Unit)} {W : World} (h : laidMet Tryz.prog (("beadle/deed.kinds", Rows.laid_beadle_deed_kinds) :: rest) W) : ∀ j, j < 10 → W.cell? ⟨0, j, none⟩ = some (.int .u16 (PA.kTab j)) := by
  rw [tabData_eq] at h
  have ht := Lib.tabIs_of_head gTab gTabType Tryz.underlying84 Tryz.underlying53 cellsE cellsT h
  unfold Lib.TabIs World.var? at ht
  rw [gTab] at ht
  intro j hj
  simp only [Option.bind_some] at ht
  split at ht
  · next cs t fr hh =>
    rw [cell_at hh]
    simp only [Option.some.injEq] at ht
    rw [ht]
    rcases j with _ | _ | _ | _ | _ | _ | _ | _ | _ | _ | j <;> first | rfl | omega
  · cases ht
theorem maxlen_of_shaped {W : World} (h : W.ShapedOpen Tryz.prog) : ∃ m, W.cell? ⟨1, 0, none⟩ = some (.int .i64 m) := Go.Proofs.cell_of_shapedOpen_int (zero := #[.int .i64 0]) (t := 3) h (of_decide_eq_true (by kernel_rfl)) (by kernel_rfl) rfl (by kernel_rfl) (by kernel_rfl) Tryz.underlying3
theorem laid_of {rest : List (String × DataW Unit)} {W : World} (h : laidMet Tryz.prog (("beadle/deed.kinds", Rows.laid_beadle_deed_kinds) :: rest) W) (hS : W.ShapedOpen Tryz.prog) : PA.Laid W := ⟨maxlen_of_shaped hS, tab_of_laid h⟩

/- A call that laid nothing but new blocks, some of them frozen, keeps its row: the arguments were no places of memory. -/
theorem post_plain {H : Type} {enc : TypeId × Value → H} {P : Program} {f : Func} {s : ChangeSpec} {fresh handsOn again : Bool} {W W' : World} {args : Array Value} {v : Value} {ds gs : List (DataW H)}
    (hW : DataW.Whole enc P f.params.toList s.vars false W args.toList ds gs [])
    (hres : ∀ (b : Nat) (sp : Nat → Bool) (hd : Bool), DataW.TrodAll enc P W' b sp hd f.resultTypes.toList (v.resultList f.resultTypes.size) (s.fn H (ds ++ gs)).results [])
    (hargs : ∀ sp : Nat → Bool, DataW.TrodAll enc P W' 0 sp true f.params.toList args.toList (s.fn H (ds ++ gs)).args [])
    (hvars : ∀ sp : Nat → Bool, DataW.TrodVars enc P W' sp s.vars (s.fn H (ds ++ gs)).vars [])
    (hB : Below W.heap.size W W')
    (hok : ∀ (j : Nat) (t : TypeId) (r : Value), f.resultTypes[j]? = some t → (v.resultList f.resultTypes.size)[j]? = some r → Value.okWide P W' .any 0 t r) :
    s.post enc P f false fresh handsOn again W args v W' := by
  refine ⟨ds, gs, [], [], [], [], hW, hres _ _ _, hargs _, hvars _, hB.frame _, fun _ => ?_⟩
  refine ⟨hok, _, _, ([] ++ []) ++ [], ⟨[] ++ [], [], trodAll_append (hargs _) (hres _ _ _), hvars _, rfl, ?_, ?_⟩, ?_⟩
  · intro b off hp; cases hp
  · intro ha; cases ha
  · intro p hp; cases hp
def u16s (l : List Int) : Array Value := (l.map fun z => Value.int .u16 z).toArray
def put (h : Array Obj) (g : Nat) (cs : Array Value) : Array Obj := h.modify g fun
  | .cells _ t frozen => .cells cs t frozen
  | o => o
noncomputable def laidWorld (os : Os) : World :=
  { World.holding Tryz.prog os ⟨#[], #[], []⟩ with heap := put (World.holding Tryz.prog os ⟨#[], #[], []⟩).heap 0 (u16s kindsL) }
end Go.Proofs.YtbbllgpocjipjaaGreatDoor
/- A world in which the three listed variables hold what the program's text, and the pinned table, lay. -/
namespace Go.Proofs.YtbbllgpocjipjaaGreatDoor
set_option linter.unusedVariables false
def u8s (l : List Int) : Array Value := (l.map fun z => Value.int .u8 z).toArray
noncomputable def laidThree (os : Os) : World :=
  { laidWorld os with heap := put (put (laidWorld os).heap 3 (u8s [128, 191, 160, 191, 128, 159, 144, 191, 128, 143, 0, 0, 0, 0, 0, 0, 0, 0, 0, 0, 0, 0, 0, 0, 0, 0, 0, 0, 0, 0, 0, 0])) 2 (u8s [240, 240, 240, 240, 240, 240, 240, 240, 240, 240, 240, 240, 240, 240, 240, 240, 240, 240, 240, 240, 240, 240, 240, 240, 240, 240, 240, 240, 240, 240, 240, 240, 240, 240, 240, 240, 240, 240, 240, 240, 240, 240, 240, 240, 240, 240, 240, 240, 240, 240, 240, 240, 240, 240, 240, 240, 240, 240, 240, 240, 240, 240, 240, 240, 240, 240, 240, 240, 240, 240, 240, 240, 240, 240, 240, 240, 240, 240, 240, 240, 240, 240, 240, 240, 240, 240, 240, 240, 240, 240, 240, 240, 240, 240, 240, 240, 240, 240, 240, 240, 240, 240, 240, 240, 240, 240, 240, 240, 240, 240, 240, 240, 240, 240, 240, 240, 240, 240, 240, 240, 240, 240, 240, 240, 240, 240, 240, 240, 241, 241, 241, 241, 241, 241, 241, 241, 241, 241, 241, 241, 241, 241, 241, 241, 241, 241, 241, 241, 241, 241, 241, 241, 241, 241, 241, 241, 241, 241, 241, 241, 241, 241, 241, 241, 241, 241, 241, 241, 241, 241, 241, 241, 241, 241, 241, 241, 241, 241, 241, 241, 241, 241, 241, 241, 241, 241, 241, 241, 241, 241, 241, 241, 241, 241, 2, 2, 2, 2, 2, 2, 2, 2, 2, 2, 2, 2, 2, 2, 2, 2, 2, 2, 2, 2, 2, 2, 2, 2, 2, 2, 2, 2, 2, 2, 19, 3, 3, 3, 3, 3, 3, 3, 3, 3, 3, 3, 3, 35, 3, 3, 52, 4, 4, 4, 68, 241, 241, 241, 241, 241, 241, 241, 241, 241, 241, 241]) }
end Go.Proofs.YtbbllgpocjipjaaGreatDoor
