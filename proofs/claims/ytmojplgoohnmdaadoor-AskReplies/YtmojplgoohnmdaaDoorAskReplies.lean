/- Of any reply and any event its bytes are told, or that it has none, as the document says: for every reply and every event there is. -/
import Derived.Test.YtmojplgoohnmdaaDoorRows
import Derived.ProofKit
import Derived.OpenShut
import Derived.ShutString
import Derived.ChangeOld
import Derived.SizedLaws
import Derived.Test.YtmojplgoohnmdaaDoorBase
import Derived.Deep.Slices
import Derived.Deep.Strs
import Derived.Lib.SmallJoins
import Derived.JoinedCond
import Derived.Test.YtmojplgoohnmdaaDoorEnsB
import Derived.Test.YtmojplgoohnmdaaDoorAkP
import Derived.Test.YtmojplgoohnmdaaDoorRpH
import Derived.Test.YtmojplgoohnmdaaDoorAkE
import Derived.Test.YtmojplgoohnmdaaDoorCards
import Derived.Test.YtmojplgoohnmdaaDoorTie
import Derived.Deep.DeepHandedRow
import Derived.Lib.LaidTab
import Derived.Test.YtmojplgoohnmdaaDoorWalksC
import Derived.Test.YtmojplgoohnmdaaDoorAkW
import Derived.Below
import Derived.Test.YtmojplgoohnmdaaDoorRf6w
/- What a row of bytes that comes in gives: where it lies, and how long it may be. -/
namespace Go.Proofs.YtmojplgoohnmdaaDoor
set_option linter.unusedVariables false
open Go.ChangeShapes Go.WideShapes Go.ChangeAt Go.RowKit

theorem wf_u8 {n : Int} (h : (Lit.int .u8 n).wf = true) : 0 ≤ n ∧ n < 256 := by
  have : 0 ≤ n ∧ n ≤ 255 := by simpa [Lit.wf, IntKind.min, IntKind.max, IntKind.signed, IntKind.bits] using h
  omega
theorem wf_i64 {n : Int} (h : (Lit.int .i64 n).wf = true) : -9223372036854775808 ≤ n ∧ n < 9223372036854775808 := by
  have : -9223372036854775808 ≤ n ∧ n ≤ 9223372036854775807 := by simpa [Lit.wf, IntKind.min, IntKind.max, IntKind.signed, IntKind.bits] using h
  omega
def toB (zs : List Int) : List UInt8 := zs.map fun n => UInt8.ofNat n.toNat
theorem toB_len (zs : List Int) : (toB zs).length = zs.length := by simp [toB]
theorem toB_at (zs : List Int) (h : ∀ n ∈ zs, (Lit.int .u8 n).wf = true) (j : Nat) (hj : j < zs.length) (hj2 : j < (toB zs).length) : (((toB zs)[j]'hj2).toNat : Int) = zs.getD j 0 := by
  have h1 := wf_u8 (h _ (List.getElem_mem hj))
  simp only [toB, List.getElem_map, List.getD_eq_getElem?_getD, List.getElem?_eq_getElem hj, Option.getD_some, UInt8.toNat_ofNat']
  omega
theorem plain_add (b o j : Nat) : (⟨b, o, none⟩ : Addr).add j = ⟨b, o + j, none⟩ := by simp only [Addr.add]; split <;> simp_all
theorem bytes_read {H : Type} {enc : TypeId × Value → H} {W : World} {fuel : Nat} {cs : List Value} {x : DataW H × List MemPlace}
    (hf : DataW.trod enc Tryd.prog W 0 (fun _ => true) true fuel 23 cs = some x) :
    ∃ l A C, cs = [.slice A l.length C] ∧ Bs W (.slice A l.length C) l ∧ ((∀ y ∈ DataW.weights Tryd.prog 23 x.1, y ≤ reachBytes) → l.length ≤ 140737488351232) ∧ (x.1 = .nil ∧ l = [] ∨ ∃ zs sp : List Int, x.1 = .slice (lits .u8 zs) (lits .u8 sp) ∧ zs.length = l.length) := by
  rcases open_ints Tryd.underlying23 Tryd.underlying5 (by kernel_rfl) hf with ⟨hcs, hx⟩ | ⟨a, len, cap, zs, hcs, _, hl, hm, hz, hx, hcell, hwz⟩
  · exact ⟨[], none, 0, hcs, Bs.nil _, fun _ => by simp, .inl ⟨by rw [hx], rfl⟩⟩
  · simp only [if_true] at hz
    have hlen : (toB (zs.take len)).length = len := by rw [toB_len, List.length_take]; omega
    refine ⟨toB (zs.take len), some a, cap, by rw [hlen]; exact hcs, ?_, fun hw => ?_, .inr ⟨zs.take len, zs.drop len, by rw [hx], by rw [hlen, List.length_take]; omega⟩⟩
    · by_cases h0 : 0 < len
      · obtain ⟨b, o, spot⟩ := a
        have hsp : spot = none := by simpa [Addr.add] using World.cell?_spot (hcell 0 (by omega))
        subst hsp
        have hlt : b < W.heap.size := World.block_lt_of_cell? W _ (hcell 0 (by omega))
        refine Bs.mk b o cap rfl (by omega) hlt fun j hj => ?_
        have hj2 : j < len := by omega
        rw [toB_at (zs.take len) (fun n hn => hwz n (List.mem_of_mem_take hn)) j (by rw [List.length_take]; omega)]
        have := hcell j (by omega)
        rw [plain_add] at this
        rw [this]
        simp [List.getD_eq_getElem?_getD, hj2]
      · have e : toB (zs.take len) = [] := List.length_eq_zero_iff.1 (by omega)
        rw [e]
        exact .inr (.inl ⟨a, cap, rfl, rfl⟩)
    · have hb : Tryd.prog.bytesOf 5 = 1 := by kernel_rfl
      have := hw (((lits IntKind.u8 (zs.take len) : List (DataW H)).length + (lits IntKind.u8 (zs.drop len) : List (DataW H)).length) * Tryd.prog.bytesOf 5) (by
        rw [hx]
        simp only [DataW.weights, Tryd.underlying23]
        exact List.mem_cons_self)
      rw [hb] at this
      have hr : reachBytes = 140737488351232 := rfl
      rw [hr] at this
      simp [lits] at this
      omega
theorem bytes_in {H : Type} {enc : TypeId × Value → H} {W : World} {fuel : Nat} {a : Option Addr} {len cap : Nat} {d : DataW H} {p : List MemPlace}
    (hf : DataW.trod enc Tryd.prog W 0 (fun _ => true) true fuel 23 (Value.slice a len cap).cells.toList = some (d, p)) :
    ∃ l, Bs W (.slice a len cap) l ∧ ((∀ x ∈ DataW.weights Tryd.prog 23 d, x ≤ reachBytes) → l.length ≤ 140737488351232) ∧ (d = .nil ∧ l = [] ∨ ∃ zs sp : List Int, d = .slice (lits .u8 zs) (lits .u8 sp) ∧ zs.length = l.length) := by
  obtain ⟨l, A, C, hcs, h1, h2, h3⟩ := bytes_read hf
  simp [Value.cells] at hcs
  obtain ⟨rfl, rfl, rfl⟩ := hcs
  exact ⟨l, h1, h2, h3⟩
end Go.Proofs.YtmojplgoohnmdaaDoor
/- What a config, numbers and configs that come in give: where they lie, and how many they may be. -/
namespace Go.Proofs.YtmojplgoohnmdaaDoor
set_option linter.unusedVariables false
open Go.ChangeShapes Go.WideShapes Go.ChangeAt Go.RowKit

theorem list_of {α : Type} (P : Nat → α → Prop) : ∀ n, (∀ i, i < n → ∃ x, P i x) → ∃ l : List α, l.length = n ∧ ∀ i (h : i < l.length), P i (l[i]'h)
  | 0, _ => ⟨[], rfl, fun i h => by simp at h⟩
  | n + 1, h => by
    obtain ⟨l, hl, hp⟩ := list_of P n (fun i hi => h i (by omega))
    obtain ⟨x, hx⟩ := h n (by omega)
    refine ⟨l ++ [x], by simp [hl], fun i hi => ?_⟩
    by_cases hlt : i < l.length
    · rw [List.getElem_append_left hlt]; exact hp i hlt
    · have : i = l.length := by simp at hi; omega
      subst this
      rw [List.getElem_append_right (Nat.le_refl _)]
      simp only [Nat.sub_self, List.getElem_cons_zero]
      rw [hl]; exact hx
theorem cells4 {w : World} {b o : Nat} {cs : List Value} (h : w.cells? 0 ⟨b, o, none⟩ 4 = some cs) : ∃ v0 v1 v2 v3, cs = [v0, v1, v2, v3] ∧ w.cell? ⟨b, o, none⟩ = some v0 ∧ w.cell? ⟨b, o + 1, none⟩ = some v1 ∧ w.cell? ⟨b, o + 2, none⟩ = some v2 ∧ w.cell? ⟨b, o + 3, none⟩ = some v3 := by
  unfold World.cells? at h
  rw [if_pos (Nat.zero_le _), show List.range 4 = [0, 1, 2, 3] from rfl] at h
  simp only [List.mapM_cons, List.mapM_nil, plain_add, Nat.add_zero] at h
  cases h0 : w.cell? ⟨b, o, none⟩ with
  | none => simp [h0] at h
  | some v0 =>
    cases h1 : w.cell? ⟨b, o + 1, none⟩ with
    | none => simp [h0, h1] at h
    | some v1 =>
      cases h2 : w.cell? ⟨b, o + 2, none⟩ with
      | none => simp [h0, h1, h2] at h
      | some v2 =>
        cases h3 : w.cell? ⟨b, o + 3, none⟩ with
        | none => simp [h0, h1, h2, h3] at h
        | some v3 =>
          simp [h0, h1, h2, h3] at h
          exact ⟨v0, v1, v2, v3, h.symm, rfl, rfl, rfl, rfl⟩
theorem cells2 {w : World} {b o : Nat} {cs : List Value} (h : w.cells? 0 ⟨b, o, none⟩ 2 = some cs) : ∃ v0 v1, cs = [v0, v1] ∧ w.cell? ⟨b, o, none⟩ = some v0 ∧ w.cell? ⟨b, o + 1, none⟩ = some v1 := by
  unfold World.cells? at h
  rw [if_pos (Nat.zero_le _), show List.range 2 = [0, 1] from rfl] at h
  simp only [List.mapM_cons, List.mapM_nil, plain_add, Nat.add_zero] at h
  cases h0 : w.cell? ⟨b, o, none⟩ with
  | none => simp [h0] at h
  | some v0 =>
    cases h1 : w.cell? ⟨b, o + 1, none⟩ with
    | none => simp [h0, h1] at h
    | some v1 =>
      simp [h0, h1] at h
      exact ⟨v0, v1, h.symm, rfl, rfl⟩
theorem mem_cells : Tryd.prog.cellsOf 119 = 4 := by kernel_rfl
theorem ens_cells : Tryd.prog.cellsOf 40 = 2 := by kernel_rfl
/- A member's numbers fit their fields. -/
def MemFit (m : Mem) : Prop := (-9223372036854775808 ≤ m.id ∧ m.id < 9223372036854775808) ∧ (0 ≤ m.role ∧ m.role < 256) ∧ (-9223372036854775808 ≤ m.weight ∧ m.weight < 9223372036854775808) ∧ (-9223372036854775808 ≤ m.group ∧ m.group < 9223372036854775808)
set_option maxRecDepth 100000 in
theorem mems_read {H : Type} {enc : TypeId × Value → H} {W : World} {fuel : Nat} {cs : List Value} {x : DataW H × List MemPlace}
    (hf : DataW.trod enc Tryd.prog W 0 (fun _ => true) true fuel 26 cs = some x) :
    ∃ l A C, cs = [.slice A l.length C] ∧ Mems W (.slice A l.length C) l ∧ l.length ≤ maxLen ∧ (∀ m ∈ l, MemFit m) ∧ ((∀ y ∈ DataW.weights Tryd.prog 26 x.1, y ≤ reachBytes) → l.length ≤ 4398046511104) := by
  rcases Go.Deep.open_slice Tryd.underlying26 hf with ⟨hcs, hx⟩ | ⟨ad, len, cap, m, n, D, Pl, hcs, _, hl, hmx, hm, hx, hel⟩
  · exact ⟨[], none, 0, hcs, .inl ⟨rfl, rfl⟩, by simp, fun m hm => by simp at hm, fun _ => by simp⟩
  · simp only [if_true] at hm
    subst hm
    have hd : x.1 = .slice ((List.range len).map D) ((List.range (m - len)).map fun j => D (len + j)) := congrArg Prod.fst hx
    have hsz : (∀ y ∈ DataW.weights Tryd.prog 26 x.1, y ≤ reachBytes) → len ≤ 4398046511104 := by
      intro hw
      have hb : Tryd.prog.bytesOf 119 = 32 := by kernel_rfl
      have := hw ((((List.range len).map D).length + ((List.range (m - len)).map fun j => D (len + j)).length) * Tryd.prog.bytesOf 119) (by
        rw [hd]
        simp only [DataW.weights, Tryd.underlying26]
        exact List.mem_cons_self)
      rw [hb] at this
      have hr : reachBytes = 140737488351232 := rfl
      rw [hr, List.length_map, List.length_map, List.length_range, List.length_range] at this
      omega
    by_cases h0 : 0 < len
    · obtain ⟨cs0, hc0, _⟩ := hel 0 (by omega)
      obtain ⟨b, o, spot⟩ := ad
      rw [mem_cells] at hel hc0
      have hsp : spot = none := by
        unfold World.cells? at hc0
        rw [if_pos (Nat.zero_le _), show List.range 4 = [0, 1, 2, 3] from rfl] at hc0
        simp only [List.mapM_cons] at hc0
        cases h : W.cell? ((({ block := b, off := o, spot := spot } : Addr).add (0 * 4)).add 0) with
        | none => simp [h] at hc0
        | some u => simpa [Addr.add] using World.cell?_spot h
      subst hsp
      have key : ∀ i, i < len → ∃ z : Mem, (W.cell? ⟨b, o + i * 4, none⟩ = some (.int .i64 z.id) ∧ W.cell? ⟨b, o + i * 4 + 1, none⟩ = some (.int .u8 z.role) ∧ W.cell? ⟨b, o + i * 4 + 2, none⟩ = some (.int .i64 z.weight) ∧ W.cell? ⟨b, o + i * 4 + 3, none⟩ = some (.int .i64 z.group)) ∧ MemFit z := by
        intro i hi
        obtain ⟨cs', hc1, hc2⟩ := hel i (by omega)
        rw [plain_add] at hc1
        obtain ⟨v0, v1, v2, v3, rfl, c0, c1, c2, c3⟩ := cells4 hc1
        obtain ⟨y0, y1, y2, y3, n', hy, _, t0, t1, t2, t3⟩ := Joins.trod_struct4 Tryd.underlying119 hc2
        obtain ⟨z0, hz0, _, w0⟩ := DataW.trod_int Tryd.underlying3 t0
        obtain ⟨z1, hz1, _, w1⟩ := DataW.trod_int Tryd.underlying117 t1
        obtain ⟨z2, hz2, _, w2⟩ := DataW.trod_int Tryd.underlying3 t2
        obtain ⟨z3, hz3, _, w3⟩ := DataW.trod_int Tryd.underlying3 t3
        have e0 : v0 = .int .i64 z0 := by have := hz0; revert this; simp [show Tryd.prog.cellsOf 3 = 1 by kernel_rfl]
        have e1 : v1 = .int .u8 z1 := by have := hz1; revert this; simp [show Tryd.prog.cellsOf 117 = 1 by kernel_rfl]
        have e2 : v2 = .int .i64 z2 := by have := hz2; revert this; simp [show Tryd.prog.cellsOf 3 = 1 by kernel_rfl]
        have e3 : v3 = .int .i64 z3 := by have := hz3; revert this; simp [show Tryd.prog.cellsOf 3 = 1 by kernel_rfl]
        subst e0; subst e1; subst e2; subst e3
        exact ⟨⟨z0, z1, z2, z3⟩, ⟨c0, c1, c2, c3⟩, wf_i64 w0, wf_u8 w1, wf_i64 w2, wf_i64 w3⟩
      obtain ⟨l, hll, hp⟩ := list_of _ len key
      refine ⟨l, _, m, by rw [hll]; exact hcs, .inr (.inr ⟨by omega, b, o, m, rfl, by omega, ?_, fun j hj => (hp j hj).1⟩), by omega, fun z hz => ?_, fun hw => by rw [hll]; exact hsz hw⟩
      · obtain ⟨z, hz, _⟩ := key 0 h0
        exact World.block_lt_of_cell? W _ hz.1
      · obtain ⟨j, hj, rfl⟩ := List.getElem_of_mem hz
        exact (hp j hj).2
    · have hl0 : len = 0 := by omega
      subst hl0
      exact ⟨[], some ad, m, hcs, .inr (.inl ⟨ad, m, rfl, rfl⟩), by simp, fun m hm => by simp at hm, fun _ => by simp⟩
set_option maxRecDepth 100000 in
theorem ens_in {H : Type} {enc : TypeId × Value → H} {W : World} {base : Nat} {v : Value} {d : DataW H} {p : List MemPlace}
    (hv : Value.okWide Tryd.prog W .any base 40 v) (h : DataW.Trod enc Tryd.prog W 0 (fun _ => true) true 40 v d p) :
    ∃ ver u l d0 d1, v = .agg #[.int .i64 ver, u] ∧ d = .agg [d0, d1] ∧ Mems W u l ∧ l.length ≤ maxLen ∧ (-9223372036854775808 ≤ ver ∧ ver < 9223372036854775808) ∧ (∀ m ∈ l, MemFit m) ∧ ((∀ y ∈ DataW.weights Tryd.prog 26 d1, y ≤ reachBytes) → l.length ≤ 4398046511104) := by
  obtain ⟨v0, v1, y0, y1, n, rfl, rfl, rfl, t0, t1⟩ := Joins.open_agg2 Tryd.underlying40 (by kernel_rfl) ens_cells hv h
  obtain ⟨z, hz, _, wz⟩ := DataW.trod_int Tryd.underlying25 t0
  obtain ⟨l, A, C, hcs, h1, h2, h3, h4⟩ := mems_read t1
  have e0 : v0 = .int .i64 z := by simpa using hz
  have e1 : v1 = .slice A l.length C := by simpa using hcs
  subst e0; subst e1
  exact ⟨z, _, l, y0.1, y1.1, rfl, rfl, h1, h2, wf_i64 wz, h3, h4⟩
end Go.Proofs.YtmojplgoohnmdaaDoor
/- What a call that comes in gives: its fields, what its slices hold, its parts. -/
namespace Go.Proofs.YtmojplgoohnmdaaDoor.AK
set_option linter.unusedVariables false
open Go.ChangeShapes Go.WideShapes Go.ChangeAt Go.RowKit
set_option linter.unusedVariables false

theorem mkS_of (s : ByteArray) : ∃ l, s = mkS l := ⟨s.data.toList, by cases s; simp [mkS]⟩
theorem list15 {cs : List Value} (h : cs.length = 15) : ∃ v0 v1 v2 v3 v4 v5 v6 v7 v8 v9 v10 v11 v12 v13 v14, cs = [v0, v1, v2, v3, v4, v5, v6, v7, v8, v9, v10, v11, v12, v13, v14] := by
  match cs, h with
  | [v0, v1, v2, v3, v4, v5, v6, v7, v8, v9, v10, v11, v12, v13, v14], _ => exact ⟨v0, v1, v2, v3, v4, v5, v6, v7, v8, v9, v10, v11, v12, v13, v14, rfl⟩
theorem ask_cells : Tryd.prog.cellsOf 29 = 15 := by kernel_rfl
/- One call, its parts unread. -/
set_option maxRecDepth 100000 in
set_option maxHeartbeats 2000000 in
theorem flat_read {H : Type} {enc : TypeId × Value → H} {W : World} {fuel : Nat} {cs : List Value} {x : DataW H × List MemPlace}
    (hf : DataW.trod enc Tryd.prog W 0 (fun _ => true) true fuel 29 cs = some x) :
    ∃ (f : Qf) (A1 A2 : Option Addr) (c1 c2 : Nat) (u : Value) (n : Nat) (y : DataW H × List MemPlace), cs = [.int .u8 f.kind, .int .i64 f.xid, .int .i64 f.session, .int .i64 f.turn, .string (mkS f.path), .slice A1 f.data.length c1, .int .i64 f.flags, .int .i64 f.version, .bool f.watch, .int .u8 f.sort, .int .i64 f.last, .int .i64 f.timeout, .int .i64 f.frm, .slice A2 f.mems.length c2, u] ∧
      Bs W (.slice A1 f.data.length c1) f.data ∧ Mems W (.slice A2 f.mems.length c2) f.mems ∧ QFit f ∧ DataW.trod enc Tryd.prog W 0 (fun _ => true) true n 27 [u] = some y := by
  obtain ⟨xs, n, _, hx, hl, hlen, hfs⟩ := DataW.trod_struct Tryd.underlying29 hf
  rw [ask_cells] at hl
  obtain ⟨v0, v1, v2, v3, v4, v5, v6, v7, v8, v9, v10, v11, v12, v13, v14, rfl⟩ := list15 hl
  have hget : ∀ i (h : i < 15), xs[i]? = some (xs[i]'(by rw [hlen]; exact h)) := fun i h => List.getElem?_eq_getElem _
  obtain ⟨z0, hz0, -, w0⟩ := DataW.trod_int Tryd.underlying22 ((hfs 0 _ rfl).trans (hget 0 (by decide)))
  have e0 : v0 = .int .u8 z0 := by simpa [show Tryd.prog.cellsOf 22 = 1 by kernel_rfl] using hz0
  obtain ⟨z1, hz1, -, w1⟩ := DataW.trod_int Tryd.underlying3 ((hfs 1 _ rfl).trans (hget 1 (by decide)))
  have e1 : v1 = .int .i64 z1 := by simpa [show Tryd.prog.cellsOf 3 = 1 by kernel_rfl] using hz1
  obtain ⟨z2, hz2, -, w2⟩ := DataW.trod_int Tryd.underlying2 ((hfs 2 _ rfl).trans (hget 2 (by decide)))
  have e2 : v2 = .int .i64 z2 := by simpa [show Tryd.prog.cellsOf 2 = 1 by kernel_rfl] using hz2
  obtain ⟨z3, hz3, -, w3⟩ := DataW.trod_int Tryd.underlying3 ((hfs 3 _ rfl).trans (hget 3 (by decide)))
  have e3 : v3 = .int .i64 z3 := by simpa [show Tryd.prog.cellsOf 3 = 1 by kernel_rfl] using hz3
  obtain ⟨s4, hz4, -, -⟩ := DataW.trod_string Tryd.underlying9 ((hfs 4 _ rfl).trans (hget 4 (by decide)))
  have e4 : v4 = .string s4 := by simpa [show Tryd.prog.cellsOf 9 = 1 by kernel_rfl] using hz4
  obtain ⟨p4, rfl⟩ := mkS_of s4
  obtain ⟨ld, A1, c1, hz5, hbs, -, -⟩ := bytes_read ((hfs 5 _ rfl).trans (hget 5 (by decide)))
  have e5 : v5 = .slice A1 ld.length c1 := by simpa [show Tryd.prog.cellsOf 23 = 1 by kernel_rfl] using hz5
  obtain ⟨z6, hz6, -, w6⟩ := DataW.trod_int Tryd.underlying3 ((hfs 6 _ rfl).trans (hget 6 (by decide)))
  have e6 : v6 = .int .i64 z6 := by simpa [show Tryd.prog.cellsOf 3 = 1 by kernel_rfl] using hz6
  obtain ⟨z7, hz7, -, w7⟩ := DataW.trod_int Tryd.underlying3 ((hfs 7 _ rfl).trans (hget 7 (by decide)))
  have e7 : v7 = .int .i64 z7 := by simpa [show Tryd.prog.cellsOf 3 = 1 by kernel_rfl] using hz7
  obtain ⟨z8, hz8, -⟩ := DataW.trod_bool Tryd.underlying4 ((hfs 8 _ rfl).trans (hget 8 (by decide)))
  have e8 : v8 = .bool z8 := by simpa [show Tryd.prog.cellsOf 4 = 1 by kernel_rfl] using hz8
  obtain ⟨z9, hz9, -, w9⟩ := DataW.trod_int Tryd.underlying24 ((hfs 9 _ rfl).trans (hget 9 (by decide)))
  have e9 : v9 = .int .u8 z9 := by simpa [show Tryd.prog.cellsOf 24 = 1 by kernel_rfl] using hz9
  obtain ⟨z10, hz10, -, w10⟩ := DataW.trod_int Tryd.underlying25 ((hfs 10 _ rfl).trans (hget 10 (by decide)))
  have e10 : v10 = .int .i64 z10 := by simpa [show Tryd.prog.cellsOf 25 = 1 by kernel_rfl] using hz10
  obtain ⟨z11, hz11, -, w11⟩ := DataW.trod_int Tryd.underlying3 ((hfs 11 _ rfl).trans (hget 11 (by decide)))
  have e11 : v11 = .int .i64 z11 := by simpa [show Tryd.prog.cellsOf 3 = 1 by kernel_rfl] using hz11
  obtain ⟨z12, hz12, -, w12⟩ := DataW.trod_int Tryd.underlying25 ((hfs 12 _ rfl).trans (hget 12 (by decide)))
  have e12 : v12 = .int .i64 z12 := by simpa [show Tryd.prog.cellsOf 25 = 1 by kernel_rfl] using hz12
  obtain ⟨lm, A2, c2, hz13, hms, -, hmf, -⟩ := mems_read ((hfs 13 _ rfl).trans (hget 13 (by decide)))
  have e13 : v13 = .slice A2 lm.length c2 := by simpa [show Tryd.prog.cellsOf 26 = 1 by kernel_rfl] using hz13
  have t14 := (hfs 14 _ rfl).trans (hget 14 (by decide))
  have t14' : DataW.trod enc Tryd.prog W 0 (fun _ => true) true n 27 [v14] = some (xs[14]'(by rw [hlen]; decide)) := by
    have hc : Tryd.prog.cellsOf 27 = 1 := by kernel_rfl
    simpa [hc] using t14
  subst e0 e1 e2 e3 e4 e5 e6 e7 e8 e9 e10 e11 e12 e13
  exact ⟨⟨z0, z1, z2, z3, p4, ld, z6, z7, z8, z9, z10, z11, z12, lm, 0⟩, A1, A2, c1, c2, v14, n, _, rfl, hbs, hms, ⟨wf_u8 w0, wf_i64 w1, wf_i64 w2, wf_i64 w3, wf_i64 w6, wf_i64 w7, wf_u8 w9, wf_i64 w10, wf_i64 w11, wf_i64 w12, fun m hm => ⟨(hmf m hm).1, (hmf m hm).2.1, (hmf m hm).2.2.1, (hmf m hm).2.2.2⟩⟩, t14'⟩
/- One ask, the length of its parts told. -/
theorem form_read {H : Type} {enc : TypeId × Value → H} {W : World} {fuel : Nat} {u : Value} {x : DataW H × List MemPlace}
    (hf : DataW.trod enc Tryd.prog W 0 (fun _ => true) true fuel 27 [u] = some x) : ∃ A n C, u = .slice A n C ∧ n ≤ maxLen := by
  rcases Go.Deep.open_slice Tryd.underlying27 hf with ⟨hcs, _⟩ | ⟨ad, len, cap, m, n, D, Pl, hcs, _, hl, hmx, _⟩
  · exact ⟨none, 0, 0, by simpa using hcs, Nat.zero_le _⟩
  · exact ⟨some ad, len, cap, by simpa using hcs, Nat.le_trans hl hmx⟩
theorem ask_read {H : Type} {enc : TypeId × Value → H} {W : World} {fuel : Nat} {cs : List Value} {x : DataW H × List MemPlace}
    (hf : DataW.trod enc Tryd.prog W 0 (fun _ => true) true fuel 29 cs = some x) :
    ∃ (f : Qf) (A1 A2 A3 : Option Addr) (c1 c2 c3 : Nat) (n : Nat) (y : DataW H × List MemPlace), cs = [.int .u8 f.kind, .int .i64 f.xid, .int .i64 f.session, .int .i64 f.turn, .string (mkS f.path), .slice A1 f.data.length c1, .int .i64 f.flags, .int .i64 f.version, .bool f.watch, .int .u8 f.sort, .int .i64 f.last, .int .i64 f.timeout, .int .i64 f.frm, .slice A2 f.mems.length c2, .slice A3 f.np c3] ∧
      Bs W (.slice A1 f.data.length c1) f.data ∧ Mems W (.slice A2 f.mems.length c2) f.mems ∧ QFit f ∧ f.np ≤ maxLen ∧ DataW.trod enc Tryd.prog W 0 (fun _ => true) true n 27 [.slice A3 f.np c3] = some y := by
  obtain ⟨f, A1, A2, c1, c2, u, n, y, rfl, h1, h2, h3, h4⟩ := flat_read hf
  obtain ⟨A3, k, c3, rfl, hk⟩ := form_read h4
  exact ⟨{ f with np := k }, A1, A2, A3, c1, c2, c3, n, y, rfl, h1, h2, ⟨h3.1, h3.2, h3.3, h3.4, h3.5, h3.6, h3.7, h3.8, h3.9, h3.10, h3.11⟩, hk, h4⟩
theorem cells_at {w : World} {b o n : Nat} {cs : List Value} (h : w.cells? 0 ⟨b, o, none⟩ n = some cs) : cs.length = n ∧ ∀ i, i < n → w.cell? ⟨b, o + i, none⟩ = cs[i]? := by
  unfold World.cells? at h
  rw [if_pos (Nat.zero_le _)] at h
  refine ⟨by simpa using mapM_some_length h, fun i hi => ?_⟩
  have := mapM_some_get h i i (by simp [hi])
  rwa [plain_add] at this
theorem spot_of {w : World} {b o n : Nat} {sp : Option Nat} {cs : List Value} (h : w.cells? 0 (({ block := b, off := o, spot := sp } : Addr).add (0 * 15)) 15 = some cs) : sp = none := by
  unfold World.cells? at h
  rw [if_pos (Nat.zero_le _)] at h
  have := mapM_some_get h 0 0 (by simp)
  have hl := mapM_some_length h
  cases hc : w.cell? ((({ block := b, off := o, spot := sp } : Addr).add (0 * 15)).add 0) with
  | none => rw [hc] at this; have h2 := List.getElem?_eq_none_iff.1 this.symm; simp at hl; omega
  | some u => simpa [Addr.add] using World.cell?_spot hc
set_option maxRecDepth 100000 in
theorem parts_read {H : Type} {enc : TypeId × Value → H} {W : World} {fuel : Nat} {A : Option Addr} {N C : Nat} {x : DataW H × List MemPlace}
    (hf : DataW.trod enc Tryd.prog W 0 (fun _ => true) true fuel 27 [.slice A N C] = some x) :
    ∃ ps, N = ps.length ∧ QPrts W W.heap.size (.slice A N C) ps ∧ ∀ p ∈ ps, QFit p := by
  rcases Go.Deep.open_slice Tryd.underlying27 hf with ⟨hcs, hx⟩ | ⟨ad, len, cap, m, n, D, Pl, hcs, _, hl, hmx, hm, hx, hel⟩
  · simp at hcs
    obtain ⟨rfl, rfl, rfl⟩ := hcs
    exact ⟨[], rfl, .inl ⟨rfl, rfl⟩, fun p hp => by simp at hp⟩
  · simp at hcs
    obtain ⟨rfl, rfl, rfl⟩ := hcs
    simp only [if_true] at hm
    subst hm
    by_cases h0 : 0 < N
    · obtain ⟨cs0, hc0, _⟩ := hel 0 (by omega)
      obtain ⟨b, o, spot⟩ := ad
      rw [ask_cells] at hel hc0
      have hsp : spot = none := spot_of (n := 0) hc0
      subst hsp
      have key : ∀ i, i < N → ∃ p : Qf, (∃ A1 c1 A2 c2 A3 c3, QCells W b (o + i * 15) p A1 c1 A2 c2 A3 c3 ∧ QRest W W.heap.size p A1 c1 A2 c2) ∧ QFit p := by
        intro i hi
        obtain ⟨cs', hc1, hc2⟩ := hel i (by omega)
        rw [plain_add] at hc1
        obtain ⟨f, A1, A2, A3, c1, c2, c3, n', y, rfl, g1, g2, g3, g4, g5⟩ := ask_read hc2
        obtain ⟨-, hc⟩ := cells_at hc1
        exact ⟨f, ⟨A1, c1, A2, c2, A3, c3, ⟨hc 0 (by decide), hc 1 (by decide), hc 2 (by decide), hc 3 (by decide), hc 4 (by decide), hc 5 (by decide), hc 6 (by decide), hc 7 (by decide), hc 8 (by decide), hc 9 (by decide), hc 10 (by decide), hc 11 (by decide), hc 12 (by decide), hc 13 (by decide), hc 14 (by decide)⟩, ⟨g1, fun k hk => g1.lt hk, g2, fun k hk => g2.lt hk⟩⟩, g3⟩
      obtain ⟨l, hll, hp⟩ := list_of _ N key
      refine ⟨l, hll.symm, .inr (.inr ⟨by omega, b, o, m, by rw [hll], by omega, ?_, Nat.le_refl _, fun j hj => (hp j hj).1⟩), fun z hz => ?_⟩
      · obtain ⟨z, ⟨_, _, _, _, _, _, hz, _⟩, _⟩ := key 0 h0
        exact World.block_lt_of_cell? W _ hz.1
      · obtain ⟨j, hj, rfl⟩ := List.getElem_of_mem hz
        exact (hp j hj).2
    · have hl0 : N = 0 := by omega
      subst hl0
      exact ⟨[], rfl, .inr (.inl ⟨ad, m, rfl, rfl⟩), fun p hp => by simp at hp⟩
/- A ask as it comes in. -/
theorem ask_in {H : Type} {enc : TypeId × Value → H} {W : World} {fuel : Nat} {cs : List Value} {x : DataW H × List MemPlace}
    (hf : DataW.trod enc Tryd.prog W 0 (fun _ => true) true fuel 29 cs = some x) :
    ∃ (f : Qf) (ps : List Qf) (A1 A2 A3 : Option Addr) (c1 c2 c3 : Nat), cs = [.int .u8 f.kind, .int .i64 f.xid, .int .i64 f.session, .int .i64 f.turn, .string (mkS f.path), .slice A1 f.data.length c1, .int .i64 f.flags, .int .i64 f.version, .bool f.watch, .int .u8 f.sort, .int .i64 f.last, .int .i64 f.timeout, .int .i64 f.frm, .slice A2 f.mems.length c2, .slice A3 f.np c3] ∧ QVal W f ps A1 c1 A2 c2 A3 c3 ∧ AskFit f ps ∧ f.np ≤ 9223372036854775807 := by
  obtain ⟨f, A1, A2, A3, c1, c2, c3, n, y, rfl, h1, h2, h3, h4, h5⟩ := ask_read hf
  obtain ⟨ps, hn, hp, hq⟩ := parts_read h5
  exact ⟨f, ps, A1, A2, A3, c1, c2, c3, rfl, ⟨h1, h2, hp⟩, ⟨h3, hq, hn⟩, by have : maxLen = 9223372036854775807 := rfl; omega⟩
end Go.Proofs.YtmojplgoohnmdaaDoor.AK
/- What a reply and an event that come in give: their fields, what the slices hold, the parts. -/
namespace Go.Proofs.YtmojplgoohnmdaaDoor.AK
set_option linter.unusedVariables false
open Go.ChangeShapes Go.WideShapes Go.ChangeAt Go.RowKit
set_option linter.unusedVariables false

theorem list22 {cs : List Value} (h : cs.length = 22) : ∃ v0 v1 v2 v3 v4 v5 v6 v7 v8 v9 v10 v11 v12 v13 v14 v15 v16 v17 v18 v19 v20 v21, cs = [v0, v1, v2, v3, v4, v5, v6, v7, v8, v9, v10, v11, v12, v13, v14, v15, v16, v17, v18, v19, v20, v21] := by
  match cs, h with
  | [v0, v1, v2, v3, v4, v5, v6, v7, v8, v9, v10, v11, v12, v13, v14, v15, v16, v17, v18, v19, v20, v21], _ => exact ⟨v0, v1, v2, v3, v4, v5, v6, v7, v8, v9, v10, v11, v12, v13, v14, v15, v16, v17, v18, v19, v20, v21, rfl⟩
theorem reply_cells : Tryd.prog.cellsOf 43 = 22 := by kernel_rfl
theorem stat_cells : Tryd.prog.cellsOf 37 = 10 := by kernel_rfl
/- Texts that come in. -/
set_option maxRecDepth 100000 in
theorem texts_read {H : Type} {enc : TypeId × Value → H} {W : World} {fuel : Nat} {cs : List Value} {x : DataW H × List MemPlace}
    (hf : DataW.trod enc Tryd.prog W 0 (fun _ => true) true fuel 38 cs = some x) :
    ∃ l A C, cs = [.slice A l.length C] ∧ Txs W (.slice A l.length C) l ∧ l.length ≤ maxLen ∧ ∀ t ∈ l, t.length ≤ maxLen := by
  rcases Go.Deep.open_slice Tryd.underlying38 hf with ⟨hcs, hx⟩ | ⟨ad, len, cap, m, n, D, Pl, hcs, _, hl, hmx, hm, hx, hel⟩
  · exact ⟨[], none, 0, hcs, .inl ⟨rfl, rfl⟩, by simp, fun t ht => by simp at ht⟩
  · simp only [if_true] at hm
    subst hm
    have hc1 : Tryd.prog.cellsOf 9 = 1 := by kernel_rfl
    by_cases h0 : 0 < len
    · obtain ⟨cs0, hc0, hd0⟩ := hel 0 (by omega)
      obtain ⟨b, o, spot⟩ := ad
      rw [hc1] at hel hc0
      have hsp : spot = none := by
        unfold World.cells? at hc0
        rw [if_pos (Nat.zero_le _), show List.range 1 = [0] from rfl] at hc0
        simp only [List.mapM_cons] at hc0
        cases h : W.cell? ((({ block := b, off := o, spot := spot } : Addr).add (0 * 1)).add 0) with
        | none => simp [h] at hc0
        | some u => simpa [Addr.add] using World.cell?_spot h
      subst hsp
      have key : ∀ i, i < len → ∃ t : List UInt8, W.cell? ⟨b, o + i, none⟩ = some (.string (mkS t)) ∧ t.length ≤ maxLen := by
        intro i hi
        obtain ⟨cs', hk1, hk2⟩ := hel i (by omega)
        rw [plain_add, Nat.mul_one] at hk1
        obtain ⟨s, hs, -, hsz⟩ := DataW.trod_string Tryd.underlying9 hk2
        obtain ⟨t, rfl⟩ := mkS_of s
        subst hs
        obtain ⟨-, hcc⟩ := cells_at hk1
        have := hcc 0 (by decide)
        refine ⟨t, by simpa using this, ?_⟩
        rw [mkS_size] at hsz
        exact hsz
      obtain ⟨l, hll, hp⟩ := list_of _ len key
      refine ⟨l, _, m, by rw [hll]; exact hcs, .inr (.inr ⟨by omega, b, o, m, rfl, by omega, ?_, fun j hj => (hp j hj).1⟩), by omega, fun t ht => ?_⟩
      · obtain ⟨t, ht, _⟩ := key 0 h0
        exact World.block_lt_of_cell? W _ ht
      · obtain ⟨j, hj, rfl⟩ := List.getElem_of_mem ht
        exact (hp j hj).2
    · have hl0 : len = 0 := by omega
      subst hl0
      exact ⟨[], some ad, m, hcs, .inr (.inl ⟨ad, m, rfl, rfl⟩), by simp, fun t ht => by simp at ht⟩
theorem slice_len {H : Type} {enc : TypeId × Value → H} {W : World} {fuel : Nat} {A : Option Addr} {N C : Nat} {x : DataW H × List MemPlace}
    (hf : DataW.trod enc Tryd.prog W 0 (fun _ => true) true fuel 23 [.slice A N C] = some x) : N ≤ maxLen := by
  rcases Go.Deep.open_slice Tryd.underlying23 hf with ⟨hcs, _⟩ | ⟨ad, len, cap, m, n, D, Pl, hcs, _, hl, hmx, _⟩
  · simp at hcs; omega
  · simp at hcs
    obtain ⟨_, rfl, _⟩ := hcs
    exact Nat.le_trans hl hmx
set_option maxRecDepth 100000 in
set_option maxHeartbeats 4000000 in
theorem flatR_read {H : Type} {enc : TypeId × Value → H} {W : World} {fuel : Nat} {cs : List Value} {x : DataW H × List MemPlace}
    (hf : DataW.trod enc Tryd.prog W 0 (fun _ => true) true fuel 43 cs = some x) :
    ∃ (f : Rf) (A1 A2 A3 : Option Addr) (c1 c2 c3 : Nat) (u : Value) (n : Nat) (y : DataW H × List MemPlace), cs = [.int .u8 f.kind, .int .i64 f.xid, .int .i64 f.zxid, .int .i64 f.err, .int .i64 f.session, .int .i64 f.timeout, .string (mkS f.path), .slice A1 f.data.length c1, .int .i64 f.s0, .int .i64 f.s1, .int .i64 f.s2, .int .i64 f.s3, .int .i64 f.s4, .int .i64 f.s5, .int .i64 f.s6, .int .i64 f.s7, .int .i64 f.s8, .int .i64 f.s9, .slice A2 f.list.length c2, .int .i64 f.cver, .slice A3 f.cmems.length c3, u] ∧ RVal W f A1 c1 A2 c2 A3 c3 ∧ RFit f ∧ RLen f ∧ DataW.trod enc Tryd.prog W 0 (fun _ => true) true n 41 [u] = some y := by
  obtain ⟨xs, n, _, hx, hl, hlen, hfs⟩ := DataW.trod_struct Tryd.underlying43 hf
  rw [reply_cells] at hl
  obtain ⟨v0, v1, v2, v3, v4, v5, v6, v7, v8, v9, v10, v11, v12, v13, v14, v15, v16, v17, v18, v19, v20, v21, rfl⟩ := list22 hl
  have hget : ∀ i (h : i < 12), xs[i]? = some (xs[i]'(by rw [hlen]; exact h)) := fun i h => List.getElem?_eq_getElem _
  have hml : maxLen = 9223372036854775807 := rfl
  obtain ⟨z0, hz0, -, w0⟩ := DataW.trod_int Tryd.underlying22 ((hfs 0 _ rfl).trans (hget 0 (by decide)))
  have e0 : v0 = .int .u8 z0 := by simpa [show Tryd.prog.cellsOf 22 = 1 by kernel_rfl] using hz0
  obtain ⟨z1, hz1, -, w1⟩ := DataW.trod_int Tryd.underlying3 ((hfs 1 _ rfl).trans (hget 1 (by decide)))
  have e1 : v1 = .int .i64 z1 := by simpa [show Tryd.prog.cellsOf 3 = 1 by kernel_rfl] using hz1
  obtain ⟨z2, hz2, -, w2⟩ := DataW.trod_int Tryd.underlying25 ((hfs 2 _ rfl).trans (hget 2 (by decide)))
  have e2 : v2 = .int .i64 z2 := by simpa [show Tryd.prog.cellsOf 25 = 1 by kernel_rfl] using hz2
  obtain ⟨z3, hz3, -, w3⟩ := DataW.trod_int Tryd.underlying32 ((hfs 3 _ rfl).trans (hget 3 (by decide)))
  have e3 : v3 = .int .i64 z3 := by simpa [show Tryd.prog.cellsOf 32 = 1 by kernel_rfl] using hz3
  obtain ⟨z4, hz4, -, w4⟩ := DataW.trod_int Tryd.underlying2 ((hfs 4 _ rfl).trans (hget 4 (by decide)))
  have e4 : v4 = .int .i64 z4 := by simpa [show Tryd.prog.cellsOf 2 = 1 by kernel_rfl] using hz4
  obtain ⟨z5, hz5, -, w5⟩ := DataW.trod_int Tryd.underlying3 ((hfs 5 _ rfl).trans (hget 5 (by decide)))
  have e5 : v5 = .int .i64 z5 := by simpa [show Tryd.prog.cellsOf 3 = 1 by kernel_rfl] using hz5
  obtain ⟨s6, hz6, -, hsl⟩ := DataW.trod_string Tryd.underlying9 ((hfs 6 _ rfl).trans (hget 6 (by decide)))
  have e6 : v6 = .string s6 := by simpa [show Tryd.prog.cellsOf 9 = 1 by kernel_rfl] using hz6
  obtain ⟨p6, rfl⟩ := mkS_of s6
  rw [mkS_size] at hsl
  have t7 := (hfs 7 _ rfl).trans (hget 7 (by decide))
  obtain ⟨ld, A1, c1, hz7, hbs, -, -⟩ := bytes_read t7
  have e7 : v7 = .slice A1 ld.length c1 := by simpa [show Tryd.prog.cellsOf 23 = 1 by kernel_rfl] using hz7
  have hdl : ld.length ≤ maxLen := by
    rw [hz7] at t7
    exact slice_len t7
  have t8 := (hfs 8 _ rfl).trans (hget 8 (by decide))
  obtain ⟨xs8, n8, _, hx8, hl8, hlen8, hfs8⟩ := DataW.trod_struct Tryd.underlying37 t8
  have hget8 : ∀ i (h : i < 10), xs8[i]? = some (xs8[i]'(by rw [hlen8]; exact h)) := fun i h => List.getElem?_eq_getElem _
  obtain ⟨b0, hb0, -, y0⟩ := DataW.trod_int Tryd.underlying25 ((hfs8 0 _ rfl).trans (hget8 0 (by decide)))
  have g0 : v8 = .int .i64 b0 := by simpa [show Tryd.prog.cellsOf 25 = 1 by kernel_rfl, stat_cells] using hb0
  obtain ⟨b1, hb1, -, y1⟩ := DataW.trod_int Tryd.underlying25 ((hfs8 1 _ rfl).trans (hget8 1 (by decide)))
  have g1 : v9 = .int .i64 b1 := by simpa [show Tryd.prog.cellsOf 25 = 1 by kernel_rfl, stat_cells] using hb1
  obtain ⟨b2, hb2, -, y2⟩ := DataW.trod_int Tryd.underlying25 ((hfs8 2 _ rfl).trans (hget8 2 (by decide)))
  have g2 : v10 = .int .i64 b2 := by simpa [show Tryd.prog.cellsOf 25 = 1 by kernel_rfl, stat_cells] using hb2
  obtain ⟨b3, hb3, -, y3⟩ := DataW.trod_int Tryd.underlying2 ((hfs8 3 _ rfl).trans (hget8 3 (by decide)))
  have g3 : v11 = .int .i64 b3 := by simpa [show Tryd.prog.cellsOf 2 = 1 by kernel_rfl, stat_cells] using hb3
  obtain ⟨b4, hb4, -, y4⟩ := DataW.trod_int Tryd.underlying2 ((hfs8 4 _ rfl).trans (hget8 4 (by decide)))
  have g4 : v12 = .int .i64 b4 := by simpa [show Tryd.prog.cellsOf 2 = 1 by kernel_rfl, stat_cells] using hb4
  obtain ⟨b5, hb5, -, y5⟩ := DataW.trod_int Tryd.underlying3 ((hfs8 5 _ rfl).trans (hget8 5 (by decide)))
  have g5 : v13 = .int .i64 b5 := by simpa [show Tryd.prog.cellsOf 3 = 1 by kernel_rfl, stat_cells] using hb5
  obtain ⟨b6, hb6, -, y6⟩ := DataW.trod_int Tryd.underlying3 ((hfs8 6 _ rfl).trans (hget8 6 (by decide)))
  have g6 : v14 = .int .i64 b6 := by simpa [show Tryd.prog.cellsOf 3 = 1 by kernel_rfl, stat_cells] using hb6
  obtain ⟨b7, hb7, -, y7⟩ := DataW.trod_int Tryd.underlying2 ((hfs8 7 _ rfl).trans (hget8 7 (by decide)))
  have g7 : v15 = .int .i64 b7 := by simpa [show Tryd.prog.cellsOf 2 = 1 by kernel_rfl, stat_cells] using hb7
  obtain ⟨b8, hb8, -, y8⟩ := DataW.trod_int Tryd.underlying3 ((hfs8 8 _ rfl).trans (hget8 8 (by decide)))
  have g8 : v16 = .int .i64 b8 := by simpa [show Tryd.prog.cellsOf 3 = 1 by kernel_rfl, stat_cells] using hb8
  obtain ⟨b9, hb9, -, y9⟩ := DataW.trod_int Tryd.underlying3 ((hfs8 9 _ rfl).trans (hget8 9 (by decide)))
  have g9 : v17 = .int .i64 b9 := by simpa [show Tryd.prog.cellsOf 3 = 1 by kernel_rfl, stat_cells] using hb9
  obtain ⟨ll, A2, c2, hz9, htx, hln, hlt⟩ := texts_read ((hfs 9 _ rfl).trans (hget 9 (by decide)))
  have e18 : v18 = .slice A2 ll.length c2 := by simpa [show Tryd.prog.cellsOf 38 = 1 by kernel_rfl] using hz9
  have t10 := (hfs 10 _ rfl).trans (hget 10 (by decide))
  obtain ⟨y10, y11, n', -, -, t0, t1⟩ := trod_struct2 Tryd.underlying40 t10
  obtain ⟨z19, hz19, -, w19⟩ := DataW.trod_int Tryd.underlying25 t0
  obtain ⟨lm, A3, c3, hz20, hms, -, -, -⟩ := mems_read t1
  have e19 : v19 = .int .i64 z19 := by simpa [show Tryd.prog.cellsOf 25 = 1 by kernel_rfl, ens_cells] using hz19
  have e20 : v20 = .slice A3 lm.length c3 := by simpa [show Tryd.prog.cellsOf 26 = 1 by kernel_rfl, ens_cells] using hz20
  have t11 := (hfs 11 _ rfl).trans (hget 11 (by decide))
  have t11' : DataW.trod enc Tryd.prog W 0 (fun _ => true) true n 41 [v21] = some (xs[11]'(by rw [hlen]; decide)) := by
    have hc : Tryd.prog.cellsOf 41 = 1 := by kernel_rfl
    simpa [hc] using t11
  subst e0 e1 e2 e3 e4 e5 e6 e7 e18 e19 e20 g0 g1 g2 g3 g4 g5 g6 g7 g8 g9
  refine ⟨⟨z0, z1, z2, z3, z4, z5, p6, ld, b0, b1, b2, b3, b4, b5, b6, b7, b8, b9, ll, z19, lm, 0⟩, A1, A2, A3, c1, c2, c3, v21, n, _, rfl, ⟨hbs, htx, hms⟩, ⟨wf_u8 w0, ?_, ?_⟩, ⟨by dsimp only; omega, by dsimp only; omega, by dsimp only; omega, fun t ht => by have := hlt t ht; omega⟩, t11'⟩
  · intro m hm
    simp only [headR, List.mem_cons, List.not_mem_nil, or_false] at hm
    rcases hm with rfl | rfl | rfl | rfl | rfl
    · exact wf_i64 w1
    · exact wf_i64 w2
    · exact wf_i64 w3
    · exact wf_i64 w4
    · exact wf_i64 w5
  · intro m hm
    simp only [statR, List.mem_cons, List.not_mem_nil, or_false] at hm
    rcases hm with rfl | rfl | rfl | rfl | rfl | rfl | rfl | rfl | rfl | rfl
    · exact wf_i64 y0
    · exact wf_i64 y1
    · exact wf_i64 y2
    · exact wf_i64 y3
    · exact wf_i64 y4
    · exact wf_i64 y5
    · exact wf_i64 y6
    · exact wf_i64 y7
    · exact wf_i64 y8
    · exact wf_i64 y9
theorem formR_read {H : Type} {enc : TypeId × Value → H} {W : World} {fuel : Nat} {u : Value} {x : DataW H × List MemPlace}
    (hf : DataW.trod enc Tryd.prog W 0 (fun _ => true) true fuel 41 [u] = some x) : ∃ A n C, u = .slice A n C ∧ n ≤ maxLen := by
  rcases Go.Deep.open_slice Tryd.underlying41 hf with ⟨hcs, _⟩ | ⟨ad, len, cap, m, n, D, Pl, hcs, _, hl, hmx, _⟩
  · exact ⟨none, 0, 0, by simpa using hcs, Nat.zero_le _⟩
  · exact ⟨some ad, len, cap, by simpa using hcs, Nat.le_trans hl hmx⟩
theorem replyC_read {H : Type} {enc : TypeId × Value → H} {W : World} {fuel : Nat} {cs : List Value} {x : DataW H × List MemPlace}
    (hf : DataW.trod enc Tryd.prog W 0 (fun _ => true) true fuel 43 cs = some x) :
    ∃ (f : Rf) (A1 A2 A3 A4 : Option Addr) (c1 c2 c3 c4 : Nat) (n : Nat) (y : DataW H × List MemPlace), cs = [.int .u8 f.kind, .int .i64 f.xid, .int .i64 f.zxid, .int .i64 f.err, .int .i64 f.session, .int .i64 f.timeout, .string (mkS f.path), .slice A1 f.data.length c1, .int .i64 f.s0, .int .i64 f.s1, .int .i64 f.s2, .int .i64 f.s3, .int .i64 f.s4, .int .i64 f.s5, .int .i64 f.s6, .int .i64 f.s7, .int .i64 f.s8, .int .i64 f.s9, .slice A2 f.list.length c2, .int .i64 f.cver, .slice A3 f.cmems.length c3, .slice A4 f.np c4] ∧ RVal W f A1 c1 A2 c2 A3 c3 ∧ RFit f ∧ RLen f ∧ f.np ≤ maxLen ∧ DataW.trod enc Tryd.prog W 0 (fun _ => true) true n 41 [.slice A4 f.np c4] = some y := by
  obtain ⟨f, A1, A2, A3, c1, c2, c3, u, n, y, rfl, h1, h2, h3, h4⟩ := flatR_read hf
  obtain ⟨A4, k, c4, rfl, hk⟩ := formR_read h4
  exact ⟨{ f with np := k }, A1, A2, A3, A4, c1, c2, c3, c4, n, y, rfl, ⟨h1.bs, h1.tx, h1.ms⟩, ⟨h2.kind, h2.head, h2.stat⟩, ⟨h3.path, h3.data, h3.list, h3.texts⟩, hk, h4⟩
theorem spotR {w : World} {b o n : Nat} {sp : Option Nat} {cs : List Value} (h : w.cells? 0 (({ block := b, off := o, spot := sp } : Addr).add (0 * 22)) 22 = some cs) : sp = none := by
  unfold World.cells? at h
  rw [if_pos (Nat.zero_le _)] at h
  have := mapM_some_get h 0 0 (by simp)
  have hl := mapM_some_length h
  cases hc : w.cell? ((({ block := b, off := o, spot := sp } : Addr).add (0 * 22)).add 0) with
  | none => rw [hc] at this; have h2 := List.getElem?_eq_none_iff.1 this.symm; simp at hl; omega
  | some u => simpa [Addr.add] using World.cell?_spot hc
set_option maxRecDepth 100000 in
theorem partsR_read {H : Type} {enc : TypeId × Value → H} {W : World} {fuel : Nat} {A : Option Addr} {N C : Nat} {x : DataW H × List MemPlace}
    (hf : DataW.trod enc Tryd.prog W 0 (fun _ => true) true fuel 41 [.slice A N C] = some x) :
    ∃ ps, N = ps.length ∧ RPrts W W.heap.size (.slice A N C) ps ∧ (∀ p ∈ ps, RFit p) ∧ ∀ p ∈ ps, RLen p ∧ p.np ≤ 9223372036854775807 := by
  rcases Go.Deep.open_slice Tryd.underlying41 hf with ⟨hcs, hx⟩ | ⟨ad, len, cap, m, n, D, Pl, hcs, _, hl, hmx, hm, hx, hel⟩
  · simp at hcs
    obtain ⟨rfl, rfl, rfl⟩ := hcs
    exact ⟨[], rfl, .inl ⟨rfl, rfl⟩, fun p hp => by simp at hp, fun p hp => by simp at hp⟩
  · simp at hcs
    obtain ⟨rfl, rfl, rfl⟩ := hcs
    simp only [if_true] at hm
    subst hm
    have hml : maxLen = 9223372036854775807 := rfl
    by_cases h0 : 0 < N
    · obtain ⟨cs0, hc0, _⟩ := hel 0 (by omega)
      obtain ⟨b, o, spot⟩ := ad
      rw [reply_cells] at hel hc0
      have hsp : spot = none := spotR (n := 0) hc0
      subst hsp
      have key : ∀ i, i < N → ∃ p : Rf, (∃ (A1 A2 A3 A4 : Option Addr) (c1 c2 c3 c4 : Nat), W.rangeAt b (o + i * 22) [.int .u8 p.kind, .int .i64 p.xid, .int .i64 p.zxid, .int .i64 p.err, .int .i64 p.session, .int .i64 p.timeout, .string (mkS p.path), .slice A1 p.data.length c1, .int .i64 p.s0, .int .i64 p.s1, .int .i64 p.s2, .int .i64 p.s3, .int .i64 p.s4, .int .i64 p.s5, .int .i64 p.s6, .int .i64 p.s7, .int .i64 p.s8, .int .i64 p.s9, .slice A2 p.list.length c2, .int .i64 p.cver, .slice A3 p.cmems.length c3, .slice A4 p.np c4] ∧ RRest W W.heap.size p A1 c1 A2 c2 A3 c3) ∧ RFit p ∧ RLen p ∧ p.np ≤ 9223372036854775807 := by
        intro i hi
        obtain ⟨cs', hc1, hc2⟩ := hel i (by omega)
        rw [plain_add] at hc1
        obtain ⟨f, A1, A2, A3, A4, c1, c2, c3, c4, n', y, rfl, g1, g2, g3, g4, g5⟩ := replyC_read hc2
        obtain ⟨hll, hc⟩ := cells_at hc1
        refine ⟨f, ⟨A1, A2, A3, A4, c1, c2, c3, c4, fun j v hj => ?_, ⟨g1.bs, fun k hk => g1.bs.lt hk, g1.tx, fun k hk => g1.tx.lt hk, g1.ms, fun k hk => g1.ms.lt hk⟩⟩, g2, g3, by omega⟩
        have hj22 : j < 22 := by
          have := (List.getElem?_eq_some_iff.1 hj).1
          simpa using this
        rw [hc j hj22]
        exact hj
      obtain ⟨l, hll, hp⟩ := list_of _ N key
      refine ⟨l, hll.symm, .inr (.inr ⟨by omega, b, o, m, by rw [hll], by omega, ?_, Nat.le_refl _, fun j hj => (hp j hj).1⟩), fun z hz => ?_, fun z hz => ?_⟩
      · obtain ⟨z, ⟨_, _, _, _, _, _, _, _, hz, _⟩, _⟩ := key 0 h0
        exact World.block_lt_of_cell? W _ (hz 0 _ rfl)
      · obtain ⟨j, hj, rfl⟩ := List.getElem_of_mem hz
        exact (hp j hj).2.1
      · obtain ⟨j, hj, rfl⟩ := List.getElem_of_mem hz
        exact (hp j hj).2.2
    · have hl0 : N = 0 := by omega
      subst hl0
      exact ⟨[], rfl, .inr (.inl ⟨ad, m, rfl, rfl⟩), fun p hp => by simp at hp, fun p hp => by simp at hp⟩
theorem reply_in {H : Type} {enc : TypeId × Value → H} {W : World} {fuel : Nat} {cs : List Value} {x : DataW H × List MemPlace}
    (hf : DataW.trod enc Tryd.prog W 0 (fun _ => true) true fuel 43 cs = some x) :
    ∃ (f : Rf) (ps : List Rf) (A1 A2 A3 A4 : Option Addr) (c1 c2 c3 c4 : Nat), cs = [.int .u8 f.kind, .int .i64 f.xid, .int .i64 f.zxid, .int .i64 f.err, .int .i64 f.session, .int .i64 f.timeout, .string (mkS f.path), .slice A1 f.data.length c1, .int .i64 f.s0, .int .i64 f.s1, .int .i64 f.s2, .int .i64 f.s3, .int .i64 f.s4, .int .i64 f.s5, .int .i64 f.s6, .int .i64 f.s7, .int .i64 f.s8, .int .i64 f.s9, .slice A2 f.list.length c2, .int .i64 f.cver, .slice A3 f.cmems.length c3, .slice A4 f.np c4] ∧ RVal W f A1 c1 A2 c2 A3 c3 ∧ RPrts W W.heap.size (.slice A4 f.np c4) ps ∧ RepFit f ps ∧ RLen f ∧ (∀ p ∈ ps, RLen p ∧ p.np ≤ 9223372036854775807) ∧ f.np ≤ 9223372036854775807 := by
  obtain ⟨f, A1, A2, A3, A4, c1, c2, c3, c4, n, y, rfl, h1, h2, h3, h4, h5⟩ := replyC_read hf
  obtain ⟨ps, hn, hp, hq, hr⟩ := partsR_read h5
  exact ⟨f, ps, A1, A2, A3, A4, c1, c2, c3, c4, rfl, h1, hp, ⟨h2, hq, hn⟩, h3, hr, by have : maxLen = 9223372036854775807 := rfl; omega⟩
theorem event_cells : Tryd.prog.cellsOf 46 = 4 := by kernel_rfl
theorem list4 {cs : List Value} (h : cs.length = 4) : ∃ v0 v1 v2 v3, cs = [v0, v1, v2, v3] := by
  match cs, h with
  | [v0, v1, v2, v3], _ => exact ⟨v0, v1, v2, v3, rfl⟩
theorem event_in {H : Type} {enc : TypeId × Value → H} {W : World} {fuel : Nat} {cs : List Value} {x : DataW H × List MemPlace}
    (hf : DataW.trod enc Tryd.prog W 0 (fun _ => true) true fuel 46 cs = some x) :
    ∃ e : Ev, cs = [.int .u8 e.kind, .int .u8 e.sort, .string (mkS e.path), .int .i64 e.zxid] ∧ EvFit e ∧ e.path.length ≤ 9223372036854775807 := by
  obtain ⟨xs, n, _, hx, hl, hlen, hfs⟩ := DataW.trod_struct Tryd.underlying46 hf
  rw [event_cells] at hl
  obtain ⟨v0, v1, v2, v3, rfl⟩ := list4 hl
  have hget : ∀ i (h : i < 4), xs[i]? = some (xs[i]'(by rw [hlen]; exact h)) := fun i h => List.getElem?_eq_getElem _
  obtain ⟨z0, hz0, -, w0⟩ := DataW.trod_int Tryd.underlying44 ((hfs 0 _ rfl).trans (hget 0 (by decide)))
  have e0 : v0 = .int .u8 z0 := by simpa [show Tryd.prog.cellsOf 44 = 1 by kernel_rfl] using hz0
  obtain ⟨z1, hz1, -, w1⟩ := DataW.trod_int Tryd.underlying24 ((hfs 1 _ rfl).trans (hget 1 (by decide)))
  have e1 : v1 = .int .u8 z1 := by simpa [show Tryd.prog.cellsOf 24 = 1 by kernel_rfl] using hz1
  obtain ⟨s2, hz2, -, hsl⟩ := DataW.trod_string Tryd.underlying9 ((hfs 2 _ rfl).trans (hget 2 (by decide)))
  have e2 : v2 = .string s2 := by simpa [show Tryd.prog.cellsOf 9 = 1 by kernel_rfl] using hz2
  obtain ⟨p2, rfl⟩ := mkS_of s2
  rw [mkS_size] at hsl
  obtain ⟨z3, hz3, -, w3⟩ := DataW.trod_int Tryd.underlying25 ((hfs 3 _ rfl).trans (hget 3 (by decide)))
  have e3 : v3 = .int .i64 z3 := by simpa [show Tryd.prog.cellsOf 25 = 1 by kernel_rfl] using hz3
  subst e0 e1 e2 e3
  exact ⟨⟨z0, z1, p2, z3⟩, rfl, ⟨wf_u8 w0, wf_u8 w1, wf_i64 w3⟩, by have : maxLen = 9223372036854775807 := rfl; dsimp only; omega⟩
end Go.Proofs.YtmojplgoohnmdaaDoor.AK
/- What the listed variable of the program gives a walk over calls, and a world in which it holds what the program's text lays. -/
namespace Go.Proofs.YtmojplgoohnmdaaDoor
set_option linter.unusedVariables false
open Go.ChangeShapes Go.WideShapes Go.ChangeAt Go.RowKit

theorem own : ownKnob Tryd.prog.godebug = none := by kernel_rfl
theorem gTab : Tryd.prog.globalNamed "beadle/ask.kinds" = some 0 := by kernel_rfl
theorem gTabType : (Tryd.prog.globals[0]?).map (·.type) = some 120 := by kernel_rfl
theorem cellsT : Tryd.prog.cellsOf 120 = 15 := by kernel_rfl
theorem cellsE : Tryd.prog.cellsOf 74 = 1 := by kernel_rfl
theorem tabData_eq : (Rows.laid_beadle_ask_kinds : DataW Unit) = Lib.tabData .u16 AK.kindsQ := by kernel_rfl
theorem laid_of {rest : List (String × DataW Unit)} {W : World} (h : laidMet Tryd.prog (("beadle/ask.kinds", Rows.laid_beadle_ask_kinds) :: rest) W) : AK.QL W := by
  rw [tabData_eq] at h
  have ht := Lib.tabIs_of_head gTab gTabType Tryd.underlying120 Tryd.underlying74 cellsE cellsT h
  unfold Lib.TabIs World.var? at ht
  rw [gTab] at ht
  refine ⟨fun j hj => ?_⟩
  simp only [Option.bind_some] at ht
  split at ht
  · next cs t fr hh =>
    rw [cell_at hh]
    simp only [Option.some.injEq] at ht
    rw [ht]
    rcases j with _ | _ | _ | _ | _ | _ | _ | _ | _ | _ | _ | _ | _ | _ | _ | j <;> first | rfl | omega
  · cases ht
def u16s (l : List Int) : Array Value := (l.map fun z => Value.int .u16 z).toArray
def put (h : Array Obj) (g : Nat) (cs : Array Value) : Array Obj := h.modify g fun
  | .cells _ t frozen => .cells cs t frozen
  | o => o
noncomputable def laidWorld (os : Os) : World :=
  { World.holding Tryd.prog os ⟨#[], #[], []⟩ with heap := put (World.holding Tryd.prog os ⟨#[], #[], []⟩).heap 0 (u16s AK.kindsQ) }
end Go.Proofs.YtmojplgoohnmdaaDoor
namespace Go.Proofs.YtmojplgoohnmdaaDoor.askReplies
open Go.ChangeShapes Go.WideShapes Go.ChangeAt Go.RowKit
open Go.ChangeMaps (open_string shut_string)

theorem laidOut : laidOutB Tryd.prog = true := by kernel_rfl
set_option maxRecDepth 100000 in
theorem contract (H : Type) (enc : TypeId × Value → H) (W : World) (base : Nat) (args : Array Value) (ds gs : List (DataW H)) (before : List MemPlace)
    (hval : ∀ (j : Nat) t v, Tryd.f4.params[j]? = some t → args[j]? = some v → Value.okWide Tryd.prog W .any base t v)
    (hW : DataW.Whole enc Tryd.prog Tryd.f4.params.toList Rows.askRepliesSpec.vars false W args.toList ds gs before)
    (hwt : (DataW.weightsEach Tryd.prog (Tryd.f4.params.toList ++ (OpenSpec.ofChange Rows.askRepliesSpec).bare.plain.varTypes Tryd.prog) (ds ++ gs)).all (· ≤ reachBytes) = true)
    (hL : laidMetH Tryd.prog Rows.askRepliesRow.laid W) (_hS : W.ShapedOpen Tryd.prog) :
    Calls Tryd.prog 4 args W fun e W' => ∃ v, e = .returned v ∧ Rows.askRepliesSpec.post enc Tryd.prog Tryd.f4 false true false false W args v W' := by
  have hW' := hW
  obtain ⟨p, q, hA0, hV, rfl, hfz, hnd⟩ := hW
  have hA : DataW.TrodAll enc Tryd.prog W 0 (fun _ => true) true Tryd.f4.params.toList args.toList ds p := hA0
  rw [Tryd.params4] at hA hval
  obtain ⟨v0, vs0, d0, ds0, p0, q0, hargs0, rfl, rfl, h0, r0⟩ := trodAll_cons hA
  obtain ⟨v1, vs1, d1, ds1, p1, q1, hargs1, rfl, rfl, h1, r1⟩ := trodAll_cons r0
  obtain ⟨rfl, rfl, rfl⟩ := trodAll_nil r1
  obtain rfl : args = #[v0, v1] := by cases args; simp_all
  obtain ⟨rfl, rfl⟩ := trodVars_none hV
  have k0 := h0
  have lt0 : ∀ x ∈ p0, x.block < W.heap.size := by obtain ⟨m, hm⟩ := k0; exact DataW.trod_lt m _ _ _ hm
  obtain ⟨cs0, rfl, hsz0⟩ := okWide_struct Tryd.underlying43 (hval 0 43 v0 rfl rfl)
  obtain ⟨f0, ps0, A01, A02, A03, A04, c01, c02, c03, c04, hcs0, V0, P0, F0, L0, LP0, N0⟩ := (by obtain ⟨fuel, hf⟩ := h0; exact AK.reply_in hf : ∃ (f0 : AK.Rf) (ps0 : List AK.Rf) (A01 A02 A03 A04 : Option Addr) (c01 c02 c03 c04 : Nat), (Value.agg cs0).cells.toList = [.int .u8 f0.kind, .int .i64 f0.xid, .int .i64 f0.zxid, .int .i64 f0.err, .int .i64 f0.session, .int .i64 f0.timeout, .string (mkS f0.path), .slice A01 f0.data.length c01, .int .i64 f0.s0, .int .i64 f0.s1, .int .i64 f0.s2, .int .i64 f0.s3, .int .i64 f0.s4, .int .i64 f0.s5, .int .i64 f0.s6, .int .i64 f0.s7, .int .i64 f0.s8, .int .i64 f0.s9, .slice A02 f0.list.length c02, .int .i64 f0.cver, .slice A03 f0.cmems.length c03, .slice A04 f0.np c04] ∧ AK.RVal W f0 A01 c01 A02 c02 A03 c03 ∧ AK.RPrts W W.heap.size (.slice A04 f0.np c04) ps0 ∧ AK.RepFit f0 ps0 ∧ AK.RLen f0 ∧ (∀ p ∈ ps0, AK.RLen p ∧ p.np ≤ 9223372036854775807) ∧ f0.np ≤ 9223372036854775807)
  obtain rfl : cs0 = ([.int .u8 f0.kind, .int .i64 f0.xid, .int .i64 f0.zxid, .int .i64 f0.err, .int .i64 f0.session, .int .i64 f0.timeout, .string (mkS f0.path), .slice A01 f0.data.length c01, .int .i64 f0.s0, .int .i64 f0.s1, .int .i64 f0.s2, .int .i64 f0.s3, .int .i64 f0.s4, .int .i64 f0.s5, .int .i64 f0.s6, .int .i64 f0.s7, .int .i64 f0.s8, .int .i64 f0.s9, .slice A02 f0.list.length c02, .int .i64 f0.cver, .slice A03 f0.cmems.length c03, .slice A04 f0.np c04] : List Value).toArray := by
    have : cs0.toList = [.int .u8 f0.kind, .int .i64 f0.xid, .int .i64 f0.zxid, .int .i64 f0.err, .int .i64 f0.session, .int .i64 f0.timeout, .string (mkS f0.path), .slice A01 f0.data.length c01, .int .i64 f0.s0, .int .i64 f0.s1, .int .i64 f0.s2, .int .i64 f0.s3, .int .i64 f0.s4, .int .i64 f0.s5, .int .i64 f0.s6, .int .i64 f0.s7, .int .i64 f0.s8, .int .i64 f0.s9, .slice A02 f0.list.length c02, .int .i64 f0.cver, .slice A03 f0.cmems.length c03, .slice A04 f0.np c04] := by simpa [Value.cells] using hcs0
    rw [← this]
  have k1 := h1
  have lt1 : ∀ x ∈ p1, x.block < W.heap.size := by obtain ⟨m, hm⟩ := k1; exact DataW.trod_lt m _ _ _ hm
  obtain ⟨cs1, rfl, hsz1⟩ := okWide_struct Tryd.underlying46 (hval 1 46 v1 rfl rfl)
  obtain ⟨e1, hcs1, F1, L1⟩ := (by obtain ⟨fuel, hf⟩ := h1; exact AK.event_in hf : ∃ e1 : AK.Ev, (Value.agg cs1).cells.toList = [.int .u8 e1.kind, .int .u8 e1.sort, .string (mkS e1.path), .int .i64 e1.zxid] ∧ AK.EvFit e1 ∧ e1.path.length ≤ 9223372036854775807)
  obtain rfl : cs1 = ([.int .u8 e1.kind, .int .u8 e1.sort, .string (mkS e1.path), .int .i64 e1.zxid] : List Value).toArray := by
    have : cs1.toList = [.int .u8 e1.kind, .int .u8 e1.sort, .string (mkS e1.path), .int .i64 e1.zxid] := by simpa [Value.cells] using hcs1
    rw [← this]
  clear hA0
  simp only [List.append_nil] at hW'
  have hK : AK.QL W := laid_of hL
  clear hval
  refine (AK.lreplies_any f0 ps0 A01 A02 A03 A04 c01 c02 c03 c04 W V0 P0 F0 L0 LP0 N0 e1 F1 L1 hK).mono fun e W' ⟨he, bel⟩ => ?_
  subst he
  exact ⟨_, rfl, _, _, _, [], _, [], hW', trodAll_mk1 (shut_bool Tryd.underlying4 _), (trodAll_cons_mk (Below.trod laidOut (by kernel_rfl) (of_decide_eq_true (by kernel_rfl)) k0 bel lt0) (trodAll_cons_mk (Below.trod laidOut (by kernel_rfl) (of_decide_eq_true (by kernel_rfl)) k1 bel lt1) trodAll_mk0)), rfl, bel.frame _, fun h => by cases h⟩

theorem laid_met (os : Os) : laidMet Tryd.prog Rows.askRepliesRow.laid ((laidWorld os).forCall (fun _ _ => 0) ⟨#[], #[.agg #[.int .u8 0, .int .i64 0, .int .i64 0, .int .i64 0, .int .i64 0, .int .i64 0, .string ByteArray.empty, .slice none 0 0, .int .i64 0, .int .i64 0, .int .i64 0, .int .i64 0, .int .i64 0, .int .i64 0, .int .i64 0, .int .i64 0, .int .i64 0, .int .i64 0, .slice none 0 0, .int .i64 0, .slice none 0 0, .slice none 0 0], .agg #[.int .u8 0, .int .u8 0, .string ByteArray.empty, .int .i64 0]], []⟩).memory :=
  laidMet_of_run' 8 (by kernel_rfl) (by kernel_rfl)
theorem reads (os : Os) {H : Type} (enc : TypeId × Value → H) : ∃ places, DataW.whole enc Tryd.prog ((laidWorld os).forCall (fun _ _ => 0) ⟨#[], #[.agg #[.int .u8 0, .int .i64 0, .int .i64 0, .int .i64 0, .int .i64 0, .int .i64 0, .string ByteArray.empty, .slice none 0 0, .int .i64 0, .int .i64 0, .int .i64 0, .int .i64 0, .int .i64 0, .int .i64 0, .int .i64 0, .int .i64 0, .int .i64 0, .int .i64 0, .slice none 0 0, .int .i64 0, .slice none 0 0, .slice none 0 0], .agg #[.int .u8 0, .int .u8 0, .string ByteArray.empty, .int .i64 0]], []⟩).memory Tryd.f4.params.toList Rows.askRepliesSpec.vars false #[Value.agg #[.int .u8 0, .int .i64 0, .int .i64 0, .int .i64 0, .int .i64 0, .int .i64 0, .string ByteArray.empty, .slice none 0 0, .int .i64 0, .int .i64 0, .int .i64 0, .int .i64 0, .int .i64 0, .int .i64 0, .int .i64 0, .int .i64 0, .int .i64 0, .int .i64 0, .slice none 0 0, .int .i64 0, .slice none 0 0, .slice none 0 0], .agg #[.int .u8 0, .int .u8 0, .string ByteArray.empty, .int .i64 0]].toList 8 = some ([.agg [.lit (.int .u8 0), .lit (.int .i64 0), .lit (.int .i64 0), .lit (.int .i64 0), .lit (.int .i64 0), .lit (.int .i64 0), .lit (.string []), .nil, .agg [.lit (.int .i64 0), .lit (.int .i64 0), .lit (.int .i64 0), .lit (.int .i64 0), .lit (.int .i64 0), .lit (.int .i64 0), .lit (.int .i64 0), .lit (.int .i64 0), .lit (.int .i64 0), .lit (.int .i64 0)], .nil, .agg [.lit (.int .i64 0), .nil], .nil], .agg [.lit (.int .u8 0), .lit (.int .u8 0), .lit (.string []), .lit (.int .i64 0)]], [], places) :=
  ⟨[], by kernel_rfl⟩

set_option maxRecDepth 100000 in
theorem lifted (os : Os) (started : os.Started) (H : Type) (enc : TypeId × Value → H) (F : Stop.Interp) :
    ReturnsInHanded {} Tryd.checked os 4 .any ((OpenSpec.ofChange Rows.askRepliesSpec).preRow enc Tryd.prog Tryd.f4 Rows.askRepliesRow.domain false Rows.askRepliesRow.laid) (((OpenSpec.ofChange Rows.askRepliesSpec).at F).post enc Tryd.prog Tryd.f4 false true false false) := by
  obtain ⟨places, hx⟩ := reads os enc
  refine returnsInHanded_of_row (C := Tryd.checked) (s := OpenSpec.ofChange Rows.askRepliesSpec) own started (by kernel_rfl) Tryd.func4
    (witness_row_at (enc := enc) (C := Tryd.checked) false (laidWorld os) #[.agg #[.int .u8 0, .int .i64 0, .int .i64 0, .int .i64 0, .int .i64 0, .int .i64 0, .string ByteArray.empty, .slice none 0 0, .int .i64 0, .int .i64 0, .int .i64 0, .int .i64 0, .int .i64 0, .int .i64 0, .int .i64 0, .int .i64 0, .int .i64 0, .int .i64 0, .slice none 0 0, .int .i64 0, .slice none 0 0, .slice none 0 0], .agg #[.int .u8 0, .int .u8 0, .string ByteArray.empty, .int .i64 0]] rfl (by kernel_rfl) (by kernel_rfl) (by kernel_rfl)
      (OpenSpec.preRow_of_cond 8 hx (by kernel_rfl) (fun k hk => by cases hk) (by kernel_rfl) (laid_met os))) ?_
  intro W base args ds gs before hval hW _ _ hwt hL hS _
  exact contract H enc W base args ds gs before hval hW hwt hL hS

theorem said : Rows.AskRepliesSaid :=
  OpenClaim.holds_of_cond 4 Tryd.f4 rfl rfl rfl rfl rfl rfl rfl ⟨rfl, rfl, rfl, rfl, rfl⟩ rfl rfl rfl rfl rfl (by kernel_rfl) Tryd.func4 (by kernel_rfl)
    (of_decide_eq_true (by kernel_rfl)) (by unfold Func.isWrapper; first | (rw [if_pos (by decide +kernel)]; kernel_rfl) | (rw [if_neg (by decide +kernel)]; exact ⟨rfl, rfl⟩))
    (fun os started H enc _ F => by rw [OpenClaim.pre_eq_preRow]; exact lifted os started H enc F)

theorem plain (f : FuncId) (fn : Func) (hf : Tryd.pinned.checked.prog.funcNamed "beadle/beadlelaw06.AskReplies" = some f) (hfn : Tryd.pinned.checked.prog.funcs[f]? = some fn) :
    false = Tryd.pinned.checked.prog.looks [] ∧ ∀ (j : Nat) t, fn.params[j]? = some t → Tryd.pinned.checked.prog.wantsStandIn t = false := by
  obtain rfl : f = 4 := Option.some.inj ((show Tryd.prog.funcNamed "beadle/beadlelaw06.AskReplies" = some 4 by kernel_rfl).symm.trans hf) |>.symm
  obtain rfl : fn = Tryd.f4 := (Option.some.inj (Tryd.func4.symm.trans hfn)).symm
  refine ⟨by kernel_rfl, fun j t ht => ?_⟩
  rw [Tryd.params4] at ht
  have hm : t ∈ ([43, 46] : List TypeId) := by simpa using Array.mem_of_getElem? ht
  have hall : (([43, 46] : List TypeId).all fun u => !Tryd.prog.wantsStandIn u) = true := by kernel_rfl
  exact (show Tryd.prog.wantsStandIn t = false by simpa using List.all_eq_true.1 hall t hm)

/- The card. -/
theorem card : Rows.AskRepliesCardSaid :=
  Claim7.holds_tied_plain_at .later [] _ _ _ _ said (fun _ h => by cases h) (by kernel_rfl) (fun _ h => by cases h) askReplies_row_tie rfl ⟨rfl, rfl⟩ (by kernel_rfl) rfl plain (by kernel_rfl)
end Go.Proofs.YtmojplgoohnmdaaDoor.askReplies
