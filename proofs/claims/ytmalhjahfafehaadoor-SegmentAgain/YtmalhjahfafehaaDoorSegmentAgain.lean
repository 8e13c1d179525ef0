/- What is told of any bytes, put again, is just the beginning of them that is said, their zxids rise, and scanned again with less behind them nothing changes: SegmentAgain returns true for every row of bytes, and changes nothing that it was handed. -/
import Derived.Test.YtmalhjahfafehaaDoorRows
import Derived.ProofKit
import Derived.OpenShut
import Derived.ShutString
import Derived.ChangeOld
import Derived.SizedLaws
import Derived.Test.YtmalhjahfafehaaDoorBase
import Derived.Deep.Slices
import Derived.Deep.Strs
import Derived.Lib.SmallJoins
import Derived.JoinedCond
import Derived.Test.YtmalhjahfafehaaDoorEnsB
import Derived.Test.YtmalhjahfafehaaDoorCards
import Derived.Test.YtmalhjahfafehaaDoorTie
import Derived.Deep.DeepHandedRow
import Derived.Lib.LaidTab
import Derived.Test.YtmalhjahfafehaaDoorWalksC
import Derived.Test.YtmalhjahfafehaaDoorPathW
import Derived.Below
import Derived.Test.YtmalhjahfafehaaDoorSgX
/- What a row of bytes that comes in gives: where it lies, and how long it may be. -/
namespace Go.Proofs.YtmalhjahfafehaaDoor
open Go.ChangeShapes Go.WideShapes Go.ChangeAt Go.RowKit

theorem wf_u8 {n : Int} (h : (Lit.int .u8 n).wf = true) : 0 ≤ n ∧ n < 256 := by
  have : 0 ≤ n ∧ n ≤ 255 := by simpa [Lit.wf, IntKind.min, IntKind.max, IntKind.signed, IntKind.bits] using h
  omega
theorem wf_i64 {n : Int} (h : (Lit.int .i64 n).wf = true) : -9223372036854775808 ≤ n ∧ n < 9223372036854775808 := by
  have : -9223372036854775808 ≤ n ∧ n ≤ 9223372036854775807 := by simpa [Lit.wf, IntKind.min, IntKind.max, IntKind.signed, IntKind.bits] using h
  omega
def toB (zs : List Int) : List UInt8 := zs.map fun n => UInt8.ofNat n.toNat
theorem toB_len (zs : List Int) : (toB zs).length = zs.length := by simp [toB]
theorem toB_at (zs : List Int) (h : ∀ n ∈ zs, (Lit.int .u8 n).wf = true) (j : Nat) (hj : j < zs.length) (hj2 : j < (toB zs).length) : (((toB zs)[j]'hj2).toNat : Int) = zs.getD j 0 := by
  have h1 := wf_u8 (h _ (List.getElem_mem hj))
  simp only [toB, List.getElem_map, List.getD_eq_getElem?_getD, List.getElem?_eq_getElem hj, Option.getD_some, UInt8.toNat_ofNat']
  omega
theorem plain_add (b o j : Nat) : (⟨b, o, none⟩ : Addr).add j = ⟨b, o + j, none⟩ := by simp only [Addr.add]; split <;> simp_all
theorem bytes_read {H : Type} {enc : TypeId × Value → H} {W : World} {fuel : Nat} {cs : List Value} {x : DataW H × List MemPlace}
    (hf : DataW.trod enc Tryd.prog W 0 (fun _ => true) true fuel 25 cs = some x) :
    ∃ l A C, cs = [.slice A l.length C] ∧ Bs W (.slice A l.length C) l ∧ ((∀ y ∈ DataW.weights Tryd.prog 25 x.1, y ≤ reachBytes) → l.length ≤ 140737488351232) ∧ (x.1 = .nil ∧ l = [] ∨ ∃ zs sp : List Int, x.1 = .slice (lits .u8 zs) (lits .u8 sp) ∧ zs.length = l.length) := by
  rcases open_ints Tryd.underlying25 Tryd.underlying5 (by kernel_rfl) hf with ⟨hcs, hx⟩ | ⟨a, len, cap, zs, hcs, _, hl, hm, hz, hx, hcell, hwz⟩
  · exact ⟨[], none, 0, hcs, Bs.nil _, fun _ => by simp, .inl ⟨by rw [hx], rfl⟩⟩
  · simp only [if_true] at hz
    have hlen : (toB (zs.take len)).length = len := by rw [toB_len, List.length_take]; omega
    refine ⟨toB (zs.take len), some a, cap, by rw [hlen]; exact hcs, ?_, fun hw => ?_, .inr ⟨zs.take len, zs.drop len, by rw [hx], by rw [hlen, List.length_take]; omega⟩⟩
    · by_cases h0 : 0 < len
      · obtain ⟨b, o, spot⟩ := a
        have hsp : spot = none := by simpa [Addr.add] using World.cell?_spot (hcell 0 (by omega))
        subst hsp
        have hlt : b < W.heap.size := World.block_lt_of_cell? W _ (hcell 0 (by omega))
        refine Bs.mk b o cap rfl (by omega) hlt fun j hj => ?_
        have hj2 : j < len := by omega
        rw [toB_at (zs.take len) (fun n hn => hwz n (List.mem_of_mem_take hn)) j (by rw [List.length_take]; omega)]
        have := hcell j (by omega)
        rw [plain_add] at this
        rw [this]
        simp [List.getD_eq_getElem?_getD, hj2]
      · have e : toB (zs.take len) = [] := List.length_eq_zero_iff.1 (by omega)
        rw [e]
        exact .inr (.inl ⟨a, cap, rfl, rfl⟩)
    · have hb : Tryd.prog.bytesOf 5 = 1 := by kernel_rfl
      have := hw (((lits IntKind.u8 (zs.take len) : List (DataW H)).length + (lits IntKind.u8 (zs.drop len) : List (DataW H)).length) * Tryd.prog.bytesOf 5) (by
        rw [hx]
        simp only [DataW.weights, Tryd.underlying25]
        exact List.mem_cons_self)
      rw [hb] at this
      have hr : reachBytes = 140737488351232 := rfl
      rw [hr] at this
      simp [lits] at this
      omega
theorem bytes_in {H : Type} {enc : TypeId × Value → H} {W : World} {fuel : Nat} {a : Option Addr} {len cap : Nat} {d : DataW H} {p : List MemPlace}
    (hf : DataW.trod enc Tryd.prog W 0 (fun _ => true) true fuel 25 (Value.slice a len cap).cells.toList = some (d, p)) :
    ∃ l, Bs W (.slice a len cap) l ∧ ((∀ x ∈ DataW.weights Tryd.prog 25 d, x ≤ reachBytes) → l.length ≤ 140737488351232) ∧ (d = .nil ∧ l = [] ∨ ∃ zs sp : List Int, d = .slice (lits .u8 zs) (lits .u8 sp) ∧ zs.length = l.length) := by
  obtain ⟨l, A, C, hcs, h1, h2, h3⟩ := bytes_read hf
  simp [Value.cells] at hcs
  obtain ⟨rfl, rfl, rfl⟩ := hcs
  exact ⟨l, h1, h2, h3⟩
end Go.Proofs.YtmalhjahfafehaaDoor
/- What a config, numbers and configs that come in give: where they lie, and how many they may be. -/
namespace Go.Proofs.YtmalhjahfafehaaDoor
open Go.ChangeShapes Go.WideShapes Go.ChangeAt Go.RowKit

theorem list_of {α : Type} (P : Nat → α → Prop) : ∀ n, (∀ i, i < n → ∃ x, P i x) → ∃ l : List α, l.length = n ∧ ∀ i (h : i < l.length), P i (l[i]'h)
  | 0, _ => ⟨[], rfl, fun i h => by simp at h⟩
  | n + 1, h => by
    obtain ⟨l, hl, hp⟩ := list_of P n (fun i hi => h i (by omega))
    obtain ⟨x, hx⟩ := h n (by omega)
    refine ⟨l ++ [x], by simp [hl], fun i hi => ?_⟩
    by_cases hlt : i < l.length
    · rw [List.getElem_append_left hlt]; exact hp i hlt
    · have : i = l.length := by simp at hi; omega
      subst this
      rw [List.getElem_append_right (Nat.le_refl _)]
      simp only [Nat.sub_self, List.getElem_cons_zero]
      rw [hl]; exact hx
theorem cells4 {w : World} {b o : Nat} {cs : List Value} (h : w.cells? 0 ⟨b, o, none⟩ 4 = some cs) : ∃ v0 v1 v2 v3, cs = [v0, v1, v2, v3] ∧ w.cell? ⟨b, o, none⟩ = some v0 ∧ w.cell? ⟨b, o + 1, none⟩ = some v1 ∧ w.cell? ⟨b, o + 2, none⟩ = some v2 ∧ w.cell? ⟨b, o + 3, none⟩ = some v3 := by
  unfold World.cells? at h
  rw [if_pos (Nat.zero_le _), show List.range 4 = [0, 1, 2, 3] from rfl] at h
  simp only [List.mapM_cons, List.mapM_nil, plain_add, Nat.add_zero] at h
  cases h0 : w.cell? ⟨b, o, none⟩ with
  | none => simp [h0] at h
  | some v0 =>
    cases h1 : w.cell? ⟨b, o + 1, none⟩ with
    | none => simp [h0, h1] at h
    | some v1 =>
      cases h2 : w.cell? ⟨b, o + 2, none⟩ with
      | none => simp [h0, h1, h2] at h
      | some v2 =>
        cases h3 : w.cell? ⟨b, o + 3, none⟩ with
        | none => simp [h0, h1, h2, h3] at h
        | some v3 =>
          simp [h0, h1, h2, h3] at h
          exact ⟨v0, v1, v2, v3, h.symm, rfl, rfl, rfl, rfl⟩
theorem cells2 {w : World} {b o : Nat} {cs : List Value} (h : w.cells? 0 ⟨b, o, none⟩ 2 = some cs) : ∃ v0 v1, cs = [v0, v1] ∧ w.cell? ⟨b, o, none⟩ = some v0 ∧ w.cell? ⟨b, o + 1, none⟩ = some v1 := by
  unfold World.cells? at h
  rw [if_pos (Nat.zero_le _), show List.range 2 = [0, 1] from rfl] at h
  simp only [List.mapM_cons, List.mapM_nil, plain_add, Nat.add_zero] at h
  cases h0 : w.cell? ⟨b, o, none⟩ with
  | none => simp [h0] at h
  | some v0 =>
    cases h1 : w.cell? ⟨b, o + 1, none⟩ with
    | none => simp [h0, h1] at h
    | some v1 =>
      simp [h0, h1] at h
      exact ⟨v0, v1, h.symm, rfl, rfl⟩
theorem mem_cells : Tryd.prog.cellsOf 116 = 4 := by kernel_rfl
theorem ens_cells : Tryd.prog.cellsOf 31 = 2 := by kernel_rfl
/- A member's numbers fit their fields. -/
def MemFit (m : Mem) : Prop := (-9223372036854775808 ≤ m.id ∧ m.id < 9223372036854775808) ∧ (0 ≤ m.role ∧ m.role < 256) ∧ (-9223372036854775808 ≤ m.weight ∧ m.weight < 9223372036854775808) ∧ (-9223372036854775808 ≤ m.group ∧ m.group < 9223372036854775808)
set_option maxRecDepth 100000 in
theorem mems_read {H : Type} {enc : TypeId × Value → H} {W : World} {fuel : Nat} {cs : List Value} {x : DataW H × List MemPlace}
    (hf : DataW.trod enc Tryd.prog W 0 (fun _ => true) true fuel 29 cs = some x) :
    ∃ l A C, cs = [.slice A l.length C] ∧ Mems W (.slice A l.length C) l ∧ l.length ≤ maxLen ∧ (∀ m ∈ l, MemFit m) ∧ ((∀ y ∈ DataW.weights Tryd.prog 29 x.1, y ≤ reachBytes) → l.length ≤ 4398046511104) := by
  rcases Go.Deep.open_slice Tryd.underlying29 hf with ⟨hcs, hx⟩ | ⟨ad, len, cap, m, n, D, Pl, hcs, _, hl, hmx, hm, hx, hel⟩
  · exact ⟨[], none, 0, hcs, .inl ⟨rfl, rfl⟩, by simp, fun m hm => by simp at hm, fun _ => by simp⟩
  · simp only [if_true] at hm
    subst hm
    have hd : x.1 = .slice ((List.range len).map D) ((List.range (m - len)).map fun j => D (len + j)) := congrArg Prod.fst hx
    have hsz : (∀ y ∈ DataW.weights Tryd.prog 29 x.1, y ≤ reachBytes) → len ≤ 4398046511104 := by
      intro hw
      have hb : Tryd.prog.bytesOf 116 = 32 := by kernel_rfl
      have := hw ((((List.range len).map D).length + ((List.range (m - len)).map fun j => D (len + j)).length) * Tryd.prog.bytesOf 116) (by
        rw [hd]
        simp only [DataW.weights, Tryd.underlying29]
        exact List.mem_cons_self)
      rw [hb] at this
      have hr : reachBytes = 140737488351232 := rfl
      rw [hr, List.length_map, List.length_map, List.length_range, List.length_range] at this
      omega
    by_cases h0 : 0 < len
    · obtain ⟨cs0, hc0, _⟩ := hel 0 (by omega)
      obtain ⟨b, o, spot⟩ := ad
      rw [mem_cells] at hel hc0
      have hsp : spot = none := by
        unfold World.cells? at hc0
        rw [if_pos (Nat.zero_le _), show List.range 4 = [0, 1, 2, 3] from rfl] at hc0
        simp only [List.mapM_cons] at hc0
        cases h : W.cell? ((({ block := b, off := o, spot := spot } : Addr).add (0 * 4)).add 0) with
        | none => simp [h] at hc0
        | some u => simpa [Addr.add] using World.cell?_spot h
      subst hsp
      have key : ∀ i, i < len → ∃ z : Mem, (W.cell? ⟨b, o + i * 4, none⟩ = some (.int .i64 z.id) ∧ W.cell? ⟨b, o + i * 4 + 1, none⟩ = some (.int .u8 z.role) ∧ W.cell? ⟨b, o + i * 4 + 2, none⟩ = some (.int .i64 z.weight) ∧ W.cell? ⟨b, o + i * 4 + 3, none⟩ = some (.int .i64 z.group)) ∧ MemFit z := by
        intro i hi
        obtain ⟨cs', hc1, hc2⟩ := hel i (by omega)
        rw [plain_add] at hc1
        obtain ⟨v0, v1, v2, v3, rfl, c0, c1, c2, c3⟩ := cells4 hc1
        obtain ⟨y0, y1, y2, y3, n', hy, _, t0, t1, t2, t3⟩ := Joins.trod_struct4 Tryd.underlying116 hc2
        obtain ⟨z0, hz0, _, w0⟩ := DataW.trod_int Tryd.underlying3 t0
        obtain ⟨z1, hz1, _, w1⟩ := DataW.trod_int Tryd.underlying114 t1
        obtain ⟨z2, hz2, _, w2⟩ := DataW.trod_int Tryd.underlying3 t2
        obtain ⟨z3, hz3, _, w3⟩ := DataW.trod_int Tryd.underlying3 t3
        have e0 : v0 = .int .i64 z0 := by have := hz0; revert this; simp [show Tryd.prog.cellsOf 3 = 1 by kernel_rfl]
        have e1 : v1 = .int .u8 z1 := by have := hz1; revert this; simp [show Tryd.prog.cellsOf 114 = 1 by kernel_rfl]
        have e2 : v2 = .int .i64 z2 := by have := hz2; revert this; simp [show Tryd.prog.cellsOf 3 = 1 by kernel_rfl]
        have e3 : v3 = .int .i64 z3 := by have := hz3; revert this; simp [show Tryd.prog.cellsOf 3 = 1 by kernel_rfl]
        subst e0; subst e1; subst e2; subst e3
        exact ⟨⟨z0, z1, z2, z3⟩, ⟨c0, c1, c2, c3⟩, wf_i64 w0, wf_u8 w1, wf_i64 w2, wf_i64 w3⟩
      obtain ⟨l, hll, hp⟩ := list_of _ len key
      refine ⟨l, _, m, by rw [hll]; exact hcs, .inr (.inr ⟨by omega, b, o, m, rfl, by omega, ?_, fun j hj => (hp j hj).1⟩), by omega, fun z hz => ?_, fun hw => by rw [hll]; exact hsz hw⟩
      · obtain ⟨z, hz, _⟩ := key 0 h0
        exact World.block_lt_of_cell? W _ hz.1
      · obtain ⟨j, hj, rfl⟩ := List.getElem_of_mem hz
        exact (hp j hj).2
    · have hl0 : len = 0 := by omega
      subst hl0
      exact ⟨[], some ad, m, hcs, .inr (.inl ⟨ad, m, rfl, rfl⟩), by simp, fun m hm => by simp at hm, fun _ => by simp⟩
set_option maxRecDepth 100000 in
theorem ints_read {H : Type} {enc : TypeId × Value → H} {W : World} {fuel : Nat} {cs : List Value} {x : DataW H × List MemPlace}
    (hf : DataW.trod enc Tryd.prog W 0 (fun _ => true) true fuel 24 cs = some x) :
    ∃ l A C, cs = [.slice A l.length C] ∧ Ns W (.slice A l.length C) l ∧ l.length ≤ maxLen ∧ (∀ n ∈ l, -9223372036854775808 ≤ n ∧ n < 9223372036854775808) ∧ ((∀ y ∈ DataW.weights Tryd.prog 24 x.1, y ≤ reachBytes) → l.length ≤ 17592186044416) := by
  rcases open_ints Tryd.underlying24 Tryd.underlying3 (by kernel_rfl) hf with ⟨hcs, hx⟩ | ⟨a, len, cap, zs, hcs, _, hl, hm, hz, hx, hcell, hwz⟩
  · exact ⟨[], none, 0, hcs, .inl ⟨rfl, rfl⟩, by simp, fun n hn => by simp at hn, fun _ => by simp⟩
  · simp only [if_true] at hz
    have hlen : (zs.take len).length = len := by rw [List.length_take]; omega
    refine ⟨zs.take len, some a, cap, by rw [hlen]; exact hcs, ?_, by rw [hlen]; omega, fun n hn => wf_i64 (hwz n (List.mem_of_mem_take hn)), fun hw => ?_⟩
    · by_cases h0 : 0 < len
      · obtain ⟨b, o, spot⟩ := a
        have hsp : spot = none := by simpa [Addr.add] using World.cell?_spot (hcell 0 (by omega))
        subst hsp
        have hlt : b < W.heap.size := World.block_lt_of_cell? W _ (hcell 0 (by omega))
        refine .inr (.inr ⟨by rw [hlen]; exact h0, b, o, cap, rfl, by rw [hlen]; omega, hlt, fun j hj => ?_⟩)
        have := hcell j (by omega)
        rw [plain_add] at this
        rw [this, List.getElem_take]
        simp [List.getD_eq_getElem?_getD, show j < zs.length by omega]
      · have e : zs.take len = [] := List.length_eq_zero_iff.1 (by omega)
        rw [e]
        exact .inr (.inl ⟨a, cap, rfl, rfl⟩)
    · have hb : Tryd.prog.bytesOf 3 = 8 := by kernel_rfl
      have := hw (((lits IntKind.i64 (zs.take len) : List (DataW H)).length + (lits IntKind.i64 (zs.drop len) : List (DataW H)).length) * Tryd.prog.bytesOf 3) (by
        rw [hx]
        simp only [DataW.weights, Tryd.underlying24]
        exact List.mem_cons_self)
      rw [hb] at this
      have hr : reachBytes = 140737488351232 := rfl
      rw [hr] at this
      simp [lits] at this
      rw [hlen]
      omega
theorem ints_in {H : Type} {enc : TypeId × Value → H} {W : World} {fuel : Nat} {a : Option Addr} {len cap : Nat} {d : DataW H} {p : List MemPlace}
    (hf : DataW.trod enc Tryd.prog W 0 (fun _ => true) true fuel 24 (Value.slice a len cap).cells.toList = some (d, p)) :
    ∃ l, Ns W (.slice a len cap) l ∧ l.length ≤ maxLen ∧ (∀ n ∈ l, -9223372036854775808 ≤ n ∧ n < 9223372036854775808) ∧ ((∀ y ∈ DataW.weights Tryd.prog 24 d, y ≤ reachBytes) → l.length ≤ 17592186044416) := by
  obtain ⟨l, A, C, hcs, h1, h2, h3, h4⟩ := ints_read hf
  simp [Value.cells] at hcs
  obtain ⟨rfl, rfl, rfl⟩ := hcs
  exact ⟨l, h1, h2, h3, h4⟩
set_option maxRecDepth 100000 in
theorem ens_in {H : Type} {enc : TypeId × Value → H} {W : World} {base : Nat} {v : Value} {d : DataW H} {p : List MemPlace}
    (hv : Value.okWide Tryd.prog W .any base 31 v) (h : DataW.Trod enc Tryd.prog W 0 (fun _ => true) true 31 v d p) :
    ∃ ver u l d0 d1, v = .agg #[.int .i64 ver, u] ∧ d = .agg [d0, d1] ∧ Mems W u l ∧ l.length ≤ maxLen ∧ (-9223372036854775808 ≤ ver ∧ ver < 9223372036854775808) ∧ (∀ m ∈ l, MemFit m) ∧ ((∀ y ∈ DataW.weights Tryd.prog 29 d1, y ≤ reachBytes) → l.length ≤ 4398046511104) := by
  obtain ⟨v0, v1, y0, y1, n, rfl, rfl, rfl, t0, t1⟩ := Joins.open_agg2 Tryd.underlying31 (by kernel_rfl) ens_cells hv h
  obtain ⟨z, hz, _, wz⟩ := DataW.trod_int Tryd.underlying26 t0
  obtain ⟨l, A, C, hcs, h1, h2, h3, h4⟩ := mems_read t1
  have e0 : v0 = .int .i64 z := by simpa using hz
  have e1 : v1 = .slice A l.length C := by simpa using hcs
  subst e0; subst e1
  exact ⟨z, _, l, y0.1, y1.1, rfl, rfl, h1, h2, wf_i64 wz, h3, h4⟩
end Go.Proofs.YtmalhjahfafehaaDoor
/- What the listed variable of the program and the library's give a walk, and a world in which they hold what the program's text lays. -/
namespace Go.Proofs.YtmalhjahfafehaaDoor
open Go.ChangeShapes Go.WideShapes Go.ChangeAt Go.RowKit

theorem own : ownKnob Tryd.prog.godebug = none := by kernel_rfl
theorem gTab : Tryd.prog.globalNamed "beadle/deed.kinds" = some 0 := by kernel_rfl
theorem gTabType : (Tryd.prog.globals[0]?).map (·.type) = some 95 := by kernel_rfl
theorem cellsT : Tryd.prog.cellsOf 95 = 10 := by kernel_rfl
theorem cellsE : Tryd.prog.cellsOf 67 = 1 := by kernel_rfl
def kindsL : List Int := [0, 2071, 3089, 2059, 32, 260, 512, 128, 256, 64]
theorem tabData_eq : (Rows.laid_beadle_deed_kinds : DataW Unit) = Lib.tabData .u16 kindsL := by kernel_rfl
theorem tab_of_laid {rest : List (String × DataW Unit)} {W : World} (h : laidMet Tryd.prog (("beadle/deed.kinds", Rows.laid_beadle_deed_kinds) :: rest) W) : ∀ j, j < 10 → W.cell? ⟨0, j, none⟩ = some (.int .u16 (PA.kTab j)) := by
  rw [tabData_eq] at h
  have ht := Lib.tabIs_of_head gTab gTabType Tryd.underlying95 Tryd.underlying67 cellsE cellsT h
  unfold Lib.TabIs World.var? at ht
  rw [gTab] at ht
  intro j hj
  simp only [Option.bind_some] at ht
  split at ht
  · next cs t fr hh =>
    rw [cell_at hh]
    simp only [Option.some.injEq] at ht
    rw [ht]
    rcases j with _ | _ | _ | _ | _ | _ | _ | _ | _ | _ | j <;> first | rfl | omega
  · cases ht
theorem maxlen_of_shaped {W : World} (h : W.ShapedOpen Tryd.prog) : ∃ m, W.cell? ⟨1, 0, none⟩ = some (.int .i64 m) := Go.Proofs.cell_of_shapedOpen_int (zero := #[.int .i64 0]) (t := 3) h (of_decide_eq_true (by kernel_rfl)) (by kernel_rfl) rfl (by kernel_rfl) (by kernel_rfl) Tryd.underlying3
theorem laid_of {rest : List (String × DataW Unit)} {W : World} (h : laidMet Tryd.prog (("beadle/deed.kinds", Rows.laid_beadle_deed_kinds) :: rest) W) (hS : W.ShapedOpen Tryd.prog) : PA.Laid W := ⟨maxlen_of_shaped hS, tab_of_laid h⟩

/- A call that laid nothing but new blocks, some of them frozen, keeps its row: the arguments were no places of memory. -/
theorem post_plain {H : Type} {enc : TypeId × Value → H} {P : Program} {f : Func} {s : ChangeSpec} {fresh handsOn again : Bool} {W W' : World} {args : Array Value} {v : Value} {ds gs : List (DataW H)}
    (hW : DataW.Whole enc P f.params.toList s.vars false W args.toList ds gs [])
    (hres : ∀ (b : Nat) (sp : Nat → Bool) (hd : Bool), DataW.TrodAll enc P W' b sp hd f.resultTypes.toList (v.resultList f.resultTypes.size) (s.fn H (ds ++ gs)).results [])
    (hargs : ∀ sp : Nat → Bool, DataW.TrodAll enc P W' 0 sp true f.params.toList args.toList (s.fn H (ds ++ gs)).args [])
    (hvars : ∀ sp : Nat → Bool, DataW.TrodVars enc P W' sp s.vars (s.fn H (ds ++ gs)).vars [])
    (hB : Below W.heap.size W W')
    (hok : ∀ (j : Nat) (t : TypeId) (r : Value), f.resultTypes[j]? = some t → (v.resultList f.resultTypes.size)[j]? = some r → Value.okWide P W' .any 0 t r) :
    s.post enc P f false fresh handsOn again W args v W' := by
  refine ⟨ds, gs, [], [], [], [], hW, hres _ _ _, hargs _, hvars _, hB.frame _, fun _ => ?_⟩
  refine ⟨hok, _, _, ([] ++ []) ++ [], ⟨[] ++ [], [], trodAll_append (hargs _) (hres _ _ _), hvars _, rfl, ?_, ?_⟩, ?_⟩
  · intro b off hp; cases hp
  · intro ha; cases ha
  · intro p hp; cases hp
def u16s (l : List Int) : Array Value := (l.map fun z => Value.int .u16 z).toArray
def put (h : Array Obj) (g : Nat) (cs : Array Value) : Array Obj := h.modify g fun
  | .cells _ t frozen => .cells cs t frozen
  | o => o
noncomputable def laidWorld (os : Os) : World :=
  { World.holding Tryd.prog os ⟨#[], #[], []⟩ with heap := put (World.holding Tryd.prog os ⟨#[], #[], []⟩).heap 0 (u16s kindsL) }
end Go.Proofs.YtmalhjahfafehaaDoor
namespace Go.Proofs.YtmalhjahfafehaaDoor.segmentAgain
open Go.ChangeShapes Go.WideShapes Go.ChangeAt Go.RowKit
open Go.ChangeMaps (open_string shut_string)

theorem laidOut : laidOutB Tryd.prog = true := by kernel_rfl
set_option maxRecDepth 100000 in
theorem contract (H : Type) (enc : TypeId × Value → H) (W : World) (base : Nat) (args : Array Value) (ds gs : List (DataW H)) (before : List MemPlace)
    (hval : ∀ (j : Nat) t v, Tryd.f4.params[j]? = some t → args[j]? = some v → Value.okWide Tryd.prog W .any base t v)
    (hW : DataW.Whole enc Tryd.prog Tryd.f4.params.toList Rows.segmentAgainSpec.vars false W args.toList ds gs before)
    (hwt : (DataW.weightsEach Tryd.prog (Tryd.f4.params.toList ++ (OpenSpec.ofChange Rows.segmentAgainSpec).bare.plain.varTypes Tryd.prog) (ds ++ gs)).all (· ≤ reachBytes) = true)
    (hL : laidMetH Tryd.prog Rows.segmentAgainRow.laid W) (hS : W.ShapedOpen Tryd.prog) :
    Calls Tryd.prog 4 args W fun e W' => ∃ v, e = .returned v ∧ Rows.segmentAgainSpec.post enc Tryd.prog Tryd.f4 false true false false W args v W' := by
  have hW' := hW
  obtain ⟨p, q, hA0, hV, rfl, hfz, hnd⟩ := hW
  have hA : DataW.TrodAll enc Tryd.prog W 0 (fun _ => true) true Tryd.f4.params.toList args.toList ds p := hA0
  rw [Tryd.params4] at hA hval
  obtain ⟨v0, vs0, d0, ds0, p0, q0, hargs0, rfl, rfl, h0, r0⟩ := trodAll_cons hA
  obtain ⟨rfl, rfl, rfl⟩ := trodAll_nil r0
  obtain rfl : args = #[v0] := by cases args; simp_all
  obtain ⟨rfl, rfl⟩ := trodVars_none hV
  have k0 := h0
  have lt0 : ∀ x ∈ p0, x.block < W.heap.size := by obtain ⟨m, hm⟩ := k0; exact DataW.trod_lt m _ _ _ hm
  obtain ⟨a0, len0, cap0, rfl⟩ := okWide_slice Tryd.underlying25 (hval 0 25 v0 rfl rfl)
  obtain ⟨l0, B0, S0, -⟩ : ∃ l, Bs W (.slice a0 len0 cap0) l ∧ ((∀ x ∈ DataW.weights Tryd.prog 25 d0, x ≤ reachBytes) → l.length ≤ 140737488351232) ∧ (d0 = .nil ∧ l = [] ∨ ∃ zs sp : List Int, d0 = .slice (lits .u8 zs) (lits .u8 sp) ∧ zs.length = l.length) := by
    obtain ⟨fuel, hf⟩ := h0
    exact bytes_in hf
  simp only [List.all_eq_true, decide_eq_true_eq] at hwt
  have Z0 : l0.length ≤ 140737488355328 := by
    have := S0 (fun x hx => hwt x (by simp [Tryd.params4, DataW.weightsEach, hx]))
    omega
  obtain ⟨AB0, CB0, eb0⟩ := bs_form B0
  cases eb0
  clear hA0
  simp only [List.append_nil] at hW'
  have hK : PA.Laid W := laid_of hL hS
  clear hval
  refine (DD.again_any B0 hK).mono fun e W' ⟨he, bel⟩ => ?_
  subst he
  exact ⟨_, rfl, _, _, _, [], _, [], hW', trodAll_mk1 (shut_bool Tryd.underlying4 _), (trodAll_cons_mk (Below.trod laidOut (by kernel_rfl) (of_decide_eq_true (by kernel_rfl)) k0 bel lt0) trodAll_mk0), rfl, bel.frame _, fun h => by cases h⟩

theorem laid_met (os : Os) : laidMet Tryd.prog Rows.segmentAgainRow.laid ((laidWorld os).forCall (fun _ _ => 0) ⟨#[], #[.slice none 0 0], []⟩).memory :=
  laidMet_of_run' 8 (by kernel_rfl) (by kernel_rfl)
theorem reads (os : Os) {H : Type} (enc : TypeId × Value → H) : ∃ places, DataW.whole enc Tryd.prog ((laidWorld os).forCall (fun _ _ => 0) ⟨#[], #[.slice none 0 0], []⟩).memory Tryd.f4.params.toList Rows.segmentAgainSpec.vars false #[Value.slice none 0 0].toList 8 = some ([.nil], [], places) :=
  ⟨[], by kernel_rfl⟩

set_option maxRecDepth 100000 in
theorem lifted (os : Os) (started : os.Started) (H : Type) (enc : TypeId × Value → H) (F : Stop.Interp) :
    ReturnsInHanded {} Tryd.checked os 4 .any ((OpenSpec.ofChange Rows.segmentAgainSpec).preRow enc Tryd.prog Tryd.f4 Rows.segmentAgainRow.domain false Rows.segmentAgainRow.laid) (((OpenSpec.ofChange Rows.segmentAgainSpec).at F).post enc Tryd.prog Tryd.f4 false true false false) := by
  obtain ⟨places, hx⟩ := reads os enc
  refine returnsInHanded_of_row (C := Tryd.checked) (s := OpenSpec.ofChange Rows.segmentAgainSpec) own started (by kernel_rfl) Tryd.func4
    (witness_row_at (enc := enc) (C := Tryd.checked) false (laidWorld os) #[.slice none 0 0] rfl (by kernel_rfl) (by kernel_rfl) (by kernel_rfl)
      (OpenSpec.preRow_of_cond 8 hx (by kernel_rfl) (fun k hk => by cases hk) (by kernel_rfl) (laid_met os))) ?_
  intro W base args ds gs before hval hW _ _ hwt hL hS _
  exact contract H enc W base args ds gs before hval hW hwt hL hS

theorem said : Rows.SegmentAgainSaid :=
  OpenClaim.holds_of_cond 4 Tryd.f4 rfl rfl rfl rfl rfl rfl rfl ⟨rfl, rfl, rfl, rfl, rfl⟩ rfl rfl rfl rfl rfl (by kernel_rfl) Tryd.func4 (by kernel_rfl)
    (of_decide_eq_true (by kernel_rfl)) (by unfold Func.isWrapper; first | (rw [if_pos (by decide +kernel)]; kernel_rfl) | (rw [if_neg (by decide +kernel)]; exact ⟨rfl, rfl⟩))
    (fun os started H enc _ F => by rw [OpenClaim.pre_eq_preRow]; exact lifted os started H enc F)

theorem plain (f : FuncId) (fn : Func) (hf : Tryd.pinned.checked.prog.funcNamed "beadle/beadlelaw14.SegmentAgain" = some f) (hfn : Tryd.pinned.checked.prog.funcs[f]? = some fn) :
    false = Tryd.pinned.checked.prog.looks [] ∧ ∀ (j : Nat) t, fn.params[j]? = some t → Tryd.pinned.checked.prog.wantsStandIn t = false := by
  obtain rfl : f = 4 := Option.some.inj ((show Tryd.prog.funcNamed "beadle/beadlelaw14.SegmentAgain" = some 4 by kernel_rfl).symm.trans hf) |>.symm
  obtain rfl : fn = Tryd.f4 := (Option.some.inj (Tryd.func4.symm.trans hfn)).symm
  refine ⟨by kernel_rfl, fun j t ht => ?_⟩
  rw [Tryd.params4] at ht
  have hm : t ∈ ([25] : List TypeId) := by simpa using Array.mem_of_getElem? ht
  have hall : (([25] : List TypeId).all fun u => !Tryd.prog.wantsStandIn u) = true := by kernel_rfl
  exact (show Tryd.prog.wantsStandIn t = false by simpa using List.all_eq_true.1 hall t hm)

/- The card. -/
theorem card : Rows.SegmentAgainCardSaid :=
  Claim7.holds_tied_plain_at .later [] _ _ _ _ said (fun _ h => by cases h) (by kernel_rfl) (fun _ h => by cases h) segmentAgain_row_tie rfl ⟨rfl, rfl⟩ (by kernel_rfl) rfl plain (by kernel_rfl)
end Go.Proofs.YtmalhjahfafehaaDoor.segmentAgain
