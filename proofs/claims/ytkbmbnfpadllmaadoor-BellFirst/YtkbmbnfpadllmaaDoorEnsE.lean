/- The walks of finding members, of what the statements ask beside the program, and of what wakes them. -/
import Derived.Laws.StructEq
import Derived.Test.YtkbmbnfpadllmaaDoorEnsC
namespace Go.Proofs.YtkbmbnfpadllmaaDoor
open Go.RowKit

theorem memEq (w : World) (a b c d a' b' c' d' : Int) : (Op.equalIn 10000 140 (.agg #[.int .i64 a, .int .u8 b, .int .i64 c, .int .i64 d]) (.agg #[.int .i64 a', .int .u8 b', .int .i64 c', .int .i64 d'])).run Tryd.prog w = .ok (decide ((⟨a, b, c, d⟩ : Mem) = ⟨a', b', c', d'⟩)) w := by
  have u3 := Tryd.underlying3
  have a3 := Tryd.isAgg3
  have z3 := Tryd.sizeOf3
  have hS : Tryd.prog.underlying 140 = some (.struct (Tryd.prog.fieldsOf 140)) := by kernel_rfl
  have hp : Tryd.prog.stoodInHeld 140 = false := by kernel_rfl
  rw [show (10000 : Nat) = 9999 + 1 from rfl, run_equalIn_agg w 9999 140 _ _ hS hp]
  simp only [Program.fieldsOf, Tryd.underlying140]
  go_simp
  by_cases h1 : a = a' <;> by_cases h2 : b = b' <;> by_cases h3 : c = c' <;> by_cases h4 : d = d' <;> simp [h1, h2, h3, h4]
theorem memNeq (w : World) (a b c d a' b' c' d' : Int) : (binOp .neq 140 (.agg #[.int .i64 a, .int .u8 b, .int .i64 c, .int .i64 d]) (.agg #[.int .i64 a', .int .u8 b', .int .i64 c', .int .i64 d'])).run Tryd.prog w = .ok (.bool (!decide ((⟨a, b, c, d⟩ : Mem) = ⟨a', b', c', d'⟩))) w := by
  rw [run_neq_struct, memEq]
  rfl
def findM (l : List Mem) (id : Int) : Option Mem := l.find? fun m => decide (m.id = id)
def memOr : Option Mem → Mem
  | some m => m
  | none => ⟨0, 0, 0, 0⟩
theorem findM_mid {l : List Mem} {k : Nat} (h : k < l.length) {id : Int} (hn : findM (l.take k) id = none) (he : (l[k]'h).id = id) : findM l id = some (l[k]'h) := by
  unfold findM at hn ⊢
  have hs := congrArg (List.find? fun m => decide (m.id = id)) (split_at h)
  refine hs.trans ?_
  rw [List.find?_append, hn, List.find?_cons_of_pos (by simpa using he)]
  rfl
theorem findM_snoc {l : List Mem} {k : Nat} (h : k < l.length) {id : Int} (hn : findM (l.take k) id = none) (he : ¬ (l[k]'h).id = id) : findM (l.take (k + 1)) id = none := by
  unfold findM at hn ⊢
  rw [take_snoc h, List.find?_append, hn]
  simp [he]
def votM (l : List Mem) (id : Int) : Bool := (findM l id).isSome && decide ((memOr (findM l id)).role = 1)
/- Are two rows of members the same? -/
theorem takeM_step {k : Nat} {a b : List Mem} {ha : k < a.length} {hb : k < b.length} (h : a.take k = b.take k) (he : a[k]'ha = b[k]'hb) : a.take (k + 1) = b.take (k + 1) := by
  rw [List.take_succ_eq_append_getElem ha, List.take_succ_eq_append_getElem hb, h, he]
theorem Mems.drewN {w : World} {v : Value} {l : List Mem} (h : Mems w v l) (n : Nat) : Mems (w.drewN n) v l := h.keep (Chg.drewN Non w n) (fun _ _ => id)
end Go.Proofs.YtkbmbnfpadllmaaDoor
/- The walk of what wakes the statements on configs. -/
namespace Go.Proofs.YtkbmbnfpadllmaaDoor
open Go.RowKit

def L3 (a b c : Int) : List Mem := [⟨1, 1, a, 0⟩, ⟨2, 1, b, 0⟩, ⟨3, 1, c, 0⟩]
theorem mems_new (w : World) (l : List Mem) (hl : 0 < l.length) (fr : Nat × Nat) (c : Nat) (hc : l.length ≤ c) : Mems (w.alloc (.cells (mvs l).toArray 140 fr)) (.slice (some ⟨w.heap.size, 0, none⟩) l.length c) l := by
  refine .inr (.inr ⟨hl, w.heap.size, 0, c, rfl, hc, by simp, fun j hj => ?_⟩)
  have h := heap_alloc_new w (.cells (mvs l).toArray 140 fr)
  obtain ⟨c0, c1, c2, c3⟩ := mvs_at l j hj
  rw [Nat.zero_add]
  exact ⟨by rw [cell_at h]; simpa using c0, by rw [cell_at h]; simpa using c1, by rw [cell_at h]; simpa using c2, by rw [cell_at h]; simpa using c3⟩
theorem ns_new (w : World) (l : List Int) (hl : 0 < l.length) (fr : Nat × Nat) (T c : Nat) (hc : l.length ≤ c) : Ns (w.alloc (.cells (l.map fun n => Value.int .i64 n).toArray T fr)) (.slice (some ⟨w.heap.size, 0, none⟩) l.length c) l := by
  refine .inr (.inr ⟨hl, w.heap.size, 0, c, rfl, hc, by simp, fun j hj => ?_⟩)
  have h := heap_alloc_new w (.cells (l.map fun n => Value.int .i64 n).toArray T fr)
  rw [Nat.zero_add, cell_at h]
  simp [hj]
theorem aw_chk : chk 5 (L3 1 1 1) = 0 := by decide +kernel
theorem aw_quo : quoB 5 (L3 1 1 1) [1, 2] = true := by decide +kernel
theorem aw_not : quoB 5 (L3 1 1 1) [3] = false := by decide +kernel
theorem aw_vot : votM (L3 1 1 1) 3 = true := by decide +kernel
theorem aw_cfg : cfgOf (cfgB 5 (L3 1 1 1)) = some (5, L3 1 1 1) := (cfgOf_iff _ _ _).2 ⟨rfl, aw_chk⟩
theorem cfgB_pos (ver : Int) (l : List Mem) : 0 < (cfgB ver l).length := by
  unfold cfgB
  rw [List.length_append]
  have := digs_pos (zz ver)
  unfold numB
  omega
theorem cfgB_len {ver : Int} {l : List Mem} (h : chk ver l = 0) : (cfgB ver l).length ≤ 300 := by
  obtain ⟨h7, h0, hv, hf, _⟩ := chk_ok h
  have h1 := memsB_len l (fun m hm => ⟨(fitAll_mem hf m hm).1, (fitAll_mem hf m hm).2⟩)
  have h2 := numB_len ver (by omega) (by omega)
  have h3 := numB_len (l.length : Int) (by omega) (by omega)
  unfold cfgB
  simp only [List.length_append]
  omega
end Go.Proofs.YtkbmbnfpadllmaaDoor
