/- The walk of what wakes the statements on configs. -/
import Derived.Test.YtbcfeeahlhoggaaDoorEnsD
namespace Go.Proofs.YtbcfeeahlhoggaaDoor
open Go.RowKit

def L3 (a b c : Int) : List Mem := [⟨1, 1, a, 0⟩, ⟨2, 1, b, 0⟩, ⟨3, 1, c, 0⟩]
theorem mems_new (w : World) (l : List Mem) (hl : 0 < l.length) (fr : Nat × Nat) (c : Nat) (hc : l.length ≤ c) : Mems (w.alloc (.cells (mvs l).toArray 99 fr)) (.slice (some ⟨w.heap.size, 0, none⟩) l.length c) l := by
  refine .inr (.inr ⟨hl, w.heap.size, 0, c, rfl, hc, by simp, fun j hj => ?_⟩)
  have h := heap_alloc_new w (.cells (mvs l).toArray 99 fr)
  obtain ⟨c0, c1, c2, c3⟩ := mvs_at l j hj
  rw [Nat.zero_add]
  exact ⟨by rw [cell_at h]; simpa using c0, by rw [cell_at h]; simpa using c1, by rw [cell_at h]; simpa using c2, by rw [cell_at h]; simpa using c3⟩
theorem ns_new (w : World) (l : List Int) (hl : 0 < l.length) (fr : Nat × Nat) (T c : Nat) (hc : l.length ≤ c) : Ns (w.alloc (.cells (l.map fun n => Value.int .i64 n).toArray T fr)) (.slice (some ⟨w.heap.size, 0, none⟩) l.length c) l := by
  refine .inr (.inr ⟨hl, w.heap.size, 0, c, rfl, hc, by simp, fun j hj => ?_⟩)
  have h := heap_alloc_new w (.cells (l.map fun n => Value.int .i64 n).toArray T fr)
  rw [Nat.zero_add, cell_at h]
  simp [hj]
theorem aw_chk : chk 5 (L3 1 1 1) = 0 := by decide +kernel
theorem aw_quo : quoB 5 (L3 1 1 1) [1, 2] = true := by decide +kernel
theorem aw_not : quoB 5 (L3 1 1 1) [3] = false := by decide +kernel
theorem aw_vot : votM (L3 1 1 1) 3 = true := by decide +kernel
theorem aw_cfg : cfgOf (cfgB 5 (L3 1 1 1)) = some (5, L3 1 1 1) := (cfgOf_iff _ _ _).2 ⟨rfl, aw_chk⟩
theorem cfgB_pos (ver : Int) (l : List Mem) : 0 < (cfgB ver l).length := by
  unfold cfgB
  rw [List.length_append]
  have := digs_pos (zz ver)
  unfold numB
  omega
theorem cfgB_len {ver : Int} {l : List Mem} (h : chk ver l = 0) : (cfgB ver l).length ≤ 300 := by
  obtain ⟨h7, h0, hv, hf, _⟩ := chk_ok h
  have h1 := memsB_len l (fun m hm => ⟨(fitAll_mem hf m hm).1, (fitAll_mem hf m hm).2⟩)
  have h2 := numB_len ver (by omega) (by omega)
  have h3 := numB_len (l.length : Int) (by omega) (by omega)
  unfold cfgB
  simp only [List.length_append]
  omega
end Go.Proofs.YtbcfeeahlhoggaaDoor
