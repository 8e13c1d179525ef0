/- The walk of what wakes the statements on configs. -/
import Derived.Test.YtohhbhkpekieiaaEnsD
namespace Go.Proofs.Ytohhbhkpekieiaa
open Go.RowKit

def L3 (a b c : Int) : List Mem := [⟨1, 1, a, 0⟩, ⟨2, 1, b, 0⟩, ⟨3, 1, c, 0⟩]
theorem mems_new (w : World) (l : List Mem) (hl : 0 < l.length) (fr : Nat × Nat) (c : Nat) (hc : l.length ≤ c) : Mems (w.alloc (.cells (mvs l).toArray 30 fr)) (.slice (some ⟨w.heap.size, 0, none⟩) l.length c) l := by
  refine .inr (.inr ⟨hl, w.heap.size, 0, c, rfl, hc, by simp, fun j hj => ?_⟩)
  have h := heap_alloc_new w (.cells (mvs l).toArray 30 fr)
  obtain ⟨c0, c1, c2, c3⟩ := mvs_at l j hj
  rw [Nat.zero_add]
  exact ⟨by rw [cell_at h]; simpa using c0, by rw [cell_at h]; simpa using c1, by rw [cell_at h]; simpa using c2, by rw [cell_at h]; simpa using c3⟩
theorem ns_new (w : World) (l : List Int) (hl : 0 < l.length) (fr : Nat × Nat) (T c : Nat) (hc : l.length ≤ c) : Ns (w.alloc (.cells (l.map fun n => Value.int .i64 n).toArray T fr)) (.slice (some ⟨w.heap.size, 0, none⟩) l.length c) l := by
  refine .inr (.inr ⟨hl, w.heap.size, 0, c, rfl, hc, by simp, fun j hj => ?_⟩)
  have h := heap_alloc_new w (.cells (l.map fun n => Value.int .i64 n).toArray T fr)
  rw [Nat.zero_add, cell_at h]
  simp [hj]
set_option maxRecDepth 100000 in
theorem three_any (w : World) (a b c : Int) :
    Calls Try.prog 31 #[.int .i64 a, .int .i64 b, .int .i64 c] w fun e w' => ∃ v, e = .returned (.agg #[.int .i64 5, v]) ∧ Mems w' v (L3 a b c) ∧ Below w.heap.size w w' := by
  go_enter Try.func31, Try.ntmps31
  go_wp2
  refine bodyPost_ret (v := .agg #[.int .i64 5, .slice (some ⟨w.heap.size + 1, 0, none⟩) 3 3]) (by simp [results, Try.results31, go_sem]) rfl ⟨_, rfl, ?_, ((Below.refl _ _).alloc (Nat.le_refl _) _).alloc (by simp) _⟩
  have := mems_new (w.alloc (.cells #[.int .i64 5, .slice (some ⟨w.heap.size + 1, 0, none⟩) 3 3] 25)) (L3 a b c) (by show 0 < 3; omega) (0, 0) 3 (Nat.le_refl _)
  rw [show (w.alloc (.cells #[.int .i64 5, .slice (some ⟨w.heap.size + 1, 0, none⟩) 3 3] 25)).heap.size = w.heap.size + 1 by simp] at this
  exact this
theorem aw_chk : chk 5 (L3 1 1 1) = 0 := by decide +kernel
theorem aw_quo : quoB 5 (L3 1 1 1) [1, 2] = true := by decide +kernel
theorem aw_not : quoB 5 (L3 1 1 1) [3] = false := by decide +kernel
theorem aw_vot : votM (L3 1 1 1) 3 = true := by decide +kernel
theorem aw_cfg : cfgOf (cfgB 5 (L3 1 1 1)) = some (5, L3 1 1 1) := (cfgOf_iff _ _ _).2 ⟨rfl, aw_chk⟩
theorem cfgB_pos (ver : Int) (l : List Mem) : 0 < (cfgB ver l).length := by
  unfold cfgB
  rw [List.length_append]
  have := digs_pos (zz ver)
  unfold numB
  omega
theorem cfgB_len {ver : Int} {l : List Mem} (h : chk ver l = 0) : (cfgB ver l).length ≤ 300 := by
  obtain ⟨h7, h0, hv, hf, _⟩ := chk_ok h
  have h1 := memsB_len l (fun m hm => ⟨(fitAll_mem hf m hm).1, (fitAll_mem hf m hm).2⟩)
  have h2 := numB_len ver (by omega) (by omega)
  have h3 := numB_len (l.length : Int) (by omega) (by omega)
  unfold cfgB
  simp only [List.length_append]
  omega
set_option maxRecDepth 100000 in
set_option maxHeartbeats 2000000 in
theorem awake_any (w : World) : Calls Try.prog 6 #[] w fun e w' => e = .returned (.bool true) ∧ Below w.heap.size w w' := by
  have hcl := cfgB_len aw_chk
  have hcp := cfgB_pos 5 (L3 1 1 1)
  go_enter Try.func6, Try.ntmps6
  go_wp2_with fail
  refine (three_any w 1 1 1).mono ?_
  rintro e w1 ⟨v, rfl, hm1, hB1⟩
  have HM1 : Hid (Mems w1 v (L3 1 1 1)) := hm1
  obtain ⟨A, C, rfl⟩ := hm1.form
  clear hm1
  generalize (L3 1 1 1).length = n3 at HM1
  go_wp2_with fail
  have hB1a : Below w1.heap.size w1 (w1.alloc (.cells #[.int .i64 5, .slice A n3 C] 25)) := (Below.refl _ _).alloc (Nat.le_refl _) _
  have hm1a := HM1.out.below' hB1a
  have h2 := put_yes hm1a 5 aw_chk
  refine h2.mono ?_
  clear h2
  rintro e w2 ⟨x2, rfl, hn2⟩
  have hB2 := hB1a.trans (hn2.below.mono (by simp))
  have hm2 := HM1.out.below' hB2
  have HX2 : Hid (Bs w2 x2 (cfgB 5 (L3 1 1 1))) := hn2.bs
  obtain ⟨A2, C2, rfl⟩ := bs_form hn2.bs
  have hk0 : w2.cell? ⟨w1.heap.size, 0, none⟩ = some (.int .i64 5) := by rw [hn2.below.cell (p := ⟨w1.heap.size, 0, none⟩) (by simp), cell_at (heap_alloc_new w1 _)]; rfl
  have hk1 : w2.cell? ⟨w1.heap.size, 1, none⟩ = some (.slice A n3 C) := by rw [hn2.below.cell (p := ⟨w1.heap.size, 1, none⟩) (by simp), cell_at (heap_alloc_new w1 _)]; rfl
  have hl2 : w1.heap.size < w2.heap.size := by have := hn2.below.size; simp at this; omega
  clear hn2 hm1a hB1a
  have HCF : Hid (cfgOf (cfgB 5 (L3 1 1 1)) = some (5, L3 1 1 1)) := aw_cfg
  generalize cfgB 5 (L3 1 1 1) = cb at *
  have hfacts : ∀ w', Below w2.heap.size w2 w' → w'.cell? ⟨w1.heap.size, 0, none⟩ = some (.int .i64 5) ∧ w'.cell? ⟨w1.heap.size, 1, none⟩ = some (.slice A n3 C) ∧ Mems w' (.slice A n3 C) (L3 1 1 1) ∧ w1.heap.size < w'.heap.size :=
    fun w' h => ⟨by rw [h.cell (p := ⟨w1.heap.size, 0, none⟩) hl2]; exact hk0, by rw [h.cell (p := ⟨w1.heap.size, 1, none⟩) hl2]; exact hk1, hm2.below' h, Nat.lt_of_lt_of_le hl2 h.size⟩
  have HFA : Hid (∀ w', Below w2.heap.size w2 w' → w'.cell? ⟨w1.heap.size, 0, none⟩ = some (.int .i64 5) ∧ w'.cell? ⟨w1.heap.size, 1, none⟩ = some (.slice A n3 C) ∧ Mems w' (.slice A n3 C) (L3 1 1 1) ∧ w1.heap.size < w'.heap.size) := hfacts
  clear hfacts hm2
  have hcp' : (0 : Int) < cb.length := by omega
  go_wp2_with fail
  have h3 := get_any HX2.out (by omega)
  rw [HCF.out] at h3
  refine h3.mono ?_
  clear h3
  rintro e w3 ⟨v3, rfl, ho3, hB3⟩
  have HV3 : Hid (Mems w3 v3 (L3 1 1 1)) := mems_of_owns ho3
  obtain ⟨A3, C3, rfl⟩ := owns_form' ho3
  clear ho3
  generalize (L3 1 1 1).length = m3 at HV3
  obtain ⟨a0, a1, -, a3⟩ := HFA.out w3 hB3
  clear hk0 hk1
  have hB4 : Below w2.heap.size w2 (w3.alloc (.cells #[.int .i64 5, .slice A3 m3 C3] 25)) := hB3.alloc hB3.size _
  have hm4 := (HFA.out _ hB4).2.2.1
  have HG : Hid (∀ w', Below (w3.alloc (.cells #[.int .i64 5, .slice A3 m3 C3] 25)).heap.size (w3.alloc (.cells #[.int .i64 5, .slice A3 m3 C3] 25)) w' → w'.cell? ⟨w3.heap.size, 0, none⟩ = some (.int .i64 5) ∧ w'.cell? ⟨w3.heap.size, 1, none⟩ = some (.slice A3 m3 C3) ∧ Mems w' (.slice A3 m3 C3) (L3 1 1 1) ∧ w3.heap.size < w'.heap.size) :=
    fun w' h => ⟨by rw [h.cell (p := ⟨w3.heap.size, 0, none⟩) (by simp), cell_at (heap_alloc_new w3 _)]; rfl, by rw [h.cell (p := ⟨w3.heap.size, 1, none⟩) (by simp), cell_at (heap_alloc_new w3 _)]; rfl, (HV3.out.below' ((Below.refl _ _).alloc (Nat.le_refl _) _)).below' h, Nat.lt_of_lt_of_le (by simp) h.size⟩
  go_wp2_with fail
  have h5 := check_any hm4 5
  rw [aw_chk] at h5
  refine h5.mono ?_
  clear h5 hm4
  rintro e w5 ⟨rfl, hB5⟩
  have hB5' := hB4.trans (hB5.mono hB4.size)
  obtain ⟨b0, b1, -, b3⟩ := HFA.out w5 hB5'
  clear a0 a1
  go_wp2_with fail
  have hB5a : Below w2.heap.size w2 (w5.alloc (.cells #[.int .i64 1, .int .i64 2] 3)) := hB5'.alloc hB5'.size _
  have h6 := Quorum_any (HFA.out _ hB5a).2.2.1 5 (ns_new w5 [1, 2] (by decide) (0, 0) 3 2 (by decide)) (by decide)
  rw [aw_quo] at h6
  refine h6.mono ?_
  clear h6
  rintro e w6 ⟨rfl, hB6⟩
  have hB6' := hB5a.trans (hB6.mono hB5a.size)
  have hB46 := (hB5.alloc hB5.size (.cells #[.int .i64 1, .int .i64 2] 3)).trans (hB6.mono (by have := hB5.size; simp at this ⊢; omega))
  obtain ⟨c0, c1, -, c3⟩ := HFA.out w6 hB6'
  clear b0 b1
  go_wp2_with fail
  have hB6a : Below w2.heap.size w2 (w6.alloc (.cells #[.int .i64 3] 3)) := hB6'.alloc hB6'.size _
  have h7 := Quorum_any (HFA.out _ hB6a).2.2.1 5 (ns_new w6 [3] (by decide) (0, 0) 3 1 (by decide)) (by decide)
  rw [aw_not] at h7
  refine h7.mono ?_
  clear h7
  rintro e w7 ⟨rfl, hB7⟩
  have hB7' := hB6a.trans (hB7.mono hB6a.size)
  have hB47 := (hB46.alloc hB46.size (.cells #[.int .i64 3] 3)).trans (hB7.mono (by have := hB46.size; simp at this ⊢; omega))
  obtain ⟨d0, d1, d2, d3⟩ := HFA.out w7 hB7'
  clear c0 c1
  go_wp2_with fail
  have h8 := voter_any d2 5 3 (by decide)
  rw [aw_vot] at h8
  refine h8.mono ?_
  clear h8 d2
  rintro e w8 ⟨rfl, hB8⟩
  have hB8' := hB7'.trans (hB8.mono hB7'.size)
  have hB48 := hB47.trans (hB8.mono hB47.size)
  obtain ⟨e0, e1, e2, e3⟩ := HFA.out w8 hB8'
  obtain ⟨f0, f1, f2, f3⟩ := HG.out w8 hB48
  clear d0 d1
  go_wp2_with fail
  have h9 := sameE_any e2 f2 (by decide) 5 5
  rw [decide_eq_true rfl, decide_eq_true rfl] at h9
  refine h9.mono ?_
  clear h9 e2 f2
  rintro e w9 ⟨rfl, hB9⟩
  have hB9' := hB8'.trans (hB9.mono hB8'.size)
  go_wp2
  go_ret
  exact ⟨rfl, hB1.trans ((hB2.trans (hB9'.mono (by omega))).mono hB1.size)⟩
end Go.Proofs.Ytohhbhkpekieiaa
