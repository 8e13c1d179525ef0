/- The walks of finding members, of what the statements ask beside the program, and of what wakes them. -/
import Derived.Laws.StructEq
import Derived.Test.YtaeoafedfgbcaaaGreatDoorEnsC
namespace Go.Proofs.YtaeoafedfgbcaaaGreatDoor
open Go.RowKit

theorem memEq (w : World) (a b c d a' b' c' d' : Int) : (Op.equalIn 10000 118 (.agg #[.int .i64 a, .int .u8 b, .int .i64 c, .int .i64 d]) (.agg #[.int .i64 a', .int .u8 b', .int .i64 c', .int .i64 d'])).run Tryz.prog w = .ok (decide ((⟨a, b, c, d⟩ : Mem) = ⟨a', b', c', d'⟩)) w := by
  have u3 := Tryz.underlying3
  have a3 := Tryz.isAgg3
  have z3 := Tryz.sizeOf3
  have hS : Tryz.prog.underlying 118 = some (.struct (Tryz.prog.fieldsOf 118)) := by kernel_rfl
  have hp : Tryz.prog.stoodInHeld 118 = false := by kernel_rfl
  rw [show (10000 : Nat) = 9999 + 1 from rfl, run_equalIn_agg w 9999 118 _ _ hS hp]
  simp only [Program.fieldsOf, Tryz.underlying118]
  go_simp
  by_cases h1 : a = a' <;> by_cases h2 : b = b' <;> by_cases h3 : c = c' <;> by_cases h4 : d = d' <;> simp [h1, h2, h3, h4]
theorem memNeq (w : World) (a b c d a' b' c' d' : Int) : (binOp .neq 118 (.agg #[.int .i64 a, .int .u8 b, .int .i64 c, .int .i64 d]) (.agg #[.int .i64 a', .int .u8 b', .int .i64 c', .int .i64 d'])).run Tryz.prog w = .ok (.bool (!decide ((⟨a, b, c, d⟩ : Mem) = ⟨a', b', c', d'⟩))) w := by
  rw [run_neq_struct, memEq]
  rfl
def findM (l : List Mem) (id : Int) : Option Mem := l.find? fun m => decide (m.id = id)
def memOr : Option Mem → Mem
  | some m => m
  | none => ⟨0, 0, 0, 0⟩
theorem findM_mid {l : List Mem} {k : Nat} (h : k < l.length) {id : Int} (hn : findM (l.take k) id = none) (he : (l[k]'h).id = id) : findM l id = some (l[k]'h) := by
  unfold findM at hn ⊢
  have hs := congrArg (List.find? fun m => decide (m.id = id)) (split_at h)
  refine hs.trans ?_
  rw [List.find?_append, hn, List.find?_cons_of_pos (by simpa using he)]
  rfl
theorem findM_snoc {l : List Mem} {k : Nat} (h : k < l.length) {id : Int} (hn : findM (l.take k) id = none) (he : ¬ (l[k]'h).id = id) : findM (l.take (k + 1)) id = none := by
  unfold findM at hn ⊢
  rw [take_snoc h, List.find?_append, hn]
  simp [he]
def votM (l : List Mem) (id : Int) : Bool := (findM l id).isSome && decide ((memOr (findM l id)).role = 1)
/- Are two rows of members the same? -/
theorem takeM_step {k : Nat} {a b : List Mem} {ha : k < a.length} {hb : k < b.length} (h : a.take k = b.take k) (he : a[k]'ha = b[k]'hb) : a.take (k + 1) = b.take (k + 1) := by
  rw [List.take_succ_eq_append_getElem ha, List.take_succ_eq_append_getElem hb, h, he]
theorem Mems.drewN {w : World} {v : Value} {l : List Mem} (h : Mems w v l) (n : Nat) : Mems (w.drewN n) v l := h.keep (Chg.drewN Non w n) (fun _ _ => id)
theorem sameM_len {a1 a2 : Option Addr} {c1 c2 : Nat} {la lb : List Mem} {w : World} (hA : Mems w (.slice a1 la.length c1) la) (hB : Mems w (.slice a2 lb.length c2) lb) (hl : la.length = lb.length) (hm : la.length ≤ 140737488355328) :
    Calls Tryz.prog 72 #[.slice a1 la.length c1, .slice a2 lb.length c2] w fun e w' => e = .returned (.bool (decide (la = lb))) ∧ ∃ q, w' = w.drewN q := by
  have HA : Hid (Mems w (.slice a1 la.length c1) la) := hA
  have HB : Hid (Mems w (.slice a2 lb.length c2) lb) := hB
  have HL : Hid (la.length = lb.length) := hl
  clear hA hB
  rw [← hl]
  obtain ⟨n, hn⟩ : ∃ n, n = la.length := ⟨_, rfl⟩
  rw [← hn] at hm ⊢
  have HN : Hid (n = la.length) := hn
  clear hl hn
  go_enter Tryz.func72, Tryz.ntmps72
  go_wp2
  go_loopw [5] (fun i wr => ∃ (k q : Nat), k ≤ n ∧ i = .int .i64 k ∧ la.take k = lb.take k ∧ wr = w.drewN q) (fun i _ => n - (intOf i).toNat)
  case atStart => exact ⟨0, 0, Nat.zero_le _, rfl, rfl, rfl⟩
  case round =>
    obtain ⟨k, q, hk, rfl, ht, rfl⟩ := hrel
    have HT : Hid (la.take k = lb.take k) := ht
    clear ht
    by_cases hlt : k < n
    · have hla : k < la.length := by have := HN.out; omega
      have hlb : k < lb.length := by have := HN.out; have := HL.out; omega
      obtain ⟨b1, o1, e1, -, x0, x1, x2, x3⟩ := HA.out.at' k hla
      obtain ⟨b2, o2, e2, -, y0, y1, y2, y3⟩ := HB.out.at' k hlb
      have HS : Hid (la[k]'hla = lb[k]'hlb → la.take (k + 1) = lb.take (k + 1)) := fun h => takeM_step HT.out h
      have HD : Hid (¬ la[k]'hla = lb[k]'hlb → la ≠ lb) := fun h => ne_at k _ _ h
      generalize la[k]'hla = x at x0 x1 x2 x3 HS HD
      generalize lb[k]'hlb = y at y0 y1 y2 y3 HS HD
      obtain ⟨xi, xr, xw, xg⟩ := x
      obtain ⟨yi, yr, yw, yg⟩ := y
      dsimp only at x0 x1 x2 x3 y0 y1 y2 y3
      subst e1 e2
      have hne := fun w => memNeq w xi xr xw xg yi yr yw yg
      by_cases he : (⟨xi, xr, xw, xg⟩ : Mem) = ⟨yi, yr, yw, yg⟩
      · rw [decide_eq_true he] at hne
        have HE : Hid (la.take (k + 1) = lb.take (k + 1)) := HS.out he
        clear he HS HD
        go_wp2_with fail
        go_quiet (fail)
        go_wp2
        exact ⟨⟨k + 1, q + nq, by omega, by go_num, HE.out, by simp⟩, by simp [intOf]; omega⟩
      · rw [decide_eq_false he] at hne
        have HE : Hid (la ≠ lb) := HD.out he
        clear he HS HD
        go_wp2_with fail
        go_quiet (fail)
        go_wp2
        go_ret
        exact ⟨ret_b (by rw [decide_eq_false HE.out]), q + nq, by simp⟩
    · go_wp2
      go_ret
      exact ⟨ret_b (by rw [decide_eq_true (eq_of_take HL.out k (by have := HN.out; omega) HT.out)]), q, rfl⟩
theorem sameM_any {x y : Value} {la lb : List Mem} {w : World} (hA : Mems w x la) (hB : Mems w y lb) (hm : la.length ≤ 140737488355328) :
    Calls Tryz.prog 72 #[x, y] w fun e w' => e = .returned (.bool (decide (la = lb))) ∧ ∃ q, w' = w.drewN q := by
  obtain ⟨a1, c1, rfl⟩ := hA.form
  obtain ⟨a2, c2, rfl⟩ := hB.form
  by_cases hl : la.length = lb.length
  · exact sameM_len hA hB hl hm
  · have hd : decide (la = lb) = false := decide_eq_false (fun h => hl (by rw [h]))
    rw [hd]
    clear hd hA hB
    generalize la.length = n at *
    generalize lb.length = m at *
    have hb : ((n : Int) != (m : Int)) = true := by simp; omega
    clear hl
    go_enter Tryz.func72, Tryz.ntmps72
    go_wp2
    go_ret
    exact ⟨rfl, 0, rfl⟩
set_option maxRecDepth 100000 in
theorem sameE_any {x y : Value} {la lb : List Mem} {w : World} (hA : Mems w x la) (hB : Mems w y lb) (hm : la.length ≤ 140737488355328) (va vb : Int) :
    Calls Tryz.prog 39 #[.agg #[.int .i64 va, x], .agg #[.int .i64 vb, y]] w fun e w' => e = .returned (.bool (decide (va = vb) && decide (la = lb))) ∧ Below w.heap.size w w' := by
  have HA : Hid (Mems w x la) := hA
  have HB : Hid (Mems w y lb) := hB
  obtain ⟨a1, c1, rfl⟩ := hA.form
  obtain ⟨a2, c2, rfl⟩ := hB.form
  clear hA hB
  have hB2 : Below w.heap.size w ((w.alloc (.cells #[.int .i64 va, .slice a1 la.length c1] 39)).alloc (.cells #[.int .i64 vb, .slice a2 lb.length c2] 39)) := ((Below.refl _ _).alloc (Nat.le_refl _) _).alloc (by simp) _
  by_cases he : va = vb
  · subst he
    have h1 := sameM_any (HA.out.below' hB2) (HB.out.below' hB2) hm
    rw [decide_eq_true rfl, Bool.true_and]
    have H1 : Hid (Calls Tryz.prog 72 #[.slice a1 la.length c1, .slice a2 lb.length c2] ((w.alloc (.cells #[.int .i64 va, .slice a1 la.length c1] 39)).alloc (.cells #[.int .i64 va, .slice a2 lb.length c2] 39)) fun e w' => e = .returned (.bool (decide (la = lb))) ∧ ∃ q, w' = ((w.alloc (.cells #[.int .i64 va, .slice a1 la.length c1] 39)).alloc (.cells #[.int .i64 va, .slice a2 lb.length c2] 39)).drewN q) := h1
    clear h1
    go_enter Tryz.func39, Tryz.ntmps39
    go_wp2_with fail
    refine H1.out.mono ?_
    rintro e w3 ⟨rfl, n3, rfl⟩
    go_wp2
    go_ret
    exact ⟨rfl, below_drewN hB2 n3⟩
  · rw [decide_eq_false he, Bool.false_and]
    have hb : (va == vb) = false := by simpa using he
    clear he
    go_enter Tryz.func39, Tryz.ntmps39
    go_wp2
    go_ret
    exact ⟨rfl, hB2⟩
end Go.Proofs.YtaeoafedfgbcaaaGreatDoor
/- The walk of what wakes the statements on configs. -/
namespace Go.Proofs.YtaeoafedfgbcaaaGreatDoor
open Go.RowKit

def L3 (a b c : Int) : List Mem := [⟨1, 1, a, 0⟩, ⟨2, 1, b, 0⟩, ⟨3, 1, c, 0⟩]
theorem mems_new (w : World) (l : List Mem) (hl : 0 < l.length) (fr : Nat × Nat) (c : Nat) (hc : l.length ≤ c) : Mems (w.alloc (.cells (mvs l).toArray 118 fr)) (.slice (some ⟨w.heap.size, 0, none⟩) l.length c) l := by
  refine .inr (.inr ⟨hl, w.heap.size, 0, c, rfl, hc, by simp, fun j hj => ?_⟩)
  have h := heap_alloc_new w (.cells (mvs l).toArray 118 fr)
  obtain ⟨c0, c1, c2, c3⟩ := mvs_at l j hj
  rw [Nat.zero_add]
  exact ⟨by rw [cell_at h]; simpa using c0, by rw [cell_at h]; simpa using c1, by rw [cell_at h]; simpa using c2, by rw [cell_at h]; simpa using c3⟩
theorem ns_new (w : World) (l : List Int) (hl : 0 < l.length) (fr : Nat × Nat) (T c : Nat) (hc : l.length ≤ c) : Ns (w.alloc (.cells (l.map fun n => Value.int .i64 n).toArray T fr)) (.slice (some ⟨w.heap.size, 0, none⟩) l.length c) l := by
  refine .inr (.inr ⟨hl, w.heap.size, 0, c, rfl, hc, by simp, fun j hj => ?_⟩)
  have h := heap_alloc_new w (.cells (l.map fun n => Value.int .i64 n).toArray T fr)
  rw [Nat.zero_add, cell_at h]
  simp [hj]
theorem aw_chk : chk 5 (L3 1 1 1) = 0 := by decide +kernel
theorem aw_quo : quoB 5 (L3 1 1 1) [1, 2] = true := by decide +kernel
theorem aw_not : quoB 5 (L3 1 1 1) [3] = false := by decide +kernel
theorem aw_vot : votM (L3 1 1 1) 3 = true := by decide +kernel
theorem aw_cfg : cfgOf (cfgB 5 (L3 1 1 1)) = some (5, L3 1 1 1) := (cfgOf_iff _ _ _).2 ⟨rfl, aw_chk⟩
theorem cfgB_pos (ver : Int) (l : List Mem) : 0 < (cfgB ver l).length := by
  unfold cfgB
  rw [List.length_append]
  have := digs_pos (zz ver)
  unfold numB
  omega
theorem cfgB_len {ver : Int} {l : List Mem} (h : chk ver l = 0) : (cfgB ver l).length ≤ 300 := by
  obtain ⟨h7, h0, hv, hf, _⟩ := chk_ok h
  have h1 := memsB_len l (fun m hm => ⟨(fitAll_mem hf m hm).1, (fitAll_mem hf m hm).2⟩)
  have h2 := numB_len ver (by omega) (by omega)
  have h3 := numB_len (l.length : Int) (by omega) (by omega)
  unfold cfgB
  simp only [List.length_append]
  omega
end Go.Proofs.YtaeoafedfgbcaaaGreatDoor
