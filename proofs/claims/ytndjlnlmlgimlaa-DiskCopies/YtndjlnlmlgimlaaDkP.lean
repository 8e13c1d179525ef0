/- The mathematics of the statements on crashes and on what stays. -/
import Derived.Test.YtndjlnlmlgimlaaDkW
namespace Go.Proofs.Ytndjlnlmlgimlaa
open Go.RowKit Go.MapKept

theorem lookF_of : ∀ {F : List Fi} {f : Fi}, (F.map (·.nm)).Nodup → f ∈ F → lookF f.nm F = some f
  | [], _, _, h => by cases h
  | q :: F, f, hn, h => by
    simp only [List.map_cons, List.nodup_cons] at hn
    unfold lookF
    rcases List.mem_cons.1 h with rfl | h
    · simp
    · rw [if_neg (fun e => hn.1 (List.mem_map.2 ⟨f, h, e.symm⟩)), lookF_of hn.2 h]
theorem lookF_perm {F G : List Fi} (h : F.Perm G) (hn : (G.map (·.nm)).Nodup) (k : List UInt8) : lookF k F = lookF k G := by
  have hnF : (F.map (·.nm)).Nodup := (h.map (·.nm)).symm.nodup hn
  cases hg : lookF k G with
  | some f =>
    obtain ⟨h1, h2⟩ := lookF_mem hg
    rw [← h2]; exact lookF_of hnF (h.symm.subset h1)
  | none =>
    cases hf : lookF k F with
    | none => rfl
    | some f =>
      obtain ⟨h1, h2⟩ := lookF_mem hf
      have := lookF_of hn (h.subset h1)
      rw [h2, hg] at this; cases this
theorem lookF_crash (keep : Int) (k : List UInt8) : ∀ (F : List Fi), lookF k (F.map (crash1 keep)) = (lookF k F).map (crash1 keep)
  | [] => rfl
  | q :: F => by
    simp only [List.map_cons, lookF]
    have : (crash1 keep q).nm = q.nm := rfl
    rw [this]
    split
    · rfl
    · exact lookF_crash keep k F
theorem crash_synced (keep : Int) (f : Fi) (h : f.sy = f.b.length) : crash1 keep f = f := by
  cases f
  simp only at h
  subst h
  simp [crash1, keepN]
/- A part of a slice from its beginning on. -/
theorem slice_run {A : Option Addr} {n C J : Nat} (h : J ≤ C) (w : World) : (Instr.sliceAt 28 (.slice A n C) none (some (.int .i64 (J : Int))) none).run Try.prog w = .ok (.slice A J C) w := by
  have hu := Try.underlying28
  have hs : ∀ w, (sizeOf 5).run Try.prog w = .ok 1 w := fun _ => by kernel_rfl
  cases A <;> simp [Instr.sliceAt, Instr.slice, Instr.sliceBounds, Instr.sliceBound, asIntOf, run_underlying hu, hs, Result.andThen, h, Addr.add]
theorem bs_part {w : World} {A : Option Addr} {n C : Nat} {l : List UInt8} (h : Bs w (.slice A n C) l) (J : Nat) (hJ : J ≤ l.length) : J ≤ C ∧ n = l.length ∧ Bs w (.slice A J C) (l.take J) ∧ (∀ k, bk (.slice A J C) = some k → bk (.slice A n C) = some k) := by
  rcases h with ⟨hv, rfl⟩ | ⟨ad, c, hv, rfl⟩ | ⟨h0, b, o, c, hv, h1, h2, h3⟩
  · cases hv
    have : J = 0 := by simpa using hJ
    subst this
    exact ⟨Nat.le_refl _, rfl, .inl ⟨rfl, rfl⟩, fun _ => id⟩
  · cases hv
    have : J = 0 := by simpa using hJ
    subst this
    exact ⟨Nat.zero_le _, rfl, .inr (.inl ⟨_, _, rfl, rfl⟩), fun _ => id⟩
  · cases hv
    refine ⟨by omega, rfl, Bs.mk b o C (by simp; omega) (by simp; omega) h2 fun j hj => ?_, fun k hk => ?_⟩
    · simp only [List.length_take] at hj
      rw [h3 j (by omega)]
      simp
    · by_cases hz : J = 0
      · subst hz; exact absurd hk (bk_zero _ _ _)
      · rw [bk_pos (by omega)] at hk ⊢; exact hk
theorem run_max2 (x y : Int) (ty : TypeId) (w : World) : (Builtin.max_ #[3, 3] ty #[.int .i64 x, .int .i64 y]).run Try.prog w = .ok (.int .i64 (max x y)) w := by
  have : (if y > x then y else x) = max x y := by split <;> omega
  simp [Builtin.max_, Builtin.max2, ← this]
theorem run_min2 (x y : Int) (ty : TypeId) (w : World) : (Builtin.min_ #[3, 3] ty #[.int .i64 x, .int .i64 y]).run Try.prog w = .ok (.int .i64 (min x y)) w := by
  have : (if y < x then y else x) = min x y := by split <;> omega
  simp [Builtin.min_, Builtin.min2, ← this]
theorem wpList_bmax {w : World} {ops : Array Oper} {rest : List Oper} {o : Oper} {a : Act} {Q : Exit → Act → World → Prop} (hg : o.guard = none) (x y : Operand) (hop : o.op = Op.call { callee := Callee.builtin Builtin.max, args := #[x, y], argTypes := #[3, 3] }) (m n : Int) (hx : a.eval x = .int .i64 m) (hy : a.eval y = .int .i64 n)
    (hK : wpList Try.prog ops Q rest (a.put o.dst (.int .i64 (max m n))) w) : wpList Try.prog ops Q (o :: rest) a w := by
  refine wpList_plain hg fun K' hK' => ?_
  unfold Oper.wp execOp
  simp only [hop, resolve, invoke, builtin, Sem.run_bind, Sem.run_pure, Result.andThen_ok, List.map_toArray, List.map_cons, List.map_nil, hx, hy, run_max2]
  exact hK' _ _ hK
theorem wpList_bmin {w : World} {ops : Array Oper} {rest : List Oper} {o : Oper} {a : Act} {Q : Exit → Act → World → Prop} (hg : o.guard = none) (x y : Operand) (hop : o.op = Op.call { callee := Callee.builtin Builtin.min, args := #[x, y], argTypes := #[3, 3] }) (m n : Int) (hx : a.eval x = .int .i64 m) (hy : a.eval y = .int .i64 n)
    (hK : wpList Try.prog ops Q rest (a.put o.dst (.int .i64 (min m n))) w) : wpList Try.prog ops Q (o :: rest) a w := by
  refine wpList_plain hg fun K' hK' => ?_
  unfold Oper.wp execOp
  simp only [hop, resolve, invoke, builtin, Sem.run_bind, Sem.run_pure, Result.andThen_ok, List.map_toArray, List.map_cons, List.map_nil, hx, hy, run_min2]
  exact hK' _ _ hK
theorem nxt_mod (keep : Int) (n : Nat) : 0 ≤ keep % ((n : Int) + 1) ∧ keep % ((n : Int) + 1) ≤ n := by
  have h1 := Int.emod_nonneg keep (show (n : Int) + 1 ≠ 0 by omega)
  have h2 := Int.emod_lt_of_pos keep (show 0 < (n : Int) + 1 by omega)
  omega
theorem appE_ok {room : Int} {F : List Fi} {k l : List UInt8} (hn : nameB k = true) (h1 : (getF k F).b.length + l.length ≤ 4194304) (h2 : (used F : Int) + (l.length : Int) ≤ room) : appE room F k l = 0 ∧ appR room F k l = appF F k l := by
  have a : appE room F k l = 0 := by
    unfold appE
    rw [if_neg (by rw [hn]; decide), if_neg (by omega), if_neg (by omega)]
  exact ⟨a, by rw [appR, if_pos a]⟩
end Go.Proofs.Ytndjlnlmlgimlaa
