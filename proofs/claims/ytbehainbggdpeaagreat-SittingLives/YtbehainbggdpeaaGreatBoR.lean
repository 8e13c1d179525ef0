/- The document's book: what lies in memory for one; a row of seats, its parts, and appending to one of one's own; making one, ends, finding. -/
import Derived.Test.YtbehainbggdpeaaGreatBoD
import Derived.Test.YtbehainbggdpeaaGreatBoE
namespace Go.Proofs.YtbehainbggdpeaaGreat
set_option linter.unusedSimpArgs false
set_option linter.unusedVariables false
open Go.RowKit Go.MapKept
set_option linter.unusedVariables false
set_option linter.unusedSimpArgs false

def cel (p : Fi) : List Value := [.int .i64 p.nm, .int .i64 p.tmo, .int .i64 p.en]
theorem cel_len : ∀ L : List Fi, (L.flatMap cel).length = L.length * 3
  | [] => rfl
  | p :: L => by rw [List.flatMap_cons, List.length_append, cel_len L, List.length_cons]; simp [cel]; omega
theorem cel_one (L : List Fi) : ∀ u ∈ L.flatMap cel, u.oneCell' = true := by
  intro u hu
  obtain ⟨p, _, h⟩ := List.mem_flatMap.1 hu
  simp [cel] at h
  rcases h with rfl | rfl | rfl <;> rfl
theorem cel_at : ∀ (L : List Fi) (j : Nat) (h : j < L.length), (L.flatMap cel)[j * 3]? = some (.int .i64 (L[j]'h).nm) ∧ (L.flatMap cel)[j * 3 + 1]? = some (.int .i64 (L[j]'h).tmo) ∧ (L.flatMap cel)[j * 3 + 2]? = some (.int .i64 (L[j]'h).en)
  | [], _, h => by simp at h
  | p :: L, 0, _ => by simp [cel]
  | p :: L, j + 1, h => by
    have ih := cel_at L j (by simpa using h)
    have e : ∀ i, ((p :: L).flatMap cel)[(j + 1) * 3 + i]? = (L.flatMap cel)[j * 3 + i]? := by
      intro i
      rw [List.flatMap_cons, List.getElem?_append_right (by simp [cel]; omega)]
      congr 1
      simp [cel]; omega
    refine ⟨?_, ?_, ?_⟩
    · have := e 0; simp only [Nat.add_zero] at this; rw [this]; simpa using ih.1
    · rw [e 1]; simpa using ih.2.1
    · rw [e 2]; simpa using ih.2.2
theorem cel_take (L : List Fi) (d t : Nat) (u : Value) (h : ((L.take d).flatMap cel)[t]? = some u) : (L.flatMap cel)[t]? = some u := by
  have : L.flatMap cel = (L.take d).flatMap cel ++ (L.drop d).flatMap cel := by rw [← List.flatMap_append, List.take_append_drop]
  rw [this, List.getElem?_append_left (List.getElem?_eq_some_iff.1 h).1, h]
theorem cel_drop (L : List Fi) (d t : Nat) (u : Value) (h : ((L.drop d).flatMap cel)[t]? = some u) : (L.flatMap cel)[d * 3 + t]? = some u := by
  by_cases hd : d ≤ L.length
  · have : L.flatMap cel = (L.take d).flatMap cel ++ (L.drop d).flatMap cel := by rw [← List.flatMap_append, List.take_append_drop]
    have hl : ((L.take d).flatMap cel).length = d * 3 := by rw [cel_len, List.length_take]; omega
    rw [this, List.getElem?_append_right (by omega), hl, ← h]
    congr 1; omega
  · rw [List.drop_eq_nil_of_le (by omega)] at h; simp at h

/- The slice v holds the seats M. -/
def Sx (w : World) (v : Value) (M : List Fi) : Prop :=
  (v = .slice none 0 0 ∧ M = []) ∨ (∃ ad c, v = .slice (some ad) 0 c ∧ M = []) ∨ (0 < M.length ∧ ∃ b o c, v = .slice (some ⟨b, o, none⟩) M.length c ∧ M.length ≤ c ∧ b < w.heap.size ∧ ∀ t u, (M.flatMap cel)[t]? = some u → w.cell? ⟨b, o + t, none⟩ = some u)
theorem Sx.keep {S : Nat → Prop} {w w' : World} {v : Value} {M : List Fi} (h : Sx w v M) (hc : Chg S w w') (hn : ∀ k, bk v = some k → ¬ S k) : Sx w' v M := by
  rcases h with h | h | ⟨h0, b, o, c, rfl, h1, h2, h3⟩
  · exact .inl h
  · exact .inr (.inl h)
  · refine .inr (.inr ⟨h0, b, o, c, rfl, h1, hc.lt_of h2, fun t u hu => ?_⟩)
    rw [hc.cell (a := ⟨b, o + t, none⟩) h2 (hn b (bk_pos h0))]
    exact h3 t u hu
theorem add_at (g i : Nat) : (⟨g, 0, none⟩ : Addr).add i = ⟨g, i, none⟩ := by simp only [Addr.add]; split <;> simp_all
theorem row_cells {w : World} {base n : Nat} {g C : Nat} {S : List Fi} (h : w.ownsRow base 55 3 (.slice (some ⟨g, 0, none⟩) n C) n (S.flatMap cel)) : n = S.length ∧ S.length ≤ C ∧ C ≤ maxLen ∧ g < w.heap.size ∧ base ≤ g ∧ ∀ t u, (S.flatMap cel)[t]? = some u → w.cell? ⟨g, t, none⟩ = some u := by
  have hn : n = S.length := by have := h.1; rw [cel_len] at this; omega
  rcases h.2 with ⟨hv, _⟩ | ⟨g', cap', cur', hv', hbs, hg, hc', hm', _⟩
  · cases hv
  · injection hv' with e1 _ e3
    injection e1 with e1
    injection e1 with e1
    subst e1 e3
    refine ⟨hn, by omega, hm', heap_lt hg, hbs, fun t u hu => ?_⟩
    have := h.cells (g := g) rfl t u hu
    rw [add_at] at this
    exact this
theorem infoT : (Tryz.prog.info? 55).map (fun i => (i.zero, i.size, i.bytes)) = some (some (.agg #[.int .i64 0, .int .i64 0, .int .i64 0]), 3, 24) := by kernel_rfl
theorem size3 (w : World) : (sizeOf 55).run Tryz.prog w = .ok 3 w := by kernel_rfl
/- The first seats of a row, and those from one on. -/
theorem part_to {w : World} {base n : Nat} {v : Value} {S : List Fi} (h : w.ownsRow base 55 3 v n (S.flatMap cel)) (j : Nat) (hj : j ≤ S.length) :
    ∃ y, (∀ w', (Instr.sliceAt 40 v none (some (.int .i64 (j : Int))) none).run Tryz.prog w' = .ok y w') ∧ Sx w y (S.take j) := by
  have hu := Tryz.underlying40
  obtain ⟨A, C, rfl⟩ := ifm h
  cases A with
  | none =>
    rcases h.2 with ⟨hv, hn⟩ | ⟨g', cap', cur', hv', _⟩
    · injection hv with _ _ e3
      subst e3
      have hS : S = [] := by have := h.1; rw [cel_len] at this; exact List.length_eq_zero_iff.1 (by omega)
      subst hS
      obtain rfl : j = 0 := by simpa using hj
      refine ⟨.slice none 0 0, fun w' => ?_, .inl ⟨rfl, by simp⟩⟩
      simp [Instr.sliceAt, Instr.slice, Instr.sliceBounds, Instr.sliceBound, asIntOf, run_underlying hu, size3, Result.andThen, hn]
    · cases hv'
  | some ad =>
    rcases h.2 with ⟨hv, _⟩ | ⟨g', cap', cur', hv', _⟩
    · cases hv
    · injection hv' with e1 _ e3
      injection e1 with e1
      subst e1 e3
      obtain ⟨hn, hSC, hCm, hg, hb, hcl⟩ := row_cells h
      have hjC : j ≤ C := by omega
      refine ⟨.slice (some ⟨g', 0, none⟩) j C, fun w' => ?_, ?_⟩
      · simp [Instr.sliceAt, Instr.slice, Instr.sliceBounds, Instr.sliceBound, asIntOf, run_underlying hu, size3, Result.andThen, hjC, Addr.add]
      · have hl : (S.take j).length = j := by rw [List.length_take]; omega
        by_cases h0 : 0 < j
        · refine .inr (.inr ⟨by omega, g', 0, C, by rw [hl], by omega, hg, fun t u hu => ?_⟩)
          rw [Nat.zero_add]
          exact hcl t u (cel_take S j t u hu)
        · obtain rfl : j = 0 := by omega
          exact .inr (.inl ⟨_, _, rfl, by simp⟩)
theorem part_from {w : World} {base n : Nat} {v : Value} {S : List Fi} (h : w.ownsRow base 55 3 v n (S.flatMap cel)) (j : Nat) (hj : j ≤ S.length) :
    ∃ y, (∀ w', (Instr.sliceAt 40 v (some (.int .i64 (j : Int))) none none).run Tryz.prog w' = .ok y w') ∧ Sx w y (S.drop j) := by
  have hu := Tryz.underlying40
  obtain ⟨A, C, rfl⟩ := ifm h
  cases A with
  | none =>
    rcases h.2 with ⟨hv, hn⟩ | ⟨g', cap', cur', hv', _⟩
    · injection hv with _ _ e3
      subst e3
      have hS : S = [] := by have := h.1; rw [cel_len] at this; exact List.length_eq_zero_iff.1 (by omega)
      subst hS
      obtain rfl : j = 0 := by simpa using hj
      refine ⟨.slice none 0 0, fun w' => ?_, .inl ⟨rfl, by simp⟩⟩
      subst hn
      simp [Instr.sliceAt, Instr.slice, Instr.sliceBounds, Instr.sliceBound, asIntOf, run_underlying hu, size3, Result.andThen]
    · cases hv'
  | some ad =>
    rcases h.2 with ⟨hv, _⟩ | ⟨g', cap', cur', hv', _⟩
    · cases hv
    · injection hv' with e1 _ e3
      injection e1 with e1
      subst e1 e3
      obtain ⟨hn, hSC, hCm, hg, hb, hcl⟩ := row_cells h
      subst hn
      have hjC : j ≤ C := by omega
      refine ⟨.slice (some (if C = j then ⟨g', 0, none⟩ else ⟨g', j * 3, none⟩)) (S.length - j) (C - j), fun w' => ?_, ?_⟩
      · by_cases hC : C = j
        · subst hC
          have hSC2 : S.length = C := by omega
          simp [Instr.sliceAt, Instr.slice, Instr.sliceBounds, Instr.sliceBound, asIntOf, run_underlying hu, size3, Result.andThen, hj]
        · simp [Instr.sliceAt, Instr.slice, Instr.sliceBounds, Instr.sliceBound, asIntOf, run_underlying hu, size3, Result.andThen, hj, hC, Addr.add]
          omega
      · have hl : (S.drop j).length = S.length - j := List.length_drop
        by_cases h0 : j < S.length
        · rw [if_neg (by omega)]
          refine .inr (.inr ⟨by omega, g', j * 3, C - j, by rw [hl], by omega, hg, fun t u hu => ?_⟩)
          exact hcl (j * 3 + t) u (cel_drop S j t u hu)
        · have e0 : S.length - j = 0 := by omega
          rw [e0]
          exact .inr (.inl ⟨_, _, rfl, List.drop_eq_nil_of_le (by omega)⟩)
/- Seats behind a row of one's own. -/
theorem app_seats {w : World} {base : Nat} {v : Value} {S : List Fi} (ty : TypeId) (hown : w.ownsRow base 55 3 v S.length (S.flatMap cel)) {x : Value} {M : List Fi} (hx : Sx w x M)
    (hb : base ≤ w.heap.size) (hn : S.length + M.length ≤ 1000000) :
    ∃ v' w', (Builtin.append_ #[40, 40] ty #[v, x]).run Tryz.prog w = .ok v' w' ∧ w'.ownsRow base 55 3 v' (S ++ M).length ((S ++ M).flatMap cel) ∧ w.grownBy w' (blk v) ∧ (blk v' = blk v ∨ blk v' = some w.heap.size) := by
  obtain ⟨i0, hi, hz0, hz1, hz2⟩ := info_parts infoT
  rcases hx with ⟨rfl, rfl⟩ | ⟨ad, c, rfl, rfl⟩ | ⟨h0, b, o, c, rfl, h1, h2, h3⟩
  · refine ⟨v, w, run_append_owned_none (P := Tryz.prog) w base 40 ty 55 i0 3 Tryz.underlying40 hi v S.length (S.flatMap cel) hown, ?_, ⟨rfl, rfl, rfl, Nat.le_refl _, fun _ _ _ => rfl⟩, .inl rfl⟩
    rw [List.append_nil]; exact hown
  · obtain ⟨v', w', hr, ho, hg, hn0, hl⟩ := run_append_own_at (P := Tryz.prog) w base 40 ty 55 i0 (.agg #[.int .i64 0, .int .i64 0, .int .i64 0]) 3 24 Tryz.underlying40 hi hz0 hz1 hz2 rfl (by decide) v S.length (S.flatMap cel) hown ad 0 c [] rfl (fun j u hu => by simp at hu) (by simp)
      (by unfold maxLen; omega) (by omega) hb
    refine ⟨v', w', hr, ?_, hg, hl⟩
    simpa using ho
  · obtain ⟨v', w', hr, ho, hg, hn0, hl⟩ := run_append_own_at (P := Tryz.prog) w base 40 ty 55 i0 (.agg #[.int .i64 0, .int .i64 0, .int .i64 0]) 3 24 Tryz.underlying40 hi hz0 hz1 hz2 rfl (by decide) v S.length (S.flatMap cel) hown ⟨b, o, none⟩ M.length c (M.flatMap cel) (cel_len M)
      (fun j u hu => by rw [show (⟨b, o, none⟩ : Addr).add j = ⟨b, o + j, none⟩ by simp only [Addr.add]; split <;> simp_all]; exact h3 j u hu) (cel_one M) (by unfold maxLen; omega) (by omega) hb
    refine ⟨v', w', hr, ?_, hg, hl⟩
    rw [List.length_append, List.flatMap_append]; exact ho
theorem wpList_appS {w : World} {ops : Array Oper} {rest : List Oper} {o : Oper} {a : Act} {Q : Exit → Act → World → Prop} (hgd : o.guard = none) (s x : Operand)
    (ho : o.op = .call { callee := .builtin .append, args := #[s, x], argTypes := #[40, 40] })
    {base : Nat} (v xv : Value) {S M : List Fi} (N : Nat) (hN : N = S.length + M.length) (hs : a.eval s = v) (hxe : a.eval x = xv) (hown : w.ownsRow base 55 3 v S.length (S.flatMap cel)) (hx : Sx w xv M)
    (hb : base ≤ w.heap.size) (hn : N ≤ 1000000)
    (h : ∀ A C w', w'.ownsRow base 55 3 (.slice A N C) (S ++ M).length ((S ++ M).flatMap cel) → w.grownBy w' (blk v) → (blk (.slice A N C) = blk v ∨ blk (.slice A N C) = some w.heap.size) → wpList Tryz.prog ops Q rest (a.put o.dst (.slice A N C)) w') :
    wpList Tryz.prog ops Q (o :: rest) a w := by
  refine wpList_plain hgd fun K hK => ?_
  obtain ⟨v', w', hr, h2, h3, h4⟩ := app_seats o.type hown hx hb (by omega)
  unfold Oper.wp execOp
  simp only [ho, resolve, invoke, builtin, Sem.run_bind, Sem.run_pure, Result.andThen_ok, List.map_toArray, List.map_cons, List.map_nil, hs, hxe, hr]
  obtain ⟨A, C, rfl⟩ := ifm h2
  have e : (S ++ M).length = N := by rw [List.length_append, hN]
  have h2' := h2
  rw [e] at h4
  have h2'' : w'.ownsRow base 55 3 (.slice A N C) (S ++ M).length ((S ++ M).flatMap cel) := by rw [← e]; exact h2
  rw [e]
  exact hK _ _ (h A C w' h2'' h3 h4)

/- The document's book in memory. -/
structure Rk (w : World) (base r : Nat) (now : Int) (v : Value) (S : List Fi) : Prop where
  cell : w.heap[r]? = some (.cells #[.int .i64 now, v] 42 (0, 0))
  row : w.ownsRow base 55 3 v S.length (S.flatMap cel)
  low : base ≤ r
def Wr (r : Nat) (v : Value) (g : Nat) : Prop := g = r ∨ blk v = some g
theorem Rk.lt {w : World} {base r : Nat} {now : Int} {v : Value} {S : List Fi} (h : Rk w base r now v S) : ∀ g, Wr r v g → base ≤ g ∧ g < w.heap.size := by
  intro g hg
  rcases hg with rfl | hg
  · exact ⟨h.low, heap_lt h.cell⟩
  · obtain ⟨cur, hc, hb⟩ := iblk h.row hg
    exact ⟨hb, heap_lt hc⟩
theorem Rk.keep {T : Nat → Prop} {w w' : World} {base r : Nat} {now : Int} {v : Value} {S : List Fi} (h : Rk w base r now v S) (hc : Chg T w w') (hn : ∀ g, Wr r v g → ¬ T g) : Rk w' base r now v S :=
  ⟨by rw [hc.block r (heap_lt h.cell) (hn r (.inl rfl))]; exact h.cell, owns_keep h.row hc (fun k hk => hn k (.inr hk)), h.low⟩
theorem Rk.below {w w' : World} {base r : Nat} {now : Int} {v : Value} {S : List Fi} (h : Rk w base r now v S) (hb : Below w.heap.size w w') : Rk w' base r now v S := h.keep (Chg.of_below hb) (fun _ _ => id)
theorem Rk.alloc {w : World} {base r : Nat} {now : Int} {v : Value} {S : List Fi} (h : Rk w base r now v S) (o : Obj) : Rk (w.alloc o) base r now v S := h.keep (Chg.alloc Non w o) (fun _ _ => id)
theorem Rk.head {w : World} {base r : Nat} {now : Int} {v : Value} {S : List Fi} (h : Rk w base r now v S) : w.cell? ⟨r, 0, none⟩ = some (.int .i64 now) ∧ w.cell? ⟨r, 1, none⟩ = some v := by
  have h0 := cell_at h.cell 0
  have h1 := cell_at h.cell 1
  exact ⟨by simpa using h0, by simpa using h1⟩
theorem Rk.ne {w : World} {base r : Nat} {now : Int} {v : Value} {S : List Fi} (h : Rk w base r now v S) {g : Nat} (hg : blk v = some g) : g ≠ r := by
  intro e; subst e
  obtain ⟨cur, hc, _⟩ := iblk h.row hg
  rw [h.cell] at hc; cases hc
theorem Rk.at {w : World} {base r : Nat} {now : Int} {A : Option Addr} {N C : Nat} {S : List Fi} (h : Rk w base r now (.slice A N C) S) (hN : N = S.length) (j : Nat) (hj : j < S.length) : ∃ g, A = some ⟨g, 0, none⟩ ∧ w.cell? ⟨g, j * 3, none⟩ = some (.int .i64 (S[j]'hj).nm) ∧ w.cell? ⟨g, j * 3 + 1, none⟩ = some (.int .i64 (S[j]'hj).tmo) ∧ w.cell? ⟨g, j * 3 + 2, none⟩ = some (.int .i64 (S[j]'hj).en) := by
  subst hN
  have hr := h.row
  rcases hr.2 with ⟨hv, h0⟩ | ⟨g, cap, cur, hv, _⟩
  · omega
  · injection hv with e1 _ e3
    subst e1 e3
    obtain ⟨_, _, _, _, _, hcl⟩ := row_cells hr
    obtain ⟨a0, a1, a2⟩ := cel_at S j hj
    exact ⟨g, rfl, hcl _ _ a0, hcl _ _ a1, hcl _ _ a2⟩
theorem Rk.form {w : World} {base r : Nat} {now : Int} {v : Value} {S : List Fi} (h : Rk w base r now v S) : ∃ A C, v = .slice A S.length C := ifm h.row
/- What a call leaves. -/
def Rn (base r : Nat) (v : Value) (w w' : World) (now : Int) (S : List Fi) : Prop := ∃ v', Rk w' base r now v' S ∧ Chg (Wr r v) w w' ∧ ∀ g, blk v' = some g → blk v = some g ∨ w.heap.size ≤ g
theorem Rn.refl {w : World} {base r : Nat} {now : Int} {v : Value} {S : List Fi} (h : Rk w base r now v S) : Rn base r v w w now S := ⟨v, h, Chg.refl _ _, fun g hg => .inl hg⟩

set_option maxRecDepth 100000 in
theorem rnew_any (n : Int) (w : World) : Calls Tryz.prog 5 #[.int .i64 n] w fun e w' => ∃ r, e = .returned (.pointer (some ⟨r, 0, none⟩)) ∧ Rk w' w.heap.size r (clamp n) (.slice none 0 0) [] ∧ w.heap.size ≤ r ∧ Below w.heap.size w w' := by
  go_enter Tryz.func5, Tryz.ntmps5
  go_wp2_with fail
  go_ret
  refine ⟨w.heap.size, rfl, ⟨?_, World.ownsRow_nil _ _ _ _, Nat.le_refl _⟩, Nat.le_refl _, (Below.refl _ _).alloc (Nat.le_refl _) _⟩
  rw [show clamp n = min (max n 0) 1152921504606846976 from rfl]
  exact heap_alloc_new w _
set_option maxRecDepth 100000 in
theorem rend_any {w : World} {r : Nat} {now : Int} (h : w.cell? ⟨r, 0, none⟩ = some (.int .i64 now)) (t : Int) (hn : 0 ≤ now ∧ now ≤ late) (ht : 1 ≤ t ∧ t ≤ 1000) :
    Calls Tryz.prog 27 #[.pointer (some ⟨r, 0, none⟩), .int .i64 t] w fun e w' => e = .returned (.int .i64 (rup (now + t))) ∧ w' = w := by
  unfold late at hn
  have hb1 : now + t < 9223372036854775808 := by omega
  have hb2 : -9223372036854775808 ≤ now + t := by omega
  obtain ⟨R, hR⟩ : ∃ R, rup (now + t) = R := ⟨_, rfl⟩
  rw [hR]
  have HR : Hid (R = rup (now + t)) := hR.symm
  clear hR
  go_enter Tryz.func27, Tryz.ntmps27
  go_wp2_with fail
  go_loopw [5] (fun v wr => ∃ x : Int, v = .int .i64 x ∧ now + t ≤ x ∧ x ≤ R ∧ wr = w) (fun v _ => (R - Go.Lib.intOf v).toNat)
  case atStart => exact ⟨_, rfl, by omega, by rw [HR.out]; unfold rup; omega, rfl⟩
  case round =>
    obtain ⟨x, rfl, hx1, hx2, rfl⟩ := hrel
    have hR2 := HR.out
    unfold rup at hR2
    have hxb : 0 ≤ x ∧ x < 1152921504606849000 := by omega
    by_cases hm : x % 4 = 0
    · have hm2 : x.tmod 4 = 0 := by rw [Int.tmod_eq_emod]; rw [if_pos (.inl hxb.1)]; omega
      have hx3 : x = R := by omega
      clear hR2
      go_wp2_with fail
      go_ret
      exact ⟨by rw [← hx3]; rfl, rfl⟩
    · have hm2 : ¬ x.tmod 4 = 0 := by rw [Int.tmod_eq_emod]; rw [if_pos (.inl hxb.1)]; omega
      have hx4 : x + 1 ≤ R := by omega
      clear hR2
      go_wp2_with fail
      go_roundw
      case rel => exact ⟨x + 1, by go_num, by omega, hx4, trivial⟩
      case measure => simp [Go.Lib.intOf]; omega
end Go.Proofs.YtbehainbggdpeaaGreat
