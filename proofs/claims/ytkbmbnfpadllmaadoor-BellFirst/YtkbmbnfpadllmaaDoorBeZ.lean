/- BellFirst: the walk. -/
import Derived.Test.YtkbmbnfpadllmaaDoorBeY
import Derived.Test.YtkbmbnfpadllmaaDoorBeTi
import Derived.Test.YtkbmbnfpadllmaaDoorBeK
namespace Go.Proofs.YtkbmbnfpadllmaaDoor.We
set_option linter.unusedSimpArgs false
set_option linter.unusedVariables false
open Go.RowKit Go.MapKept
set_option linter.unusedVariables false
set_option linter.unusedSimpArgs false

set_option maxRecDepth 100000 in
theorem pick_any (x n : Int) (hn : n < 9223372036854775808) (h1 : 1 ≤ n) (w : World) : Calls Tryd.prog 7 #[.int .i64 x, .int .i64 n] w fun e w' => e = .returned (.int .i64 (x % n)) ∧ w' = w := by
  have hm : Int.tmod x n = if Int.tmod x n < 0 then x % n - n else x % n := by
    rw [Int.tmod_eq_emod]
    have := Int.emod_nonneg x (show n ≠ 0 by omega)
    have := Int.emod_lt_of_pos x (show 0 < n by omega)
    by_cases hx0 : 0 ≤ x ∨ n ∣ x
    · simp only [hx0, if_true]
      split <;> omega
    · simp only [hx0, if_false]
      have : (n.natAbs : Int) = n := by omega
      split <;> omega
  have hlo := Int.emod_nonneg x (show n ≠ 0 by omega)
  have hhi := Int.emod_lt_of_pos x (show 0 < n by omega)
  go_enter Tryd.func7, Tryd.ntmps7
  by_cases h : Int.tmod x n < 0
  · rw [if_pos h] at hm
    go_wp2
    go_ret
    exact ⟨by simp, rfl⟩
  · rw [if_neg h] at hm
    go_wp2
    go_ret
    exact ⟨by simp, rfl⟩

theorem step_load_mid {P : Program} {ops : Array Oper} {o : Oper} {a : Act} {w : World} {K : Act → World → Prop} {Q : Exit → Act → World → Prop} {E : Prop} (hgd : o.guard = none) (ty : TypeId) (x : Operand) (ho : o.op = .load ty x)
    (b p : Nat) (hx : a.eval x = .pointer (some ⟨b, p, none⟩)) (cs : List Value) (d : TypeDesc) (hc : w.rangeAt b p cs)
    (hu : P.underlying ty = some d) (hd : d.isRow = true) (hi : (P.info? ty).map (·.size) = some cs.length)
    (h : K (a.put o.dst (.agg cs.toArray)) w) : if Region.wanted o (yielded ops a.tmps) = true then Oper.wp P o a w K Q else E := by
  have hw : Region.wanted o (yielded ops a.tmps) = true := by simp [Region.wanted, hgd]
  rw [if_pos hw]
  exact wp_load_mid ty x ho b p hx cs d hc hu hd hi h
theorem range16 {w : World} {b o : Nat} {v0 v1 v2 v3 v4 v5 v6 v7 v8 v9 v10 v11 v12 v13 v14 v15 : Value} (h : w.cell? ⟨b, o, none⟩ = some v0 ∧ w.cell? ⟨b, o + 1, none⟩ = some v1 ∧ w.cell? ⟨b, o + 2, none⟩ = some v2 ∧ w.cell? ⟨b, o + 3, none⟩ = some v3 ∧ w.cell? ⟨b, o + 4, none⟩ = some v4 ∧ w.cell? ⟨b, o + 5, none⟩ = some v5 ∧ w.cell? ⟨b, o + 6, none⟩ = some v6 ∧ w.cell? ⟨b, o + 7, none⟩ = some v7 ∧ w.cell? ⟨b, o + 8, none⟩ = some v8 ∧ w.cell? ⟨b, o + 9, none⟩ = some v9 ∧ w.cell? ⟨b, o + 10, none⟩ = some v10 ∧ w.cell? ⟨b, o + 11, none⟩ = some v11 ∧ w.cell? ⟨b, o + 12, none⟩ = some v12 ∧ w.cell? ⟨b, o + 13, none⟩ = some v13 ∧ w.cell? ⟨b, o + 14, none⟩ = some v14 ∧ w.cell? ⟨b, o + 15, none⟩ = some v15) : w.rangeAt b o [v0, v1, v2, v3, v4, v5, v6, v7, v8, v9, v10, v11, v12, v13, v14, v15] := by
  obtain ⟨h0, h1, h2, h3, h4, h5, h6, h7, h8, h9, h10, h11, h12, h13, h14, h15⟩ := h
  intro j v hv
  match j, hv with
  | 0, hv => cases hv; exact h0
  | 1, hv => cases hv; exact h1
  | 2, hv => cases hv; exact h2
  | 3, hv => cases hv; exact h3
  | 4, hv => cases hv; exact h4
  | 5, hv => cases hv; exact h5
  | 6, hv => cases hv; exact h6
  | 7, hv => cases hv; exact h7
  | 8, hv => cases hv; exact h8
  | 9, hv => cases hv; exact h9
  | 10, hv => cases hv; exact h10
  | 11, hv => cases hv; exact h11
  | 12, hv => cases hv; exact h12
  | 13, hv => cases hv; exact h13
  | 14, hv => cases hv; exact h14
  | 15, hv => cases hv; exact h15
  | j + 16, hv => simp at hv
theorem sz_put (a : Act) (d : Nat) (v : Value) : (a.put (some d) v).tmps.size = a.tmps.size := by simp [Act.put]
theorem ev_same (a : Act) (d : Nat) (v : Value) (h : d < a.tmps.size) : (a.put (some d) v).eval (.tmp d) = v := by
  simp [Act.put, Act.eval, Array.getD, h]
theorem ev_ne (a : Act) (d j : Nat) (v : Value) (h : d ≠ j) : (a.put (some d) v).eval (.tmp j) = a.eval (.tmp j) := by
  simp only [Act.put, Act.eval, Array.getD_eq_getD_getElem?]
  rw [Array.getElem?_setIfInBounds_ne h]
theorem wp_abs {P : Program} {c : Code} {Q : Exit → Act → World → Prop} {w : World} (a0 : Act) (R : Act → Prop) (CH : Act → Value → Value → Act) (REL : Value → Value → World → Prop) (hR : R a0)
    (hp : ∀ c a (d : Nat) v w, Q (.panic c) (Act.put a (some d) v) w → Q (.panic c) a w) (hQ : ∀ va vb wx, REL va vb wx → Q .normal (CH a0 va vb) wx)
    (H : ∀ (a : Act) (Q' : Exit → Act → World → Prop), R a → (∀ c a (d : Nat) v w, Q' (.panic c) (Act.put a (some d) v) w → Q' (.panic c) a w) → (∀ va vb wx, REL va vb wx → Q' .normal (CH a va vb) wx) → Code.wp P c Q' a w) : Code.wp P c Q a0 w := H a0 Q hR hp hQ
theorem y_move {P : Program} {ops : Array Oper} {S : World → Prop} {o : Oper} {a : Act} {v : Value} (hg : o.guard = none) (x : Operand) (ho : o.op = .move x) (hx : a.eval x = v) : YieldsIf P ops S o v a :=
  .inl ⟨by simp [Region.wanted, hg], fun w _ => by unfold execOp; simp only [ho, hx]; rfl⟩
theorem y_assign {P : Program} {ops : Array Oper} {S : World → Prop} {o : Oper} {a : Act} {v : Value} (hg : o.guard = none) (x : Operand) (ho : o.op = .assign x) (hx : a.eval x = v) : YieldsIf P ops S o v a :=
  .inl ⟨by simp [Region.wanted, hg], fun w _ => by unfold execOp; simp only [ho, hx]; rfl⟩
theorem y_index {P : Program} {ops : Array Oper} {S : World → Prop} {o : Oper} {a : Act} {u v z : Value} (hg : o.guard = none) (ty : TypeId) (x y : Operand) (ho : o.op = .indexAddr ty x y) (hx : a.eval x = u) (hy : a.eval y = z)
    (h : ∀ w, S w → (Instr.indexAt ty u z).run P w = .ok v w) : YieldsIf P ops S o v a :=
  .inl ⟨by simp [Region.wanted, hg], fun w hw => by unfold execOp; simp only [ho, hx, hy]; simp [h w hw, Result.andThen]⟩
theorem at_call2 {P : Program} {ops : Array Oper} {o : Oper} {a : Act} {w : World} {K : Act → World → Prop} {Q : Exit → Act → World → Prop} {E : Prop} {v1 v2 : Value} (hg : o.guard = none) (f : FuncId) (x y : Operand)
    (hrun : ∀ (a : Act) w, (execOp a.eval o).run P w = .ok (.enter f #[a.eval x, a.eval y]) w) (hx : a.eval x = v1) (hy : a.eval y = v2) (hc : Calls P f #[v1, v2] w fun e w' => ∃ v, e = .returned v ∧ K (a.put o.dst v) w') :
    if Region.wanted o (yielded ops a.tmps) = true then Oper.wp P o a w K Q else E := by
  have hw : Region.wanted o (yielded ops a.tmps) = true := by simp [Region.wanted, hg]
  rw [if_pos hw]
  unfold Oper.wp
  rw [hrun, Oper.upon_enter, hx, hy]
  refine hc.mono fun e w' hh => ?_
  obtain ⟨v, rfl, h⟩ := hh
  exact h
theorem own_step {w10 wr w9 : World} {u v9 : Value} {L : List Rg} {x : Rg} {ob : Obj} {r : Option Nat} (ho : wr.ownsRow w10.heap.size 56 5 u L.length (L.flatMap rgC)) (hB : Below w10.heap.size w10 wr)
    (ho9 : w9.ownsRow w10.heap.size 56 5 v9 (L.length + 1) (L.flatMap rgC ++ [.int .i64 x.cn, .int .u8 x.kd, .int .u8 x.so, .string (mkS x.p), .int .i64 x.z])) (hg : (wr.alloc ob).grownBy w9 r) (hr : r = u.ownBlock) :
    w9.ownsRow w10.heap.size 56 5 v9 (L ++ [x]).length ((L ++ [x]).flatMap rgC) ∧ Below w10.heap.size w10 w9 := by
  subst hr
  refine ⟨?_, hB.trans (((Chg.alloc (fun k => u.ownBlock = some k) wr ob).trans (Chg.of_grown hg)).below (fun k hk => (ownBlk ho hk).choose_spec.2) hB.size)⟩
  rw [List.length_append, List.flatMap_append]
  simpa [rgC] using ho9
set_option maxRecDepth 100000 in
set_option maxHeartbeats 60000000 in
theorem first_any (els : List DD.El2) (A : Option Addr) (C : Nat) (so0 : Int) (p : List UInt8) (ds : List DD.Dst) (B : Option Addr) (D : Nat) (w : World) (hK : PA.Laid w) (hR : DD.Rowed w A els C) (hP : ∀ e ∈ els, DD.DV w e ∧ DedFit e.p.1 e.p.2) (hD : DD.RowDo w B ds) :
    Calls Tryd.prog 4 #[.slice A els.length C, .int .i64 so0, .string (mkS p), .slice B ds.length D] w fun e w' => e = .returned (.bool true) ∧ Below w.heap.size w w' := by
  have haw := awake_any w hK
  have HK : Hid (PA.Laid w ∧ DD.Rowed w A els C ∧ (∀ e ∈ els, DD.DV w e ∧ DedFit e.p.1 e.p.2) ∧ DD.RowDo w B ds) := ⟨hK, hR, hP, hD⟩
  clear hK hR hP hD
  go_enter Tryd.func4, Tryd.ntmps4
  go_wp2_with fail
  refine haw.mono ?_
  rintro e w1 ⟨rfl, hB1⟩
  have HB1 : Hid (Below w.heap.size w w1) := hB1
  clear haw hB1
  by_cases hn1 : (els.length : Int) > 80
  · go_wp2_with fail
    go_ret
    exact ⟨rfl, HB1.out⟩
  by_cases hn2 : (ds.length : Int) > 80
  · go_wp2_with fail
    go_ret
    exact ⟨rfl, HB1.out⟩
  obtain ⟨r, hr⟩ : ∃ r, r = so0 % 3 := ⟨_, rfl⟩
  have hr0 : 0 ≤ r := by omega
  have hr3 : r < 3 := by omega
  have hpk := pick_any so0 3 (by omega) (by omega)
  rw [← hr] at hpk
  have hL1 := HK.out.1.below HB1.out
  have hnw := Tw.new w1 hL1
  clear hr hL1
  go_wp2_with fail
  refine (hpk _).mono ?_
  rintro e w2 ⟨rfl, rfl⟩
  clear hpk
  go_wp2_with fail
  refine hnw.mono ?_
  rintro e w3 ⟨ta, ma, rfl, h3⟩
  have hn2' := Tt.new h3
  clear hnw h3
  go_wp2_with fail
  refine hn2'.mono ?_
  rintro e w4 ⟨tb, mb, rfl, h4⟩
  obtain ⟨s, hs⟩ : ∃ s, s = 1 + r := ⟨_, rfl⟩
  have ha := h4.addA (-1) (1 + r) p
  clear hn2' h4
  go_wp2_with fail
  refine ha.mono ?_
  rintro e w5 ⟨rfl, h5⟩
  have hb := h5.addB (-1) (1 + r) p
  clear ha h5
  go_wp2_with fail
  refine hb.mono ?_
  rintro e w6 ⟨rfl, h6⟩
  rw [← hs] at h6
  have HS : Hid (s = 1 + r) := hs
  obtain ⟨La, hLa⟩ : ∃ La, La = addR (-1) s p [] := ⟨_, rfl⟩
  have H6 : Hid (Tt w2 w6 ta ma La tb mb La ∧ La.filter isOwn = La ∧ La.length ≤ 1 ∧ La.length = if mayB s p then 1 else 0) := by
    rw [← hLa] at h6
    refine ⟨h6, by rw [hLa]; exact first_own s p, ?_, by rw [hLa]; exact first_len s p⟩
    have := add_len (-1) s p []
    rw [← hLa] at this
    simpa using this
  have HD2 : Hid (DD.RowDo w2 B ds) := HK.out.2.2.2.grow HB1.out
  clear hb h6 hLa hs
  go_wp2_with fail
  go_loopw [12] (fun i wr => ∃ (k : Nat) (Lb : List Wa), k ≤ ds.length ∧ i = .int .i64 k ∧ Tt w2 wr ta ma La tb mb Lb ∧ Lb.filter isOwn = La ∧ Lb.length ≤ 1 + k) (fun i _ => ds.length - (Go.Lib.intOf i).toNat)
  case atStart => exact ⟨0, La, Nat.zero_le _, rfl, H6.out.1, H6.out.2.1, by have := H6.out.2.2.1; omega⟩
  case round =>
    obtain ⟨k, Lb, hk, rfl, ht, hf, hl⟩ := hrel
    by_cases hlt : k < ds.length
    · obtain ⟨b, o, rfl, hb, hall⟩ : ∃ b o, B = some ⟨b, o, none⟩ ∧ b < w2.heap.size ∧ ∀ (i : Nat) (h : i < ds.length) (j : Nat), j < 34 → w2.cell? ⟨b, o + i * 34 + j, none⟩ = (ds[i]'h).cells.toList[j]? := by
        rcases HD2.out with h | h
        · rw [h] at hlt; simp at hlt
        · exact h
      obtain ⟨d, hd⟩ : ∃ d, d = ds[k]'hlt := ⟨_, rfl⟩
      have x1 := hall k hlt 1 (by omega)
      have x2 := hall k hlt 2 (by omega)
      have x3 := hall k hlt 3 (by omega)
      rw [← hd] at x1 x2 x3
      have e1 : w2.cell? ⟨b, o + k * 34 + 1, none⟩ = some (.int .i64 d.cn) := x1
      have e2 : w2.cell? ⟨b, o + k * 34 + 2, none⟩ = some (.int .u8 d.so) := x2
      have e3 : w2.cell? ⟨b, o + k * 34 + 3, none⟩ = some (.string (mkS d.p)) := x3
      have up : ∀ {w' : World}, Below w2.heap.size w2 w' → w'.cell? ⟨b, o + k * 34 + 1, none⟩ = some (.int .i64 d.cn) ∧ w'.cell? ⟨b, o + k * 34 + 2, none⟩ = some (.int .u8 d.so) ∧ w'.cell? ⟨b, o + k * 34 + 3, none⟩ = some (.string (mkS d.p)) := fun hB => ⟨(hB.cell (p := ⟨b, _, none⟩) hb).trans e1, (hB.cell (p := ⟨b, _, none⟩) hb).trans e2, (hB.cell (p := ⟨b, _, none⟩) hb).trans e3⟩
      have HUP : Hid _ := up ht.a.2.2.1.drew
      have HUQ : Hid (∀ {w' : World}, Below w2.heap.size w2 w' → w'.cell? ⟨b, o + k * 34 + 1, none⟩ = some (.int .i64 d.cn) ∧ w'.cell? ⟨b, o + k * 34 + 2, none⟩ = some (.int .u8 d.so) ∧ w'.cell? ⟨b, o + k * 34 + 3, none⟩ = some (.string (mkS d.p))) := up
      have hmx := fun (W : World) ts t => run_max W ts t d.cn 0
      obtain ⟨M, hM⟩ : ∃ M, M = mx d.cn 0 := ⟨_, rfl⟩
      rw [← hM] at hmx
      have hM0 : 0 ≤ M := by rw [hM]; unfold mx; split <;> omega
      have had := (ht.below ((Below.refl _ _).drew)).addB M s d.p
      have HA : Hid ((addR M s d.p Lb).filter isOwn = La ∧ (addR M s d.p Lb).length ≤ 1 + (k + 1)) := ⟨by rw [add_own hM0]; exact hf, by have := add_len M s d.p Lb; omega⟩
      have had := (ht.below ((Below.refl _ _).drew)).addB M d.so d.p
      have HA : Hid ((addR M d.so d.p Lb).filter isOwn = La ∧ (addR M d.so d.p Lb).length ≤ 1 + (k + 1)) := ⟨by rw [add_own hM0]; exact hf, by have := add_len M d.so d.p Lb; omega⟩
      have i1 : (k : Int) < ds.length := by omega
      have i2 : (0 : Int) ≤ k := by omega
      clear x1 x2 x3 e1 e2 e3 up hM ht hf hall hd
      go_upto_region 12 with fail
      go_region_held3 (fun w' => w'.cell? ⟨b, o + k * 34 + 1, none⟩ = some (.int .i64 d.cn) ∧ w'.cell? ⟨b, o + k * 34 + 2, none⟩ = some (.int .u8 d.so) ∧ w'.cell? ⟨b, o + k * 34 + 3, none⟩ = some (.string (mkS d.p)))
        (first | exact HUP.out | exact HUQ.out (by assumption) | go_keep)
        ((go_at_call 9; refine had.mono ?_; rintro e w9 ⟨rfl, h9⟩; have hb9 := h9.a.2.2.1))
      have H9 : Hid (Tt w2 w9 ta ma La tb mb (addR M d.so d.p Lb)) := h9
      clear had h9 hb9
      go_wp2_with fail
      go_roundw
      case rel => exact ⟨k + 1, addR M d.so d.p Lb, by omega, by go_num, H9.out, HA.out.1, by have := HA.out.2; omega⟩
      case measure => simp [Go.Lib.intOf]; omega
    · have i1 : ¬ (k : Int) < ds.length := by omega
      obtain rfl : k = ds.length := by omega
      have HT : Hid (Tt w2 wr ta ma La tb mb Lb ∧ Lb.filter isOwn = La ∧ Lb.length ≤ 100) := ⟨ht, hf, by omega⟩
      have HR2 : Hid (DD.Rowed w2 A els C) := HK.out.2.1.grow HB1.out
      clear ht hf hl
      go_wp2_with fail
      go_loopw [13, 14] (fun g i wx => ∃ (j rg : Nat) (Ka Kb : List Wa), j ≤ els.length ∧ g = .int .i64 rg ∧ i = .int .i64 j ∧ Tt w2 wx ta ma Ka tb mb Kb ∧ Kb.filter isOwn = Ka ∧ Kb.length ≤ 100 ∧ rg + Ka.length = La.length) (fun _ i _ => els.length - (Go.Lib.intOf i).toNat)
      case atStart => exact ⟨0, 0, La, Lb, Nat.zero_le _, rfl, rfl, HT.out.1, HT.out.2.1, HT.out.2.2, by omega⟩
      case round =>
        obtain ⟨j, rg, Ka, Kb, hj, rfl, rfl, ht, hf, hl, hrg⟩ := hrel
        by_cases hlt : j < els.length
        · obtain ⟨b, o, rfl, hb, -, hcells⟩ := HR2.out.deed j hlt
          obtain ⟨e, he⟩ : ∃ e, e = els[j]'hlt := ⟨_, rfl⟩
          have hDV := HK.out.2.2.1 _ (List.getElem_mem hlt)
          rw [← he] at hcells hDV
          obtain ⟨f, hf1⟩ : ∃ f, f = e.p.1 := ⟨_, rfl⟩
          obtain ⟨ps, hp1⟩ : ∃ ps, ps = e.p.2 := ⟨_, rfl⟩
          rw [← hf1] at hcells
          have up : ∀ {w' : World}, Below w2.heap.size w2 w' → w'.cell? ⟨b, o + j * 16, none⟩ = some (.int .i64 f.zxid) ∧ w'.cell? ⟨b, o + j * 16 + 1, none⟩ = some (.int .u8 f.kind) ∧ w'.cell? ⟨b, o + j * 16 + 2, none⟩ = some (.int .i64 f.session) ∧ w'.cell? ⟨b, o + j * 16 + 3, none⟩ = some (.int .i64 f.turn) ∧ w'.cell? ⟨b, o + j * 16 + 4, none⟩ = some (.int .i64 f.xid) ∧ w'.cell? ⟨b, o + j * 16 + 5, none⟩ = some (.int .i64 f.time) ∧ w'.cell? ⟨b, o + j * 16 + 6, none⟩ = some (.string (mkS f.path)) ∧ w'.cell? ⟨b, o + j * 16 + 7, none⟩ = some (.slice e.A1 f.data.length e.c1) ∧ w'.cell? ⟨b, o + j * 16 + 8, none⟩ = some (.int .i64 f.owner) ∧ w'.cell? ⟨b, o + j * 16 + 9, none⟩ = some (.int .i64 f.version) ∧ w'.cell? ⟨b, o + j * 16 + 10, none⟩ = some (.int .i64 f.cversion) ∧ w'.cell? ⟨b, o + j * 16 + 11, none⟩ = some (.int .i64 f.timeout) ∧ w'.cell? ⟨b, o + j * 16 + 12, none⟩ = some (.int .i64 f.err) ∧ w'.cell? ⟨b, o + j * 16 + 13, none⟩ = some (.int .i64 f.cver) ∧ w'.cell? ⟨b, o + j * 16 + 14, none⟩ = some (.slice e.A2 f.mems.length e.c2) ∧ w'.cell? ⟨b, o + j * 16 + 15, none⟩ = some (.slice e.A3 f.np e.c3) := fun hB => hcells.keep fun o' => hB.cell (p := ⟨b, o', none⟩) hb
          have HUQ : Hid (∀ {w' : World}, Below w2.heap.size w2 w' → w'.cell? ⟨b, o + j * 16, none⟩ = some (.int .i64 f.zxid) ∧ w'.cell? ⟨b, o + j * 16 + 1, none⟩ = some (.int .u8 f.kind) ∧ w'.cell? ⟨b, o + j * 16 + 2, none⟩ = some (.int .i64 f.session) ∧ w'.cell? ⟨b, o + j * 16 + 3, none⟩ = some (.int .i64 f.turn) ∧ w'.cell? ⟨b, o + j * 16 + 4, none⟩ = some (.int .i64 f.xid) ∧ w'.cell? ⟨b, o + j * 16 + 5, none⟩ = some (.int .i64 f.time) ∧ w'.cell? ⟨b, o + j * 16 + 6, none⟩ = some (.string (mkS f.path)) ∧ w'.cell? ⟨b, o + j * 16 + 7, none⟩ = some (.slice e.A1 f.data.length e.c1) ∧ w'.cell? ⟨b, o + j * 16 + 8, none⟩ = some (.int .i64 f.owner) ∧ w'.cell? ⟨b, o + j * 16 + 9, none⟩ = some (.int .i64 f.version) ∧ w'.cell? ⟨b, o + j * 16 + 10, none⟩ = some (.int .i64 f.cversion) ∧ w'.cell? ⟨b, o + j * 16 + 11, none⟩ = some (.int .i64 f.timeout) ∧ w'.cell? ⟨b, o + j * 16 + 12, none⟩ = some (.int .i64 f.err) ∧ w'.cell? ⟨b, o + j * 16 + 13, none⟩ = some (.int .i64 f.cver) ∧ w'.cell? ⟨b, o + j * 16 + 14, none⟩ = some (.slice e.A2 f.mems.length e.c2) ∧ w'.cell? ⟨b, o + j * 16 + 15, none⟩ = some (.slice e.A3 f.np e.c3)) := up
          obtain ⟨x0, x1, x2, x3, x4, x5, x6, x7, x8, x9, x10, x11, x12, x13, x14, x15⟩ := up ht.a.2.2.1
          have HDV : Hid (∀ {w' : World}, Below w2.heap.size w2 w' → DD.DVal w' f ps e.A1 e.c1 e.A2 e.c2 e.A3 e.c3) := fun {w'} hB => by
            rw [hf1, hp1]
            exact (hDV.1.grow HB1.out).grow hB
          have HFI : Hid (DedFit f ps) := by show DedFit f ps; rw [hf1, hp1]; exact hDV.2
          have HJ : Hid (Tt w2 wr ta ma Ka tb mb Kb ∧ Kb.filter isOwn = Ka ∧ Kb.length ≤ 100 ∧ rg + Ka.length = La.length) := ⟨ht, hf, hl, hrg⟩
          have i2 : (j : Int) < els.length := by omega
          have i3 : (0 : Int) ≤ j := by omega
          clear ht hf hl hrg hcells hDV he hf1 hp1 up hb
          by_cases hnp : (f.np : Int) > 80
          · go_wp2_with fail
            go_ret
            exact ⟨rfl, HB1.out.trans (HJ.out.1.a.2.2.1.mono HB1.out.size)⟩
          by_cases hdl : (f.data.length : Int) > 10000
          · go_wp2_with fail
            go_ret
            exact ⟨rfl, HB1.out.trans (HJ.out.1.a.2.2.1.mono HB1.out.size)⟩
          have hKa : Ka.length ≤ 1000000 := by have := HJ.out.2.2.2; have := H6.out.2.2.1; omega
          have hps : ps.length ≤ 1000000 := by have := HFI.out.len; omega
          have c1 := (HJ.out.1.below ((Below.refl _ _).drew)).ringA f ps (HDV.out HJ.out.1.a.2.2.1.drew) HFI.out hKa hps
          obtain ⟨DD', hDD⟩ : ∃ x, x = dV f e.A1 e.A2 e.A3 e.c1 e.c2 e.c3 := ⟨_, rfl⟩
          rw [← hDD] at c1
          have HDD : Hid (DD' = dV f e.A1 e.A2 e.A3 e.c1 e.c2 e.c3) := hDD
          clear hDD
          clear x0 x1 x2 x3 x4 x5 x6 x8 x9 x10 x11 x12 x13 x14
          go_upto_region 19 with fail
          clear x7 x15
          go_cut [15, 16] from 90 to 101 (fun va vb wx => Tt w2 wx ta ma (restF f ps Ka) tb mb (restF f ps Kb) ∧ RowIs wx va (tellF f ps Ka) ∧ RowIs wx vb (tellF f ps Kb))
          case first =>
            rename_i JQ KQ hJQ hKQ
            have hrg : ∀ {w' : World}, Below w2.heap.size w2 w' → w'.rangeAt b (o + j * 16) DD'.toList := fun hB => by
              rw [HDD.out]
              exact range16 (HUQ.out hB)
            refine wp_abs _ (fun a => a.tmps.size = 154 ∧ a.eval (.tmp 10) = .pointer (some ⟨ta, 0, none⟩) ∧ a.eval (.tmp 11) = .pointer (some ⟨tb, 0, none⟩) ∧ a.eval (.tmp 0) = .slice (some ⟨b, o, none⟩) els.length C ∧ a.eval (.tmp 14) = .int .i64 j) (fun a va vb => (((((((((((((a.put (some 90) (.pointer (some ⟨ta, 0, none⟩))).put (some 91) (.slice (some ⟨b, o, none⟩) els.length C)).put (some 92) (.int .i64 j)).put (some 93) (.pointer (some ⟨b, o + j * 16, none⟩))).put (some 94) (.agg DD')).put (some 96) (.pointer (some ⟨tb, 0, none⟩))).put (some 97) (.slice (some ⟨b, o, none⟩) els.length C)).put (some 98) (.int .i64 j)).put (some 99) (.pointer (some ⟨b, o + j * 16, none⟩))).put (some 100) (.agg DD')).put (some 95) va).put (some 101) vb).put (some 15) va).put (some 16) vb) (fun va vb wx => Tt w2 wx ta ma (restF f ps Ka) tb mb (restF f ps Kb) ∧ RowIs wx va (tellF f ps Ka) ∧ RowIs wx vb (tellF f ps Kb)) ⟨by kernel_rfl, rfl, rfl, rfl, rfl⟩ (fun _ _ _ _ _ h => h) ?_ ?_
            · intro va vb wx hrel
              show KQ _ _
              refine hKQ _ _ (Met.intro (hJQ _ _ ?_))
              simp only [Act.put, List.setIfInBounds_toArray, List.set_cons_zero, List.set_cons_succ]
              (repeat apply Exists.intro)
              exact ⟨hrel, rfl⟩
            · intro a Q hR hp hQ
              obtain ⟨hsz, e10, e11, e0, e14⟩ := hR
              have hu32 := Tryd.underlying32
              have hi32 : (Tryd.prog.info? 32).map (·.size) = some DD'.toList.length := by rw [HDD.out]; kernel_rfl
              refine wp_region_held_drew (S := fun w' => w'.rangeAt b (o + j * 16) DD'.toList) (by kernel_rfl) (hrg HJ.out.1.a.2.2.1.drew) (fun HH => ?_)
              refine wpAnyH_take (i := 0) (v := .pointer (some ⟨ta, 0, none⟩)) rfl (by kernel_rfl) (by kernel_rfl) (by kernel_rfl) (fun _ _ _ h => hp _ _ _ _ _ h) (y_move rfl _ rfl (by simp [ev_ne, ev_same, sz_put, hsz, e10, e11, e0, e14])) HH ?_
              try dsimp only
              refine wpAnyH_take (i := 1) (v := .slice (some ⟨b, o, none⟩) els.length C) rfl (by kernel_rfl) (by kernel_rfl) (by kernel_rfl) (fun _ _ _ h => hp _ _ _ _ _ h) (y_move rfl _ rfl (by simp [ev_ne, ev_same, sz_put, hsz, e10, e11, e0, e14])) HH ?_
              try dsimp only
              refine wpAnyH_take (i := 2) (v := .int .i64 j) rfl (by kernel_rfl) (by kernel_rfl) (by kernel_rfl) (fun _ _ _ h => hp _ _ _ _ _ h) (y_move rfl _ rfl (by simp [ev_ne, ev_same, sz_put, hsz, e10, e11, e0, e14])) HH ?_
              try dsimp only
              refine wpAnyH_take (i := 3) (v := .pointer (some ⟨b, o + j * 16, none⟩)) rfl (by kernel_rfl) (by kernel_rfl) (by kernel_rfl) (fun _ _ _ h => hp _ _ _ _ _ h) (y_index (u := .slice (some ⟨b, o, none⟩) els.length C) (z := .int .i64 j) rfl _ _ _ rfl (by simp [ev_ne, ev_same, sz_put, hsz, e10, e11, e0, e14]) (by simp [ev_ne, ev_same, sz_put, hsz, e10, e11, e0, e14]) (fun w _ => by go_simp)) HH ?_
              try dsimp only
              refine wpAnyH_take (i := 4) (v := (.agg DD'.toList.toArray)) rfl (by kernel_rfl) (by kernel_rfl) (by kernel_rfl) (fun _ _ _ h => hp _ _ _ _ _ h) (yieldsIf_load_mid (by rfl) 32 (.tmp 93) rfl b (o + j * 16) (by simp [ev_ne, ev_same, sz_put, hsz, e10, e11, e0, e14]) DD'.toList _ (fun w hw => hw) hu32 rfl hi32) HH ?_
              try dsimp only
              refine wpAnyH_take (i := 6) (v := .pointer (some ⟨tb, 0, none⟩)) rfl (by kernel_rfl) (by kernel_rfl) (by kernel_rfl) (fun _ _ _ h => hp _ _ _ _ _ h) (y_move rfl _ rfl (by simp [ev_ne, ev_same, sz_put, hsz, e10, e11, e0, e14])) HH ?_
              try dsimp only
              refine wpAnyH_take (i := 7) (v := .slice (some ⟨b, o, none⟩) els.length C) rfl (by kernel_rfl) (by kernel_rfl) (by kernel_rfl) (fun _ _ _ h => hp _ _ _ _ _ h) (y_move rfl _ rfl (by simp [ev_ne, ev_same, sz_put, hsz, e10, e11, e0, e14])) HH ?_
              try dsimp only
              refine wpAnyH_take (i := 8) (v := .int .i64 j) rfl (by kernel_rfl) (by kernel_rfl) (by kernel_rfl) (fun _ _ _ h => hp _ _ _ _ _ h) (y_move rfl _ rfl (by simp [ev_ne, ev_same, sz_put, hsz, e10, e11, e0, e14])) HH ?_
              try dsimp only
              refine wpAnyH_take (i := 9) (v := .pointer (some ⟨b, o + j * 16, none⟩)) rfl (by kernel_rfl) (by kernel_rfl) (by kernel_rfl) (fun _ _ _ h => hp _ _ _ _ _ h) (y_index (u := .slice (some ⟨b, o, none⟩) els.length C) (z := .int .i64 j) rfl _ _ _ rfl (by simp [ev_ne, ev_same, sz_put, hsz, e10, e11, e0, e14]) (by simp [ev_ne, ev_same, sz_put, hsz, e10, e11, e0, e14]) (fun w _ => by go_simp)) HH ?_
              try dsimp only
              refine wpAnyH_take (i := 10) (v := (.agg DD'.toList.toArray)) rfl (by kernel_rfl) (by kernel_rfl) (by kernel_rfl) (fun _ _ _ h => hp _ _ _ _ _ h) (yieldsIf_load_mid (by rfl) 32 (.tmp 99) rfl b (o + j * 16) (by simp [ev_ne, ev_same, sz_put, hsz, e10, e11, e0, e14]) DD'.toList _ (fun w hw => hw) hu32 rfl hi32) HH ?_
              try dsimp only
              simp only [Array.toArray_toList]
              refine wpAnyH_ready (rs := [5]) (by kernel_rfl) (by simp) ?_
              refine AllReadyH.cons rfl (fun K hK => ?_) AllReadyH.nil
              refine at_call2 (v1 := .pointer (some ⟨ta, 0, none⟩)) (v2 := .agg DD') rfl 10 (.tmp 90) (.tmp 94) (fun a w => by first | kernel_rfl | rfl | go_simp) (by simp [ev_ne, ev_same, sz_put, hsz, e10, e11, e0, e14]) (by simp [ev_ne, ev_same, sz_put, hsz, e10, e11, e0, e14]) ?_
              refine c1.mono ?_
              rintro e9 w9 ⟨va, rfl, hra, h9⟩
              refine ⟨va, rfl, ?_⟩
              have hb9 := h9.a.2.2.1
              have c2 := h9.ringB f ps (HDV.out hb9) HFI.out (by have := HJ.out.2.2.1; omega) hps hra
              rw [← HDD.out] at c2
              refine hK.out _ _ (hrg hb9) (fun hHeld9 => ?_)
              clear hK HH c1
              try dsimp only
              refine wpAnyH_ready (rs := [11]) (by kernel_rfl) (by simp) ?_
              refine AllReadyH.cons rfl (fun K hK => ?_) AllReadyH.nil
              refine at_call2 (v1 := .pointer (some ⟨tb, 0, none⟩)) (v2 := .agg DD') rfl 10 (.tmp 96) (.tmp 100) (fun a w => by first | kernel_rfl | rfl | go_simp) (by simp [ev_ne, ev_same, sz_put, hsz, e10, e11, e0, e14]) (by simp [ev_ne, ev_same, sz_put, hsz, e10, e11, e0, e14]) ?_
              refine c2.mono ?_
              rintro e10' w10 ⟨vb, rfl, hrb, hra', h10⟩
              refine ⟨vb, rfl, ?_⟩
              refine hK.out _ _ (hrg h10.a.2.2.1) (fun HH => ?_)
              clear hK hHeld9 c2
              try dsimp only
              refine wpAnyH_take (i := 12) (v := va) rfl (by kernel_rfl) (by kernel_rfl) (by kernel_rfl) (fun _ _ _ h => hp _ _ _ _ _ h) (y_assign rfl _ rfl (by simp [ev_ne, ev_same, sz_put, hsz, e10, e11, e0, e14])) HH ?_
              try dsimp only
              refine wpAnyH_take (i := 13) (v := vb) rfl (by kernel_rfl) (by kernel_rfl) (by kernel_rfl) (fun _ _ _ h => hp _ _ _ _ _ h) (y_assign rfl _ rfl (by simp [ev_ne, ev_same, sz_put, hsz, e10, e11, e0, e14])) HH ?_
              try dsimp only
              exact wpAnyH_done (by kernel_rfl) (hQ va vb _ ⟨h10, hra', hrb⟩) _
          case rest =>
          obtain ⟨h10, hra', hrb⟩ := hcut
          obtain ⟨w10, hw10⟩ : ∃ x, x = wc := ⟨_, rfl⟩
          subst hw10
          have HM : Hid (ownR (tellF f ps Kb) = tellF f ps Ka ∧ (restF f ps Kb).filter isOwn = restF f ps Ka ∧ (restF f ps Kb).length ≤ 100 ∧ (tellF f ps Ka).length + (restF f ps Ka).length = Ka.length) := by
            have h1 := tell_own f ps HJ.out.1.b.1.map.names
            have h2 := HJ.out.2.1
            rw [h2] at h1
            have h3 := tell_len f ps Kb
            exact ⟨h1.1, h1.2, by have := HJ.out.2.2.1; omega, tell_len f ps Ka⟩
          obtain ⟨Ra, hRa⟩ : ∃ Ra, Ra = tellF f ps Ka := ⟨_, rfl⟩
          obtain ⟨Rb, hRb⟩ : ∃ Rb, Rb = tellF f ps Kb := ⟨_, rfl⟩
          obtain ⟨Ma, hMa⟩ : ∃ Ma, Ma = restF f ps Ka := ⟨_, rfl⟩
          obtain ⟨Mb, hMb⟩ : ∃ Mb, Mb = restF f ps Kb := ⟨_, rfl⟩
          have hlb : Rb.length ≤ 100 := by have := tell_len f ps Kb; have := HJ.out.2.2.1; rw [hRb]; omega
          rw [← hRa, ← hRb, ← hMa, ← hMb] at HM
          rw [← hRa] at hra'
          rw [← hRb] at hrb
          rw [← hMa, ← hMb] at h10
          have H10 : Hid (Tt w2 w10 ta ma Ma tb mb Mb ∧ RowIs w10 _ Ra ∧ RowIs w10 _ Rb) := ⟨h10, hra', hrb⟩
          obtain ⟨Ax, Cx, rfl⟩ := hra'.len
          obtain ⟨Ay, Cy, rfl⟩ := hrb.len
          clear c1 hrb hra' h10 hRa hRb hMa hMb
          obtain ⟨i0, hi, hz0, hz1, hz2⟩ := info_parts infoR
          go_wp2_with fail
          go_loopw [17, 18] (fun v i wx => ∃ k : Nat, k ≤ Rb.length ∧ i = .int .i64 k ∧ wx.ownsRow w10.heap.size 56 5 v (ownR (Rb.take k)).length ((ownR (Rb.take k)).flatMap rgC) ∧ Below w10.heap.size w10 wx) (fun _ i _ => Rb.length - (Go.Lib.intOf i).toNat)
          case atStart => exact ⟨0, Nat.zero_le _, rfl, World.ownsRow_nil _ _ _ _, Below.refl _ _⟩
          case round =>
            obtain ⟨k, hk, rfl, ho, hB⟩ := hrel
            by_cases hlt3 : k < Rb.length
            · obtain ⟨A3', C3', e3, hall⟩ := H10.out.2.2.below hB
              injection e3 with e3 _ e4
              subst e3
              obtain ⟨b3, o3, rfl, y0, y1, y2, y3, y4⟩ := hall k hlt3
              obtain ⟨x, hx⟩ : ∃ x, x = Rb[k]'hlt3 := ⟨_, rfl⟩
              rw [← hx] at y0 y1 y2 y3 y4
              have i5 : (k : Int) < Rb.length := by omega
              have i6 : (0 : Int) ≤ k := by omega
              have hlen3 : (ownR (Rb.take k)).length ≤ 100 := by
                have := List.length_filter_le (fun r : Rg => decide (r.cn = -1)) (Rb.take k)
                have := List.length_take_le k Rb
                unfold ownR
                omega
              have hbs : w10.heap.size ≤ wr.heap.size := hB.size
              by_cases hcn : x.cn = -1
              · have HOW : Hid (ownR (Rb.take (k + 1)) = ownR (Rb.take k) ++ [x]) := by
                  show _ = _
                  rw [List.take_succ_eq_append_getElem hlt3, ← hx]
                  unfold ownR
                  rw [List.filter_append]
                  simp [hcn]
                have HO : Hid (wr.ownsRow w10.heap.size 56 5 u17 (ownR (Rb.take k)).length ((ownR (Rb.take k)).flatMap rgC) ∧ Below w10.heap.size w10 wr) := ⟨ho, hB⟩
                have hcb : (x.cn == -1) = true := by simpa using hcn
                clear ho hB hall hx hcn
                go_wp2_with (first
                  | (at_builtin; refine wpList_append_own_at _ rfl (.tmp 114) (.tmp 119) 50 rfl w10.heap.size 56 i0 (.agg #[.int .i64 0, .int .u8 0, .int .u8 0, .string ⟨#[]⟩, .int .i64 0]) 5 40 Tryd.underlying50 hi hz0 hz1 hz2 rfl (by decide) _ (ownR (Rb.take k)).length ((ownR (Rb.take k)).flatMap rgC) rfl (HO.out.1.alloc _) ⟨wr.heap.size, 0, none⟩ 1 1 [.int .i64 x.cn, .int .u8 x.kd, .int .u8 x.so, .string (mkS x.p), .int .i64 x.z] rfl rfl (World.news_of_block (heap_alloc_new wr _)) (fun u hu => by simp at hu; rcases hu with rfl | rfl | rfl | rfl | rfl <;> rfl) (by unfold maxLen; omega) (by omega) (by simp; omega) ?_; intro v9 w9 ho9 hg9 hn9 hl9)
                  | fail)
                have HST := own_step HO.out.1 HO.out.2 ho9 hg9 rfl
                rw [← HOW.out] at HST
                exact ⟨⟨k + 1, by omega, by push_cast; rfl, HST.1, HST.2⟩, by simp [Go.Lib.intOf]; omega⟩
              · have HOW : Hid (ownR (Rb.take (k + 1)) = ownR (Rb.take k)) := by
                  show _ = _
                  rw [List.take_succ_eq_append_getElem hlt3, ← hx]
                  unfold ownR
                  rw [List.filter_append]
                  simp [hcn]
                have HO : Hid (wr.ownsRow w10.heap.size 56 5 u17 (ownR (Rb.take k)).length ((ownR (Rb.take k)).flatMap rgC) ∧ Below w10.heap.size w10 wr) := ⟨ho, hB⟩
                have hcb : (x.cn == -1) = false := by simpa using hcn
                clear ho hB hall hx hcn
                go_wp2_with fail
                go_roundw
                case rel => exact ⟨k + 1, by omega, by go_num, by rw [HOW.out]; exact HO.out.1, HO.out.2⟩
                case measure => simp [Go.Lib.intOf]; omega
            · obtain rfl : k = Rb.length := by omega
              rw [List.take_length, HM.out.1] at ho
              have hrow := RowIs.of ho
              have his := is_any (H10.out.2.1.below hB) hrow (by have := HM.out.2.2.2; omega) (by have := HM.out.2.2.2; omega)
              rw [decide_eq_true rfl] at his
              obtain ⟨Ao, Co, rfl⟩ := hrow.len
              have hsum : (rg : Int) + Ra.length ≤ 1 := by
                have h1 := HM.out.2.2.2
                have h2 := HJ.out.2.2.2
                have h3 := H6.out.2.2.1
                omega
              have HQ : Hid (Below w10.heap.size w10 wr) := hB
              have i5 : ¬ (Rb.length : Int) < Rb.length := by omega
              clear ho hB hrow
              go_wp2_with fail
              refine his.mono ?_
              rintro e w11 ⟨rfl, q, rfl⟩
              clear his
              go_wp2_with fail
              go_roundw
              case rel => exact ⟨j + 1, rg + Ra.length, Ma, Mb, by omega, by go_num, by go_num, H10.out.1.below (HQ.out.trans (Chg.drewN Non wr q |> fun h => ⟨h.os, h.tape, h.output, h.size, fun k hk => h.block k (by have := HQ.out.size; omega) id⟩)), HM.out.2.1, HM.out.2.2.1, by have h1 := HM.out.2.2.2; have h2 := HJ.out.2.2.2; omega⟩
              case measure => simp [Go.Lib.intOf]; omega
        · obtain rfl : j = els.length := by omega
          have i2 : ¬ (els.length : Int) < els.length := by omega
          have HT2 : Hid (Tt w2 wr ta ma Ka tb mb Kb) := ht
          have hwr : Below w.heap.size w wr := HB1.out.trans (ht.a.2.2.1.mono HB1.out.size)
          have HWR : Hid (Below w.heap.size w wr) := hwr
          have hck := PA.check_any p wr (HK.out.1.below hwr)
          have hla := H6.out.2.2.2
          have hmb : mayB s p = PA.right p := by
            have h := HS.out
            unfold mayB
            rcases (by omega : s = 1 ∨ s = 2 ∨ s = 3) with h | h | h <;> rw [h] <;> simp
          rw [hmb] at hla
          clear ht hf hl hwr hmb
          go_wp2_with fail
          refine hck.mono ?_
          rintro e w7 ⟨rfl, hB7⟩
          clear hck
          have h7 := HT2.out.below hB7
          have hdr := drop_any h7.b.1 0
          have H7 : Hid (Tt w2 w7 ta ma Ka tb mb Kb ∧ Below wr.heap.size wr w7) := ⟨h7, hB7⟩
          clear h7 hB7
          obtain ⟨n, hn⟩ : ∃ n : Int, n = Ka.length := ⟨_, rfl⟩
          obtain ⟨rt, hrt⟩ : ∃ rt, rt = PA.right p := ⟨_, rfl⟩
          have HRT : Hid (rt = PA.right p) := hrt
          rw [← hrt] at hla
          rw [← hrt]
          clear hrt
          cases rt with
          | true =>
            have hla : La.length = 1 := by simpa using hla
            have hn1 : n = 1 - (rg : Int) := by omega
            have hrg1 : (rg : Int) ≤ 1 := by omega
            have hrg0 : (0 : Int) ≤ rg := by omega
            have HN : Hid (n = Ka.length) := hn
            subst hn1
            clear hn
            go_wp2_with fail
            refine hdr.mono ?_
            rintro e w8 ⟨rfl, hx8, hc8⟩
            have h8 := H7.out.1.toB hx8 hc8
            have hct := h8.a.count (1 - (rg : Int)) HN.out
            have HX : Hid (Tt w2 w8 ta ma Ka tb mb (dropL 0 Kb)) := h8
            clear hdr hx8 hc8 h8
            go_wp2_with fail
            refine hct.mono ?_
            rintro e w9 ⟨rfl, hw9, hB9⟩
            clear hct
            by_cases hrz : (rg : Int) = 0
            · have g1 : ((rg : Int) == 0) = true := by simpa using hrz
              go_wp2_with fail
              go_ret
              exact ⟨rfl, HB1.out.trans (hw9.2.2.1.mono HB1.out.size)⟩
            · have g1 : ((rg : Int) == 0) = false := by simpa using hrz
              have hb9 : Below w.heap.size w w9 := HB1.out.trans (hw9.2.2.1.mono HB1.out.size)
              have hc2 := PA.check_any p w9 (HK.out.1.below hb9)
              rw [← HRT.out] at hc2
              have HB9 : Hid (Below w.heap.size w w9) := hb9
              clear hb9 hw9
              go_wp2_with fail
              refine hc2.mono ?_
              rintro e w12 ⟨rfl, hB12⟩
              go_wp2_with fail
              go_ret
              exact ⟨rfl, HB9.out.trans (hB12.mono HB9.out.size)⟩
          | false =>
            have hla : La.length = 0 := by simpa using hla
            have hn1 : n = 0 := by omega
            obtain rfl : rg = 0 := by omega
            have HN : Hid (n = Ka.length) := hn
            subst hn1
            clear hn
            go_wp2_with fail
            refine hdr.mono ?_
            rintro e w8 ⟨rfl, hx8, hc8⟩
            have h8 := H7.out.1.toB hx8 hc8
            have hct := h8.a.count 0 HN.out
            have HX : Hid (Tt w2 w8 ta ma Ka tb mb (dropL 0 Kb)) := h8
            clear hdr hx8 hc8 h8
            go_wp2_with fail
            refine hct.mono ?_
            rintro e w9 ⟨rfl, hw9, hB9⟩
            clear hct
            go_wp2_with fail
            go_ret
            exact ⟨rfl, HB1.out.trans (hw9.2.2.1.mono HB1.out.size)⟩
end Go.Proofs.YtkbmbnfpadllmaaDoor.We
