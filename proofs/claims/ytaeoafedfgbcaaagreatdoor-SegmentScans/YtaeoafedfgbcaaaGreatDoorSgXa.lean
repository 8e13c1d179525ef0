/- SameDeeds at two rows of right deeds, with parts. What is told of any bytes, put again: the walk of SegmentAgain. Deeds one behind the other, cut off, with one byte behind that is not the next one: what is told of them; no program in this text. Beginnings of rows of one's own; SameInts at two rows of the same numbers; CopyBytes, Pick. What the document's Scan holds between two frames; its appends as runs; a row of bytes from a place on. -/
import Derived.Test.YtaeoafedfgbcaaaGreatDoorSgYa
import Derived.Deep.QuietTactic
import Derived.Test.YtaeoafedfgbcaaaGreatDoorSgBa
import Derived.Test.YtaeoafedfgbcaaaGreatDoorSgT3
namespace Go.Proofs.YtaeoafedfgbcaaaGreatDoor.DD
set_option linter.unusedVariables false
open Go.RowKit Go.Sort
set_option linter.unusedVariables false

theorem right_small' {f : Fl} {ps : List Fl} (hf : DedFit f ps) (hr : rightD f ps = true) : f.data.length ≤ 1000 ∧ ps.length ≤ 500 ∧ ∀ p ∈ ps, p.np = 0 ∧ p.data.length ≤ 1000 := by
  have h := rightD_fits hr
  have hc := com_parts (fits_com h).1
  cases hp : hasParts f.kind with
  | false =>
    have h0 := np_zero hc.1 hp
    have : ps = [] := List.length_eq_zero_iff.1 (by rw [← hf.len]; exact h0)
    subst this
    exact ⟨hc.2.1, by simp, by simp⟩
  | true =>
    have hs := fits_parts h hp
    refine ⟨hc.2.1, hs.1, fun p hp => ?_⟩
    obtain ⟨h1, h2, h3⟩ := hs.2 p hp
    have hc' := com_parts (leaf_parts h3).2.1
    refine ⟨np_zero hc'.1 ?_, hc'.2.1⟩
    unfold isNode at h1
    unfold hasParts
    simp only [Bool.or_eq_true, decide_eq_true_eq] at h1
    simp only [Bool.or_eq_false_iff, decide_eq_false_iff_not]
    omega
set_option maxRecDepth 100000 in
set_option maxHeartbeats 4000000 in
theorem sameEls {w : World} {base base' n C C' : Nat} {A A' : Option Addr} {els els' : List El2} (h : w.ownsRow base 41 16 (.slice A n C) n (evd2 els)) (h' : w.ownsRow base' 41 16 (.slice A' n C') n (evd2 els')) (hn : els.length = n) (hp : els.map El2.p = els'.map El2.p) (hd : ∀ e ∈ els, DV w e) (hd' : ∀ e ∈ els', DV w e) (hok : ∀ e ∈ els, okIt e.p) (hl : n ≤ 1000000) :
    Calls Tryz.prog 7 #[.slice A n C, .slice A' n C'] w fun e w' => e = .returned (.bool true) ∧ Below w.heap.size w w' := by
  have HR : Hid _ := h
  have HR' : Hid _ := h'
  have HN : Hid (els.length = n) := hn
  have HP : Hid (els.map El2.p = els'.map El2.p) := hp
  have HD : Hid (∀ e ∈ els, DV w e) := hd
  have HD' : Hid (∀ e ∈ els', DV w e) := hd'
  have HK : Hid (∀ e ∈ els, okIt e.p) := hok
  clear h h' hn hp hd hd' hok
  go_enter Tryz.func7, Tryz.ntmps7
  go_wp2_with fail
  go_loopw [5] (fun c wr => ∃ k : Nat, k ≤ n ∧ c = .int .i64 k ∧ Below w.heap.size w wr) (fun c _ => n - (intOf c).toNat)
  case atStart => exact ⟨0, by omega, rfl, Below.refl _ _⟩
  case round =>
    obtain ⟨k, hk, rfl, hB⟩ := hrel
    have HB : Hid (Below w.heap.size w wr) := hB
    clear hB
    by_cases hlt : k < n
    · have hkl : k < els.length := by have := HN.out; omega
      have hkl' : k < els'.length := by have := congrArg List.length HP.out; rw [List.length_map, List.length_map] at this; omega
      have hep : (els[k]'hkl).p = (els'[k]'hkl').p := by
        have := List.getElem_of_eq HP.out (i := k) (by rw [List.length_map]; exact hkl)
        rw [List.getElem_map, List.getElem_map] at this
        exact this
      have hO := owns_keep HR.out (Chg.of_below HB.out) (fun _ _ e => e)
      have hO' := owns_keep HR'.out (Chg.of_below HB.out) (fun _ _ e => e)
      obtain ⟨g, rfl⟩ : ∃ g, A = some ⟨g, 0, none⟩ := by
        rcases HR.out.2 with ⟨h, h0⟩ | ⟨g, cap, cur, h, _⟩
        · omega
        · cases h; exact ⟨g, rfl⟩
      obtain ⟨g', rfl⟩ : ∃ g, A' = some ⟨g, 0, none⟩ := by
        rcases HR'.out.2 with ⟨h, h0⟩ | ⟨g, cap, cur, h, _⟩
        · omega
        · cases h; exact ⟨g, rfl⟩
      have hra := row_cells hO k hkl
      have hra' := row_cells hO' k hkl'
      have hdv : DV wr (els[k]'hkl) := (HD.out _ (List.getElem_mem hkl)).grow HB.out
      have hdv' : DV wr (els'[k]'hkl') := (HD'.out _ (List.getElem_mem hkl')).grow HB.out
      have hok := HK.out _ (List.getElem_mem hkl)
      generalize (els[k]'hkl) = e0 at hep hra hdv hok
      generalize (els'[k]'hkl') = e1 at hep hra' hdv'
      obtain ⟨⟨f, ps⟩, A1, c1, A2, c2, A3, c3⟩ := e0
      obtain ⟨p', B1, d1, B2, d2, B3, d3⟩ := e1
      dsimp only at hep
      subst hep
      have hok' : okIt (f, ps) := hok
      have hsm := right_small' (f := f) (ps := ps) hok'.2 hok'.1
      have hmm := right_mems (f := f) (ps := ps) hok'.2 hok'.1
      have dQ := fun d os => Calls.regrown_of (sameD_any f ps A1 A2 A3 B1 B2 B3 c1 c2 c3 d1 d2 d3 (grow (redrawn wr d) os) hmm.1 (by have := hsm.1; omega) (by have := hsm.2.1; omega) hok'.2.len (fun p hp => ⟨(hsm.2.2 p hp).1, hmm.2 p hp, by have := (hsm.2.2 p hp).2; omega⟩) (DVal.grow hdv (below_regrown wr d os)) (DVal.grow hdv' (below_regrown wr d os)))
      have z0 : wr.cell? ⟨g, k * 16, none⟩ = some (.int .i64 f.zxid) := hra 0 _ rfl
      have z1 : wr.cell? ⟨g, k * 16 + 1, none⟩ = some (.int .u8 f.kind) := hra 1 _ rfl
      have z2 : wr.cell? ⟨g, k * 16 + 2, none⟩ = some (.int .i64 f.session) := hra 2 _ rfl
      have z3 : wr.cell? ⟨g, k * 16 + 3, none⟩ = some (.int .i64 f.turn) := hra 3 _ rfl
      have z4 : wr.cell? ⟨g, k * 16 + 4, none⟩ = some (.int .i64 f.xid) := hra 4 _ rfl
      have z5 : wr.cell? ⟨g, k * 16 + 5, none⟩ = some (.int .i64 f.time) := hra 5 _ rfl
      have z6 : wr.cell? ⟨g, k * 16 + 6, none⟩ = some (.string (mkS f.path)) := hra 6 _ rfl
      have z7 : wr.cell? ⟨g, k * 16 + 7, none⟩ = some (.slice A1 f.data.length c1) := hra 7 _ rfl
      have z8 : wr.cell? ⟨g, k * 16 + 8, none⟩ = some (.int .i64 f.owner) := hra 8 _ rfl
      have z9 : wr.cell? ⟨g, k * 16 + 9, none⟩ = some (.int .i64 f.version) := hra 9 _ rfl
      have z10 : wr.cell? ⟨g, k * 16 + 10, none⟩ = some (.int .i64 f.cversion) := hra 10 _ rfl
      have z11 : wr.cell? ⟨g, k * 16 + 11, none⟩ = some (.int .i64 f.timeout) := hra 11 _ rfl
      have z12 : wr.cell? ⟨g, k * 16 + 12, none⟩ = some (.int .i64 f.err) := hra 12 _ rfl
      have z13 : wr.cell? ⟨g, k * 16 + 13, none⟩ = some (.int .i64 f.cver) := hra 13 _ rfl
      have z14 : wr.cell? ⟨g, k * 16 + 14, none⟩ = some (.slice A2 f.mems.length c2) := hra 14 _ rfl
      have z15 : wr.cell? ⟨g, k * 16 + 15, none⟩ = some (.slice A3 f.np c3) := hra 15 _ rfl
      have y0 : wr.cell? ⟨g', k * 16, none⟩ = some (.int .i64 f.zxid) := hra' 0 _ rfl
      have y1 : wr.cell? ⟨g', k * 16 + 1, none⟩ = some (.int .u8 f.kind) := hra' 1 _ rfl
      have y2 : wr.cell? ⟨g', k * 16 + 2, none⟩ = some (.int .i64 f.session) := hra' 2 _ rfl
      have y3 : wr.cell? ⟨g', k * 16 + 3, none⟩ = some (.int .i64 f.turn) := hra' 3 _ rfl
      have y4 : wr.cell? ⟨g', k * 16 + 4, none⟩ = some (.int .i64 f.xid) := hra' 4 _ rfl
      have y5 : wr.cell? ⟨g', k * 16 + 5, none⟩ = some (.int .i64 f.time) := hra' 5 _ rfl
      have y6 : wr.cell? ⟨g', k * 16 + 6, none⟩ = some (.string (mkS f.path)) := hra' 6 _ rfl
      have y7 : wr.cell? ⟨g', k * 16 + 7, none⟩ = some (.slice B1 f.data.length d1) := hra' 7 _ rfl
      have y8 : wr.cell? ⟨g', k * 16 + 8, none⟩ = some (.int .i64 f.owner) := hra' 8 _ rfl
      have y9 : wr.cell? ⟨g', k * 16 + 9, none⟩ = some (.int .i64 f.version) := hra' 9 _ rfl
      have y10 : wr.cell? ⟨g', k * 16 + 10, none⟩ = some (.int .i64 f.cversion) := hra' 10 _ rfl
      have y11 : wr.cell? ⟨g', k * 16 + 11, none⟩ = some (.int .i64 f.timeout) := hra' 11 _ rfl
      have y12 : wr.cell? ⟨g', k * 16 + 12, none⟩ = some (.int .i64 f.err) := hra' 12 _ rfl
      have y13 : wr.cell? ⟨g', k * 16 + 13, none⟩ = some (.int .i64 f.cver) := hra' 13 _ rfl
      have y14 : wr.cell? ⟨g', k * 16 + 14, none⟩ = some (.slice B2 f.mems.length d2) := hra' 14 _ rfl
      have y15 : wr.cell? ⟨g', k * 16 + 15, none⟩ = some (.slice B3 f.np d3) := hra' 15 _ rfl
      have z0 := fun d os => cell_regrown z0 d os
      have z1 := fun d os => cell_regrown z1 d os
      have z2 := fun d os => cell_regrown z2 d os
      have z3 := fun d os => cell_regrown z3 d os
      have z4 := fun d os => cell_regrown z4 d os
      have z5 := fun d os => cell_regrown z5 d os
      have z6 := fun d os => cell_regrown z6 d os
      have z7 := fun d os => cell_regrown z7 d os
      have z8 := fun d os => cell_regrown z8 d os
      have z9 := fun d os => cell_regrown z9 d os
      have z10 := fun d os => cell_regrown z10 d os
      have z11 := fun d os => cell_regrown z11 d os
      have z12 := fun d os => cell_regrown z12 d os
      have z13 := fun d os => cell_regrown z13 d os
      have z14 := fun d os => cell_regrown z14 d os
      have z15 := fun d os => cell_regrown z15 d os
      have y0 := fun d os => cell_regrown y0 d os
      have y1 := fun d os => cell_regrown y1 d os
      have y2 := fun d os => cell_regrown y2 d os
      have y3 := fun d os => cell_regrown y3 d os
      have y4 := fun d os => cell_regrown y4 d os
      have y5 := fun d os => cell_regrown y5 d os
      have y6 := fun d os => cell_regrown y6 d os
      have y7 := fun d os => cell_regrown y7 d os
      have y8 := fun d os => cell_regrown y8 d os
      have y9 := fun d os => cell_regrown y9 d os
      have y10 := fun d os => cell_regrown y10 d os
      have y11 := fun d os => cell_regrown y11 d os
      have y12 := fun d os => cell_regrown y12 d os
      have y13 := fun d os => cell_regrown y13 d os
      have y14 := fun d os => cell_regrown y14 d os
      have y15 := fun d os => cell_regrown y15 d os
      have i1 : (k : Int) < (n : Int) := by omega
      clear hO hO' hra hra' hdv hdv' hsm hmm hok hok'
      go_wp2_with fail
      refine wp_region_quiet_below (by kernel_rfl) (by kernel_rfl) ?_
      repeat (go_big_quiet_step ((go_at_call 16; exact dQ _ _)))
      refine wpQuiet_nil ?_
      intro _ hw'
      obtain ⟨⟨dq, osq⟩, hw''⟩ := hw'
      subst hw''
      have HB3 : Hid (Below w.heap.size w (grow (redrawn wr dq) osq)) := below_rg' HB.out dq osq
      clear z0 z1 z2 z3 z4 z5 z6 z7 z8 z9 z10 z11 z12 z13 z14 z15 y0 y1 y2 y3 y4 y5 y6 y7 y8 y9 y10 y11 y12 y13 y14 y15 dQ
      go_wp2
      exact ⟨⟨k + 1, by omega, by go_num, HB3.out⟩, by simp [intOf]; omega⟩
    · go_wp2
      go_ret
      exact ⟨rfl, HB.out⟩
end Go.Proofs.YtaeoafedfgbcaaaGreatDoor.DD

namespace Go.Proofs.YtaeoafedfgbcaaaGreatDoor.DD
set_option linter.unusedVariables false
open Go.RowKit Go.Sort
set_option linter.unusedVariables false

theorem same_x {x y : Value} {la : List UInt8} {w : World} (hA : Bs w x la) (hB : Bs w y la) (hm : la.length ≤ 140737488355328) : Calls Tryz.prog 38 #[x, y] w fun e w' => e = .returned (.bool true) ∧ Below w.heap.size w w' := by
  refine (same_any hA hB hm).mono ?_
  rintro e w' ⟨rfl, q, rfl⟩
  exact ⟨by rw [decide_eq_true rfl], (Chg.drewN Non w q).below (fun _ h => h.elim) (Nat.le_refl _)⟩
theorem wrap64_id {n : Int} (h1 : -9223372036854775808 ≤ n) (h2 : n < 9223372036854775808) : IntKind.i64.wrap n = n := by
  simp [IntKind.wrap, IntKind.bits, IntKind.signed]
  omega
theorem ends_at : ∀ (l : List It) (t k : Nat), k < l.length → (endsF t l)[k]? = some (t + (catI (l.take (k + 1))).length)
  | [], t, k, h => by simp at h
  | p :: r, t, 0, h => by simp [endsF, catI]
  | p :: r, t, k + 1, h => by
    show (endsF (t + (itB p).length) r)[k]? = _
    rw [ends_at r _ k (by simpa using h), List.take_succ_cons, catI_cons, List.length_append, Nat.add_assoc]
theorem risen_at : ∀ (l : List It) (z : Int) (k : Nat) (h : k + 1 < l.length), risen z l → (l[k]'(by omega)).1.zxid < (l[k + 1]'h).1.zxid
  | [], z, k, h, _ => by simp at h
  | [p], z, k, h, _ => by simp at h
  | p :: q :: r, z, 0, h, hr => hr.2.1
  | p :: q :: r, z, k + 1, h, hr => risen_at (q :: r) p.1.zxid k (by simpa using h) hr.2
theorem cat_take {l : List It} {k : Nat} (h : k < l.length) : catI (l.take (k + 1)) = catI (l.take k) ++ itB (l[k]'h) := by
  rw [List.take_succ_eq_append_getElem h, catI_app, catI_one]
theorem cat_le (l : List It) (k : Nat) : (catI (l.take k)).length ≤ (catI l).length := by
  conv => rhs; rw [← List.take_append_drop k l, catI_app, List.length_append]
  omega
theorem scan_len (l : List UInt8) : (catI (scanF l 0)).length ≤ l.length := by
  obtain ⟨r, h, -, -⟩ := scan_spec l.length l 0 (Nat.le_refl _)
  conv => rhs; rw [h, List.length_append]
  omega
theorem scan_take (l : List UInt8) : l.take (catI (scanF l 0)).length = catI (scanF l 0) := by
  obtain ⟨r, h, -, -⟩ := scan_spec l.length l 0 (Nat.le_refl _)
  conv => lhs; rw [h]
  rw [← h]
  exact (congrArg (List.take (catI (scanF l 0)).length) h).trans List.take_left
theorem scan_again (l : List UInt8) : scanF (catI (scanF l 0)) 0 = scanF l 0 := by
  obtain ⟨r, h, h1, h2⟩ := scan_spec l.length l 0 (Nat.le_refl _)
  have := scan_cat (scanF l 0) [] 0 h1 h2
  rw [List.append_nil] at this
  rw [this]
  show scanF l 0 ++ [] = _
  rw [List.append_nil]
theorem bs_first {w : World} {A : Option Addr} {n C : Nat} {l : List UInt8} (h : Bs w (.slice A n C) l) (k : Nat) (hk : k ≤ l.length) : Bs w (.slice A k C) (l.take k) := by
  rcases h with ⟨h, rfl⟩ | ⟨ad, c, h, rfl⟩ | ⟨h0, b, o, c, hv, h1, h2, h3⟩
  · cases h
    obtain rfl : k = 0 := by simpa using hk
    exact Bs.nil w
  · cases h
    obtain rfl : k = 0 := by simpa using hk
    exact .inr (.inl ⟨_, _, rfl, rfl⟩)
  · cases hv
    exact Bs.mk b o C (by rw [List.length_take]; omega) (by rw [List.length_take]; omega) h2 (fun j hj => by
      rw [List.length_take] at hj
      rw [h3 j (by omega), List.getElem_take])
theorem bs_cap {w : World} {A : Option Addr} {n C : Nat} {l : List UInt8} (h : Bs w (.slice A n C) l) : l.length ≤ C := by
  rcases h with ⟨h, rfl⟩ | ⟨ad, c, h, rfl⟩ | ⟨h0, b, o, c, hv, h1, h2, h3⟩
  · exact Nat.zero_le _
  · exact Nat.zero_le _
  · cases hv; exact h1
theorem slice_run {A : Option Addr} {n C J : Nat} (h : J ≤ C) (w : World) : (Instr.sliceAt 22 (.slice A n C) none (some (.int .i64 (J : Int))) none).run Tryz.prog w = .ok (.slice A J C) w := by
  have hu := Tryz.underlying22
  have hs : ∀ w, (sizeOf 5).run Tryz.prog w = .ok 1 w := fun _ => by kernel_rfl
  cases A <;> simp [Instr.sliceAt, Instr.slice, Instr.sliceBounds, Instr.sliceBound, asIntOf, run_underlying hu, hs, Result.andThen, h, Addr.add]
theorem fin_drew {its : List It} {w2 w4 : World} {v i i' : Value} (h : ∃ (k' : Nat) (Av : Option Addr) (Cv : Nat), k' ≤ its.length ∧ i = .int .i64 k' ∧ v = .slice Av (catI (its.take k')).length Cv ∧ w4.ownsRow w2.heap.size 5 1 v (catI (its.take k')).length (bv (catI (its.take k'))) ∧ Below w2.heap.size w2 w4) (q : Nat) (hi : i' = i) :
    ∃ (k' : Nat) (Av : Option Addr) (Cv : Nat), k' ≤ its.length ∧ i' = .int .i64 k' ∧ v = .slice Av (catI (its.take k')).length Cv ∧ (w4.drewN q).ownsRow w2.heap.size 5 1 v (catI (its.take k')).length (bv (catI (its.take k'))) ∧ Below w2.heap.size w2 (w4.drewN q) := by
  obtain ⟨k', Av, Cv, h1, h2, h3, h4, h5⟩ := h
  exact ⟨k', Av, Cv, h1, hi.trans h2, h3, owns_keep h4 (Chg.drewN Non w4 q) (fun _ _ e => e), h5.trans ((Chg.drewN Non w4 q).below (fun _ e => e.elim) h5.size)⟩
end Go.Proofs.YtaeoafedfgbcaaaGreatDoor.DD

namespace Go.Proofs.YtaeoafedfgbcaaaGreatDoor.DD
set_option linter.unusedVariables false
open Go.RowKit
set_option linter.unusedVariables false

theorem unframe_junk (b : List UInt8) (hb : b.length ≤ 1048576) (r : Nat) (hr : r < (frameOf b).length) (j : UInt8) (hj : j ≠ (frameOf b)[r]'hr) : unframe ((frameOf b).take r ++ [j]) = none := by
  have hl := frameOf_len b
  by_cases he : r + 1 = (frameOf b).length
  · have e : (frameOf b).take r ++ [j] = (frameOf b).set r j := by
      rw [List.set_eq_take_append_cons_drop, if_pos hr, List.drop_of_length_le (by omega)]
    rw [e]
    exact unframe_turn b hb r hr (by omega) j hj
  · cases hu : unframe ((frameOf b).take r ++ [j]) with
    | none => rfl
    | some x =>
      exfalso
      obtain ⟨h1, h2, -, -, -⟩ := unframe_some hu
      rw [List.length_append, List.length_take, Nat.min_eq_left (by omega), List.length_singleton] at h2
      have e : (frameOf b).take r ++ [j] = four b.length ++ (((frameOf b).take r).drop 4 ++ [j]) := by
        rw [← List.append_assoc]
        have h4 : ((frameOf b).take r).take 4 = four b.length := by
          rw [List.take_take, Nat.min_eq_left (by omega), frameOf, List.append_assoc]
          exact List.take_left' rfl
        rw [← h4, List.take_append_drop]
      rw [e, numOf_four _ (by omega)] at h1
      omega
theorem unframe_one (j : UInt8) : unframe [j] = none := by
  cases hu : unframe [j] with
  | none => rfl
  | some x =>
    exfalso
    obtain ⟨-, h2, -, -, -⟩ := unframe_some hu
    simp at h2
theorem risen_take : ∀ (l : List It) (z : Int) (k : Nat), risen z l → risen z (l.take k)
  | [], z, k, h => by simp [risen]
  | p :: r, z, 0, h => trivial
  | p :: r, z, k + 1, h => ⟨h.1, risen_take r _ k h.2⟩
theorem take_past {α : Type} (a b : List α) (r : Nat) : (a ++ b).take (a.length + r) = a ++ b.take r := by
  rw [List.take_append, List.take_of_length_le (by omega), show a.length + r - a.length = r by omega]
theorem scan_torn (its : List It) (hok : ∀ p ∈ its, okIt p) (hz : risen 0 its) (n k : Nat) (hn : n ≤ (catI its).length) (hk : k ≤ its.length) (h1 : (catI (its.take k)).length ≤ n) (h2 : k < its.length → n < (catI (its.take (k + 1))).length) (j : UInt8) (hj : ∀ h : n < (catI its).length, j ≠ (catI its)[n]'h) : scanF ((catI its).take n ++ [j]) 0 = its.take k := by
  obtain ⟨r, hr⟩ : ∃ r, n = (catI (its.take k)).length + r := ⟨n - (catI (its.take k)).length, by omega⟩
  have e0 : catI its = catI (its.take k) ++ catI (its.drop k) := by rw [← catI_app, List.take_append_drop]
  have e1 : (catI its).take n = catI (its.take k) ++ (catI (its.drop k)).take r := by
    rw [e0, hr]
    exact take_past _ _ _
  rw [e1, List.append_assoc, scan_cat _ _ 0 (fun p hp => hok p (List.mem_of_mem_take hp)) (risen_take _ _ _ hz)]
  suffices h : unframe ((catI (its.drop k)).take r ++ [j]) = none by rw [scanF_none h, List.append_nil]
  by_cases hlt : k < its.length
  · have h3 := h2 hlt
    rw [cat_take hlt, List.length_append] at h3
    have hd : its.drop k = its[k]'hlt :: its.drop (k + 1) := List.drop_eq_getElem_cons hlt
    have hok' := hok _ (List.getElem_mem hlt)
    rw [hd, catI_cons] at e0 ⊢
    generalize (its[k]'hlt) = p at e0 h3 hok' ⊢
    have hrl : r < (itB p).length := by omega
    rw [List.take_append, show r - (itB p).length = 0 by omega, List.take_zero, List.append_nil]
    refine unframe_junk _ (Nat.le_trans hok'.len (by omega)) r hrl j (fun e => ?_)
    have hnl : n < (catI its).length := by rw [e0, List.length_append, List.length_append]; omega
    refine hj hnl (e.trans ?_)
    have hg : (catI its)[n]? = (itB p)[r]? := by
      rw [e0, hr, List.getElem?_append_right (by omega), show (catI (its.take k)).length + r - (catI (its.take k)).length = r by omega, List.getElem?_append_left hrl]
    rw [List.getElem?_eq_getElem hnl, List.getElem?_eq_getElem hrl] at hg
    exact (Option.some.inj hg).symm
  · have hd : its.drop k = [] := List.drop_of_length_le (by omega)
    rw [hd]
    show unframe (([] : List UInt8).take r ++ [j]) = none
    rw [List.take_nil]
    exact unframe_one j
theorem torn_len (its : List It) (n k : Nat) (hn : n ≤ (catI its).length) (j : UInt8) : ((catI its).take n ++ [j]).length = n + 1 := by
  rw [List.length_append, List.length_take, Nat.min_eq_left hn]
  rfl
end Go.Proofs.YtaeoafedfgbcaaaGreatDoor.DD

namespace Go.Proofs.YtaeoafedfgbcaaaGreatDoor.DD
set_option linter.unusedVariables false
open Go.RowKit
set_option linter.unusedVariables false

theorem owns_head {w : World} {base T size n C : Nat} {A : Option Addr} {xs : List Value} (h : w.ownsRow base T size (.slice A n C) n xs) (k : Nat) (hk : k ≤ n) : w.ownsRow base T size (.slice A k C) k (xs.take (k * size)) := by
  have hm : k * size ≤ n * size := Nat.mul_le_mul_right size hk
  refine ⟨by rw [List.length_take, h.1, Nat.min_eq_left hm], ?_⟩
  rcases h.2 with ⟨e, h0⟩ | ⟨g, cp0, cur, hv, hb, hg, hc, hmx, hs, ht⟩
  · subst h0
    obtain rfl : k = 0 := by omega
    cases e
    exact .inl ⟨rfl, rfl⟩
  · cases hv
    exact .inr ⟨g, _, cur, rfl, hb, hg, by omega, hmx, hs, by rw [← ht, List.take_take, Nat.min_eq_left hm]⟩
theorem evd2_take : ∀ (l : List El2) (k : Nat), (evd2 l).take (k * 16) = evd2 (l.take k)
  | [], k => by simp [evd2]
  | e :: l, 0 => by simp [evd2]
  | e :: l, k + 1 => by
    show (ev2 e ++ evd2 l).take ((k + 1) * 16) = ev2 e ++ evd2 (l.take k)
    rw [← evd2_take l k, List.take_append, ev2_len, List.take_of_length_le (by rw [ev2_len]; omega), show (k + 1) * 16 - 16 = k * 16 by omega]
theorem int_at {w : World} {base n C : Nat} {A : Option Addr} {xs : List Nat} (h : w.ownsRow base 3 1 (.slice A n C) n (xs.map nI)) (k : Nat) (hk : k < n) : ∃ g x, A = some ⟨g, 0, none⟩ ∧ g < w.heap.size ∧ base ≤ g ∧ xs[k]? = some x ∧ w.cell? ⟨g, k, none⟩ = some (.int .i64 (x : Int)) := by
  have hl := h.1
  rw [List.length_map, Nat.mul_one] at hl
  obtain ⟨g, rfl⟩ : ∃ g, A = some ⟨g, 0, none⟩ := by
    rcases h.2 with ⟨e, h0⟩ | ⟨g, cap, cur, e, _⟩
    · omega
    · cases e; exact ⟨g, rfl⟩
  have hb := h.lt g rfl
  obtain ⟨x, hx⟩ : ∃ x, xs[k]? = some x := ⟨xs[k]'(by omega), List.getElem?_eq_getElem _⟩
  have := h.cells (g := g) rfl k (.int .i64 (x : Int)) (by rw [List.getElem?_map, hx]; rfl)
  rw [show (⟨g, 0, none⟩ : Addr).add k = ⟨g, 0 + k, none⟩ by simp only [Addr.add]; split <;> simp_all, Nat.zero_add] at this
  exact ⟨g, x, rfl, hb.2, hb.1, hx, this⟩
set_option maxRecDepth 100000 in
set_option maxHeartbeats 2000000 in
theorem sameI_any {w : World} {base base' n C C' : Nat} {A A' : Option Addr} {xs : List Nat} (h : w.ownsRow base 3 1 (.slice A n C) n (xs.map nI)) (h' : w.ownsRow base' 3 1 (.slice A' n C') n (xs.map nI)) (hn : n ≤ 4294967296) :
    Calls Tryz.prog 8 #[.slice A n C, .slice A' n C'] w fun e w' => e = .returned (.bool true) ∧ Below w.heap.size w w' := by
  have HA : Hid _ := h
  have HB : Hid _ := h'
  clear h h'
  go_enter Tryz.func8, Tryz.ntmps8
  go_wp2
  go_loopw [5] (fun i wr => ∃ (k q : Nat), k ≤ n ∧ i = .int .i64 k ∧ wr = w.drewN q) (fun i _ => n - (intOf i).toNat)
  case atStart => exact ⟨0, 0, Nat.zero_le _, rfl, rfl⟩
  case round =>
    obtain ⟨k, q, hk, rfl, rfl⟩ := hrel
    by_cases hlt : k < n
    · obtain ⟨g1, x, rfl, -, -, e1, x1⟩ := int_at HA.out k hlt
      obtain ⟨g2, y, rfl, -, -, e2, x2⟩ := int_at HB.out k hlt
      obtain rfl : x = y := Option.some.inj (e1.symm.trans e2)
      clear e1 e2
      have hb : ((x : Int) != (x : Int)) = false := by simp
      go_wp2_with fail
      go_quiet (fail)
      go_wp2
      go_roundw
      case rel => exact ⟨k + 1, q + nq, by omega, by go_num, rfl⟩
      case measure => simp [intOf]; omega
    · go_wp2
      go_ret
      exact ⟨rfl, (Chg.drewN Non w q).below (fun _ h => h.elim) (Nat.le_refl _)⟩
theorem owns_nil' (w : World) (base : Nat) : w.ownsRow base 5 1 (.slice none 0 0) 0 (bv []) := World.ownsRow_nil _ _ _ _
theorem addr_at (g n : Nat) : (⟨g, 0, none⟩ : Addr).add n = ⟨g, n, none⟩ := by
  simp only [Addr.add]
  split <;> simp_all
theorem byte_own {w : World} {base n C g : Nat} {l : List UInt8} (h : w.ownsRow base 5 1 (.slice (some ⟨g, 0, none⟩) n C) n (bv l)) (k : Nat) (x : UInt8) (hx : l[k]? = some x) : w.cell? ⟨g, k, none⟩ = some (.int .u8 (x.toNat : Int)) := by
  have := h.cells (g := g) rfl k (.int .u8 (x.toNat : Int)) (by rw [bv, List.getElem?_map, hx]; rfl)
  rw [addr_at] at this
  exact this
theorem at_end (l : List UInt8) (j : UInt8) (n : Nat) (h : l.length = n) : (l ++ [j])[n]? = some j := by
  rw [List.getElem?_append_right (by omega), h, Nat.sub_self]
  rfl
theorem take_len (l : List UInt8) (n : Nat) (h : n ≤ l.length) : (l.take n).length = n := by rw [List.length_take, Nat.min_eq_left h]
theorem owns_set1 {w : World} {base T g n C : Nat} {xs : List Value} (h : w.ownsRow base T 1 (.slice (some ⟨g, 0, none⟩) n C) n xs) (k : Nat) (hk : k < n) (v : Value) : (w.setCell ⟨g, k, none⟩ v).ownsRow base T 1 (.slice (some ⟨g, 0, none⟩) n C) n (xs.set k v) := by
  refine ⟨by rw [List.length_set]; exact h.1, ?_⟩
  rcases h.2 with ⟨e, h0⟩ | ⟨g', C', cur, hv, hb, hg, hc, hmx, hs, ht⟩
  · cases e
  · cases hv
    refine .inr ⟨g, _, cur.setIfInBounds k v, rfl, hb, heap_set hg k v, hc, hmx, by simpa using hs, ?_⟩
    rw [← ht, Array.toList_setIfInBounds, List.take_set]
theorem xor255n : ∀ x : Fin 256, bits BinOp.xor IntKind.u8 ((x.val : Nat) : Int) 255 = ((x.val ^^^ 255 : Nat) : Int) := by decide +kernel
theorem xor255 (j : UInt8) : bits BinOp.xor IntKind.u8 (j.toNat : Int) 255 = ((j ^^^ 255).toNat : Int) := by
  rw [UInt8.toNat_xor]
  exact xor255n ⟨j.toNat, j.toNat_lt⟩
theorem xor255_ne (j : UInt8) : j ^^^ 255 ≠ j := by
  intro h
  have h1 := congrArg UInt8.toNat h
  rw [UInt8.toNat_xor] at h1
  have : ∀ x : Fin 256, (x.val ^^^ 255 : Nat) ≠ x.val := by decide +kernel
  exact this ⟨j.toNat, j.toNat_lt⟩ h1
theorem bv_set (l : List UInt8) (j j' : UInt8) (n : Nat) (hn : l.length = n) : (bv (l ++ [j])).set n (.int .u8 (j'.toNat : Int)) = bv (l ++ [j']) := by
  subst hn
  simp [bv]
end Go.Proofs.YtaeoafedfgbcaaaGreatDoor.DD

namespace Go.Proofs.YtaeoafedfgbcaaaGreatDoor.DD
set_option linter.unusedVariables false
open Go.RowKit
set_option linter.unusedVariables false

theorem slice_from {w : World} {A : Option Addr} {n C : Nat} {l : List UInt8} (h : Bs w (.slice A n C) l) (t : Nat) (ht : t ≤ l.length) : ∃ A', (∀ w', (Instr.sliceAt 22 (.slice A n C) (some (.int .i64 (t : Int))) none none).run Tryz.prog w' = .ok (.slice A' (l.length - t) (C - t)) w') ∧ Bs w (.slice A' (l.length - t) (C - t)) (l.drop t) := by
  have hu := Tryz.underlying22
  have hs : ∀ w, (sizeOf 5).run Tryz.prog w = .ok 1 w := fun _ => by kernel_rfl
  rcases h with ⟨h, rfl⟩ | ⟨ad, c, h, rfl⟩ | ⟨h0, b, o, c, hv, h1, h2, h3⟩
  · cases h
    obtain rfl : t = 0 := by simpa using ht
    exact ⟨none, fun w' => by simp [Instr.sliceAt, Instr.slice, Instr.sliceBounds, Instr.sliceBound, asIntOf, run_underlying hu, hs, Result.andThen], Bs.nil w⟩
  · cases h
    obtain rfl : t = 0 := by simpa using ht
    refine ⟨some (if C = 0 then ad else ad.add 0), fun w' => ?_, .inr (.inl ⟨_, _, rfl, rfl⟩)⟩
    by_cases hC : C = 0 <;> simp [Instr.sliceAt, Instr.slice, Instr.sliceBounds, Instr.sliceBound, asIntOf, run_underlying hu, hs, Result.andThen, hC]
  · cases hv
    refine ⟨some (if C = t then ⟨b, o, none⟩ else ⟨b, o + t, none⟩), fun w' => ?_, ?_⟩
    · by_cases hC : C = t
      · subst hC
        simp [Instr.sliceAt, Instr.slice, Instr.sliceBounds, Instr.sliceBound, asIntOf, run_underlying hu, hs, Result.andThen, ht]
      · simp [Instr.sliceAt, Instr.slice, Instr.sliceBounds, Instr.sliceBound, asIntOf, run_underlying hu, hs, Result.andThen, ht, hC, Addr.add]
    · by_cases hC : C = t
      · rw [if_pos hC, List.drop_of_length_le (by omega), show l.length - t = 0 by omega]
        exact Bs.none'
      · rw [if_neg hC]
        exact Bs.tail h3 h2 t rfl (by omega)
structure Rs (l : List UInt8) (w0 : World) (its : List It) (els : List El2) (Ad : Option Addr) (Cd : Nat) (Ae : Option Addr) (Ce t : Nat) (W : World) : Prop where
  el : els.map El2.p = its
  rd : W.ownsRow w0.heap.size 41 16 (.slice Ad its.length Cd) its.length (evd2 els)
  re : W.ownsRow w0.heap.size 3 1 (.slice Ae its.length Ce) its.length ((endsF 0 its).map nI)
  at' : ∀ e ∈ els, EAt W (fun k => (Value.slice Ad its.length Cd).ownBlock = some k ∨ (Value.slice Ae its.length Ce).ownBlock = some k) e
  tt : t = (catI its).length
  tl : t ≤ l.length
  sc : scanF l 0 = its ++ scanF (l.drop t) (lastZ 0 its)
  bel : Below w0.heap.size w0 W
theorem Rs.start (l : List UInt8) (w0 : World) : Rs l w0 [] [] none 0 none 0 0 w0 :=
  ⟨rfl, World.ownsRow_nil _ _ _ _, World.ownsRow_nil _ _ _ _, fun _ h => (nomatch h), rfl, Nat.zero_le _, rfl, Below.refl _ _⟩
theorem Rs.below {l : List UInt8} {w0 : World} {its : List It} {els : List El2} {Ad : Option Addr} {Cd : Nat} {Ae : Option Addr} {Ce t : Nat} {W W' : World} (h : Rs l w0 its els Ad Cd Ae Ce t W) (hb : Below W.heap.size W W') : Rs l w0 its els Ad Cd Ae Ce t W' :=
  ⟨h.el, owns_keep h.rd (Chg.of_below hb) (fun _ _ e => e), owns_keep h.re (Chg.of_below hb) (fun _ _ e => e), fun e he => (h.at' e he).keep (Chg.of_below hb) (fun k _ hn => ⟨fun e => e, hn⟩), h.tt, h.tl, h.sc, h.bel.trans (hb.mono h.bel.size)⟩
theorem appD2 {W : World} {base k C : Nat} {A : Option Addr} {xs : List Value} (ho : W.ownsRow base 41 16 (.slice A k C) k xs) (hb : base ≤ W.heap.size) (hk : k ≤ 4294967296) (cells : Array Value) (hc : cells.size = 16) (h1 : ∀ u ∈ cells.toList, u.oneCell' = true) :
    ∃ g cap W1, (Builtin.append_ #[24, 24] 24 #[.slice A k C, .slice (some ⟨W.heap.size, 0, none⟩) 1 1]).run Tryz.prog (W.alloc (.cells cells 41)) = .ok (.slice (some ⟨g, 0, none⟩) (k + 1) cap) W1 ∧
      W1.ownsRow base 41 16 (.slice (some ⟨g, 0, none⟩) (k + 1) cap) (k + 1) (xs ++ cells.toList) ∧
      Chg (fun i => (Value.slice A k C).ownBlock = some i) W W1 ∧ ((Value.slice A k C).ownBlock = some g ∨ W.heap.size ≤ g) := by
  obtain ⟨i0, hi, hz0, hz1, hz2⟩ := info_parts infoD
  obtain ⟨g, cap, W1, hr, h2, h3, h4, h5⟩ := run_append_lies (P := Tryz.prog) (W.alloc (.cells cells 41)) 24 24 base 41 i0 _ 16 184 Tryz.underlying24 hi hz0 hz1 hz2 rfl (by decide) (.slice A k C) k xs (ho.alloc _) ⟨W.heap.size, 0, none⟩ 1 1 cells.toList (by rw [Array.length_toList, hc]) (World.news_of_block (heap_alloc_new W _)) h1 (by omega) (by unfold maxLen; omega) (by omega) (by simp; omega) (W.heap.size + 1) (by simp)
  exact ⟨g, cap, W1, hr, h2, (Chg.alloc _ W _).trans (Chg.of_grown h3), h4.imp id (fun e => by omega)⟩
theorem wpList_run_append {P : Program} {w w' : World} {ops : Array Oper} {rest : List Oper} {o : Oper} {a : Act} {Q : Exit → Act → World → Prop} (hg : o.guard = none) (s x : Operand) (t : TypeId) (hop : o.op = Op.call { callee := Callee.builtin Builtin.append, args := #[s, x], argTypes := #[t, t] }) {v u v' : Value} (hs : a.eval s = v) (hx : a.eval x = u)
    (hrun : (Builtin.append_ #[t, t] o.type #[v, u]).run P w = .ok v' w') (h : wpList P ops Q rest (a.put o.dst v') w') : wpList P ops Q (o :: rest) a w := by
  refine wpList_plain hg fun K hK => ?_
  unfold Oper.wp execOp
  simp only [hop, resolve, invoke, builtin, Sem.run_bind, Sem.run_pure, Result.andThen_ok, List.map_toArray, List.map_cons, List.map_nil, hs, hx, hrun]
  exact hK _ _ h
/- What the two appends of a round make. -/
theorem rs_runs {l : List UInt8} {w0 : World} {its : List It} {els : List El2} {Ad : Option Addr} {Cd : Nat} {Ae : Option Addr} {Ce t : Nat} {W : World} (h : Rs l w0 its els Ad Cd Ae Ce t W) (hl : l.length ≤ 4294967296) {x : List UInt8} {f : Fl} {ps : List Fl} (hu : unframe (l.drop t) = some x) (hd : deedOf x = some (f, ps)) (hz : ¬ f.zxid ≤ lastZ 0 its) {A1 A2 A3 : Option Addr} {c1 c2 c3 : Nat} (he : EAt W (fun k => (Value.slice Ad its.length Cd).ownBlock = some k ∨ (Value.slice Ae its.length Ce).ownBlock = some k) ⟨(f, ps), A1, c1, A2, c2, A3, c3⟩) :
    ∃ g6 C6 w6 g7 C7 w7,
      (Builtin.append_ #[24, 24] 24 #[.slice Ad its.length Cd, .slice (some ⟨W.heap.size, 0, none⟩) 1 1]).run Tryz.prog (W.alloc (.cells #[.int .i64 f.zxid, .int .u8 f.kind, .int .i64 f.session, .int .i64 f.turn, .int .i64 f.xid, .int .i64 f.time, .string (mkS f.path), .slice A1 f.data.length c1, .int .i64 f.owner, .int .i64 f.version, .int .i64 f.cversion, .int .i64 f.timeout, .int .i64 f.err, .int .i64 f.cver, .slice A2 f.mems.length c2, .slice A3 f.np c3] 41)) = .ok (.slice (some ⟨g6, 0, none⟩) (its.length + 1) C6) w6 ∧
      (Builtin.append_ #[25, 25] 25 #[.slice Ae its.length Ce, .slice (some ⟨w6.heap.size, 0, none⟩) 1 1]).run Tryz.prog (w6.alloc (.cells #[.int .i64 ((t + (8 + x.length) : Nat) : Int)] 3)) = .ok (.slice (some ⟨g7, 0, none⟩) (its.length + 1) C7) w7 ∧
      Rs l w0 (its ++ [(f, ps)]) (els ++ [⟨(f, ps), A1, c1, A2, c2, A3, c3⟩]) (some ⟨g6, 0, none⟩) C6 (some ⟨g7, 0, none⟩) C7 (t + (8 + x.length)) w7 ∧ t + (8 + x.length) ≤ l.length := by
  have hit : 8 * its.length ≤ t := by rw [h.tt]; exact catI_ge _
  have htl := h.tl
  obtain ⟨g6, C6, w6, hr6, ho6, c56, hg6⟩ := appD2 h.rd h.bel.size (by omega) #[.int .i64 f.zxid, .int .u8 f.kind, .int .i64 f.session, .int .i64 f.turn, .int .i64 f.xid, .int .i64 f.time, .string (mkS f.path), .slice A1 f.data.length c1, .int .i64 f.owner, .int .i64 f.version, .int .i64 f.cversion, .int .i64 f.timeout, .int .i64 f.err, .int .i64 f.cver, .slice A2 f.mems.length c2, .slice A3 f.np c3] rfl (ev2_one ⟨(f, ps), A1, c1, A2, c2, A3, c3⟩)
  have ap3 : ∀ j, (Value.slice Ad its.length Cd).ownBlock = some j → (Value.slice Ae its.length Ce).ownBlock ≠ some j := by
    intro j e1 e2
    obtain ⟨x1, g1⟩ := own_cells h.rd e1
    obtain ⟨x2, g2⟩ := own_cells h.re e2
    rw [g1] at g2
    cases g2
  have re6 := owns_keep h.re c56 (fun j e1 e2 => ap3 j e2 e1)
  have b6 : Below w0.heap.size w0 w6 := h.bel.trans (c56.below (fun j e => (h.rd.lt j e).1) h.bel.size)
  obtain ⟨g7, C7, w7, hr7, ho7, c67, hg7⟩ := appI re6 b6.size (by omega) ((t + (8 + x.length) : Nat) : Int)
  have ap6 : ∀ j, (Value.slice Ae its.length Ce).ownBlock = some j → (Value.slice (some ⟨g6, 0, none⟩) (its.length + 1) C6).ownBlock ≠ some j := by
    intro j e1 e2
    obtain ⟨x1, g1⟩ := own_cells re6 e1
    obtain ⟨x2, g2⟩ := own_cells ho6 e2
    rw [g1] at g2
    cases g2
  have rd7 := owns_keep ho6 c67 (fun j e1 e2 => ap6 j e2 e1)
  have b7 : Below w0.heap.size w0 w7 := b6.trans (c67.below (fun j e => (re6.lt j e).1) b6.size)
  obtain ⟨hx1, hx2, hx3⟩ := unframe_whole hu
  rw [List.length_drop] at hx3
  have hxb : x = deedB f ps := ((deedOf_iff x f ps).1 hd).1
  have e1 : (its ++ [(f, ps)]).length = its.length + 1 := by simp
  have e4 : (itB (f, ps)).length = 8 + x.length := by rw [itB_len, hxb]
  have e3 : (catI (its ++ [(f, ps)])).length = t + (8 + x.length) := by rw [catI_app, catI_one, List.length_append, e4, ← h.tt]
  have key : ∀ e, EAt W (fun k => (Value.slice Ad its.length Cd).ownBlock = some k ∨ (Value.slice Ae its.length Ce).ownBlock = some k) e → EAt w7 (fun k => (Value.slice (some ⟨g6, 0, none⟩) (its.length + 1) C6).ownBlock = some k ∨ (Value.slice (some ⟨g7, 0, none⟩) (its.length + 1) C7).ownBlock = some k) e := by
    intro e he
    refine he.keep (S := fun k => (Value.slice Ad its.length Cd).ownBlock = some k ∨ (Value.slice Ae its.length Ce).ownBlock = some k) ((c56.weak (fun _ _ e => .inl e)).trans (c67.weak (fun _ _ e => .inr e))) (fun k hk hn => ⟨hn, fun e => ?_⟩)
    rcases e with e | e
    · have e' : g6 = k := Option.some.inj e
      subst e'
      rcases hg6 with q | q
      · exact hn (.inl q)
      · omega
    · have e' : g7 = k := Option.some.inj e
      subst e'
      rcases hg7 with q | q
      · exact hn (.inr q)
      · have := c56.size; omega
  refine ⟨g6, C6, w6, g7, C7, w7, hr6, hr7, ⟨by rw [List.map_append, h.el]; rfl, ?_, ?_, ?_, e3.symm, by omega, ?_, b7⟩, by omega⟩
  · rw [e1, evd2_app]; exact rd7
  · rw [e1, endsF_app, List.map_append, Nat.zero_add, e4, ← h.tt]; exact ho7
  · rw [e1]
    intro e he'
    rcases List.mem_append.1 he' with q | q
    · exact key e (h.at' e q)
    · rw [List.mem_singleton.1 q]; exact key _ he
  · rw [h.sc, scanF_step hu hd hz, List.drop_drop, lastZ_app, List.append_assoc]
    rfl
end Go.Proofs.YtaeoafedfgbcaaaGreatDoor.DD
