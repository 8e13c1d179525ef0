/- SameDeeds at two rows of right deeds, with parts. What is told of any bytes, put again: the walk of SegmentAgain. -/
import Derived.Test.YtaeoafedfgbcaaaDoorSgYa
import Derived.Deep.QuietTactic
namespace Go.Proofs.YtaeoafedfgbcaaaDoor.DD
set_option linter.unusedVariables false
open Go.RowKit Go.Sort
set_option linter.unusedVariables false

theorem right_small' {f : Fl} {ps : List Fl} (hf : DedFit f ps) (hr : rightD f ps = true) : f.data.length ≤ 1000 ∧ ps.length ≤ 500 ∧ ∀ p ∈ ps, p.np = 0 ∧ p.data.length ≤ 1000 := by
  have h := rightD_fits hr
  have hc := com_parts (fits_com h).1
  cases hp : hasParts f.kind with
  | false =>
    have h0 := np_zero hc.1 hp
    have : ps = [] := List.length_eq_zero_iff.1 (by rw [← hf.len]; exact h0)
    subst this
    exact ⟨hc.2.1, by simp, by simp⟩
  | true =>
    have hs := fits_parts h hp
    refine ⟨hc.2.1, hs.1, fun p hp => ?_⟩
    obtain ⟨h1, h2, h3⟩ := hs.2 p hp
    have hc' := com_parts (leaf_parts h3).2.1
    refine ⟨np_zero hc'.1 ?_, hc'.2.1⟩
    unfold isNode at h1
    unfold hasParts
    simp only [Bool.or_eq_true, decide_eq_true_eq] at h1
    simp only [Bool.or_eq_false_iff, decide_eq_false_iff_not]
    omega
set_option maxRecDepth 100000 in
set_option maxHeartbeats 4000000 in
theorem sameEls {w : World} {base base' n C C' : Nat} {A A' : Option Addr} {els els' : List El2} (h : w.ownsRow base 33 16 (.slice A n C) n (evd2 els)) (h' : w.ownsRow base' 33 16 (.slice A' n C') n (evd2 els')) (hn : els.length = n) (hp : els.map El2.p = els'.map El2.p) (hd : ∀ e ∈ els, DV w e) (hd' : ∀ e ∈ els', DV w e) (hok : ∀ e ∈ els, okIt e.p) (hl : n ≤ 1000000) :
    Calls Tryd.prog 11 #[.slice A n C, .slice A' n C'] w fun e w' => e = .returned (.bool true) ∧ Below w.heap.size w w' := by
  have HR : Hid _ := h
  have HR' : Hid _ := h'
  have HN : Hid (els.length = n) := hn
  have HP : Hid (els.map El2.p = els'.map El2.p) := hp
  have HD : Hid (∀ e ∈ els, DV w e) := hd
  have HD' : Hid (∀ e ∈ els', DV w e) := hd'
  have HK : Hid (∀ e ∈ els, okIt e.p) := hok
  clear h h' hn hp hd hd' hok
  go_enter Tryd.func11, Tryd.ntmps11
  go_wp2_with fail
  go_loopw [5] (fun c wr => ∃ k : Nat, k ≤ n ∧ c = .int .i64 k ∧ Below w.heap.size w wr) (fun c _ => n - (intOf c).toNat)
  case atStart => exact ⟨0, by omega, rfl, Below.refl _ _⟩
  case round =>
    obtain ⟨k, hk, rfl, hB⟩ := hrel
    have HB : Hid (Below w.heap.size w wr) := hB
    clear hB
    by_cases hlt : k < n
    · have hkl : k < els.length := by have := HN.out; omega
      have hkl' : k < els'.length := by have := congrArg List.length HP.out; rw [List.length_map, List.length_map] at this; omega
      have hep : (els[k]'hkl).p = (els'[k]'hkl').p := by
        have := List.getElem_of_eq HP.out (i := k) (by rw [List.length_map]; exact hkl)
        rw [List.getElem_map, List.getElem_map] at this
        exact this
      have hO := owns_keep HR.out (Chg.of_below HB.out) (fun _ _ e => e)
      have hO' := owns_keep HR'.out (Chg.of_below HB.out) (fun _ _ e => e)
      obtain ⟨g, rfl⟩ : ∃ g, A = some ⟨g, 0, none⟩ := by
        rcases HR.out.2 with ⟨h, h0⟩ | ⟨g, cap, cur, h, _⟩
        · omega
        · cases h; exact ⟨g, rfl⟩
      obtain ⟨g', rfl⟩ : ∃ g, A' = some ⟨g, 0, none⟩ := by
        rcases HR'.out.2 with ⟨h, h0⟩ | ⟨g, cap, cur, h, _⟩
        · omega
        · cases h; exact ⟨g, rfl⟩
      have hra := row_cells hO k hkl
      have hra' := row_cells hO' k hkl'
      have hdv : DV wr (els[k]'hkl) := (HD.out _ (List.getElem_mem hkl)).grow HB.out
      have hdv' : DV wr (els'[k]'hkl') := (HD'.out _ (List.getElem_mem hkl')).grow HB.out
      have hok := HK.out _ (List.getElem_mem hkl)
      generalize (els[k]'hkl) = e0 at hep hra hdv hok
      generalize (els'[k]'hkl') = e1 at hep hra' hdv'
      obtain ⟨⟨f, ps⟩, A1, c1, A2, c2, A3, c3⟩ := e0
      obtain ⟨p', B1, d1, B2, d2, B3, d3⟩ := e1
      dsimp only at hep
      subst hep
      have hok' : okIt (f, ps) := hok
      have hsm := right_small' (f := f) (ps := ps) hok'.2 hok'.1
      have hmm := right_mems (f := f) (ps := ps) hok'.2 hok'.1
      have dQ := fun d os => Calls.regrown_of (sameD_any f ps A1 A2 A3 B1 B2 B3 c1 c2 c3 d1 d2 d3 (grow (redrawn wr d) os) hmm.1 (by have := hsm.1; omega) (by have := hsm.2.1; omega) hok'.2.len (fun p hp => ⟨(hsm.2.2 p hp).1, hmm.2 p hp, by have := (hsm.2.2 p hp).2; omega⟩) (DVal.grow hdv (below_regrown wr d os)) (DVal.grow hdv' (below_regrown wr d os)))
      have z0 : wr.cell? ⟨g, k * 16, none⟩ = some (.int .i64 f.zxid) := hra 0 _ rfl
      have z1 : wr.cell? ⟨g, k * 16 + 1, none⟩ = some (.int .u8 f.kind) := hra 1 _ rfl
      have z2 : wr.cell? ⟨g, k * 16 + 2, none⟩ = some (.int .i64 f.session) := hra 2 _ rfl
      have z3 : wr.cell? ⟨g, k * 16 + 3, none⟩ = some (.int .i64 f.turn) := hra 3 _ rfl
      have z4 : wr.cell? ⟨g, k * 16 + 4, none⟩ = some (.int .i64 f.xid) := hra 4 _ rfl
      have z5 : wr.cell? ⟨g, k * 16 + 5, none⟩ = some (.int .i64 f.time) := hra 5 _ rfl
      have z6 : wr.cell? ⟨g, k * 16 + 6, none⟩ = some (.string (mkS f.path)) := hra 6 _ rfl
      have z7 : wr.cell? ⟨g, k * 16 + 7, none⟩ = some (.slice A1 f.data.length c1) := hra 7 _ rfl
      have z8 : wr.cell? ⟨g, k * 16 + 8, none⟩ = some (.int .i64 f.owner) := hra 8 _ rfl
      have z9 : wr.cell? ⟨g, k * 16 + 9, none⟩ = some (.int .i64 f.version) := hra 9 _ rfl
      have z10 : wr.cell? ⟨g, k * 16 + 10, none⟩ = some (.int .i64 f.cversion) := hra 10 _ rfl
      have z11 : wr.cell? ⟨g, k * 16 + 11, none⟩ = some (.int .i64 f.timeout) := hra 11 _ rfl
      have z12 : wr.cell? ⟨g, k * 16 + 12, none⟩ = some (.int .i64 f.err) := hra 12 _ rfl
      have z13 : wr.cell? ⟨g, k * 16 + 13, none⟩ = some (.int .i64 f.cver) := hra 13 _ rfl
      have z14 : wr.cell? ⟨g, k * 16 + 14, none⟩ = some (.slice A2 f.mems.length c2) := hra 14 _ rfl
      have z15 : wr.cell? ⟨g, k * 16 + 15, none⟩ = some (.slice A3 f.np c3) := hra 15 _ rfl
      have y0 : wr.cell? ⟨g', k * 16, none⟩ = some (.int .i64 f.zxid) := hra' 0 _ rfl
      have y1 : wr.cell? ⟨g', k * 16 + 1, none⟩ = some (.int .u8 f.kind) := hra' 1 _ rfl
      have y2 : wr.cell? ⟨g', k * 16 + 2, none⟩ = some (.int .i64 f.session) := hra' 2 _ rfl
      have y3 : wr.cell? ⟨g', k * 16 + 3, none⟩ = some (.int .i64 f.turn) := hra' 3 _ rfl
      have y4 : wr.cell? ⟨g', k * 16 + 4, none⟩ = some (.int .i64 f.xid) := hra' 4 _ rfl
      have y5 : wr.cell? ⟨g', k * 16 + 5, none⟩ = some (.int .i64 f.time) := hra' 5 _ rfl
      have y6 : wr.cell? ⟨g', k * 16 + 6, none⟩ = some (.string (mkS f.path)) := hra' 6 _ rfl
      have y7 : wr.cell? ⟨g', k * 16 + 7, none⟩ = some (.slice B1 f.data.length d1) := hra' 7 _ rfl
      have y8 : wr.cell? ⟨g', k * 16 + 8, none⟩ = some (.int .i64 f.owner) := hra' 8 _ rfl
      have y9 : wr.cell? ⟨g', k * 16 + 9, none⟩ = some (.int .i64 f.version) := hra' 9 _ rfl
      have y10 : wr.cell? ⟨g', k * 16 + 10, none⟩ = some (.int .i64 f.cversion) := hra' 10 _ rfl
      have y11 : wr.cell? ⟨g', k * 16 + 11, none⟩ = some (.int .i64 f.timeout) := hra' 11 _ rfl
      have y12 : wr.cell? ⟨g', k * 16 + 12, none⟩ = some (.int .i64 f.err) := hra' 12 _ rfl
      have y13 : wr.cell? ⟨g', k * 16 + 13, none⟩ = some (.int .i64 f.cver) := hra' 13 _ rfl
      have y14 : wr.cell? ⟨g', k * 16 + 14, none⟩ = some (.slice B2 f.mems.length d2) := hra' 14 _ rfl
      have y15 : wr.cell? ⟨g', k * 16 + 15, none⟩ = some (.slice B3 f.np d3) := hra' 15 _ rfl
      have z0 := fun d os => cell_regrown z0 d os
      have z1 := fun d os => cell_regrown z1 d os
      have z2 := fun d os => cell_regrown z2 d os
      have z3 := fun d os => cell_regrown z3 d os
      have z4 := fun d os => cell_regrown z4 d os
      have z5 := fun d os => cell_regrown z5 d os
      have z6 := fun d os => cell_regrown z6 d os
      have z7 := fun d os => cell_regrown z7 d os
      have z8 := fun d os => cell_regrown z8 d os
      have z9 := fun d os => cell_regrown z9 d os
      have z10 := fun d os => cell_regrown z10 d os
      have z11 := fun d os => cell_regrown z11 d os
      have z12 := fun d os => cell_regrown z12 d os
      have z13 := fun d os => cell_regrown z13 d os
      have z14 := fun d os => cell_regrown z14 d os
      have z15 := fun d os => cell_regrown z15 d os
      have y0 := fun d os => cell_regrown y0 d os
      have y1 := fun d os => cell_regrown y1 d os
      have y2 := fun d os => cell_regrown y2 d os
      have y3 := fun d os => cell_regrown y3 d os
      have y4 := fun d os => cell_regrown y4 d os
      have y5 := fun d os => cell_regrown y5 d os
      have y6 := fun d os => cell_regrown y6 d os
      have y7 := fun d os => cell_regrown y7 d os
      have y8 := fun d os => cell_regrown y8 d os
      have y9 := fun d os => cell_regrown y9 d os
      have y10 := fun d os => cell_regrown y10 d os
      have y11 := fun d os => cell_regrown y11 d os
      have y12 := fun d os => cell_regrown y12 d os
      have y13 := fun d os => cell_regrown y13 d os
      have y14 := fun d os => cell_regrown y14 d os
      have y15 := fun d os => cell_regrown y15 d os
      have i1 : (k : Int) < (n : Int) := by omega
      clear hO hO' hra hra' hdv hdv' hsm hmm hok hok'
      go_wp2_with fail
      refine wp_region_quiet_below (by kernel_rfl) (by kernel_rfl) ?_
      repeat (go_big_quiet_step ((go_at_call 23; exact dQ _ _)))
      refine wpQuiet_nil ?_
      intro _ hw'
      obtain ⟨⟨dq, osq⟩, hw''⟩ := hw'
      subst hw''
      have HB3 : Hid (Below w.heap.size w (grow (redrawn wr dq) osq)) := below_rg' HB.out dq osq
      clear z0 z1 z2 z3 z4 z5 z6 z7 z8 z9 z10 z11 z12 z13 z14 z15 y0 y1 y2 y3 y4 y5 y6 y7 y8 y9 y10 y11 y12 y13 y14 y15 dQ
      go_wp2
      exact ⟨⟨k + 1, by omega, by go_num, HB3.out⟩, by simp [intOf]; omega⟩
    · go_wp2
      go_ret
      exact ⟨rfl, HB.out⟩
end Go.Proofs.YtaeoafedfgbcaaaDoor.DD

namespace Go.Proofs.YtaeoafedfgbcaaaDoor.DD
set_option linter.unusedVariables false
open Go.RowKit Go.Sort
set_option linter.unusedVariables false

theorem same_x {x y : Value} {la : List UInt8} {w : World} (hA : Bs w x la) (hB : Bs w y la) (hm : la.length ≤ 140737488355328) : Calls Tryd.prog 13 #[x, y] w fun e w' => e = .returned (.bool true) ∧ Below w.heap.size w w' := by
  refine (same_any hA hB hm).mono ?_
  rintro e w' ⟨rfl, q, rfl⟩
  exact ⟨by rw [decide_eq_true rfl], (Chg.drewN Non w q).below (fun _ h => h.elim) (Nat.le_refl _)⟩
theorem wrap64_id {n : Int} (h1 : -9223372036854775808 ≤ n) (h2 : n < 9223372036854775808) : IntKind.i64.wrap n = n := by
  simp [IntKind.wrap, IntKind.bits, IntKind.signed]
  omega
theorem ends_at : ∀ (l : List It) (t k : Nat), k < l.length → (endsF t l)[k]? = some (t + (catI (l.take (k + 1))).length)
  | [], t, k, h => by simp at h
  | p :: r, t, 0, h => by simp [endsF, catI]
  | p :: r, t, k + 1, h => by
    show (endsF (t + (itB p).length) r)[k]? = _
    rw [ends_at r _ k (by simpa using h), List.take_succ_cons, catI_cons, List.length_append, Nat.add_assoc]
theorem risen_at : ∀ (l : List It) (z : Int) (k : Nat) (h : k + 1 < l.length), risen z l → (l[k]'(by omega)).1.zxid < (l[k + 1]'h).1.zxid
  | [], z, k, h, _ => by simp at h
  | [p], z, k, h, _ => by simp at h
  | p :: q :: r, z, 0, h, hr => hr.2.1
  | p :: q :: r, z, k + 1, h, hr => risen_at (q :: r) p.1.zxid k (by simpa using h) hr.2
theorem cat_take {l : List It} {k : Nat} (h : k < l.length) : catI (l.take (k + 1)) = catI (l.take k) ++ itB (l[k]'h) := by
  rw [List.take_succ_eq_append_getElem h, catI_app, catI_one]
theorem cat_le (l : List It) (k : Nat) : (catI (l.take k)).length ≤ (catI l).length := by
  conv => rhs; rw [← List.take_append_drop k l, catI_app, List.length_append]
  omega
theorem scan_len (l : List UInt8) : (catI (scanF l 0)).length ≤ l.length := by
  obtain ⟨r, h, -, -⟩ := scan_spec l.length l 0 (Nat.le_refl _)
  conv => rhs; rw [h, List.length_append]
  omega
theorem scan_take (l : List UInt8) : l.take (catI (scanF l 0)).length = catI (scanF l 0) := by
  obtain ⟨r, h, -, -⟩ := scan_spec l.length l 0 (Nat.le_refl _)
  conv => lhs; rw [h]
  rw [← h]
  exact (congrArg (List.take (catI (scanF l 0)).length) h).trans List.take_left
theorem scan_again (l : List UInt8) : scanF (catI (scanF l 0)) 0 = scanF l 0 := by
  obtain ⟨r, h, h1, h2⟩ := scan_spec l.length l 0 (Nat.le_refl _)
  have := scan_cat (scanF l 0) [] 0 h1 h2
  rw [List.append_nil] at this
  rw [this]
  show scanF l 0 ++ [] = _
  rw [List.append_nil]
theorem bs_first {w : World} {A : Option Addr} {n C : Nat} {l : List UInt8} (h : Bs w (.slice A n C) l) (k : Nat) (hk : k ≤ l.length) : Bs w (.slice A k C) (l.take k) := by
  rcases h with ⟨h, rfl⟩ | ⟨ad, c, h, rfl⟩ | ⟨h0, b, o, c, hv, h1, h2, h3⟩
  · cases h
    obtain rfl : k = 0 := by simpa using hk
    exact Bs.nil w
  · cases h
    obtain rfl : k = 0 := by simpa using hk
    exact .inr (.inl ⟨_, _, rfl, rfl⟩)
  · cases hv
    exact Bs.mk b o C (by rw [List.length_take]; omega) (by rw [List.length_take]; omega) h2 (fun j hj => by
      rw [List.length_take] at hj
      rw [h3 j (by omega), List.getElem_take])
theorem bs_cap {w : World} {A : Option Addr} {n C : Nat} {l : List UInt8} (h : Bs w (.slice A n C) l) : l.length ≤ C := by
  rcases h with ⟨h, rfl⟩ | ⟨ad, c, h, rfl⟩ | ⟨h0, b, o, c, hv, h1, h2, h3⟩
  · exact Nat.zero_le _
  · exact Nat.zero_le _
  · cases hv; exact h1
theorem slice_run {A : Option Addr} {n C J : Nat} (h : J ≤ C) (w : World) : (Instr.sliceAt 25 (.slice A n C) none (some (.int .i64 (J : Int))) none).run Tryd.prog w = .ok (.slice A J C) w := by
  have hu := Tryd.underlying25
  have hs : ∀ w, (sizeOf 5).run Tryd.prog w = .ok 1 w := fun _ => by kernel_rfl
  cases A <;> simp [Instr.sliceAt, Instr.slice, Instr.sliceBounds, Instr.sliceBound, asIntOf, run_underlying hu, hs, Result.andThen, h, Addr.add]
theorem fin_drew {its : List It} {w2 w4 : World} {v i i' : Value} (h : ∃ (k' : Nat) (Av : Option Addr) (Cv : Nat), k' ≤ its.length ∧ i = .int .i64 k' ∧ v = .slice Av (catI (its.take k')).length Cv ∧ w4.ownsRow w2.heap.size 5 1 v (catI (its.take k')).length (bv (catI (its.take k'))) ∧ Below w2.heap.size w2 w4) (q : Nat) (hi : i' = i) :
    ∃ (k' : Nat) (Av : Option Addr) (Cv : Nat), k' ≤ its.length ∧ i' = .int .i64 k' ∧ v = .slice Av (catI (its.take k')).length Cv ∧ (w4.drewN q).ownsRow w2.heap.size 5 1 v (catI (its.take k')).length (bv (catI (its.take k'))) ∧ Below w2.heap.size w2 (w4.drewN q) := by
  obtain ⟨k', Av, Cv, h1, h2, h3, h4, h5⟩ := h
  exact ⟨k', Av, Cv, h1, hi.trans h2, h3, owns_keep h4 (Chg.drewN Non w4 q) (fun _ _ e => e), h5.trans ((Chg.drewN Non w4 q).below (fun _ e => e.elim) h5.size)⟩
set_option maxRecDepth 100000 in
set_option maxHeartbeats 8000000 in
theorem again_any {w : World} {x : Value} {l : List UInt8} (hx : Bs w x l) (hL : PA.Laid w) :
    Calls Tryd.prog 4 #[x] w fun e w' => e = .returned (.bool true) ∧ Below w.heap.size w w' := by
  have HL : Hid (PA.Laid w) := hL
  have HX : Hid (Bs w x l) := hx
  obtain ⟨A, C, rfl⟩ := bs_form hx
  clear hx hL
  have haw := awake_seg w HL.out
  go_enter Tryd.func4, Tryd.ntmps4
  go_wp2_with fail
  refine haw.mono ?_
  rintro e w1 ⟨rfl, hB1⟩
  have HB1 : Hid (Below w.heap.size w w1) := hB1
  have hx1 : Bs w1 (.slice A l.length C) l := Bs.below' HX.out hB1
  clear haw hB1
  by_cases hbig : (60000 : Int) < (l.length : Int)
  · go_wp2
    go_ret
    exact ⟨rfl, HB1.out⟩
  · have hsc := scan_any hx1 (by omega) (HL.out.below HB1.out)
    have HX1 : Hid (Bs w1 (.slice A l.length C) l) := hx1
    have hn0 := scan_len l
    have HN : Hid ((catI (scanF l 0)).length ≤ l.length) := hn0
    have HIL : Hid (8 * (scanF l 0).length ≤ (catI (scanF l 0)).length) := catI_ge _
    obtain ⟨r0, hr0, hok0, hri0⟩ := scan_spec l.length l 0 (Nat.le_refl _)
    have HOK : Hid (∀ p ∈ scanF l 0, okIt p) := hok0
    have HRI : Hid (risen 0 (scanF l 0)) := hri0
    have HTK : Hid (l.take (catI (scanF l 0)).length = catI (scanF l 0)) := scan_take l
    have HAG : Hid (scanF (catI (scanF l 0)) 0 = scanF l 0) := scan_again l
    clear hr0 hok0 hri0 hx1 hn0
    generalize hits : scanF l 0 = its at hsc HN HIL HOK HRI HTK HAG
    clear hits
    obtain ⟨N, hN⟩ : ∃ N, N = (catI its).length := ⟨_, rfl⟩
    rw [← hN] at hsc
    have HNN : Hid (N = (catI its).length) := hN
    have hNl : N ≤ l.length := by have := HN.out; omega
    clear hN
    go_wp2_with fail
    refine hsc.mono ?_
    rintro e w2 ⟨els, vd, ve, rfl, hel, hrd, hre, hdv, hB2⟩
    obtain ⟨Ad, Cd, rfl⟩ := owns_form' hrd
    obtain ⟨Ae, Ce, rfl⟩ := owns_form' hre
    have HEL : Hid (els.map El2.p = its) := hel
    have HRD : Hid _ := hrd
    have HRE : Hid _ := hre
    have HDV : Hid (∀ e ∈ els, DV w2 e) := hdv
    have HB2 : Hid (Below w.heap.size w w2) := HB1.out.trans (hB2.mono HB1.out.size)
    have HX2 : Hid (Bs w2 (.slice A l.length C) l) := Bs.below' HX1.out hB2
    have i1 : ¬ (N : Int) < 0 := by omega
    have i2 : ¬ (l.length : Int) < (N : Int) := by omega
    have i3 : ¬ l.length < N := by omega
    have i4 : decide ((N : Int) < 0) = false := decide_eq_false i1
    have i5 : decide (l.length < N) = false := decide_eq_false i3
    clear hsc hel hrd hre hdv hB2
    have hw2 : w.heap.size ≤ w2.heap.size := HB2.out.size
    go_wp2_with fail
    go_loopw [6, 7] (fun v i wr => ∃ (k : Nat) (Av : Option Addr) (Cv : Nat), k ≤ its.length ∧ i = .int .i64 k ∧ v = .slice Av (catI (its.take k)).length Cv ∧ wr.ownsRow w2.heap.size 5 1 v (catI (its.take k)).length (bv (catI (its.take k))) ∧ Below w2.heap.size w2 wr) (fun _ i _ => its.length - (intOf i).toNat)
    case atStart => exact ⟨0, none, 0, by omega, rfl, rfl, World.ownsRow_nil _ _ _ _, Below.refl _ _⟩
    case round =>
      obtain ⟨k, Av, Cv, hk, rfl, rfl, hO, hB⟩ := hrel
      have HO : Hid _ := hO
      have HB : Hid (Below w2.heap.size w2 wr) := hB
      have HLE : Hid ((catI (its.take k)).length ≤ 60000) := by
        have h1 := cat_le its k
        have h2 := HN.out
        show _ ≤ _
        omega
      by_cases hlt : k < its.length
      · have hkl : k < els.length := by have := congrArg List.length HEL.out; rw [List.length_map] at this; omega
        have hep : (els[k]'hkl).p = its[k]'hlt := by
          have := List.getElem_of_eq HEL.out (i := k) (by rw [List.length_map]; exact hkl)
          rw [List.getElem_map] at this
          exact this
        have hRD := owns_keep HRD.out (Chg.of_below hB) (fun _ _ e => e)
        have hRE := owns_keep HRE.out (Chg.of_below hB) (fun _ _ e => e)
        obtain ⟨g, rfl⟩ : ∃ g, Ad = some ⟨g, 0, none⟩ := by
          rcases HRD.out.2 with ⟨h, h0⟩ | ⟨g, cap, cur, h, _⟩
          · omega
          · cases h; exact ⟨g, rfl⟩
        obtain ⟨ge, rfl⟩ : ∃ g, Ae = some ⟨g, 0, none⟩ := by
          rcases HRE.out.2 with ⟨h, h0⟩ | ⟨g, cap, cur, h, _⟩
          · omega
          · cases h; exact ⟨g, rfl⟩
        have hgl : g < w2.heap.size := (World.ownsRow.lt HRD.out g rfl).2
        have hgel : ge < w2.heap.size := (World.ownsRow.lt HRE.out ge rfl).2
        have hra := row_cells hRD k hkl
        have hdv : DV wr (els[k]'hkl) := (HDV.out _ (List.getElem_mem hkl)).grow hB
        have hok : okIt (its[k]'hlt) := HOK.out _ (List.getElem_mem hlt)
        have HST : Hid (catI (its.take (k + 1)) = catI (its.take k) ++ itB (its[k]'hlt)) := cat_take hlt
        have HEN : Hid (w2.cell? ⟨ge, k, none⟩ = some (.int .i64 (((catI (its.take k)).length + (itB (its[k]'hlt)).length : Nat) : Int))) := by
          have hre2 := owns_keep HRE.out (Chg.of_below (Below.refl w2.heap.size w2)) (fun _ _ e => e)
          have := hre2.cells (g := ge) rfl k (.int .i64 (((catI (its.take k)).length + (itB (its[k]'hlt)).length : Nat) : Int)) (by
            rw [List.getElem?_map, ends_at its 0 k hlt, cat_take hlt, List.length_append, Nat.zero_add]
            rfl)
          rw [show (⟨ge, 0, none⟩ : Addr).add k = ⟨ge, 0 + k, none⟩ by simp only [Addr.add]; split <;> simp_all, Nat.zero_add] at this
          exact this
        have HPR : Hid (∀ m, k = m + 1 → ∃ zm : Int, w2.cell? ⟨g, m * 16, none⟩ = some (.int .i64 zm) ∧ zm < (its[k]'hlt).1.zxid) := by
          intro m hm
          subst hm
          refine ⟨(its[m]'(by omega)).1.zxid, ?_, risen_at its 0 m hlt HRI.out⟩
          have hml : m < els.length := by omega
          have hem : (els[m]'hml).p = its[m]'(by omega) := by
            have := List.getElem_of_eq HEL.out (i := m) (by rw [List.length_map]; exact hml)
            rw [List.getElem_map] at this
            exact this
          have := row_cells HRD.out m hml 0 _ rfl
          rw [← hem]
          exact this
        generalize (els[k]'hkl) = e0 at hep hra hdv
        generalize (its[k]'hlt) = it at hep hok HST HEN HPR
        generalize catI (its.take k) = L at HO HST HLE HEN
        obtain ⟨⟨f, ps⟩, A1, c1, A2, c2, A3, c3⟩ := e0
        dsimp only at hep
        subst hep
        have z0 : wr.cell? ⟨g, k * 16, none⟩ = some (.int .i64 f.zxid) := hra 0 _ rfl
        have z1 : wr.cell? ⟨g, k * 16 + 1, none⟩ = some (.int .u8 f.kind) := hra 1 _ rfl
        have z2 : wr.cell? ⟨g, k * 16 + 2, none⟩ = some (.int .i64 f.session) := hra 2 _ rfl
        have z3 : wr.cell? ⟨g, k * 16 + 3, none⟩ = some (.int .i64 f.turn) := hra 3 _ rfl
        have z4 : wr.cell? ⟨g, k * 16 + 4, none⟩ = some (.int .i64 f.xid) := hra 4 _ rfl
        have z5 : wr.cell? ⟨g, k * 16 + 5, none⟩ = some (.int .i64 f.time) := hra 5 _ rfl
        have z6 : wr.cell? ⟨g, k * 16 + 6, none⟩ = some (.string (mkS f.path)) := hra 6 _ rfl
        have z7 : wr.cell? ⟨g, k * 16 + 7, none⟩ = some (.slice A1 f.data.length c1) := hra 7 _ rfl
        have z8 : wr.cell? ⟨g, k * 16 + 8, none⟩ = some (.int .i64 f.owner) := hra 8 _ rfl
        have z9 : wr.cell? ⟨g, k * 16 + 9, none⟩ = some (.int .i64 f.version) := hra 9 _ rfl
        have z10 : wr.cell? ⟨g, k * 16 + 10, none⟩ = some (.int .i64 f.cversion) := hra 10 _ rfl
        have z11 : wr.cell? ⟨g, k * 16 + 11, none⟩ = some (.int .i64 f.timeout) := hra 11 _ rfl
        have z12 : wr.cell? ⟨g, k * 16 + 12, none⟩ = some (.int .i64 f.err) := hra 12 _ rfl
        have z13 : wr.cell? ⟨g, k * 16 + 13, none⟩ = some (.int .i64 f.cver) := hra 13 _ rfl
        have z14 : wr.cell? ⟨g, k * 16 + 14, none⟩ = some (.slice A2 f.mems.length c2) := hra 14 _ rfl
        have z15 : wr.cell? ⟨g, k * 16 + 15, none⟩ = some (.slice A3 f.np c3) := hra 15 _ rfl
        have HOKK : Hid (okIt (f, ps)) := hok
        have hpu := sput_yes f ps A1 A2 A3 c1 c2 c3 wr (HL.out.below (HB2.out.trans (hB.mono hw2))) hdv hok.2 hok.1
        have hidx : (k : Int) < (its.length : Int) := by omega
        have hk6 : k ≤ 60000 := by have := HIL.out; have := HN.out; omega
        have HZK : Hid (w2.cell? ⟨g, k * 16, none⟩ = some (.int .i64 f.zxid)) := (hB.cell (p := ⟨g, k * 16, none⟩) hgl).symm.trans z0
        have HIT : Hid ((itB (f, ps)).length ≤ 700008) := by show (itB (f, ps)).length ≤ 700008; rw [itB_len]; have := HOKK.out.len; omega
        generalize hT : itB (f, ps) = T at hpu HST HEN HIT
        clear hT
        clear hO hB hok hdv hra hRD hRE
        go_wp2_with fail
        as_aux_lemma =>
        refine hpu.mono ?_
        rintro e w3 ⟨cv, rfl, hx3, hB3⟩
        have HB3 : Hid (Below w2.heap.size w2 w3) := HB.out.trans (hB3.mono HB.out.size)
        have hO3 : w3.ownsRow w2.heap.size 5 1 (.slice Av L.length Cv) L.length (bv L) := owns_keep HO.out (Chg.of_below hB3) (fun _ _ e => e)
        have hle3 : w2.heap.size ≤ w3.heap.size := HB3.out.size
        have HAD : Hid (L.length + T.length ≤ 140737488355328) := by have h1 := HLE.out; have h2 := HIT.out; show L.length + T.length ≤ _; omega
        obtain ⟨AX, CX, rfl⟩ := bs_form hx3
        clear hpu hB3 HO HB z0 z1 z2 z3 z4 z5 z6 z7 z8 z9 z10 z11 z12 z13 z14 z15
        go_wp2_with (at_builtin; refine wpList_app rfl _ _ rfl (.slice Av L.length Cv) _ rfl rfl hO3 hx3 hle3 HAD.out ?_; intro A4 C4 w4 ho4 hg4 hl4 hn4)
        have HB4 : Hid (Below w2.heap.size w2 w4) := HB3.out.grown hg4 hle3 (fun j e => (hO3.lt j e).1)
        have HO4 : Hid (w4.ownsRow w2.heap.size 5 1 (.slice A4 (L.length + T.length) C4) (L.length + T.length) (bv (L ++ T))) := ho4
        have en : w4.cell? ⟨ge, k, none⟩ = some (.int .i64 ((L.length + T.length : Nat) : Int)) := (HB4.out.cell (p := ⟨ge, k, none⟩) hgel).trans HEN.out
        have zk : w4.cell? ⟨g, k * 16, none⟩ = some (.int .i64 f.zxid) := (HB4.out.cell (p := ⟨g, k * 16, none⟩) hgl).trans HZK.out
        have HFIN : Hid ((∃ (k' : Nat) (Av : Option Addr) (Cv : Nat), k' ≤ its.length ∧ (Value.int .i64 ((k + 1 : Nat) : Int)) = .int .i64 k' ∧ (Value.slice A4 (L.length + T.length) C4) = .slice Av (catI (its.take k')).length Cv ∧ w4.ownsRow w2.heap.size 5 1 (Value.slice A4 (L.length + T.length) C4) (catI (its.take k')).length (bv (catI (its.take k'))) ∧ Below w2.heap.size w2 w4)) := by
          refine ⟨k + 1, A4, C4, by omega, rfl, ?_, ?_, HB4.out⟩
          · rw [HST.out, List.length_append]
          · rw [HST.out, List.length_append]; exact HO4.out
        clear ho4 hg4 hl4 hn4 hO3 hx3 hle3 HEN HZK HST HAD HIT HLE HO4 HB3 HB4
        generalize hM : L.length + T.length = M at en HFIN
        clear hM
        by_cases hk0 : k = 0
        · subst hk0
          have hk0' : (0 : Int) < (its.length : Int) := by omega
          clear hidx HPR zk
          go_wp2_with fail
          go_quiet (fail)
          go_wp2
          exact ⟨fin_drew HFIN.out _ (by first | rfl | go_num), by simp [intOf]; omega⟩
        · obtain ⟨m, hm⟩ : ∃ m, k = m + 1 := ⟨k - 1, by omega⟩
          obtain ⟨zm, hzm, hlt2⟩ := HPR.out m hm
          have zm' : w4.cell? ⟨g, m * 16, none⟩ = some (.int .i64 zm) := (HFIN.out.elim fun _ h => h.elim fun _ h => h.elim fun _ h => (h.2.2.2.2.cell (p := ⟨g, m * 16, none⟩) hgl)).trans hzm
          have j1 : IntKind.i64.wrap ((k : Int) - 1) = (m : Int) := by rw [show (k : Int) - 1 = (m : Int) by omega]; exact wrap64_id (by omega) (by have := HIL.out; have := HN.out; omega)
          have j2 : (0 : Int) < (k : Int) := by omega
          have j3 : (m : Int) < (its.length : Int) := by omega
          have j4 : ¬ f.zxid ≤ zm := by simpa using hlt2
          have j5 : ¬ (m : Int) < 0 := by omega
          have j6 : ¬ (k : Int) < 0 := by omega
          have j7 : (0 : Int) ≤ (m : Int) := by omega
          have j8 : 0 < k := by omega
          have j9 : decide ((0 : Int) < (k : Int)) = true := decide_eq_true j2
          clear hzm hlt2 HPR hm hk0
          go_wp2_with fail
          go_quiet (fail)
          go_wp2
          exact ⟨fin_drew HFIN.out _ (by first | rfl | go_num), by simp [intOf]; omega⟩
      · have e0 : k = its.length := by omega
        subst e0
        have hNk : (catI (its.take its.length)).length = N := by rw [List.take_length]; exact HNN.out.symm
        have HAB : Hid (Bs wr (.slice Av N Cv) (catI its)) := by
          have h := Bs.of_owns hO
          rw [List.take_length, ← HNN.out] at h
          exact h
        rw [hNk]
        have HXr : Hid (Bs wr (.slice A l.length C) l) := Bs.below' HX2.out hB
        have hNC : N ≤ C := Nat.le_trans hNl (bs_cap HX2.out)
        have hsl : ∀ w', (Instr.sliceAt 25 (.slice A l.length C) none (some (.int .i64 (N : Int))) none).run Tryd.prog w' = .ok (.slice A N C) w' := fun w' => slice_run hNC w'
        have HBw : Hid (Below w.heap.size w wr) := HB2.out.trans (hB.mono hw2)
        have hbn := bs_first HXr.out N hNl
        rw [HNN.out, HTK.out, ← HNN.out] at hbn
        have HBN : Hid (Bs wr (.slice A N C) (catI its)) := hbn
        have hsc := scan_any hbn (by have := HNN.out; omega) (HL.out.below HBw.out)
        rw [HAG.out, ← HNN.out] at hsc
        clear hO hB HO hbn hNk HLE
        go_wp2_with fail
        as_aux_lemma =>
        refine hsc.mono ?_
        rintro e w5 ⟨els', vd', ve', rfl, hel', hrd', hre', hdv', hB5⟩
        obtain ⟨Ad', Cd', rfl⟩ := owns_form' hrd'
        obtain ⟨Ae', Ce', rfl⟩ := owns_form' hre'
        have HB5 : Hid (Below w.heap.size w w5) := HBw.out.trans (hB5.mono HBw.out.size)
        have HSB : Hid (∀ X, Below w5.heap.size w5 X → Calls Tryd.prog 13 #[.slice Av N Cv, .slice A N C] X fun e w' => e = .returned (.bool true) ∧ Below X.heap.size X w') := fun X hX => same_x (Bs.below' (Bs.below' HAB.out hB5) hX) (Bs.below' (Bs.below' HBN.out hB5) hX) (by have := HN.out; omega)
        have HSD : Hid (∀ X, Below w5.heap.size w5 X → Calls Tryd.prog 11 #[.slice Ad' its.length Cd', .slice Ad its.length Cd] X fun e w' => e = .returned (.bool true) ∧ Below X.heap.size X w') := by
          intro X hX
          have hc25 : Chg Non w2 X := (Chg.of_below HB.out).trans ((Chg.of_below hB5).trans (Chg.of_below hX))
          refine sameEls (owns_keep hrd' (Chg.of_below hX) (fun _ _ e => e)) (owns_keep HRD.out hc25 (fun _ _ e => e)) (by rw [← hel', List.length_map]) (hel'.trans HEL.out.symm) (fun e he => (hdv' e he).grow hX) (fun e he => (((HDV.out e he).grow HB.out).grow hB5).grow hX) (fun e he => HOK.out _ (by rw [← hel']; exact List.mem_map_of_mem he)) (by have := HIL.out; have := HN.out; omega)
        clear hsc hel' hrd' hre' hdv' hB5
        go_wp2_with fail
        refine (HSB.out w5 (Below.refl _ _)).mono ?_
        rintro e w6 ⟨rfl, hB6⟩
        have HB6 : Hid (Below w.heap.size w w6) := HB5.out.trans (hB6.mono HB5.out.size)
        have hsd := HSD.out w6 hB6
        clear hB6 HSB HSD HB5
        go_wp2_with fail
        refine hsd.mono ?_
        rintro e w7 ⟨rfl, hB7⟩
        have HB7 : Hid (Below w.heap.size w w7) := HB6.out.trans (hB7.mono HB6.out.size)
        clear hsd hB7 HB6
        go_wp2
        go_ret
        exact ⟨rfl, HB7.out⟩
end Go.Proofs.YtaeoafedfgbcaaaDoor.DD
