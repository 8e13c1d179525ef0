/- SameDeeds at two rows of right deeds, with parts. -/
import Derived.Test.YtmalhjahfafehaaDoorSgY
namespace Go.Proofs.YtmalhjahfafehaaDoor.DD
set_option linter.unusedVariables false
open Go.RowKit Go.Sort
set_option linter.unusedVariables false

theorem right_small' {f : Fl} {ps : List Fl} (hf : DedFit f ps) (hr : rightD f ps = true) : f.data.length ≤ 1000 ∧ ps.length ≤ 500 ∧ ∀ p ∈ ps, p.np = 0 ∧ p.data.length ≤ 1000 := by
  have h := rightD_fits hr
  have hc := com_parts (fits_com h).1
  cases hp : hasParts f.kind with
  | false =>
    have h0 := np_zero hc.1 hp
    have : ps = [] := List.length_eq_zero_iff.1 (by rw [← hf.len]; exact h0)
    subst this
    exact ⟨hc.2.1, by simp, by simp⟩
  | true =>
    have hs := fits_parts h hp
    refine ⟨hc.2.1, hs.1, fun p hp => ?_⟩
    obtain ⟨h1, h2, h3⟩ := hs.2 p hp
    have hc' := com_parts (leaf_parts h3).2.1
    refine ⟨np_zero hc'.1 ?_, hc'.2.1⟩
    unfold isNode at h1
    unfold hasParts
    simp only [Bool.or_eq_true, decide_eq_true_eq] at h1
    simp only [Bool.or_eq_false_iff, decide_eq_false_iff_not]
    omega
set_option maxRecDepth 100000 in
set_option maxHeartbeats 4000000 in
theorem sameEls {w : World} {base base' n C C' : Nat} {A A' : Option Addr} {els els' : List El2} (h : w.ownsRow base 33 16 (.slice A n C) n (evd2 els)) (h' : w.ownsRow base' 33 16 (.slice A' n C') n (evd2 els')) (hn : els.length = n) (hp : els.map El2.p = els'.map El2.p) (hd : ∀ e ∈ els, DV w e) (hd' : ∀ e ∈ els', DV w e) (hok : ∀ e ∈ els, okIt e.p) (hl : n ≤ 1000000) :
    Calls Tryd.prog 11 #[.slice A n C, .slice A' n C'] w fun e w' => e = .returned (.bool true) ∧ Below w.heap.size w w' := by
  have HR : Hid _ := h
  have HR' : Hid _ := h'
  have HN : Hid (els.length = n) := hn
  have HP : Hid (els.map El2.p = els'.map El2.p) := hp
  have HD : Hid (∀ e ∈ els, DV w e) := hd
  have HD' : Hid (∀ e ∈ els', DV w e) := hd'
  have HK : Hid (∀ e ∈ els, okIt e.p) := hok
  clear h h' hn hp hd hd' hok
  go_enter Tryd.func11, Tryd.ntmps11
  go_wp2_with fail
  go_loopw [5] (fun c wr => ∃ k : Nat, k ≤ n ∧ c = .int .i64 k ∧ Below w.heap.size w wr) (fun c _ => n - (intOf c).toNat)
  case atStart => exact ⟨0, by omega, rfl, Below.refl _ _⟩
  case round =>
    obtain ⟨k, hk, rfl, hB⟩ := hrel
    have HB : Hid (Below w.heap.size w wr) := hB
    clear hB
    by_cases hlt : k < n
    · have hkl : k < els.length := by have := HN.out; omega
      have hkl' : k < els'.length := by have := congrArg List.length HP.out; rw [List.length_map, List.length_map] at this; omega
      have hep : (els[k]'hkl).p = (els'[k]'hkl').p := by
        have := List.getElem_of_eq HP.out (i := k) (by rw [List.length_map]; exact hkl)
        rw [List.getElem_map, List.getElem_map] at this
        exact this
      have hO := owns_keep HR.out (Chg.of_below HB.out) (fun _ _ e => e)
      have hO' := owns_keep HR'.out (Chg.of_below HB.out) (fun _ _ e => e)
      obtain ⟨g, rfl⟩ : ∃ g, A = some ⟨g, 0, none⟩ := by
        rcases HR.out.2 with ⟨h, h0⟩ | ⟨g, cap, cur, h, _⟩
        · omega
        · cases h; exact ⟨g, rfl⟩
      obtain ⟨g', rfl⟩ : ∃ g, A' = some ⟨g, 0, none⟩ := by
        rcases HR'.out.2 with ⟨h, h0⟩ | ⟨g, cap, cur, h, _⟩
        · omega
        · cases h; exact ⟨g, rfl⟩
      have hra := row_cells hO k hkl
      have hra' := row_cells hO' k hkl'
      have hdv : DV wr (els[k]'hkl) := (HD.out _ (List.getElem_mem hkl)).grow HB.out
      have hdv' : DV wr (els'[k]'hkl') := (HD'.out _ (List.getElem_mem hkl')).grow HB.out
      have hok := HK.out _ (List.getElem_mem hkl)
      generalize (els[k]'hkl) = e0 at hep hra hdv hok
      generalize (els'[k]'hkl') = e1 at hep hra' hdv'
      obtain ⟨⟨f, ps⟩, A1, c1, A2, c2, A3, c3⟩ := e0
      obtain ⟨p', B1, d1, B2, d2, B3, d3⟩ := e1
      dsimp only at hep
      subst hep
      have hok' : okIt (f, ps) := hok
      have hsm := right_small' (f := f) (ps := ps) hok'.2 hok'.1
      have hmm := right_mems (f := f) (ps := ps) hok'.2 hok'.1
      have dQ := fun d os => Calls.regrown_of (sameD_any f ps A1 A2 A3 B1 B2 B3 c1 c2 c3 d1 d2 d3 (grow (redrawn wr d) os) hmm.1 (by have := hsm.1; omega) (by have := hsm.2.1; omega) hok'.2.len (fun p hp => ⟨(hsm.2.2 p hp).1, hmm.2 p hp, by have := (hsm.2.2 p hp).2; omega⟩) (DVal.grow hdv (below_regrown wr d os)) (DVal.grow hdv' (below_regrown wr d os)))
      have z0 : wr.cell? ⟨g, k * 16, none⟩ = some (.int .i64 f.zxid) := hra 0 _ rfl
      have z1 : wr.cell? ⟨g, k * 16 + 1, none⟩ = some (.int .u8 f.kind) := hra 1 _ rfl
      have z2 : wr.cell? ⟨g, k * 16 + 2, none⟩ = some (.int .i64 f.session) := hra 2 _ rfl
      have z3 : wr.cell? ⟨g, k * 16 + 3, none⟩ = some (.int .i64 f.turn) := hra 3 _ rfl
      have z4 : wr.cell? ⟨g, k * 16 + 4, none⟩ = some (.int .i64 f.xid) := hra 4 _ rfl
      have z5 : wr.cell? ⟨g, k * 16 + 5, none⟩ = some (.int .i64 f.time) := hra 5 _ rfl
      have z6 : wr.cell? ⟨g, k * 16 + 6, none⟩ = some (.string (mkS f.path)) := hra 6 _ rfl
      have z7 : wr.cell? ⟨g, k * 16 + 7, none⟩ = some (.slice A1 f.data.length c1) := hra 7 _ rfl
      have z8 : wr.cell? ⟨g, k * 16 + 8, none⟩ = some (.int .i64 f.owner) := hra 8 _ rfl
      have z9 : wr.cell? ⟨g, k * 16 + 9, none⟩ = some (.int .i64 f.version) := hra 9 _ rfl
      have z10 : wr.cell? ⟨g, k * 16 + 10, none⟩ = some (.int .i64 f.cversion) := hra 10 _ rfl
      have z11 : wr.cell? ⟨g, k * 16 + 11, none⟩ = some (.int .i64 f.timeout) := hra 11 _ rfl
      have z12 : wr.cell? ⟨g, k * 16 + 12, none⟩ = some (.int .i64 f.err) := hra 12 _ rfl
      have z13 : wr.cell? ⟨g, k * 16 + 13, none⟩ = some (.int .i64 f.cver) := hra 13 _ rfl
      have z14 : wr.cell? ⟨g, k * 16 + 14, none⟩ = some (.slice A2 f.mems.length c2) := hra 14 _ rfl
      have z15 : wr.cell? ⟨g, k * 16 + 15, none⟩ = some (.slice A3 f.np c3) := hra 15 _ rfl
      have y0 : wr.cell? ⟨g', k * 16, none⟩ = some (.int .i64 f.zxid) := hra' 0 _ rfl
      have y1 : wr.cell? ⟨g', k * 16 + 1, none⟩ = some (.int .u8 f.kind) := hra' 1 _ rfl
      have y2 : wr.cell? ⟨g', k * 16 + 2, none⟩ = some (.int .i64 f.session) := hra' 2 _ rfl
      have y3 : wr.cell? ⟨g', k * 16 + 3, none⟩ = some (.int .i64 f.turn) := hra' 3 _ rfl
      have y4 : wr.cell? ⟨g', k * 16 + 4, none⟩ = some (.int .i64 f.xid) := hra' 4 _ rfl
      have y5 : wr.cell? ⟨g', k * 16 + 5, none⟩ = some (.int .i64 f.time) := hra' 5 _ rfl
      have y6 : wr.cell? ⟨g', k * 16 + 6, none⟩ = some (.string (mkS f.path)) := hra' 6 _ rfl
      have y7 : wr.cell? ⟨g', k * 16 + 7, none⟩ = some (.slice B1 f.data.length d1) := hra' 7 _ rfl
      have y8 : wr.cell? ⟨g', k * 16 + 8, none⟩ = some (.int .i64 f.owner) := hra' 8 _ rfl
      have y9 : wr.cell? ⟨g', k * 16 + 9, none⟩ = some (.int .i64 f.version) := hra' 9 _ rfl
      have y10 : wr.cell? ⟨g', k * 16 + 10, none⟩ = some (.int .i64 f.cversion) := hra' 10 _ rfl
      have y11 : wr.cell? ⟨g', k * 16 + 11, none⟩ = some (.int .i64 f.timeout) := hra' 11 _ rfl
      have y12 : wr.cell? ⟨g', k * 16 + 12, none⟩ = some (.int .i64 f.err) := hra' 12 _ rfl
      have y13 : wr.cell? ⟨g', k * 16 + 13, none⟩ = some (.int .i64 f.cver) := hra' 13 _ rfl
      have y14 : wr.cell? ⟨g', k * 16 + 14, none⟩ = some (.slice B2 f.mems.length d2) := hra' 14 _ rfl
      have y15 : wr.cell? ⟨g', k * 16 + 15, none⟩ = some (.slice B3 f.np d3) := hra' 15 _ rfl
      have z0 := fun d os => cell_regrown z0 d os
      have z1 := fun d os => cell_regrown z1 d os
      have z2 := fun d os => cell_regrown z2 d os
      have z3 := fun d os => cell_regrown z3 d os
      have z4 := fun d os => cell_regrown z4 d os
      have z5 := fun d os => cell_regrown z5 d os
      have z6 := fun d os => cell_regrown z6 d os
      have z7 := fun d os => cell_regrown z7 d os
      have z8 := fun d os => cell_regrown z8 d os
      have z9 := fun d os => cell_regrown z9 d os
      have z10 := fun d os => cell_regrown z10 d os
      have z11 := fun d os => cell_regrown z11 d os
      have z12 := fun d os => cell_regrown z12 d os
      have z13 := fun d os => cell_regrown z13 d os
      have z14 := fun d os => cell_regrown z14 d os
      have z15 := fun d os => cell_regrown z15 d os
      have y0 := fun d os => cell_regrown y0 d os
      have y1 := fun d os => cell_regrown y1 d os
      have y2 := fun d os => cell_regrown y2 d os
      have y3 := fun d os => cell_regrown y3 d os
      have y4 := fun d os => cell_regrown y4 d os
      have y5 := fun d os => cell_regrown y5 d os
      have y6 := fun d os => cell_regrown y6 d os
      have y7 := fun d os => cell_regrown y7 d os
      have y8 := fun d os => cell_regrown y8 d os
      have y9 := fun d os => cell_regrown y9 d os
      have y10 := fun d os => cell_regrown y10 d os
      have y11 := fun d os => cell_regrown y11 d os
      have y12 := fun d os => cell_regrown y12 d os
      have y13 := fun d os => cell_regrown y13 d os
      have y14 := fun d os => cell_regrown y14 d os
      have y15 := fun d os => cell_regrown y15 d os
      have i1 : (k : Int) < (n : Int) := by omega
      clear hO hO' hra hra' hdv hdv' hsm hmm hok hok'
      go_wp2_with fail
      refine wp_region_quiet_below (by kernel_rfl) (by kernel_rfl) ?_
      repeat (go_big_quiet_step ((go_at_call 23; exact dQ _ _)))
      refine wpQuiet_nil ?_
      intro _ hw'
      obtain ⟨⟨dq, osq⟩, hw''⟩ := hw'
      subst hw''
      have HB3 : Hid (Below w.heap.size w (grow (redrawn wr dq) osq)) := below_rg' HB.out dq osq
      clear z0 z1 z2 z3 z4 z5 z6 z7 z8 z9 z10 z11 z12 z13 z14 z15 y0 y1 y2 y3 y4 y5 y6 y7 y8 y9 y10 y11 y12 y13 y14 y15 dQ
      go_wp2
      exact ⟨⟨k + 1, by omega, by go_num, HB3.out⟩, by simp [intOf]; omega⟩
    · go_wp2
      go_ret
      exact ⟨rfl, HB.out⟩
end Go.Proofs.YtmalhjahfafehaaDoor.DD
