/- What is told of the bytes of small deeds. -/
import Derived.Test.YtogikhondibifaaDoorSgW
import Derived.Deep.RegionHeld3
import Derived.Lib.QuietBelow
import Derived.BigQuiet
import Derived.Deep.DrawnRows
import Derived.Deep.MidRow
namespace Go.Proofs.YtogikhondibifaaDoor.DD
set_option linter.unusedVariables false
open Go.RowKit Go.Sort
set_option linter.unusedVariables false

theorem ends_last : ∀ (l : List It) (t m : Nat), l.length = m + 1 → (endsF t l)[m]? = some (t + (catI l).length)
  | [p], t, m, h => by
    have : m = 0 := by simp at h; omega
    subst this
    simp [endsF, catI]
  | p :: q :: r, t, m, h => by
    obtain ⟨n, rfl⟩ : ∃ n, m = n + 1 := ⟨m - 1, by simp at h; omega⟩
    show (endsF (t + (itB p).length) (q :: r))[n]? = _
    rw [ends_last (q :: r) _ n (by simp at h ⊢; omega), catI_cons p, List.length_append, Nat.add_assoc]
theorem row_cells {w : World} {base g n cap : Nat} {els : List El2} (h : w.ownsRow base 37 16 (.slice (some ⟨g, 0, none⟩) n cap) n (evd2 els)) (j : Nat) (hj : j < els.length) : w.rangeAt g (j * 16) (ev2 (els[j]'hj)) := by
  intro i v hv
  have hi : i < 16 := by have := (List.getElem?_eq_some_iff.1 hv).1; rw [ev2_len] at this; exact this
  have := h.cells (g := g) rfl (j * 16 + i) v (by rw [evd2_at els j hj i hi]; exact hv)
  rw [show (⟨g, 0, none⟩ : Addr).add (j * 16 + i) = ⟨g, 0 + (j * 16 + i), none⟩ by simp only [Addr.add]; split <;> simp_all, Nat.zero_add] at this
  exact this
set_option maxRecDepth 100000 in
set_option maxHeartbeats 4000000 in
theorem tells_any {w : World} {x : Value} {B : List UInt8} {L : Option Addr} {C : Nat} (zs : List Int) (tz : Int) (hx : Bs w x B) (hB : B.length ≤ 1000000) (hs : scanF B 0 = zs.map Is) (htz : tz = ((catI (zs.map Is)).length : Nat)) (hz : ∀ z ∈ zs, okIt (Is z)) (hlen : zs.length ≤ 1000)
    (hc : zs = [] ∨ ∃ b, L = some ⟨b, 0, none⟩ ∧ b < w.heap.size ∧ ∀ j (h : j < zs.length), w.cell? ⟨b, j, none⟩ = some (.int .i64 (zs[j]'h))) (hL : PA.Laid w) :
    Calls Tryd.prog 5 #[x, .int .i64 tz, .slice L zs.length C] w fun e w' => e = .returned (.bool true) ∧ Below w.heap.size w w' := by
  have HC : Hid (zs = [] ∨ ∃ b, L = some ⟨b, 0, none⟩ ∧ b < w.heap.size ∧ ∀ j (h : j < zs.length), w.cell? ⟨b, j, none⟩ = some (.int .i64 (zs[j]'h))) := hc
  have HL : Hid (PA.Laid w) := hL
  have HZ : Hid (∀ z ∈ zs, okIt (Is z)) := hz
  have hsc := scan_any hx (by omega) hL
  rw [hs, ← htz, List.length_map] at hsc
  have HTZ : Hid (tz = ((catI (zs.map Is)).length : Nat)) := htz
  obtain ⟨AX, CX, rfl⟩ := bs_form hx
  clear hc hL hz hx hs htz
  go_enter Tryd.func5, Tryd.ntmps5
  go_wp2_with fail
  refine hsc.mono ?_
  rintro e w1 ⟨els, vd, ve, rfl, hel, hrd, hre, hdv, hB1⟩
  obtain ⟨Ad, Cd, rfl⟩ := owns_form' hrd
  obtain ⟨Ae, Ce, rfl⟩ := owns_form' hre
  have HEL : Hid (els.map El2.p = zs.map Is) := hel
  have HRD : Hid _ := hrd
  have HRE : Hid _ := hre
  have HDV : Hid (∀ e ∈ els, DV w1 e) := hdv
  have HB1 : Hid (Below w.heap.size w w1) := hB1
  clear hsc hel hrd hre hdv hB1
  have hsw : w.heap.size ≤ w1.heap.size := HB1.out.size
  go_wp2_with fail
  go_loopw [10] (fun c wr => ∃ k : Nat, k ≤ zs.length ∧ c = .int .i64 k ∧ Below w1.heap.size w1 wr) (fun c _ => zs.length - (intOf c).toNat)
  case atStart => exact ⟨0, by omega, rfl, Below.refl _ _⟩
  case round =>
    obtain ⟨k, hk, rfl, hB⟩ := hrel
    have HB : Hid (Below w1.heap.size w1 wr) := hB
    have HBw : Hid (Below w.heap.size w wr) := HB1.out.trans (hB.mono hsw)
    clear hB
    by_cases hlt : k < zs.length
    · have hkl : k < els.length := by have := congrArg List.length HEL.out; rw [List.length_map, List.length_map] at this; omega
      have hep : (els[k]'hkl).p = Is (zs[k]'hlt) := by
        have := List.getElem_of_eq HEL.out (i := k) (by rw [List.length_map]; exact hkl)
        rw [List.getElem_map, List.getElem_map] at this
        exact this
      obtain ⟨b, rfl, hb, hcc⟩ : ∃ b, L = some ⟨b, 0, none⟩ ∧ b < w.heap.size ∧ ∀ j (h : j < zs.length), w.cell? ⟨b, j, none⟩ = some (.int .i64 (zs[j]'h)) := by
        rcases HC.out with h | h
        · rw [h] at hlt; simp at hlt
        · exact h
      have hcz : wr.cell? ⟨b, k, none⟩ = some (.int .i64 (zs[k]'hlt)) := (HBw.out.cell (p := ⟨b, k, none⟩) hb).trans (hcc k hlt)
      clear hcc
      have hO := owns_keep HRD.out (Chg.of_below HB.out) (fun _ _ e => e)
      obtain ⟨g, rfl⟩ : ∃ g, Ad = some ⟨g, 0, none⟩ := by
        rcases HRD.out.2 with ⟨h, h0⟩ | ⟨g, cap, cur, h, _⟩
        · omega
        · cases h; exact ⟨g, rfl⟩
      have hra := row_cells hO k hkl
      have hdv : DV wr (els[k]'hkl) := (HDV.out _ (List.getElem_mem hkl)).grow HB.out
      generalize (els[k]'hkl) = e0 at hep hra hdv
      generalize (zs[k]'hlt) = z at hep hcz
      obtain ⟨p, A1, c1, A2, c2, A3, c3⟩ := e0
      dsimp only at hep
      subst hep
      have hdv' : DVal wr (Fs z) [] A1 c1 A2 c2 A3 c3 := hdv
      have sQ := fun d os => Calls.regrown_of (sync_any z (grow (redrawn wr d) os))
      have dQ : ∀ d os, _ := fun d os => Calls.regrown_of (sameD_any (Fs z) [] A1 A2 A3 none none none c1 c2 c3 0 0 0 (grow (redrawn wr d) os) (by show (0 : Nat) ≤ _; omega) (by show (0 : Nat) ≤ _; omega) (by show (0 : Nat) ≤ _; omega) rfl (fun p hp => (nomatch hp)) (hdv'.grow (below_regrown wr d os)) (dval_Fs _ z))
      have z0 : wr.cell? ⟨g, k * 16, none⟩ = some (.int .i64 z) := hra 0 _ rfl
      have z1 : wr.cell? ⟨g, k * 16 + 1, none⟩ = some (.int .u8 6) := hra 1 _ rfl
      have z2 : wr.cell? ⟨g, k * 16 + 2, none⟩ = some (.int .i64 0) := hra 2 _ rfl
      have z3 : wr.cell? ⟨g, k * 16 + 3, none⟩ = some (.int .i64 0) := hra 3 _ rfl
      have z4 : wr.cell? ⟨g, k * 16 + 4, none⟩ = some (.int .i64 0) := hra 4 _ rfl
      have z5 : wr.cell? ⟨g, k * 16 + 5, none⟩ = some (.int .i64 0) := hra 5 _ rfl
      have z6 : wr.cell? ⟨g, k * 16 + 6, none⟩ = some (.string ⟨#[]⟩) := hra 6 _ rfl
      have z7 : wr.cell? ⟨g, k * 16 + 7, none⟩ = some (.slice A1 0 c1) := hra 7 _ rfl
      have z8 : wr.cell? ⟨g, k * 16 + 8, none⟩ = some (.int .i64 0) := hra 8 _ rfl
      have z9 : wr.cell? ⟨g, k * 16 + 9, none⟩ = some (.int .i64 0) := hra 9 _ rfl
      have z10 : wr.cell? ⟨g, k * 16 + 10, none⟩ = some (.int .i64 0) := hra 10 _ rfl
      have z11 : wr.cell? ⟨g, k * 16 + 11, none⟩ = some (.int .i64 0) := hra 11 _ rfl
      have z12 : wr.cell? ⟨g, k * 16 + 12, none⟩ = some (.int .i64 0) := hra 12 _ rfl
      have z13 : wr.cell? ⟨g, k * 16 + 13, none⟩ = some (.int .i64 0) := hra 13 _ rfl
      have z14 : wr.cell? ⟨g, k * 16 + 14, none⟩ = some (.slice A2 0 c2) := hra 14 _ rfl
      have z15 : wr.cell? ⟨g, k * 16 + 15, none⟩ = some (.slice A3 0 c3) := hra 15 _ rfl
      have hcz := fun d os => cell_regrown hcz d os
      have z0 := fun d os => cell_regrown z0 d os
      have z1 := fun d os => cell_regrown z1 d os
      have z2 := fun d os => cell_regrown z2 d os
      have z3 := fun d os => cell_regrown z3 d os
      have z4 := fun d os => cell_regrown z4 d os
      have z5 := fun d os => cell_regrown z5 d os
      have z6 := fun d os => cell_regrown z6 d os
      have z7 := fun d os => cell_regrown z7 d os
      have z8 := fun d os => cell_regrown z8 d os
      have z9 := fun d os => cell_regrown z9 d os
      have z10 := fun d os => cell_regrown z10 d os
      have z11 := fun d os => cell_regrown z11 d os
      have z12 := fun d os => cell_regrown z12 d os
      have z13 := fun d os => cell_regrown z13 d os
      have z14 := fun d os => cell_regrown z14 d os
      have z15 := fun d os => cell_regrown z15 d os
      have i1 : (k : Int) < (zs.length : Int) := by omega
      clear hO hra hdv hdv'
      unfold Fs at dQ
      dsimp only [List.length_nil] at dQ
      go_wp2_with fail
      refine wp_region_quiet_below (by kernel_rfl) (by kernel_rfl) ?_
      repeat (go_big_quiet_step (first | (go_at_call 8; exact sQ _ _) | (go_at_call 10; exact dQ _ _)))
      refine wpQuiet_nil ?_
      intro _ hw'
      obtain ⟨⟨dq, osq⟩, hw''⟩ := hw'
      subst hw''
      have HB3 : Hid (Below w1.heap.size w1 (grow (redrawn wr dq) osq)) := HB.out.trans ((below_regrown wr dq osq).mono HB.out.size)
      clear z0 z1 z2 z3 z4 z5 z6 z7 z8 z9 z10 z11 z12 z13 z14 z15 hcz sQ dQ
      go_wp2
      exact ⟨⟨k + 1, by omega, by go_num, HB3.out⟩, by simp [intOf]; omega⟩
    · have e0 : k = zs.length := by omega
      subst e0
      by_cases h0 : zs.length = 0
      · have h1 : (zs.length : Int) = 0 := by omega
        rw [h0]
        clear hlt hk
        go_wp2
        go_ret
        exact ⟨rfl, HBw.out⟩
      · obtain ⟨m, hm⟩ : ∃ m, zs.length = m + 1 := ⟨zs.length - 1, by omega⟩
        have hO := owns_keep HRE.out (Chg.of_below HB.out) (fun _ _ e => e)
        obtain ⟨g, rfl⟩ : ∃ g, Ae = some ⟨g, 0, none⟩ := by
          rcases HRE.out.2 with ⟨h, h0'⟩ | ⟨g, cap, cur, h, _⟩
          · omega
          · cases h; exact ⟨g, rfl⟩
        have hcm : wr.cell? ⟨g, m, none⟩ = some (.int .i64 tz) := by
          have := hO.cells (g := g) rfl m (.int .i64 tz) (by
            rw [List.getElem?_map, ends_last (zs.map Is) 0 m (by rw [List.length_map]; exact hm)]
            simp only [Option.map_some, nI, Nat.zero_add]
            rw [HTZ.out])
          rw [show (⟨g, 0, none⟩ : Addr).add m = ⟨g, 0 + m, none⟩ by simp only [Addr.add]; split <;> simp_all, Nat.zero_add] at this
          exact this
        clear hO
        rw [hm]
        have j1 : IntKind.i64.wrap (((m + 1 : Nat) : Int) - 1) = (m : Int) := by rw [show ((m + 1 : Nat) : Int) - 1 = (m : Int) by omega]; simp [IntKind.wrap, IntKind.bits, IntKind.signed]; omega
        have j2 : ¬ ((m + 1 : Nat) : Int) = 0 := by omega
        have j3 : (m : Int) < ((m + 1 : Nat) : Int) := by omega
        clear hlt hk h0
        go_wp2
        go_ret
        exact ⟨rfl, HBw.out⟩
end Go.Proofs.YtogikhondibifaaDoor.DD
