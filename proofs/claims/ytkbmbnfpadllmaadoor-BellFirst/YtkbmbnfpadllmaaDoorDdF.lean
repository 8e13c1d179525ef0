/- The walk of what fits: package deed's fits, over a contract of fitsKind. -/
import Derived.Test.YtkbmbnfpadllmaaDoorDdW
namespace Go.Proofs.YtkbmbnfpadllmaaDoor.DD
open Go.RowKit

theorem cells16 {w : World} {b : Nat} {v0 v1 v2 v3 v4 v5 v6 v7 v8 v9 v10 v11 v12 v13 v14 v15 : Value} {T : TypeId} {fr : Nat × Nat} (h : w.heap[b]? = some (.cells #[v0, v1, v2, v3, v4, v5, v6, v7, v8, v9, v10, v11, v12, v13, v14, v15] T fr)) : w.cell? ⟨b, 0, none⟩ = some v0 ∧ w.cell? ⟨b, 1, none⟩ = some v1 ∧ w.cell? ⟨b, 2, none⟩ = some v2 ∧ w.cell? ⟨b, 3, none⟩ = some v3 ∧ w.cell? ⟨b, 4, none⟩ = some v4 ∧ w.cell? ⟨b, 5, none⟩ = some v5 ∧ w.cell? ⟨b, 6, none⟩ = some v6 ∧ w.cell? ⟨b, 7, none⟩ = some v7 ∧ w.cell? ⟨b, 8, none⟩ = some v8 ∧ w.cell? ⟨b, 9, none⟩ = some v9 ∧ w.cell? ⟨b, 10, none⟩ = some v10 ∧ w.cell? ⟨b, 11, none⟩ = some v11 ∧ w.cell? ⟨b, 12, none⟩ = some v12 ∧ w.cell? ⟨b, 13, none⟩ = some v13 ∧ w.cell? ⟨b, 14, none⟩ = some v14 ∧ w.cell? ⟨b, 15, none⟩ = some v15 := ⟨by rw [cell_at h]; rfl, by rw [cell_at h]; rfl, by rw [cell_at h]; rfl, by rw [cell_at h]; rfl, by rw [cell_at h]; rfl, by rw [cell_at h]; rfl, by rw [cell_at h]; rfl, by rw [cell_at h]; rfl, by rw [cell_at h]; rfl, by rw [cell_at h]; rfl, by rw [cell_at h]; rfl, by rw [cell_at h]; rfl, by rw [cell_at h]; rfl, by rw [cell_at h]; rfl, by rw [cell_at h]; rfl, by rw [cell_at h]; rfl⟩
def nth5 (a b c d e : Int) (k : Nat) : Int := ([a, b, c, d, e] : List Int).getD k 0
theorem ixNum (w : World) (a b c d e : Int) (k : Nat) (h : k < 5) : (Instr.index 98 (.agg #[.int .i64 a, .int .i64 b, .int .i64 c, .int .i64 d, .int .i64 e]) (.int .i64 k)).run Tryd.prog w = .ok (.int .i64 (nth5 a b c d e k)) w := by
  obtain rfl | rfl | rfl | rfl | rfl : k = 0 ∨ k = 1 ∨ k = 2 ∨ k = 3 ∨ k = 4 := by omega
  all_goals simp [Instr.index, run_underlying Tryd.underlying98, asIntOf, go_sem, nth5]
theorem ixHead (w : World) (a b c d e : Int) (k : Nat) (h : k < 5) : (Instr.index 84 (.agg #[.int .i64 a, .int .i64 b, .int .i64 c, .int .i64 d, .int .i64 e]) (.int .i64 k)).run Tryd.prog w = .ok (.int .i64 (nth5 a b c d e k)) w := by
  obtain rfl | rfl | rfl | rfl | rfl : k = 0 ∨ k = 1 ∨ k = 2 ∨ k = 3 ∨ k = 4 := by omega
  all_goals simp [Instr.index, run_underlying Tryd.underlying84, asIntOf, go_sem, nth5]
/- The first k of five numbers are none below 0. -/
def pos5 (a b c d e : Int) (k : Nat) : Prop := ∀ j, j < k → 0 ≤ nth5 a b c d e j
theorem pos5_all {a b c d e : Int} : pos5 a b c d e 5 ↔ (0 ≤ a ∧ 0 ≤ b ∧ 0 ≤ c ∧ 0 ≤ d ∧ 0 ≤ e) := by
  constructor
  · intro h
    exact ⟨h 0 (by omega), h 1 (by omega), h 2 (by omega), h 3 (by omega), h 4 (by omega)⟩
  · rintro ⟨h0, h1, h2, h3, h4⟩ j hj
    obtain rfl | rfl | rfl | rfl | rfl : j = 0 ∨ j = 1 ∨ j = 2 ∨ j = 3 ∨ j = 4 := by omega
    all_goals assumption
theorem kTab_zero {k : Int} (h0 : 0 ≤ k) (h : ¬ (1 ≤ k ∧ k ≤ 9)) : PA.kTab k.toNat = 0 := by
  by_cases hk : k = 0
  · subst hk; rfl
  · unfold PA.kTab
    rw [List.getD_eq_getElem?_getD, List.getElem?_eq_none (by simp; omega)]
    rfl
theorem kTab_pos : ∀ k : Nat, k < 10 → 0 < k → PA.kTab k ≠ 0 := by decide
theorem bare_bits0 : ∀ b0 b1 b2 b3 b4 b5 b6 b7 b8 : Bool, ∀ k : Fin 10, 0 < k.val → (bits BinOp.andNot IntKind.u16 (bitsI [b0, b1, b2, b3, b4, b5, b6, b7, b8]) (PA.kTab k.val) != 0) = !under [b0, b1, b2, b3, b4, b5, b6, b7, b8] (allow (k.val : Int)) := by decide +kernel
theorem bare_bits {b0 b1 b2 b3 b4 b5 b6 b7 b8 : Bool} {k : Fin 10} (h : 0 < k.val) : (bits BinOp.andNot IntKind.u16 (bitsI [b0, b1, b2, b3, b4, b5, b6, b7, b8]) (PA.kTab k.val) != 0) = !under [b0, b1, b2, b3, b4, b5, b6, b7, b8] (allow (k.val : Int)) := bare_bits0 _ _ _ _ _ _ _ _ _ k h
theorem bare_test (f : Fl) (h1 : 1 ≤ f.kind) (h9 : f.kind ≤ 9) : (bits BinOp.andNot IntKind.u16 (fillI f) (PA.kTab f.kind.toNat) != 0) = !bareB f := by
  have := bare_bits (k := ⟨f.kind.toNat, by omega⟩)
    (b0 := decide (f.path ≠ [])) (b1 := decide (0 < f.data.length)) (b2 := decide (f.owner ≠ 0)) (b3 := decide (f.version ≠ 0)) (b4 := decide (f.cversion ≠ 0)) (b5 := decide (f.timeout ≠ 0)) (b6 := decide (f.err ≠ 0)) (b7 := decide (f.cver ≠ 0) || decide (0 < f.mems.length)) (b8 := decide (0 < f.np)) (by dsimp only; omega)
  dsimp only at this
  rw [show ((f.kind.toNat : Nat) : Int) = f.kind by omega] at this
  exact this
set_option maxRecDepth 100000 in
set_option maxHeartbeats 4000000 in
theorem fits_core (zx kd se tu xi ti ow ve cv tmo er cr : Int) (p : List UInt8) (A1 A2 A3 : Option Addr) (n1 n2 n3 c1 c2 c3 : Nat) (w : World) (hL : PA.Laid w) (hk : 0 ≤ kd ∧ kd < 256) (F : Int) (br K : Bool)
    (hF : ∀ w', Calls Tryd.prog 44 #[.agg #[.int .i64 zx, .int .u8 kd, .int .i64 se, .int .i64 tu, .int .i64 xi, .int .i64 ti, .string (mkS p), .slice A1 n1 c1, .int .i64 ow, .int .i64 ve, .int .i64 cv, .int .i64 tmo, .int .i64 er, .int .i64 cr, .slice A2 n2 c2, .slice A3 n3 c3]] w' fun e w'' => e = .returned (.int .u16 F) ∧ Below w'.heap.size w' w'')
    (hbr : 1 ≤ kd → kd ≤ 9 → (bits BinOp.andNot IntKind.u16 F (PA.kTab kd.toNat) != 0) = !br)
    (hK : (1 ≤ kd ∧ kd ≤ 9) → br = true → ∀ w', Below w.heap.size w w' → Calls Tryd.prog 46 #[.agg #[.int .i64 zx, .int .u8 kd, .int .i64 se, .int .i64 tu, .int .i64 xi, .int .i64 ti, .string (mkS p), .slice A1 n1 c1, .int .i64 ow, .int .i64 ve, .int .i64 cv, .int .i64 tmo, .int .i64 er, .int .i64 cr, .slice A2 n2 c2, .slice A3 n3 c3]] w' fun e w'' => e = .returned (.bool K) ∧ Below w'.heap.size w' w'') :
    Calls Tryd.prog 33 #[.agg #[.int .i64 zx, .int .u8 kd, .int .i64 se, .int .i64 tu, .int .i64 xi, .int .i64 ti, .string (mkS p), .slice A1 n1 c1, .int .i64 ow, .int .i64 ve, .int .i64 cv, .int .i64 tmo, .int .i64 er, .int .i64 cr, .slice A2 n2 c2, .slice A3 n3 c3]] w fun e w' => e = .returned (.bool (decide (1 ≤ kd ∧ kd ≤ 9) && br && decide (n1 ≤ 1000) && (decide (0 ≤ ow) && decide (0 ≤ ve) && decide (0 ≤ cv) && decide (0 ≤ tmo) && decide (0 ≤ er)) && K)) ∧ Below w.heap.size w w' := by
  generalize hX : (decide (1 ≤ kd ∧ kd ≤ 9) && br && decide (n1 ≤ 1000) && (decide (0 ≤ ow) && decide (0 ≤ ve) && decide (0 ≤ cv) && decide (0 ≤ tmo) && decide (0 ≤ er)) && K) = X
  have HX : Hid ((decide (1 ≤ kd ∧ kd ≤ 9) && br && decide (n1 ≤ 1000) && (decide (0 ≤ ow) && decide (0 ≤ ve) && decide (0 ≤ cv) && decide (0 ≤ tmo) && decide (0 ≤ er)) && K) = X) := hX
  have HK : Hid _ := hK
  have HF : Hid _ := hF
  have HL : Hid (PA.Laid w) := hL
  clear hX hK hF hL
  go_enter Tryd.func33, Tryd.ntmps33
  obtain ⟨w1, hw1⟩ : ∃ X, X = w.alloc (.cells #[.int .i64 zx, .int .u8 kd, .int .i64 se, .int .i64 tu, .int .i64 xi, .int .i64 ti, .string (mkS p), .slice A1 n1 c1, .int .i64 ow, .int .i64 ve, .int .i64 cv, .int .i64 tmo, .int .i64 er, .int .i64 cr, .slice A2 n2 c2, .slice A3 n3 c3] 32) := ⟨_, rfl⟩
  have hB1 : Below w.heap.size w w1 := by rw [hw1]; exact (Below.refl _ _).alloc (Nat.le_refl _) _
  have HC1 : Hid (w1.heap[w.heap.size]? = some (.cells #[.int .i64 zx, .int .u8 kd, .int .i64 se, .int .i64 tu, .int .i64 xi, .int .i64 ti, .string (mkS p), .slice A1 n1 c1, .int .i64 ow, .int .i64 ve, .int .i64 cv, .int .i64 tmo, .int .i64 er, .int .i64 cr, .slice A2 n2 c2, .slice A3 n3 c3] 32 (0, 0))) := by rw [hw1]; exact heap_alloc_new w _
  have HB1 : Hid (Below w.heap.size w w1) := hB1
  have ho := of_any kd hk w1 (HL.out.below hB1)
  rw [hw1] at ho
  go_wp2_with fail
  refine ho.mono ?_
  rintro e w2 ⟨rfl, hw2⟩
  rw [← hw1] at hw2
  clear ho hw1 hB1
  subst hw2
  by_cases hkk : 1 ≤ kd ∧ kd ≤ 9
  · have hb := hbr hkk.1 hkk.2
    have hT := kTab_pos kd.toNat (by omega) (by omega)
    generalize PA.kTab kd.toNat = T at hb hT ⊢
    have hT' : (T == 0) = false := by simpa using hT
    have HR := HK.out hkk
    have HKK : Hid (1 ≤ kd ∧ kd ≤ 9) := hkk
    clear hT hbr HK hkk
    obtain ⟨z0, z1, z2, z3, z4, z5, z6, z7, z8, z9, z10, z11, z12, z13, z14, z15⟩ := cells16 HC1.out
    have hf := HF.out w2
    go_wp2_with fail
    refine hf.mono ?_
    rintro e w3 ⟨rfl, hB3⟩
    have HB3 : Hid (Below w.heap.size w w3) := HB1.out.trans (hB3.mono HB1.out.size)
    have HC3 : Hid (w3.heap[w.heap.size]? = some (.cells #[.int .i64 zx, .int .u8 kd, .int .i64 se, .int .i64 tu, .int .i64 xi, .int .i64 ti, .string (mkS p), .slice A1 n1 c1, .int .i64 ow, .int .i64 ve, .int .i64 cv, .int .i64 tmo, .int .i64 er, .int .i64 cr, .slice A2 n2 c2, .slice A3 n3 c3] 32 (0, 0))) := by show _ = _; rw [hB3.block _ (heap_lt HC1.out)]; exact HC1.out
    clear hf hB3 HF z0 z1 z2 z3 z4 z5 z6 z7 z8 z9 z10 z11 z12 z13 z14 z15 HB1 HC1
    obtain ⟨z0, z1, z2, z3, z4, z5, z6, z7, z8, z9, z10, z11, z12, z13, z14, z15⟩ := cells16 HC3.out
    cases br with
    | false =>
      have hX : X = false := by rw [← HX.out]; simp
      subst hX
      simp only [Bool.not_false] at hb
      go_wp2
      go_ret
      exact ⟨rfl, HB3.out⟩
    | true =>
      simp only [Bool.not_true] at hb
      by_cases hn : n1 ≤ 1000
      · have HRR : Hid _ := HR rfl
        clear HR
        have hn' : ¬ (1000 < n1) := by omega
        have hno := numbersOf_any zx kd se tu xi ti ow ve cv tmo er cr (mkS p) (.slice A1 n1 c1) (.slice A2 n2 c2) (.slice A3 n3 c3) w3
        go_wp2_with fail
        refine hno.mono ?_
        rintro e w4 ⟨rfl, hB4⟩
        have HB4 : Hid (Below w.heap.size w w4) := HB3.out.trans (hB4.mono HB3.out.size)
        have HC4 : Hid (w4.heap[w.heap.size]? = some (.cells #[.int .i64 zx, .int .u8 kd, .int .i64 se, .int .i64 tu, .int .i64 xi, .int .i64 ti, .string (mkS p), .slice A1 n1 c1, .int .i64 ow, .int .i64 ve, .int .i64 cv, .int .i64 tmo, .int .i64 er, .int .i64 cr, .slice A2 n2 c2, .slice A3 n3 c3] 32 (0, 0))) := by show _ = _; rw [hB4.block _ (heap_lt HC3.out)]; exact HC3.out
        clear hno hB4 z0 z1 z2 z3 z4 z5 z6 z7 z8 z9 z10 z11 z12 z13 z14 z15 HB3 HC3
        have hd0 : decide ((1000 : Int) < (n1 : Int)) = false := by simp; omega
        go_wp2_with fail
        clear hd0 hn' hb hT'
        go_loopw [26] (fun c wr => ∃ k : Nat, k ≤ 5 ∧ c = .int .i64 k ∧ pos5 ow ve cv tmo er k ∧ wr = w4) (fun c _ => 5 - (intOf c).toNat)
        case atStart => exact ⟨0, by omega, rfl, fun j hj => by omega, rfl⟩
        case round =>
          obtain ⟨k, hk5, rfl, hpos, rfl⟩ := hrel
          have HP : Hid (pos5 ow ve cv tmo er k) := hpos
          clear hpos
          by_cases h5 : k < 5
          · have hx := fun w => ixNum w ow ve cv tmo er k h5
            have HN : Hid (nth5 ow ve cv tmo er k < 0 → X = false) := by
              intro hneg
              rw [← HX.out]
              have : ¬ (0 ≤ ow ∧ 0 ≤ ve ∧ 0 ≤ cv ∧ 0 ≤ tmo ∧ 0 ≤ er) := fun h => by have := pos5_all.2 h k h5; omega
              have e : (decide (0 ≤ ow) && decide (0 ≤ ve) && decide (0 ≤ cv) && decide (0 ≤ tmo) && decide (0 ≤ er)) = false := by
                rw [Bool.eq_false_iff]
                intro h
                simp only [Bool.and_eq_true, decide_eq_true_eq] at h
                exact this ⟨h.1.1.1.1, h.1.1.1.2, h.1.1.2, h.1.2, h.2⟩
              rw [e]; simp
            have HS : Hid (0 ≤ nth5 ow ve cv tmo er k → pos5 ow ve cv tmo er (k + 1)) := by
              intro h j hj
              rcases Nat.lt_succ_iff_lt_or_eq.1 hj with e | e
              · exact HP.out j e
              · subst e; exact h
            generalize nth5 ow ve cv tmo er k = x at hx HN HS
            by_cases hx0 : x < 0
            · have hX := HN.out hx0
              subst hX
              go_wp2
              go_ret
              exact ⟨rfl, HB4.out⟩
            · have HS2 : Hid (pos5 ow ve cv tmo er (k + 1)) := HS.out (by omega)
              go_wp2
              exact ⟨⟨k + 1, by omega, by go_num, HS2.out, (by first | trivial | rfl)⟩, by simp [intOf]; omega⟩
          · obtain rfl : k = 5 := by omega
            have hX : X = K := by
              obtain ⟨q1, q2, q3, q4, q5⟩ := pos5_all.1 HP.out
              rw [← HX.out, decide_eq_true HKK.out]
              simp [hn, q1, q2, q3, q4, q5]
            subst hX
            obtain ⟨z0, z1, z2, z3, z4, z5, z6, z7, z8, z9, z10, z11, z12, z13, z14, z15⟩ := cells16 HC4.out
            have hr := HRR.out wr HB4.out
            clear HRR
            go_wp2_with fail
            refine hr.mono ?_
            rintro e w5 ⟨rfl, hB5⟩
            have HB5 : Hid (Below w.heap.size w w5) := HB4.out.trans (hB5.mono HB4.out.size)
            clear hr hB5 z0 z1 z2 z3 z4 z5 z6 z7 z8 z9 z10 z11 z12 z13 z14 z15
            go_wp2
            go_ret
            exact ⟨rfl, HB5.out⟩
      · have hX : X = false := by rw [← HX.out]; simp [hn]
        subst hX
        go_wp2
        go_ret
        exact ⟨rfl, HB3.out⟩
  · have hT := kTab_zero hk.1 hkk
    rw [hT]
    have hX : X = false := by rw [← HX.out, decide_eq_false hkk]; rfl
    subst hX
    obtain ⟨z0, z1, z2, z3, z4, z5, z6, z7, z8, z9, z10, z11, z12, z13, z14, z15⟩ := cells16 HC1.out
    go_wp2
    go_ret
    exact ⟨rfl, HB1.out⟩
end Go.Proofs.YtkbmbnfpadllmaaDoor.DD
