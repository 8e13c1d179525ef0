/- The walks of ask's small functions: what a kind names, and numbers from nought on. -/
import Derived.Test.YtmojplgoohnmdaaDoorAk
import Derived.Test.YtmojplgoohnmdaaDoorEnsE
import Derived.Laws.Rows
namespace Go.Proofs.YtmojplgoohnmdaaDoor.AK
set_option linter.unusedVariables false
open Go.RowKit
set_option linter.unusedVariables false

/- What the listed variable holds. -/
structure QL (w : World) : Prop where
  tab : ∀ j, j < 15 → w.cell? ⟨0, j, none⟩ = some (.int .u16 (kQ j))
theorem QL.gt {w : World} (h : QL w) : 0 < w.heap.size := block_lt_of_cell (h.tab 0 (by omega))
theorem QL.below {w w' : World} (h : QL w) (hB : Below w.heap.size w w') : QL w' := ⟨fun j hj => by rw [hB.cell (p := ⟨0, j, none⟩) h.gt]; exact h.tab j hj⟩
theorem QL.chg {S : Nat → Prop} {w w' : World} (h : QL w) (hc : Chg S w w') (hs : ¬ S 0) : QL w' := ⟨fun j hj => by rw [hc.cell (a := ⟨0, j, none⟩) h.gt hs]; exact h.tab j hj⟩
theorem retb {a b : Bool} (h : a = b) : Ending.returned (.bool a) = .returned (.bool b) := by rw [h]
set_option maxRecDepth 100000 in
theorem of_any (k : Int) (hk : 0 ≤ k ∧ k < 256) (w : World) (hL : QL w) : Calls Tryd.prog 36 #[.int .u8 k] w fun e w' => e = .returned (.int .u16 (kQ k.toNat)) ∧ w' = w := by
  by_cases h : k < 15
  · have hc := hL.tab k.toNat (by omega)
    have hk' : k.toNat < 15 := by omega
    obtain ⟨n, rfl⟩ : ∃ n : Nat, k = n := ⟨k.toNat, by omega⟩
    rw [Int.toNat_natCast] at hc ⊢
    go_enter Tryd.func36, Tryd.ntmps36
    go_wp2
    go_ret
    exact ⟨rfl, rfl⟩
  · have : kQ k.toNat = 0 := by
      unfold kQ
      rw [List.getD_eq_getElem?_getD, List.getElem?_eq_none (by simp [kindsQ]; omega)]
      rfl
    rw [this]
    go_enter Tryd.func36, Tryd.ntmps36
    go_wp2
    go_ret
    exact ⟨rfl, rfl⟩
theorem has_bits0 : ∀ k : Fin 15, ∀ i : Fin 13, (bits BinOp.and IntKind.u16 (kQ k.val) (2 ^ i.val) != 0) = has (k.val : Int) i.val := by decide +kernel
theorem has_bits {k : Int} (hk : 0 ≤ k ∧ k < 256) (i : Nat) (hi : i < 13) : (bits BinOp.and IntKind.u16 (kQ k.toNat) (2 ^ i) != 0) = has k i := by
  by_cases h : k < 15
  · have := has_bits0 ⟨k.toNat, by omega⟩ ⟨i, hi⟩
    dsimp only at this
    rwa [show ((k.toNat : Nat) : Int) = k by omega] at this
  · rw [has_big (by omega)]
    have : kQ k.toNat = 0 := by
      unfold kQ
      rw [List.getD_eq_getElem?_getD, List.getElem?_eq_none (by simp [kindsQ]; omega)]
      rfl
    rw [this]
    have : ∀ j : Fin 13, (bits BinOp.and IntKind.u16 0 (2 ^ j.val) != 0) = false := by decide +kernel
    exact this ⟨i, hi⟩
set_option maxRecDepth 100000 in
theorem have_any (T m : Int) (w : World) : Calls Tryd.prog 37 #[.int .u16 T, .int .u16 m] w fun e w' => e = .returned (.bool (bits BinOp.and IntKind.u16 T m != 0)) ∧ w' = w := by
  go_enter Tryd.func37, Tryd.ntmps37
  go_wp2
  go_ret
  exact ⟨rfl, rfl⟩
/- A row of numbers that was built for a call. -/
def NumsAt (w : World) (b : Nat) (ns : List Int) : Prop := ∀ j (hj : j < ns.length), w.cell? ⟨b, j, none⟩ = some (.int .i64 (ns[j]'hj))
set_option maxRecDepth 100000 in
theorem fromZero_any {w : World} {b : Nat} {ns : List Int} (h : NumsAt w b ns) (hl : ns.length ≤ 1000) :
    Calls Tryd.prog 38 #[.slice (some ⟨b, 0, none⟩) ns.length ns.length] w fun e w' => e = .returned (.bool (ns.all fun n => decide (0 ≤ n))) ∧ w' = w := by
  have HN : Hid (NumsAt w b ns) := h
  clear h
  generalize hX : (ns.all fun n => decide (0 ≤ n)) = X
  have HX : Hid ((ns.all fun n => decide (0 ≤ n)) = X) := hX
  clear hX
  generalize hn : ns.length = n at hl ⊢
  have HL : Hid (ns.length = n) := hn
  clear hn
  go_enter Tryd.func38, Tryd.ntmps38
  go_wp2_with fail
  go_loopw [7] (fun c wr => ∃ k : Nat, k ≤ n ∧ c = .int .i64 k ∧ ((ns.take k).all fun n => decide (0 ≤ n)) = true ∧ wr = w) (fun c _ => n - (intOf c).toNat)
  case atStart => exact ⟨0, by omega, rfl, rfl, rfl⟩
  case round =>
    obtain ⟨k, hk, rfl, ht, rfl⟩ := hrel
    have HT : Hid (((ns.take k).all fun n => decide (0 ≤ n)) = true) := ht
    clear ht
    by_cases hlt : k < n
    · have hkl : k < ns.length := by have := HL.out; omega
      have hc := HN.out k hkl
      have HS : Hid (((ns.take (k + 1)).all fun n => decide (0 ≤ n)) = decide (0 ≤ (ns[k]'hkl))) := by
        show _ = _
        rw [List.take_succ_eq_append_getElem hkl, List.all_append, HT.out]; simp
      have HV : Hid (¬ 0 ≤ (ns[k]'hkl) → X = false) := fun h => by
        rw [← HX.out, List.all_eq_false]
        exact ⟨_, List.getElem_mem hkl, by simpa using h⟩
      generalize (ns[k]'hkl) = x at hc HS HV
      by_cases hx : x < 0
      · have hX := HV.out (by omega)
        subst hX
        go_wp2
        go_ret
        exact ⟨rfl, rfl⟩
      · have HS2 : Hid (((ns.take (k + 1)).all fun n => decide (0 ≤ n)) = true) := HS.out.trans (decide_eq_true (by omega))
        go_wp2
        exact ⟨⟨k + 1, by omega, by go_num, HS2.out, by first | trivial | rfl⟩, by simp [intOf]; omega⟩
    · have hkn : k = n := by omega
      have hX : X = true := by rw [← HX.out, ← HT.out, hkn, ← HL.out, List.take_length]
      subst hX
      go_wp2
      go_ret
      exact ⟨rfl, rfl⟩
end Go.Proofs.YtmojplgoohnmdaaDoor.AK
