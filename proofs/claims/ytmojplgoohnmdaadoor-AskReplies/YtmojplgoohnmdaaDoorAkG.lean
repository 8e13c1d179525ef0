/- The walks of isPut and GetEvent. -/
import Derived.Test.YtmojplgoohnmdaaDoorAkE
namespace Go.Proofs.YtmojplgoohnmdaaDoor.AK
set_option linter.unusedVariables false
open Go.RowKit
set_option linter.unusedVariables false

set_option maxRecDepth 100000 in
set_option maxHeartbeats 2000000 in
theorem isPutE_any (e : Ev) (w : World) (y : Value) (b : List UInt8) (hf : EvFit e) (hl : e.path.length ≤ 9223372036854775807) (hB : Bs w y b) :
    Calls Tryd.prog 64 #[.func (.func 17) #[] #[], .agg #[.int .u8 e.kind, .int .u8 e.sort, .string (mkS e.path), .int .i64 e.zxid], y] w fun a w' => a = .returned (.bool (rightE e && decide (eventB e = b))) ∧ Below w.heap.size w w' := by
  obtain ⟨w1, hw1⟩ : ∃ X, X = w.alloc (.cells #[.int .u8 e.kind, .int .u8 e.sort, .string (mkS e.path), .int .i64 e.zxid] 46) := ⟨_, rfl⟩
  have HB1 : Hid (Below w.heap.size w w1) := by show Below _ _ _; rw [hw1]; exact (Below.refl _ _).alloc (Nat.le_refl _) _
  have hno := putE_no e w1 hl
  have hyes := putE_yes e w1 hf
  have HB : Hid (Bs w y b) := hB
  obtain ⟨A1, C1, rfl⟩ := bs_form hB
  clear hB hf
  generalize hR : rightE e = R at hno hyes ⊢
  clear hR
  cases R with
  | false =>
    replace hno := hno rfl
    clear hyes
    rw [hw1] at hno
    go_enter Tryd.func64, Tryd.ntmps64
    go_wp2_with fail
    refine hno.mono ?_
    rintro a w2 ⟨rfl, hB2⟩
    rw [← hw1] at hB2
    have HB2 : Hid (Below w.heap.size w w2) := HB1.out.trans (hB2.mono HB1.out.size)
    clear hno hB2 hw1
    go_wp2_with fail
    go_ret
    exact ⟨rfl, HB2.out⟩
  | true =>
    replace hyes := hyes rfl
    clear hno
    rw [hw1] at hyes
    go_enter Tryd.func64, Tryd.ntmps64
    go_wp2_with fail
    refine hyes.mono ?_
    rintro a w2 ⟨x, rfl, hN⟩
    rw [← hw1] at hN
    have HB2 : Hid (Below w.heap.size w w2) := HB1.out.trans (hN.below.mono HB1.out.size)
    have heq := equal_any hN.bs (Bs.below' HB.out HB2.out)
    obtain ⟨AX, CX, rfl⟩ := bs_form hN.bs
    clear hyes hN hw1
    go_wp2_with fail
    refine heq.mono ?_
    rintro a w3 ⟨rfl, rfl⟩
    clear heq
    go_wp2_with fail
    go_ret
    exact ⟨by rw [Bool.true_and]; rfl, HB2.out⟩
end Go.Proofs.YtmojplgoohnmdaaDoor.AK
