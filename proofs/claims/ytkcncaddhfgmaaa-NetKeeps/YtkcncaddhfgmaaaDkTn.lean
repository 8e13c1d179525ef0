/- The contract of TurnBytes: it writes over the bytes, and over nothing else. -/
import Derived.Test.YtkcncaddhfgmaaaDkFb
namespace Go.Proofs.Ytkcncaddhfgmaaa
open Go.RowKit

set_option maxRecDepth 100000 in
set_option maxHeartbeats 1000000 in
theorem turn_any (A : Option Addr) (n C : Nat) (w : World) (l0 : List Int) (h : AB.R w A n C l0) (hn : n ≤ 1000000) :
    Calls Try.prog 15 #[.slice A n C] w fun e w' => e = .returned (.tuple #[]) ∧ Chg (fun k => A = some ⟨k, 0, none⟩) w w' := by
  have H0 : Hid (AB.R w A n C l0) := h
  clear h
  go_enter Try.func15, Try.ntmps15
  go_wp2
  go_loopw [2] (fun i wr => ∃ (k : Nat) (l : List Int), i = .int .i64 k ∧ k ≤ n ∧ AB.R wr A n C l ∧ Chg (fun k => A = some ⟨k, 0, none⟩) w wr) (fun i _ => n - (intOf i).toNat)
  case atStart => exact ⟨0, _, rfl, by omega, H0.out, Chg.refl _ _⟩
  case round =>
    obtain ⟨k, l, rfl, hk, hR, hc⟩ := hrel
    clear H0
    by_cases hlt : k < n
    · obtain ⟨g, rfl, hgl⟩ := hR.pos (by omega)
      have ce := hR.cell k hlt
      have cf := hR.thaw k
      generalize l.getD k 0 = x at ce
      have HR : Hid (AB.R wr (some ⟨g, 0, none⟩) n C l) := hR
      have HC : Hid (Chg (fun k => (some ⟨g, 0, none⟩ : Option Addr) = some ⟨k, 0, none⟩) w wr) := hc
      clear hR hc
      go_wp2
      go_roundw
      case rel => exact ⟨k + 1, _, by go_num, by omega, HR.out.set k _, HC.out.trans (Chg.setCell wr ⟨g, k, none⟩ _ rfl)⟩
      case measure => simp [intOf]; omega
    · have HC : Hid (Chg (fun k => A = some ⟨k, 0, none⟩) w wr) := hc
      clear hR hc
      go_wp2
      go_end0
      exact ⟨rfl, HC.out⟩
end Go.Proofs.Ytkcncaddhfgmaaa
