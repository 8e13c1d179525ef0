/- The contract of OverBytes: it writes over what was lent, and over nothing else. -/
import Derived.Test.YtkcncaddhfgmaaaDkFb
namespace Go.Proofs.Ytkcncaddhfgmaaa
open Go.RowKit

def One (g : Nat) : Nat → Prop := fun k => k = g
theorem heap_set {w : World} {g T : Nat} {cs : Array Value} {fr : Nat × Nat} (h : w.heap[g]? = some (.cells cs T fr)) (i : Nat) (v : Value) : (w.setCell ⟨g, i, none⟩ v).heap[g]? = some (.cells (cs.setIfInBounds i v) T fr) := by
  simp [World.setCell, Array.getElem?_modify, h]
set_option maxRecDepth 100000 in
set_option maxHeartbeats 1000000 in
theorem over_any (g n : Nat) (l : List UInt8) (w : World) (hL : LB.Lent w g l) (hn : l.length = n) (hm : n ≤ 100000) :
    Calls Try.prog 11 #[.slice (some ⟨g, 0, none⟩) n (n + 12)] w fun e w' => e = .returned (.tuple #[]) ∧ Chg (One g) w w' := by
  have h0 : ∃ cs : Array Value, w.heap[g]? = some (.cells cs 5 (0, 0)) ∧ cs.size = n + 12 := ⟨_, hL, by simp [bv_len, LB.marks_len, hn]⟩
  have H0 : Hid (∃ cs : Array Value, w.heap[g]? = some (.cells cs 5 (0, 0)) ∧ cs.size = n + 12) := h0
  clear h0 hL hn
  go_enter Try.func11, Try.ntmps11
  go_wp2
  go_loopw [3] (fun i wr => ∃ k : Nat, i = .int .i64 k ∧ k ≤ n + 12 ∧ Chg (One g) w wr ∧ ∃ cs : Array Value, wr.heap[g]? = some (.cells cs 5 (0, 0)) ∧ cs.size = n + 12) (fun i _ => n + 12 - (intOf i).toNat)
  case atStart => exact ⟨0, rfl, by omega, Chg.refl _ _, H0.out⟩
  case round =>
    obtain ⟨k, rfl, hk, hc, cs, hg, hs⟩ := hrel
    have HC : Hid (Chg (One g) w wr) := hc
    have HG : Hid (wr.heap[g]? = some (.cells cs 5 (0, 0)) ∧ cs.size = n + 12) := ⟨hg, hs⟩
    by_cases hlt : k < n + 12
    · have ce : wr.cell? ⟨g, k, none⟩ = some (cs[k]'(by omega)) := by rw [cell_at hg]; simp [hs, hlt]
      have cf : wr.frozen? ⟨g, k, none⟩ = false := frozen_at hg k
      generalize cs[k]'(by omega) = x at ce
      have hmk := fun w => AB.markB_any 2 (k : Int) w (by omega) (by omega) (by omega) (by omega)
      generalize LB.mb (1000003 * (2 + 7) + (k : Int)) = B at hmk
      clear hc hg hs
      have HC2 : Hid (Chg (One g) w (wr.setCell ⟨g, k, none⟩ (.int .u8 B)) ∧ ∃ cs : Array Value, (wr.setCell ⟨g, k, none⟩ (.int .u8 B)).heap[g]? = some (.cells cs 5 (0, 0)) ∧ cs.size = n + 12) :=
        ⟨HC.out.trans (Chg.setCell wr ⟨g, k, none⟩ _ rfl), _, heap_set HG.out.1 k _, by rw [Array.size_setIfInBounds]; exact HG.out.2⟩
      go_wp2_with fail
      refine (hmk _).mono ?_
      rintro e w3 ⟨rfl, rfl⟩
      go_wp2
      exact ⟨⟨k + 1, by go_num, by omega, HC2.out.1, HC2.out.2⟩, by simp [intOf]; omega⟩
    · clear hc hg hs
      go_wp2
      go_end0
      exact ⟨rfl, HC.out⟩
end Go.Proofs.Ytkcncaddhfgmaaa
