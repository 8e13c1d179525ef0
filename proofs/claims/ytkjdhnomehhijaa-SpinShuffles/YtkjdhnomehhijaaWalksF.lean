/- The contract of KeptInts: what was lent is as it was. -/
import Derived.Test.YtkjdhnomehhijaaWalksE
namespace Go.Proofs.Ytkjdhnomehhijaa
open Go.RowKit

theorem LentAt.cell {w : World} {g : Nat} {l : List Int} (h : LentAt w g l) (k : Nat) (hk : k < l.length) : w.cell? ⟨g, k, none⟩ = some (.int .i64 l[k]) := by
  rw [cell_of_row w g k _ _ _ h]
  simp only [List.getElem?_toArray, List.map_append]
  rw [List.getElem?_append_left (by simpa using hk)]
  simp [hk]
theorem LentAt.mark {w : World} {g : Nat} {l : List Int} (h : LentAt w g l) (k : Nat) (hk : l.length ≤ k) (hk' : k < l.length + 12) : w.cell? ⟨g, k, none⟩ = some (.int .i64 (8000024 + ((k : Int) - (l.length : Int)))) := by
  rw [cell_of_row w g k _ _ _ h]
  have e : (marks 12)[k - l.length]? = some (8000024 + ((k : Int) - (l.length : Int))) := by
    unfold marks
    rw [List.getElem?_map, List.getElem?_range (by omega)]
    simp; omega
  simp only [List.getElem?_toArray, List.map_append]
  rw [List.getElem?_append_right (by simpa using hk)]
  simp [e]
theorem LentAt.keep {w w' : World} {g r : Nat} {l : List Int} (h : LentAt w g l) (hg : w.grownBy w' (some r)) (hr : g ≠ r) : LentAt w' g l := by
  unfold LentAt at *
  have hlt : g < w.heap.size := by
    rcases Nat.lt_or_ge g w.heap.size with h1 | h1
    · exact h1
    · rw [Array.getElem?_eq_none h1] at h; cases h
  rw [hg.block g hlt (by simpa using hr)]; exact h

set_option maxRecDepth 100000 in
set_option maxHeartbeats 1000000 in
theorem kept_any (g n : Nat) (a : Option Addr) (c : Nat) (l : List Int) (w : World) (hL : LentAt w g l) (hA : Lies w a l) (hn : l.length = n) (hm : n ≤ 1000000) :
    Calls Try.prog 18 #[.slice (some ⟨g, 0, none⟩) n (n + 12), .slice a n c] w fun e w' => e = .returned (.bool true) ∧ ∃ q, w' = w.drewN q := by
  have HL : Hid (LentAt w g l) := hL
  have HA : Hid (Lies w a l) := hA
  have HN : Hid (l.length = n) := hn
  clear hL hA hn
  go_enter Try.func18, Try.ntmps18
  go_wp2
  go_loopw [6] (fun i wr => ∃ (k q : Nat), k ≤ n + 12 ∧ i = .int .i64 k ∧ wr = w.drewN q) (fun i _ => n + 12 - (intOf i).toNat)
  case atStart => exact ⟨0, 0, Nat.zero_le _, rfl, rfl⟩
  case round =>
    obtain ⟨k, q, hk, rfl, hw⟩ := hrel
    have HW : Hid (wr = w.drewN q) := hw
    clear hw
    by_cases h1 : k < n
    · obtain ⟨b, o, e, x1⟩ := HA.out k (by have := HN.out; omega)
      have x2 := HL.out.cell k (by have := HN.out; omega)
      obtain ⟨x, hx⟩ : ∃ x, x = l[k]'(by have := HN.out; omega) := ⟨_, rfl⟩
      rw [← hx] at x1 x2
      clear hx
      have x3 : wr.cell? ⟨b, o + k, none⟩ = some (.int .i64 x) := by rw [HW.out]; exact x1
      have x4 : wr.cell? ⟨g, k, none⟩ = some (.int .i64 x) := by rw [HW.out]; exact x2
      clear x1 x2
      subst e
      have d2 : decide (n ≤ k) = false := by simp; omega
      go_wp2_with fail
      go_quiet (fail)
      go_wp2
      go_roundw
      case rel => exact ⟨k + 1, q + nq, by omega, by go_num, by rw [HW.out, World.drewN_drewN]⟩
      case measure => simp [intOf]; omega
    · by_cases h2 : k < n + 12
      · have x2 := HL.out.mark k (by have := HN.out; omega) (by have := HN.out; omega)
        rw [HN.out] at x2
        have x4 : wr.cell? ⟨g, k, none⟩ = some (.int .i64 (8000024 + ((k : Int) - (n : Int)))) := by rw [HW.out]; exact x2
        clear x2
        have h1' : n ≤ k := by omega
        have d3 : decide (k < n) = false := by simpa using h1'
        clear h1
        go_wp2_with fail
        go_big_quiet ((go_at_call 33; exact Calls.quiet_of_same (mark1 ((k : Int) - (n : Int)) _ (by omega) (by omega))))
        go_wp2
        go_roundw
        case rel => exact ⟨k + 1, q + nq, by omega, by go_num, by rw [HW.out, World.drewN_drewN]⟩
        case measure => simp [intOf]; omega
      · go_wp2
        go_ret
        exact ⟨rfl, q, HW.out⟩
end Go.Proofs.Ytkjdhnomehhijaa
