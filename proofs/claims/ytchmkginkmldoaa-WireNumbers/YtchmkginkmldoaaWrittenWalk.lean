/- The walk of putting some things, one behind the other. -/
import Derived.Test.YtchmkginkmldoaaDeeds
namespace Go.Proofs.Ytchmkginkmldoaa
open Go.RowKit

theorem allB_take {l : List Th} {k : Nat} (h : k < l.length) : allB (l.take (k + 1)) = allB (l.take k) ++ putB (l[k]'h) := by
  unfold allB
  rw [List.take_succ_eq_append_getElem h, List.map_append, List.flatten_append]
  simp
theorem allB_le (l : List Th) (k : Nat) : (allB (l.take k)).length ≤ (allB l).length := by
  have : allB l = allB (l.take k) ++ allB (l.drop k) := by
    unfold allB
    rw [← List.flatten_append, ← List.map_append, List.take_append_drop]
  rw [this]; simp
theorem pick_four (s : Int) : ∃ p : Nat, s % 4 = (p : Int) ∧ p < 4 ∧ pick 4 s = p := by
  have h1 := Int.emod_nonneg s (show (4 : Int) ≠ 0 by decide)
  have h2 := Int.emod_lt_of_pos s (show (0 : Int) < 4 by decide)
  refine ⟨(s % 4).toNat, by omega, by omega, ?_⟩
  unfold pick
  rfl
theorem u8_val (n : Int) : n % 256 = ((u8 n).toNat : Int) := by
  unfold u8
  rw [ofNat_small (by omega)]
  omega
theorem num_len (n : Int) (h1 : -9223372036854775808 ≤ n) (h2 : n < 9223372036854775808) : (numB n).length ≤ 10 := by
  have := dec_num n h1 h2 []
  rw [List.append_nil] at this
  have := dec_some _ 0 _ _ (by omega) this
  omega
end Go.Proofs.Ytchmkginkmldoaa
