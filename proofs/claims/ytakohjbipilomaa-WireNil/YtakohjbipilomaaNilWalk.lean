/- The walk of the statement on writers and readers that are not there. -/
import Derived.Test.YtakohjbipilomaaWalksJ
namespace Go.Proofs.Ytakohjbipilomaa
open Go.RowKit

set_option maxRecDepth 100000 in
set_option maxHeartbeats 1000000 in
theorem nil_any (n v : Value) (w : World) : Calls Try.prog 6 #[n, v] w fun e w' => e = .returned (.bool true) ∧ Below w.heap.size w w' := by
  go_enter Try.func6, Try.ntmps6
  go_wp2_with fail
  refine (awake_any w).mono ?_
  rintro e w1 ⟨rfl, hB1⟩
  go_wp2_with fail
  refine (wByte_nil _ _).mono ?_
  rintro e w2 ⟨rfl, rfl⟩
  go_wp2_with fail
  refine (wInt_nil _ _).mono ?_
  rintro e w3 ⟨rfl, rfl⟩
  go_wp2_with fail
  refine (wText_nil _ _).mono ?_
  rintro e w4 ⟨rfl, rfl⟩
  go_wp2_with fail
  refine (wBytes_nil _ _).mono ?_
  rintro e w5 ⟨rfl, rfl⟩
  have hr : Rdr (w5.alloc (.cells #[.slice none 0 0, .bool false] 59)) w5.heap.size none none :=
    ⟨.slice none 0 0, heap_alloc_new w5 _, Bs.nil _, (fun k hk => absurd hk (bk_zero _ _ _)), by simp, by simp⟩
  have hB5 := hB1.alloc hB1.size (.cells #[.slice none 0 0, .bool false] 59)
  go_wp2_with fail
  refine (wDone_nil _).mono ?_
  rintro e w6 ⟨rfl, rfl⟩
  go_wp2_with fail
  refine (rByte_nil _).mono ?_
  rintro e w7 ⟨rfl, rfl⟩
  go_wp2_with fail
  refine (rInt_nil _).mono ?_
  rintro e w8 ⟨rfl, rfl⟩
  go_wp2_with fail
  refine (rText_nil _ _).mono ?_
  rintro e w9 ⟨rfl, rfl⟩
  rw [show mkS [] = ⟨#[]⟩ from rfl]
  go_wp2_with fail
  refine (rBytes_nil _ _).mono ?_
  rintro e w10 ⟨v10, rfl, hn10⟩
  obtain ⟨A, C, rfl⟩ := bs_form hn10.bs
  have hr10 := hr.keep (Chg.of_below hn10.below) id (fun _ _ => id)
  have hB10 := hB5.trans (hn10.below.mono hB5.size)
  go_wp2_with fail
  refine (rCount_nil _ _).mono ?_
  rintro e w11 ⟨rfl, rfl⟩
  go_wp2_with fail
  refine (good_nil _).mono ?_
  rintro e w12 ⟨rfl, rfl⟩
  go_wp2_with fail
  refine (whole_nil _).mono ?_
  rintro e w13 ⟨rfl, rfl⟩
  go_wp2_with fail
  refine (good_any hr10).mono ?_
  rintro e w14 ⟨rfl, rfl⟩
  go_wp2_with fail
  refine (whole_any hr10).mono ?_
  rintro e w15 ⟨rfl, rfl⟩
  go_wp2_with fail
  refine (rByte_any hr10).mono ?_
  rintro e w16 ⟨rfl, _, hc16⟩
  rw [show ((rdByte none).1.toNat : Nat) = 0 from rfl]
  go_wp2
  go_ret
  exact ⟨rfl, hB10.trans (hc16.below (fun k e => by have : k = w5.heap.size := e; have := hB1.size; omega) hB10.size)⟩
end Go.Proofs.Ytakohjbipilomaa
