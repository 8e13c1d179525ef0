/- The walk of DiskNil. -/
import Derived.Test.YtniopcfjekpnjaaDkW
import Derived.Test.YtniopcfjekpnjaaDkN
namespace Go.Proofs.Ytniopcfjekpnjaa
open Go.RowKit Go.MapKept

set_option maxRecDepth 100000 in
set_option maxHeartbeats 1000000 in
theorem none_any {w : World} {v : Value} (h : NoDisk w v) (n : Value) : Calls Try.prog 21 #[v, n] w fun e w' => e = .returned (.bool true) ∧ Below w.heap.size w w' := by
  go_enter Try.func21, Try.ntmps21
  go_wp2_with fail
  refine (read_no h _).mono ?_
  rintro e w1 ⟨rfl, hB1⟩
  go_wp2_with fail
  refine (crash_no (h.below hB1) _).mono ?_
  rintro e w2 ⟨rfl, hB2'⟩
  have hB2 := hB1.trans (hB2'.mono hB1.size)
  clear hB2' hB1
  go_wp2_with fail
  refine (append_no (h.below hB2) _ _).mono ?_
  rintro e w3 ⟨rfl, hB3'⟩
  have hB3 := hB2.trans (hB3'.mono hB2.size)
  clear hB3' hB2
  go_wp2_with fail
  refine (sync_no (h.below hB3) _).mono ?_
  rintro e w4 ⟨rfl, hB4'⟩
  have hB4 := hB3.trans (hB4'.mono hB3.size)
  clear hB4' hB3
  go_wp2_with fail
  refine (cut_no (h.below hB4) _ _).mono ?_
  rintro e w5 ⟨rfl, hB5'⟩
  have hB5 := hB4.trans (hB5'.mono hB4.size)
  clear hB5' hB4
  go_wp2_with fail
  refine (rename_no (h.below hB5) _ _).mono ?_
  rintro e w6 ⟨rfl, hB6'⟩
  have hB6 := hB5.trans (hB6'.mono hB5.size)
  clear hB6' hB5
  go_wp2_with fail
  refine (remove_no (h.below hB6) _).mono ?_
  rintro e w7 ⟨rfl, hB7'⟩
  have hB7 := hB6.trans (hB7'.mono hB6.size)
  clear hB7' hB6
  go_wp2_with fail
  refine (list_no (h.below hB7)).mono ?_
  rintro e w8 ⟨rfl, hB8'⟩
  have hB8 := hB7.trans (hB8'.mono hB7.size)
  clear hB8' hB7
  go_wp2_with fail
  refine (used_no (h.below hB8)).mono ?_
  rintro e w9 ⟨rfl, hB9'⟩
  have hB9 := hB8.trans (hB9'.mono hB8.size)
  clear hB9' hB8
  go_wp2_with fail
  refine (copy_no (h.below hB9)).mono ?_
  rintro e w10 ⟨rfl, hB10'⟩
  have hB10 := hB9.trans (hB10'.mono hB9.size)
  clear hB10' hB9
  go_wp2_with fail
  go_ret
  exact ⟨rfl, hB10⟩
set_option maxRecDepth 100000 in
theorem dnil_any (n : Value) (w : World) : Calls Try.prog 5 #[n] w fun e w' => e = .returned (.bool true) ∧ Below w.heap.size w w' := by
  go_enter Try.func5, Try.ntmps5
  go_wp2_with fail
  refine (awake_any w).mono ?_
  rintro e w1 ⟨rfl, hB1⟩
  go_wp2_with fail
  refine (none_any (.inl rfl) _).mono ?_
  rintro e w2 ⟨rfl, hB2'⟩
  have hB2 := hB1.trans (hB2'.mono hB1.size)
  clear hB2' hB1
  go_wp2_with fail
  refine (none_any (.inr ⟨w2.heap.size, rfl, by simp⟩) _).mono ?_
  rintro e w3 ⟨rfl, hB3'⟩
  have hB3 := (hB2.alloc hB2.size (.cells #[.map none, .int .i64 0] 46)).trans (hB3'.mono (by have := hB2.size; simp; omega))
  clear hB3' hB2
  go_wp2_with fail
  go_ret
  exact ⟨rfl, hB3⟩
end Go.Proofs.Ytniopcfjekpnjaa
