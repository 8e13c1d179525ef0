/- Trees: sameNode of nodes that are alike. -/
import Derived.Test.YteaomigmamnobaaGreatDoorTrM
import Derived.Test.YteaomigmamnobaaGreatDoorTrC
import Derived.Test.YteaomigmamnobaaGreatDoorTrEq
namespace Go.Proofs.YteaomigmamnobaaGreatDoor
set_option linter.unusedSimpArgs false
set_option linter.unusedVariables false
open Go.RowKit Go.MapKept
set_option linter.unusedVariables false
set_option linter.unusedSimpArgs false
set_option maxRecDepth 100000 in
theorem sbequal_any {w : World} {x y : Value} {la lb : List UInt8} (hA : Bs w x la) (hB : Bs w y lb) :
    Calls Tryz.prog 57 #[x, y] w fun e w' => e = .returned (.bool (decide (la = lb))) ∧ w' = w := by
  have h1 := convert_bytes hA
  have h2 := convert_bytes hB
  obtain ⟨A1, C1, rfl⟩ := bs_form hA
  obtain ⟨A2, C2, rfl⟩ := bs_form hB
  clear hA hB
  have he : ((mkS la).toList == (mkS lb).toList) = decide (la = lb) := by
    rw [show (mkS la).toList = la by rw [ByteArray.toList_eq]; simp [mkS], show (mkS lb).toList = lb by rw [ByteArray.toList_eq]; simp [mkS]]
    rw [Bool.eq_iff_iff]; simp
  go_enter Tryz.func57, Tryz.ntmps57
  go_wp2
  go_ret
  simp [he]
set_option maxRecDepth 100000 in
set_option maxHeartbeats 4000000 in
theorem sameNode_yes {w : World} {x y : Value} {b : List UInt8} {s : Stt} (hx : Bs w x b) (hy : Bs w y b) : Calls Tryz.prog 35 #[.agg (x :: stV s).toArray, .agg (y :: stV s).toArray] w fun e w' => e = .returned (.bool true) ∧ Below w.heap.size w w' := by
  have hAny : Hid (∀ {w' : World}, Below w.heap.size w w' → Calls Tryz.prog 57 #[x, y] w' fun e w'' => e = .returned (.bool true) ∧ w'' = w') := fun hb => by
    have := sbequal_any (hx.keep (Chg.of_below hb) (fun _ _ => id)) (hy.keep (Chg.of_below hb) (fun _ _ => id))
    simpa using this
  clear hx hy
  simp only [stV]
  go_enter Tryz.func35, Tryz.ntmps35
  go_wp2_with fail
  have hb2 : Below w.heap.size w _ := (lay1 w (.cells #[x, Value.int IntKind.i64 s.cz, Value.int IntKind.i64 s.mz, Value.int IntKind.i64 s.pz, Value.int IntKind.i64 s.ct, Value.int IntKind.i64 s.mt, Value.int IntKind.i64 s.ver, Value.int IntKind.i64 s.cv, Value.int IntKind.i64 s.own, Value.int IntKind.i64 s.len, Value.int IntKind.i64 s.chd] 77)).trans ((lay1 _ (.cells #[y, Value.int IntKind.i64 s.cz, Value.int IntKind.i64 s.mz, Value.int IntKind.i64 s.pz, Value.int IntKind.i64 s.ct, Value.int IntKind.i64 s.mt, Value.int IntKind.i64 s.ver, Value.int IntKind.i64 s.cv, Value.int IntKind.i64 s.own, Value.int IntKind.i64 s.len, Value.int IntKind.i64 s.chd] 77)).mono (by simp))
  have HB2 : Hid (Below w.heap.size w _) := hb2
  refine (hAny.out hb2).mono ?_
  clear hb2
  rintro e w1 ⟨rfl, hw1⟩
  subst hw1
  go_wp2_with fail
  go_ret
  exact ⟨rfl, HB2.out⟩
end Go.Proofs.YteaomigmamnobaaGreatDoor
