/- The walks of the document's own node and parts. -/
import Derived.Test.YtmfednhommbikaaGreatDoorRf5a
import Derived.Test.YtmfednhommbikaaGreatDoorPathR
import Derived.Test.YtmfednhommbikaaGreatDoorDdF
namespace Go.Proofs.YtmfednhommbikaaGreatDoor.DD
set_option linter.unusedVariables false
open Go.RowKit
set_option linter.unusedVariables false

theorem root_ne (p : List UInt8) (b : Bool) (h : decide (p = [47]) = b) : ((mkS p).toList != [47]) = !b := by
  rw [PA.mkS_toList, ← h]
  by_cases e : p = [47] <;> simp [e]
set_option maxRecDepth 100000 in
set_option maxHeartbeats 2000000 in
theorem rnode_core (zx kd se tu xi ti ow ve cv tmo er cr : Int) (p : List UInt8) (A1 A2 A3 : Option Addr) (n1 n2 n3 c1 c2 c3 : Nat) (w : World) (B R S : Bool) (hS : decide (p = [47]) = S)
    (hB : ∀ w', Calls Tryz.prog 70 #[.agg #[.int .i64 zx, .int .u8 kd, .int .i64 se, .int .i64 tu, .int .i64 xi, .int .i64 ti, .string (mkS p), .slice A1 n1 c1, .int .i64 ow, .int .i64 ve, .int .i64 cv, .int .i64 tmo, .int .i64 er, .int .i64 cr, .slice A2 n2 c2, .slice A3 n3 c3]] w' fun e w'' => e = .returned (.bool B) ∧ Below w'.heap.size w' w'')
    (hR : ∀ w', PA.Laid w' → Calls Tryz.prog 96 #[.string (mkS p)] w' fun e w'' => e = .returned (.bool R) ∧ Below w'.heap.size w' w'') (hL : PA.Laid w) :
    Calls Tryz.prog 71 #[.agg #[.int .i64 zx, .int .u8 kd, .int .i64 se, .int .i64 tu, .int .i64 xi, .int .i64 ti, .string (mkS p), .slice A1 n1 c1, .int .i64 ow, .int .i64 ve, .int .i64 cv, .int .i64 tmo, .int .i64 er, .int .i64 cr, .slice A2 n2 c2, .slice A3 n3 c3]] w fun e w' => e = .returned (.bool (B && (R && (decide (n1 ≤ 1000) && (decide (0 ≤ ow) && (decide (0 ≤ cv) && (decide (0 ≤ ve) && (decide (kd = 3) || ((decide (kd = 1) || decide (kd = 2)) && !S))))))))) ∧ Below w.heap.size w w' := by
  obtain ⟨w1, hw1⟩ : ∃ X, X = w.alloc (.cells #[.int .i64 zx, .int .u8 kd, .int .i64 se, .int .i64 tu, .int .i64 xi, .int .i64 ti, .string (mkS p), .slice A1 n1 c1, .int .i64 ow, .int .i64 ve, .int .i64 cv, .int .i64 tmo, .int .i64 er, .int .i64 cr, .slice A2 n2 c2, .slice A3 n3 c3] 31) := ⟨_, rfl⟩
  have hB1 : Below w.heap.size w w1 := by rw [hw1]; exact (Below.refl _ _).alloc (Nat.le_refl _) _
  have HC1 : Hid (w1.heap[w.heap.size]? = some (.cells #[.int .i64 zx, .int .u8 kd, .int .i64 se, .int .i64 tu, .int .i64 xi, .int .i64 ti, .string (mkS p), .slice A1 n1 c1, .int .i64 ow, .int .i64 ve, .int .i64 cv, .int .i64 tmo, .int .i64 er, .int .i64 cr, .slice A2 n2 c2, .slice A3 n3 c3] 31 (0, 0))) := by rw [hw1]; exact heap_alloc_new w _
  have HB1 : Hid (Below w.heap.size w w1) := hB1
  have hb := hB w1
  have HR : Hid _ := hR
  have HL : Hid (PA.Laid w) := hL
  have hs2 := PA.toList_test p [47] S hS
  rw [hw1] at hb
  clear hB1 hL hR hB hS
  go_enter Tryz.func71, Tryz.ntmps71
  go_wp2_with fail
  refine hb.mono ?_
  rintro e w2 ⟨rfl, hB2⟩
  rw [← hw1] at hB2
  have HB2 : Hid (Below w.heap.size w w2) := HB1.out.trans (hB2.mono HB1.out.size)
  have HC2 : Hid (w2.heap[w.heap.size]? = some (.cells #[.int .i64 zx, .int .u8 kd, .int .i64 se, .int .i64 tu, .int .i64 xi, .int .i64 ti, .string (mkS p), .slice A1 n1 c1, .int .i64 ow, .int .i64 ve, .int .i64 cv, .int .i64 tmo, .int .i64 er, .int .i64 cr, .slice A2 n2 c2, .slice A3 n3 c3] 31 (0, 0))) := by show _ = _; rw [hB2.block _ (heap_lt HC1.out)]; exact HC1.out
  clear hb hB2 hw1 HB1 HC1
  obtain ⟨z0, z1, z2, z3, z4, z5, z6, z7, z8, z9, z10, z11, z12, z13, z14, z15⟩ := cells16 HC2.out
  cases B with
  | false =>
    go_wp2
    go_ret
    exact ⟨rfl, HB2.out⟩
  | true =>
    have hr := HR.out w2 (HL.out.below HB2.out)
    clear HR
    go_wp2_with fail
    refine hr.mono ?_
    rintro e w3 ⟨rfl, hB3⟩
    have HB3 : Hid (Below w.heap.size w w3) := HB2.out.trans (hB3.mono HB2.out.size)
    have HC3 : Hid (w3.heap[w.heap.size]? = some (.cells #[.int .i64 zx, .int .u8 kd, .int .i64 se, .int .i64 tu, .int .i64 xi, .int .i64 ti, .string (mkS p), .slice A1 n1 c1, .int .i64 ow, .int .i64 ve, .int .i64 cv, .int .i64 tmo, .int .i64 er, .int .i64 cr, .slice A2 n2 c2, .slice A3 n3 c3] 31 (0, 0))) := by show _ = _; rw [hB3.block _ (heap_lt HC2.out)]; exact HC2.out
    clear hr hB3 HB2 HC2 z0 z1 z2 z3 z4 z5 z6 z7 z8 z9 z10 z11 z12 z13 z14 z15
    obtain ⟨z0, z1, z2, z3, z4, z5, z6, z7, z8, z9, z10, z11, z12, z13, z14, z15⟩ := cells16 HC3.out
    cases R with
    | false =>
      go_wp2
      go_ret
      exact ⟨rfl, HB3.out⟩
    | true =>
      by_cases k3 : kd = 3
      · subst k3
        go_wp2
        all_goals (go_ret; exact ⟨retb (by (try simp only [hs2]); (first | (simp_all; done) | (simp_all; omega))), HB3.out⟩)
      · by_cases k1 : kd = 1
        · subst k1
          go_wp2
          all_goals (go_ret; exact ⟨retb (by (try simp only [hs2]); (first | (simp_all; done) | (simp_all; omega))), HB3.out⟩)
        · by_cases k2 : kd = 2
          · subst k2
            go_wp2
            all_goals (go_ret; exact ⟨retb (by (try simp only [hs2]); (first | (simp_all; done) | (simp_all; omega))), HB3.out⟩)
          · have q1 := (neb _ _ k1).1
            have q2 := (neb _ _ k2).1
            have q3 := (neb _ _ k3).1
            go_wp2
            all_goals (go_ret; exact ⟨retb (by simp_all), HB3.out⟩)
theorem rnode_any (f : Fl) (A1 A2 A3 : Option Addr) (c1 c2 c3 : Nat) (w : World) (hL : PA.Laid w) :
    Calls Tryz.prog 71 #[.agg #[.int .i64 f.zxid, .int .u8 f.kind, .int .i64 f.session, .int .i64 f.turn, .int .i64 f.xid, .int .i64 f.time, .string (mkS f.path), .slice A1 f.data.length c1, .int .i64 f.owner, .int .i64 f.version, .int .i64 f.cversion, .int .i64 f.timeout, .int .i64 f.err, .int .i64 f.cver, .slice A2 f.mems.length c2, .slice A3 f.np c3]] w fun e w' => e = .returned (.bool (docNode f)) ∧ Below w.heap.size w w' := by
  refine (rnode_core f.zxid f.kind f.session f.turn f.xid f.time f.owner f.version f.cversion f.timeout f.err f.cver f.path A1 A2 A3 f.data.length f.mems.length f.np c1 c2 c3 w _ _ _ rfl (fun w' => rbare_any f A1 A2 A3 c1 c2 c3 w') (fun w' hl => PA.refCheck_any f.path w' hl) hL).mono ?_
  rintro e w' ⟨rfl, hb⟩
  refine ⟨retb ?_, hb⟩
  unfold docNode
  rw [show (!decide (f.path = [47])) = decide (f.path ≠ [47]) by by_cases e : f.path = [47] <;> simp [e]]
end Go.Proofs.YtmfednhommbikaaGreatDoor.DD
