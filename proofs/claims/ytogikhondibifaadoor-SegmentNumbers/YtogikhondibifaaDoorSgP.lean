/- A deed in a frame: the contract of segment.Put. -/
import Derived.Test.YtogikhondibifaaDoorSgM
import Derived.Test.YtogikhondibifaaDoorWalksI
namespace Go.Proofs.YtogikhondibifaaDoor.DD
set_option linter.unusedVariables false
open Go.RowKit
set_option linter.unusedVariables false

set_option maxRecDepth 100000 in
set_option maxHeartbeats 4000000 in
theorem sput_no (f : Fl) (ps : List Fl) (A1 A2 A3 : Option Addr) (c1 c2 c3 : Nat) (w : World) (hL : PA.Laid w) (hv : DVal w f ps A1 c1 A2 c2 A3 c3) (hf : DedFit f ps) (hr : rightD f ps = false) :
    Calls Tryd.prog 7 #[.agg #[.int .i64 f.zxid, .int .u8 f.kind, .int .i64 f.session, .int .i64 f.turn, .int .i64 f.xid, .int .i64 f.time, .string (mkS f.path), .slice A1 f.data.length c1, .int .i64 f.owner, .int .i64 f.version, .int .i64 f.cversion, .int .i64 f.timeout, .int .i64 f.err, .int .i64 f.cver, .slice A2 f.mems.length c2, .slice A3 f.np c3]] w fun e w' => e = .returned (.tuple #[.slice none 0 0, .int .i64 4]) ∧ Below w.heap.size w w' := by
  obtain ⟨w1, hw1⟩ : ∃ X, X = w.alloc (.cells #[.int .i64 f.zxid, .int .u8 f.kind, .int .i64 f.session, .int .i64 f.turn, .int .i64 f.xid, .int .i64 f.time, .string (mkS f.path), .slice A1 f.data.length c1, .int .i64 f.owner, .int .i64 f.version, .int .i64 f.cversion, .int .i64 f.timeout, .int .i64 f.err, .int .i64 f.cver, .slice A2 f.mems.length c2, .slice A3 f.np c3] 37) := ⟨_, rfl⟩
  have hB1 : Below w.heap.size w w1 := by rw [hw1]; exact (Below.refl _ _).alloc (Nat.le_refl _) _
  have HB1 : Hid (Below w.heap.size w w1) := hB1
  have hri := put_no' f ps A1 A2 A3 c1 c2 c3 w1 (hL.below hB1) (hv.grow hB1) hf hr
  rw [hw1] at hri
  clear hB1 hL hv hf hr
  go_enter Tryd.func7, Tryd.ntmps7
  go_wp2_with fail
  refine hri.mono ?_
  rintro e w2 ⟨rfl, hB2⟩
  rw [← hw1] at hB2
  have HB2 : Hid (Below w.heap.size w w2) := HB1.out.trans (hB2.mono HB1.out.size)
  clear hri hB2 hw1 HB1
  go_wp2
  refine bodyPost_ret (v := .tuple #[.slice none 0 0, .int .i64 4]) (by simp [results, Tryd.results7, go_sem]) rfl ?_
  exact ⟨rfl, HB2.out⟩
set_option maxRecDepth 100000 in
set_option maxHeartbeats 4000000 in
theorem sput_yes (f : Fl) (ps : List Fl) (A1 A2 A3 : Option Addr) (c1 c2 c3 : Nat) (w : World) (hL : PA.Laid w) (hv : DVal w f ps A1 c1 A2 c2 A3 c3) (hf : DedFit f ps) (hr : rightD f ps = true) :
    Calls Tryd.prog 7 #[.agg #[.int .i64 f.zxid, .int .u8 f.kind, .int .i64 f.session, .int .i64 f.turn, .int .i64 f.xid, .int .i64 f.time, .string (mkS f.path), .slice A1 f.data.length c1, .int .i64 f.owner, .int .i64 f.version, .int .i64 f.cversion, .int .i64 f.timeout, .int .i64 f.err, .int .i64 f.cver, .slice A2 f.mems.length c2, .slice A3 f.np c3]] w fun e w' => ∃ v, e = .returned (.tuple #[v, .int .i64 0]) ∧ Bs w' v (itB (f, ps)) ∧ Below w.heap.size w w' := by
  obtain ⟨w1, hw1⟩ : ∃ X, X = w.alloc (.cells #[.int .i64 f.zxid, .int .u8 f.kind, .int .i64 f.session, .int .i64 f.turn, .int .i64 f.xid, .int .i64 f.time, .string (mkS f.path), .slice A1 f.data.length c1, .int .i64 f.owner, .int .i64 f.version, .int .i64 f.cversion, .int .i64 f.timeout, .int .i64 f.err, .int .i64 f.cver, .slice A2 f.mems.length c2, .slice A3 f.np c3] 37) := ⟨_, rfl⟩
  have hB1 : Below w.heap.size w w1 := by rw [hw1]; exact (Below.refl _ _).alloc (Nat.le_refl _) _
  have HB1 : Hid (Below w.heap.size w w1) := hB1
  have hri := put_yes' f ps A1 A2 A3 c1 c2 c3 w1 (hL.below hB1) (hv.grow hB1) hf hr
  have hlen : (deedB f ps).length ≤ 1048576 := Nat.le_trans (okIt.len (p := (f, ps)) ⟨hr, hf⟩) (by omega)
  rw [hw1] at hri
  clear hB1 hL hv hf hr
  go_enter Tryd.func7, Tryd.ntmps7
  go_wp2_with fail
  refine hri.mono ?_
  rintro e w2 ⟨x, rfl, hN2⟩
  rw [← hw1] at hN2
  have HB2 : Hid (Below w.heap.size w w2) := HB1.out.trans (hN2.below.mono HB1.out.size)
  have hfr := frame_any hN2.bs hlen
  clear hri hN2 hw1 HB1 hlen
  go_wp2_with fail
  refine hfr.mono ?_
  rintro e w3 ⟨v, rfl, hN3⟩
  have HB3 : Hid (Below w.heap.size w w3) := HB2.out.trans (hN3.below.mono HB2.out.size)
  have HV3 : Hid (Bs w3 v (itB (f, ps))) := hN3.bs
  clear hfr hN3
  go_wp2
  refine bodyPost_ret (v := .tuple #[v, .int .i64 0]) (by simp [results, Tryd.results7, go_sem]) rfl ?_
  exact ⟨v, rfl, HV3.out, HB3.out⟩
end Go.Proofs.YtogikhondibifaaDoor.DD
