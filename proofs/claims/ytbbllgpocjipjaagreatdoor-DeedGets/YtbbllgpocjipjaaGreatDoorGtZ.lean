/- The walk of SameDeed: a deed is the same as itself, wherever it lies. -/
import Derived.Test.YtbbllgpocjipjaaGreatDoorDdR
import Derived.Lib.QuietBelow
import Derived.BigQuiet
import Derived.Test.YtbbllgpocjipjaaGreatDoorDdT
import Derived.Test.YtbbllgpocjipjaaGreatDoorDdS
namespace Go.Proofs.YtbbllgpocjipjaaGreatDoor.DD
set_option linter.unusedVariables false
open Go.RowKit Go.Sort
set_option linter.unusedVariables false

set_option maxRecDepth 100000 in
set_option maxHeartbeats 4000000 in
theorem sameD_core (f : Fl) (A1 A2 A3 B1 B2 B3 : Option Addr) (c1 c2 c3 d1 d2 d3 : Nat) (w : World) (hm : f.mems.length ≤ 140737488355328) (hd : f.data.length ≤ 140737488355328)
    (ha : Bs w (.slice A1 f.data.length c1) f.data) (hb : Bs w (.slice B1 f.data.length d1) f.data) (hma : Mems w (.slice A2 f.mems.length c2) f.mems) (hmb : Mems w (.slice B2 f.mems.length d2) f.mems)
    (hP : ∀ w', Below w.heap.size w w' → Calls Tryz.prog 49 #[.slice A3 f.np c3, .slice B3 f.np d3] w' fun e w'' => e = .returned (.bool true) ∧ Below w'.heap.size w' w'') :
    Calls Tryz.prog 14 #[.agg #[.int .i64 f.zxid, .int .u8 f.kind, .int .i64 f.session, .int .i64 f.turn, .int .i64 f.xid, .int .i64 f.time, .string (mkS f.path), .slice A1 f.data.length c1, .int .i64 f.owner, .int .i64 f.version, .int .i64 f.cversion, .int .i64 f.timeout, .int .i64 f.err, .int .i64 f.cver, .slice A2 f.mems.length c2, .slice A3 f.np c3], .agg #[.int .i64 f.zxid, .int .u8 f.kind, .int .i64 f.session, .int .i64 f.turn, .int .i64 f.xid, .int .i64 f.time, .string (mkS f.path), .slice B1 f.data.length d1, .int .i64 f.owner, .int .i64 f.version, .int .i64 f.cversion, .int .i64 f.timeout, .int .i64 f.err, .int .i64 f.cver, .slice B2 f.mems.length d2, .slice B3 f.np d3]] w fun e w' => e = .returned (.bool true) ∧ Below w.heap.size w w' := by
  have HP : Hid _ := hP
  clear hP
  obtain ⟨w1, hw1⟩ : ∃ X, X = (w.alloc (.cells #[.int .i64 f.zxid, .int .u8 f.kind, .int .i64 f.session, .int .i64 f.turn, .int .i64 f.xid, .int .i64 f.time, .string (mkS f.path), .slice A1 f.data.length c1, .int .i64 f.owner, .int .i64 f.version, .int .i64 f.cversion, .int .i64 f.timeout, .int .i64 f.err, .int .i64 f.cver, .slice A2 f.mems.length c2, .slice A3 f.np c3] 31)).alloc (.cells #[.int .i64 f.zxid, .int .u8 f.kind, .int .i64 f.session, .int .i64 f.turn, .int .i64 f.xid, .int .i64 f.time, .string (mkS f.path), .slice B1 f.data.length d1, .int .i64 f.owner, .int .i64 f.version, .int .i64 f.cversion, .int .i64 f.timeout, .int .i64 f.err, .int .i64 f.cver, .slice B2 f.mems.length d2, .slice B3 f.np d3] 31) := ⟨_, rfl⟩
  have hB1 : Below w.heap.size w w1 := by rw [hw1]; exact below2 _ _ _
  have HB1 : Hid (Below w.heap.size w w1) := hB1
  have hsb := same_any (Bs.below' ha hB1) (Bs.below' hb hB1) hd
  rw [hw1] at hsb
  go_enter Tryz.func14, Tryz.ntmps14
  have HC1 : Hid (w1.heap[w.heap.size]? = some (.cells #[.int .i64 f.zxid, .int .u8 f.kind, .int .i64 f.session, .int .i64 f.turn, .int .i64 f.xid, .int .i64 f.time, .string (mkS f.path), .slice A1 f.data.length c1, .int .i64 f.owner, .int .i64 f.version, .int .i64 f.cversion, .int .i64 f.timeout, .int .i64 f.err, .int .i64 f.cver, .slice A2 f.mems.length c2, .slice A3 f.np c3] 31 (0, 0)) ∧ w1.heap[w.heap.size + 1]? = some (.cells #[.int .i64 f.zxid, .int .u8 f.kind, .int .i64 f.session, .int .i64 f.turn, .int .i64 f.xid, .int .i64 f.time, .string (mkS f.path), .slice B1 f.data.length d1, .int .i64 f.owner, .int .i64 f.version, .int .i64 f.cversion, .int .i64 f.timeout, .int .i64 f.err, .int .i64 f.cver, .slice B2 f.mems.length d2, .slice B3 f.np d3] 31 (0, 0))) := by
    rw [hw1]
    refine ⟨?_, ?_⟩
    · rw [Below.heap_alloc _ _ _ (by simp)]; exact heap_alloc_new w _
    · have := heap_alloc_new (w.alloc (.cells #[.int .i64 f.zxid, .int .u8 f.kind, .int .i64 f.session, .int .i64 f.turn, .int .i64 f.xid, .int .i64 f.time, .string (mkS f.path), .slice A1 f.data.length c1, .int .i64 f.owner, .int .i64 f.version, .int .i64 f.cversion, .int .i64 f.timeout, .int .i64 f.err, .int .i64 f.cver, .slice A2 f.mems.length c2, .slice A3 f.np c3] 31)) (.cells #[.int .i64 f.zxid, .int .u8 f.kind, .int .i64 f.session, .int .i64 f.turn, .int .i64 f.xid, .int .i64 f.time, .string (mkS f.path), .slice B1 f.data.length d1, .int .i64 f.owner, .int .i64 f.version, .int .i64 f.cversion, .int .i64 f.timeout, .int .i64 f.err, .int .i64 f.cver, .slice B2 f.mems.length d2, .slice B3 f.np d3] 31)
      rwa [World.size_alloc] at this
  rw [decide_eq_true (rfl : f.data = f.data)] at hsb
  have HMA : Hid (Mems w (.slice A2 f.mems.length c2) f.mems) := hma
  have HMB : Hid (Mems w (.slice B2 f.mems.length d2) f.mems) := hmb
  clear ha hb hma hmb hB1
  go_wp2_with fail
  refine hsb.mono ?_
  rintro e w2 ⟨rfl, qq, hw2⟩
  rw [← hw1] at hw2
  have hB2 : Below w1.heap.size w1 w2 := by rw [hw2]; exact (Chg.drewN Non _ qq).below (fun _ h => h.elim) (Nat.le_refl _)
  have HB2 : Hid (Below w.heap.size w w2) := HB1.out.trans (hB2.mono HB1.out.size)
  have HC2 : Hid (w2.heap[w.heap.size]? = some (.cells #[.int .i64 f.zxid, .int .u8 f.kind, .int .i64 f.session, .int .i64 f.turn, .int .i64 f.xid, .int .i64 f.time, .string (mkS f.path), .slice A1 f.data.length c1, .int .i64 f.owner, .int .i64 f.version, .int .i64 f.cversion, .int .i64 f.timeout, .int .i64 f.err, .int .i64 f.cver, .slice A2 f.mems.length c2, .slice A3 f.np c3] 31 (0, 0)) ∧ w2.heap[w.heap.size + 1]? = some (.cells #[.int .i64 f.zxid, .int .u8 f.kind, .int .i64 f.session, .int .i64 f.turn, .int .i64 f.xid, .int .i64 f.time, .string (mkS f.path), .slice B1 f.data.length d1, .int .i64 f.owner, .int .i64 f.version, .int .i64 f.cversion, .int .i64 f.timeout, .int .i64 f.err, .int .i64 f.cver, .slice B2 f.mems.length d2, .slice B3 f.np d3] 31 (0, 0))) := ⟨by rw [hB2.block _ (heap_lt HC1.out.1)]; exact HC1.out.1, by rw [hB2.block _ (heap_lt HC1.out.2)]; exact HC1.out.2⟩
  clear hsb hw2 hB2 HB1 HC1 hw1 w1
  obtain ⟨z0, z1, z2, z3, z4, z5, z6, z7, z8, z9, z10, z11, z12, z13, z14, z15⟩ := cells16 HC2.out.1
  obtain ⟨y0, y1, y2, y3, y4, y5, y6, y7, y8, y9, y10, y11, y12, y13, y14, y15⟩ := cells16 HC2.out.2
  have hse := sameE_any (HMA.out.below' HB2.out) (HMB.out.below' HB2.out) hm f.cver f.cver
  rw [decide_eq_true (rfl : f.cver = f.cver), decide_eq_true (rfl : f.mems = f.mems)] at hse
  go_wp2_with fail
  refine hse.mono ?_
  rintro e w3 ⟨rfl, hB3⟩
  have HB3 : Hid (Below w.heap.size w w3) := HB2.out.trans (hB3.mono HB2.out.size)
  have z15' : w3.cell? ⟨w.heap.size, 15, none⟩ = some (.slice A3 f.np c3) := by rw [hB3.cell (p := ⟨w.heap.size, 15, none⟩) (heap_lt HC2.out.1)]; exact z15
  have y15' : w3.cell? ⟨w.heap.size + 1, 15, none⟩ = some (.slice B3 f.np d3) := by rw [hB3.cell (p := ⟨w.heap.size + 1, 15, none⟩) (heap_lt HC2.out.2)]; exact y15
  have hpp := HP.out w3 HB3.out
  clear hse hB3 z0 z1 z2 z3 z4 z5 z6 z7 z8 z9 z10 z11 z12 z13 z14 z15 y0 y1 y2 y3 y4 y5 y6 y7 y8 y9 y10 y11 y12 y13 y14 y15 HB2 HC2
  go_wp2_with fail
  refine hpp.mono ?_
  rintro e w4 ⟨rfl, hB4⟩
  have HB4 : Hid (Below w.heap.size w w4) := HB3.out.trans (hB4.mono HB3.out.size)
  clear hpp hB4 z15' y15'
  go_wp2
  go_ret
  exact ⟨rfl, HB4.out⟩
theorem below_rg' {w w' : World} (h : Below w.heap.size w w') (d : Nat) (os : Array Obj) : Below w.heap.size w (grow (redrawn w' d) os) := h.trans ((below_regrown w' d os).mono h.size)
/- No parts. -/
set_option maxRecDepth 100000 in
theorem sameDs_nil (A A' : Option Addr) (C C' : Nat) (w : World) : Calls Tryz.prog 49 #[.slice A 0 C, .slice A' 0 C'] w fun e w' => e = .returned (.bool true) ∧ Below w.heap.size w w' := by
  go_enter Tryz.func49, Tryz.ntmps49
  go_wp2_with fail
  refine wp_loop_rounds 1 ?_
  rw [rounds_succ]
  go_wp2
  go_ret
  exact ⟨rfl, Below.refl _ _⟩
theorem sameD_leaf (f : Fl) (A1 A2 A3 B1 B2 B3 : Option Addr) (c1 c2 c3 d1 d2 d3 : Nat) (w : World) (hn : f.np = 0) (hm : f.mems.length ≤ 140737488355328) (hd : f.data.length ≤ 140737488355328)
    (ha : Bs w (.slice A1 f.data.length c1) f.data) (hb : Bs w (.slice B1 f.data.length d1) f.data) (hma : Mems w (.slice A2 f.mems.length c2) f.mems) (hmb : Mems w (.slice B2 f.mems.length d2) f.mems) :
    Calls Tryz.prog 14 #[.agg #[.int .i64 f.zxid, .int .u8 f.kind, .int .i64 f.session, .int .i64 f.turn, .int .i64 f.xid, .int .i64 f.time, .string (mkS f.path), .slice A1 f.data.length c1, .int .i64 f.owner, .int .i64 f.version, .int .i64 f.cversion, .int .i64 f.timeout, .int .i64 f.err, .int .i64 f.cver, .slice A2 f.mems.length c2, .slice A3 f.np c3], .agg #[.int .i64 f.zxid, .int .u8 f.kind, .int .i64 f.session, .int .i64 f.turn, .int .i64 f.xid, .int .i64 f.time, .string (mkS f.path), .slice B1 f.data.length d1, .int .i64 f.owner, .int .i64 f.version, .int .i64 f.cversion, .int .i64 f.timeout, .int .i64 f.err, .int .i64 f.cver, .slice B2 f.mems.length d2, .slice B3 f.np d3]] w fun e w' => e = .returned (.bool true) ∧ Below w.heap.size w w' :=
  sameD_core f A1 A2 A3 B1 B2 B3 c1 c2 c3 d1 d2 d3 w hm hd ha hb hma hmb (fun w' _ => by rw [hn]; exact sameDs_nil _ _ _ _ w')
/- Lists of deeds without parts. -/
set_option maxRecDepth 100000 in
set_option maxHeartbeats 4000000 in
theorem sameDs_any {w : World} {v x : Value} {ps : List Fl} (h : Prts w w.heap.size v ps) (hx : Prts w w.heap.size x ps) (hl : ps.length ≤ 1000000) (hp : ∀ p ∈ ps, p.np = 0 ∧ p.mems.length ≤ 140737488355328 ∧ p.data.length ≤ 140737488355328) :
    Calls Tryz.prog 49 #[v, x] w fun e w' => e = .returned (.bool true) ∧ Below w.heap.size w w' := by
  have HP : Hid (Prts w w.heap.size v ps) := h
  have HX : Hid (Prts w w.heap.size x ps) := hx
  have HQ : Hid (∀ p ∈ ps, p.np = 0 ∧ p.mems.length ≤ 140737488355328 ∧ p.data.length ≤ 140737488355328) := hp
  obtain ⟨A, C, rfl⟩ := h.form
  obtain ⟨A', C', rfl⟩ := hx.form
  clear h hx hp
  generalize hn : ps.length = n at hl HP HX ⊢
  have HN : Hid (ps.length = n) := hn
  clear hn
  go_enter Tryz.func49, Tryz.ntmps49
  go_wp2_with fail
  go_loopw [5] (fun c wr => ∃ k : Nat, k ≤ n ∧ c = .int .i64 k ∧ Below w.heap.size w wr) (fun c _ => n - (intOf c).toNat)
  case atStart => exact ⟨0, by omega, rfl, Below.refl _ _⟩
  case round =>
    obtain ⟨k, hk, rfl, hB⟩ := hrel
    have HB : Hid (Below w.heap.size w wr) := hB
    clear hB
    by_cases hlt : k < n
    · have hkl : k < ps.length := by have := HN.out; omega
      obtain ⟨b, o, rfl, -, -, A1, c1, A2, c2, A3, c3, hcl, hdr⟩ := (HP.out.below HB.out).at' k hkl
      obtain ⟨b', o', rfl, -, -, B1, d1, B2, d2, B3, d3, hcl', hdr'⟩ := (HX.out.below HB.out).at' k hkl
      obtain ⟨hn0, hm0, hd0⟩ := HQ.out _ (List.getElem_mem hkl)
      generalize (ps[k]'hkl) = f at hcl hdr hcl' hdr' hn0 hm0 hd0
      have sQ := fun d os => Calls.regrown_of (sameD_leaf f A1 A2 A3 B1 B2 B3 c1 c2 c3 d1 d2 d3 (grow (redrawn wr d) os) hn0 hm0 hd0 (Bs.below' hdr.bs (below_regrown wr d os)) (Bs.below' hdr'.bs (below_regrown wr d os)) (hdr.ms.below' (below_regrown wr d os)) (hdr'.ms.below' (below_regrown wr d os)))
      obtain ⟨z0, z1, z2, z3, z4, z5, z6, z7, z8, z9, z10, z11, z12, z13, z14, z15⟩ := hcl
      obtain ⟨y0, y1, y2, y3, y4, y5, y6, y7, y8, y9, y10, y11, y12, y13, y14, y15⟩ := hcl'
      have z0 := fun d os => cell_regrown z0 d os
      have y0 := fun d os => cell_regrown y0 d os
      have z1 := fun d os => cell_regrown z1 d os
      have y1 := fun d os => cell_regrown y1 d os
      have z2 := fun d os => cell_regrown z2 d os
      have y2 := fun d os => cell_regrown y2 d os
      have z3 := fun d os => cell_regrown z3 d os
      have y3 := fun d os => cell_regrown y3 d os
      have z4 := fun d os => cell_regrown z4 d os
      have y4 := fun d os => cell_regrown y4 d os
      have z5 := fun d os => cell_regrown z5 d os
      have y5 := fun d os => cell_regrown y5 d os
      have z6 := fun d os => cell_regrown z6 d os
      have y6 := fun d os => cell_regrown y6 d os
      have z7 := fun d os => cell_regrown z7 d os
      have y7 := fun d os => cell_regrown y7 d os
      have z8 := fun d os => cell_regrown z8 d os
      have y8 := fun d os => cell_regrown y8 d os
      have z9 := fun d os => cell_regrown z9 d os
      have y9 := fun d os => cell_regrown y9 d os
      have z10 := fun d os => cell_regrown z10 d os
      have y10 := fun d os => cell_regrown y10 d os
      have z11 := fun d os => cell_regrown z11 d os
      have y11 := fun d os => cell_regrown y11 d os
      have z12 := fun d os => cell_regrown z12 d os
      have y12 := fun d os => cell_regrown y12 d os
      have z13 := fun d os => cell_regrown z13 d os
      have y13 := fun d os => cell_regrown y13 d os
      have z14 := fun d os => cell_regrown z14 d os
      have y14 := fun d os => cell_regrown y14 d os
      have z15 := fun d os => cell_regrown z15 d os
      have y15 := fun d os => cell_regrown y15 d os
      clear hdr hdr' hn0 hm0 hd0
      go_wp2_with fail
      refine wp_region_quiet_below (by kernel_rfl) (by kernel_rfl) ?_
      repeat (go_big_quiet_step ((go_at_call 14; exact sQ _ _)))
      refine wpQuiet_nil ?_
      intro _ hw'
      obtain ⟨⟨dq, osq⟩, hw''⟩ := hw'
      subst hw''
      have HB3 : Hid (Below w.heap.size w (grow (redrawn wr dq) osq)) := below_rg' HB.out dq osq
      clear z0 z1 z2 z3 z4 z5 z6 z7 z8 z9 z10 z11 z12 z13 z14 z15 y0 y1 y2 y3 y4 y5 y6 y7 y8 y9 y10 y11 y12 y13 y14 y15 sQ
      go_wp2
      exact ⟨⟨k + 1, by omega, by go_num, HB3.out⟩, by simp [intOf]; omega⟩
    · go_wp2
      go_ret
      exact ⟨rfl, HB.out⟩
theorem sameD_any (f : Fl) (ps : List Fl) (A1 A2 A3 B1 B2 B3 : Option Addr) (c1 c2 c3 d1 d2 d3 : Nat) (w : World) (hm : f.mems.length ≤ 140737488355328) (hd : f.data.length ≤ 140737488355328) (hl : ps.length ≤ 1000000) (hnp : f.np = ps.length) (hp : ∀ p ∈ ps, p.np = 0 ∧ p.mems.length ≤ 140737488355328 ∧ p.data.length ≤ 140737488355328)
    (ha : DVal w f ps A1 c1 A2 c2 A3 c3) (hb : DVal w f ps B1 d1 B2 d2 B3 d3) :
    Calls Tryz.prog 14 #[.agg #[.int .i64 f.zxid, .int .u8 f.kind, .int .i64 f.session, .int .i64 f.turn, .int .i64 f.xid, .int .i64 f.time, .string (mkS f.path), .slice A1 f.data.length c1, .int .i64 f.owner, .int .i64 f.version, .int .i64 f.cversion, .int .i64 f.timeout, .int .i64 f.err, .int .i64 f.cver, .slice A2 f.mems.length c2, .slice A3 f.np c3], .agg #[.int .i64 f.zxid, .int .u8 f.kind, .int .i64 f.session, .int .i64 f.turn, .int .i64 f.xid, .int .i64 f.time, .string (mkS f.path), .slice B1 f.data.length d1, .int .i64 f.owner, .int .i64 f.version, .int .i64 f.cversion, .int .i64 f.timeout, .int .i64 f.err, .int .i64 f.cver, .slice B2 f.mems.length d2, .slice B3 f.np d3]] w fun e w' => e = .returned (.bool true) ∧ Below w.heap.size w w' :=
  sameD_core f A1 A2 A3 B1 B2 B3 c1 c2 c3 d1 d2 d3 w hm hd ha.bs hb.bs ha.ms hb.ms (fun w' hB => sameDs_any (ha.pr.grow hB) (hb.pr.grow hB) hl hp)
end Go.Proofs.YtbbllgpocjipjaaGreatDoor.DD
/- The walks of zxids, of the document's, and of what wakes the statements on deeds. -/
namespace Go.Proofs.YtbbllgpocjipjaaGreatDoor.DD
set_option linter.unusedVariables false
open Go.RowKit
set_option linter.unusedVariables false

def F0 : Fl := ⟨1, 2, 3, 0, 0, 0, [47, 97], [], 0, 0, 2, 0, 0, 0, [], 0⟩
def want0 : List UInt8 := [2, 2, 6, 0, 0, 0, 4, 47, 97, 4]
theorem F0_right : rightD F0 [] = true := by decide +kernel
theorem F0_fit : DedFit F0 [] := by
  refine ⟨⟨?_, ?_, ?_, ?_, ?_, ?_, ?_, ?_, ?_, ?_, ?_, ?_⟩, fun p hp => by simp at hp, rfl⟩
  all_goals (unfold F0; first | exact ⟨by decide, by decide⟩)
theorem F0_bytes : deedB F0 [] = want0 := by
  have n0 : numB 0 = [0] := by unfold numB; rw [digs_small (by decide)]; rfl
  have n1 : numB 1 = [2] := by unfold numB; rw [digs_small (by decide)]; rfl
  have n2 : numB 2 = [4] := by unfold numB; rw [digs_small (by decide)]; rfl
  have n3 : numB 3 = [6] := by unfold numB; rw [digs_small (by decide)]; rfl
  simp [deedB, F0, bodyB, tailB, hasParts, textB, n0, n1, n2, n3, want0, u8]
theorem F0_got : deedOf want0 = some (F0, []) := by rw [← F0_bytes]; exact deedOf_put F0_fit F0_right
def Fz : Fl := fl0 0
theorem Fz_not : rightD Fz [] = false := by decide +kernel
theorem Fz_fit : DedFit Fz [] := by
  refine ⟨⟨?_, ?_, ?_, ?_, ?_, ?_, ?_, ?_, ?_, ?_, ?_, ?_⟩, fun p hp => by simp at hp, rfl⟩
  all_goals (unfold Fz fl0; first | exact ⟨by decide, by decide⟩)
theorem dval_nil {w : World} {f : Fl} (h1 : f.data = []) (h2 : f.mems = []) (h3 : f.np = 0) : DVal w f [] none 0 none 0 none 0 := by
  refine ⟨?_, ?_, ?_⟩
  · rw [h1]; exact .inl ⟨rfl, rfl⟩
  · rw [h2]; exact .inl ⟨rfl, rfl⟩
  · rw [h3]; exact .inl ⟨rfl, rfl⟩
set_option maxRecDepth 100000 in
theorem small_any (w : World) : Calls Tryz.prog 15 #[] w fun e w' => ∃ A C, e = .returned (.tuple #[.agg #[.int .i64 1, .int .u8 2, .int .i64 3, .int .i64 0, .int .i64 0, .int .i64 0, .string ⟨#[47, 97]⟩, .slice none 0 0, .int .i64 0, .int .i64 0, .int .i64 2, .int .i64 0, .int .i64 0, .int .i64 0, .slice none 0 0, .slice none 0 0], .slice A 10 C]) ∧ Bs w' (.slice A 10 C) want0 ∧ Below w.heap.size w w' := by
  go_enter Tryz.func15, Tryz.ntmps15
  go_wp2
  refine bodyPost_ret (v := .tuple #[.agg #[.int .i64 1, .int .u8 2, .int .i64 3, .int .i64 0, .int .i64 0, .int .i64 0, .string ⟨#[47, 97]⟩, .slice none 0 0, .int .i64 0, .int .i64 0, .int .i64 2, .int .i64 0, .int .i64 0, .int .i64 0, .slice none 0 0, .slice none 0 0], .slice (some ⟨w.heap.size + 1, 0, none⟩) 10 10]) (by simp [results, Tryz.results15, go_sem]) rfl ⟨some ⟨w.heap.size + 1, 0, none⟩, 10, rfl, ?_, below2 _ _ _⟩
  have h := Bs_new (w.alloc (.cells #[.int .i64 1, .int .u8 2, .int .i64 3, .int .i64 0, .int .i64 0, .int .i64 0, .string ⟨#[47, 97]⟩, .slice none 0 0, .int .i64 0, .int .i64 0, .int .i64 2, .int .i64 0, .int .i64 0, .int .i64 0, .slice none 0 0, .slice none 0 0] 31)) want0 #[.int .u8 2, .int .u8 2, .int .u8 6, .int .u8 0, .int .u8 0, .int .u8 0, .int .u8 4, .int .u8 47, .int .u8 97, .int .u8 4] (0, 0) 10 (by decide) (by
    intro j hj
    have hj' : j < 10 := hj
    rcases j with _ | _ | _ | _ | _ | _ | _ | _ | _ | _ | j <;> first | rfl | omega)
  rw [World.size_alloc] at h
  exact h
set_option maxRecDepth 100000 in
theorem make_any (e c : Int) (he : I64 e) (hc : I64 c) (w : World) : Calls Tryz.prog 16 #[.int .i64 e, .int .i64 c] w fun x w' => x = .returned (.int .i64 (if 0 ≤ e ∧ e ≤ 1073741824 ∧ 0 ≤ c ∧ c < 4294967296 then e * 4294967296 + c else 0)) ∧ w' = w := by
  unfold I64 at he hc
  by_cases h1 : e < 0
  · rw [if_neg (by omega)]
    go_enter Tryz.func16, Tryz.ntmps16
    go_wp2
    go_ret
    exact ⟨rfl, rfl⟩
  by_cases h2 : 1073741824 < e
  · rw [if_neg (by omega)]
    go_enter Tryz.func16, Tryz.ntmps16
    go_wp2
    go_ret
    exact ⟨rfl, rfl⟩
  by_cases h3 : c < 0
  · rw [if_neg (by omega)]
    go_enter Tryz.func16, Tryz.ntmps16
    go_wp2
    go_ret
    exact ⟨rfl, rfl⟩
  by_cases h4 : 4294967296 ≤ c
  · rw [if_neg (by omega)]
    go_enter Tryz.func16, Tryz.ntmps16
    go_wp2
    go_ret
    exact ⟨rfl, rfl⟩
  rw [if_pos (by omega)]
  go_enter Tryz.func16, Tryz.ntmps16
  go_wp2
  go_ret
  exact ⟨rfl, rfl⟩
def epochI (z : Int) : Int := if 0 ≤ z ∧ z / 4294967296 ≤ 1073741824 then z / 4294967296 else 0
def counterI (z : Int) : Int := if 0 ≤ z ∧ z / 4294967296 ≤ 1073741824 then z % 4294967296 else 0
end Go.Proofs.YtbbllgpocjipjaaGreatDoor.DD
/- The walk of what wakes the statements on deeds. -/
namespace Go.Proofs.YtbbllgpocjipjaaGreatDoor.DD
set_option linter.unusedVariables false
open Go.RowKit
set_option linter.unusedVariables false

set_option maxRecDepth 100000 in
set_option maxHeartbeats 4000000 in
theorem awake_any (w : World) (hL : PA.Laid w) : Calls Tryz.prog 6 #[] w fun e w' => e = .returned (.bool true) ∧ Below w.heap.size w w' := by
  have HL : Hid (PA.Laid w) := hL
  clear hL
  go_enter Tryz.func6, Tryz.ntmps6
  go_wp2_with fail
  refine (small_any w).mono ?_
  rintro e w1 ⟨A, C, rfl, hb1, hB1⟩
  have HB1 : Hid (Below w.heap.size w w1) := hB1
  have HW1 : Hid (Bs w1 (.slice A 10 C) want0) := hb1
  clear hb1 hB1
  as_aux_lemma =>
  obtain ⟨w2, hw2⟩ : ∃ X, X = w1.alloc (.cells #[.int .i64 1, .int .u8 2, .int .i64 3, .int .i64 0, .int .i64 0, .int .i64 0, .string ⟨#[47, 97]⟩, .slice none 0 0, .int .i64 0, .int .i64 0, .int .i64 2, .int .i64 0, .int .i64 0, .int .i64 0, .slice none 0 0, .slice none 0 0] 31) := ⟨_, rfl⟩
  have hB2 : Below w1.heap.size w1 w2 := by rw [hw2]; exact (Below.refl _ _).alloc (Nat.le_refl _) _
  have HB2 : Hid (Below w.heap.size w w2) := HB1.out.trans (hB2.mono HB1.out.size)
  have HC2 : Hid (w2.heap[w1.heap.size]? = some (.cells #[.int .i64 1, .int .u8 2, .int .i64 3, .int .i64 0, .int .i64 0, .int .i64 0, .string ⟨#[47, 97]⟩, .slice none 0 0, .int .i64 0, .int .i64 0, .int .i64 2, .int .i64 0, .int .i64 0, .int .i64 0, .slice none 0 0, .slice none 0 0] 31 (0, 0))) := by rw [hw2]; exact heap_alloc_new w1 _
  have HW2 : Hid (Bs w2 (.slice A 10 C) want0) := by show Bs _ _ _; exact Bs.below' HW1.out hB2
  have hpt : Calls Tryz.prog 7 #[.agg #[.int .i64 1, .int .u8 2, .int .i64 3, .int .i64 0, .int .i64 0, .int .i64 0, .string ⟨#[47, 97]⟩, .slice none 0 0, .int .i64 0, .int .i64 0, .int .i64 2, .int .i64 0, .int .i64 0, .int .i64 0, .slice none 0 0, .slice none 0 0]] w2 fun e w' => ∃ x, e = .returned (.tuple #[x, .int .i64 0]) ∧ New w2 w' x want0 := by
    have h := put_yes' F0 [] none none none 0 0 0 w2 (HL.out.below HB2.out) (dval_nil rfl rfl rfl) F0_fit F0_right
    rw [F0_bytes] at h
    exact h
  rw [hw2] at hpt
  clear hB2 HB1 HW1
  go_wp2_with fail
  refine hpt.mono ?_
  rintro e w3 ⟨x, rfl, hN3⟩
  rw [← hw2] at hN3
  have HB3 : Hid (Below w.heap.size w w3) := HB2.out.trans (hN3.below.mono HB2.out.size)
  have HC3 : Hid (w3.heap[w1.heap.size]? = some (.cells #[.int .i64 1, .int .u8 2, .int .i64 3, .int .i64 0, .int .i64 0, .int .i64 0, .string ⟨#[47, 97]⟩, .slice none 0 0, .int .i64 0, .int .i64 0, .int .i64 2, .int .i64 0, .int .i64 0, .int .i64 0, .slice none 0 0, .slice none 0 0] 31 (0, 0))) := by show _ = _; rw [hN3.below.block _ (heap_lt HC2.out)]; exact HC2.out
  have HW3 : Hid (Bs w3 (.slice A 10 C) want0) := by show Bs _ _ _; exact Bs.below' HW2.out hN3.below
  have HX3 : Hid (Bs w3 x want0) := hN3.bs
  obtain ⟨AX, CX, rfl⟩ := bs_form hN3.bs
  clear hpt hN3 hw2 HB2 HC2 HW2 w2
  generalize w1.heap.size = pd at HC3 ⊢
  clear w1
  as_aux_lemma =>
  have hgt := dget_any HW3.out (by decide) (HL.out.below HB3.out)
  rw [F0_got] at hgt
  go_wp2_with fail
  generalize Value.tuple #[.agg #[.int .i64 1, .int .u8 2, .int .i64 3, .int .i64 0, .int .i64 0, .int .i64 0, .string ⟨#[47, 97]⟩, .slice none 0 0, .int .i64 0, .int .i64 0, .int .i64 2, .int .i64 0, .int .i64 0, .int .i64 0, .slice none 0 0, .slice none 0 0], .slice A 10 C] = G0
  generalize Value.agg #[.int .i64 1, .int .u8 2, .int .i64 3, .int .i64 0, .int .i64 0, .int .i64 0, .string ⟨#[47, 97]⟩, .slice none 0 0, .int .i64 0, .int .i64 0, .int .i64 2, .int .i64 0, .int .i64 0, .int .i64 0, .slice none 0 0, .slice none 0 0] = G1
  refine hgt.mono ?_
  rintro e w4 ⟨A1, c1, A2, c2, A3, c3, he4, hV4, hB4⟩
  have he4' : e = .returned (.tuple #[.agg #[.int .i64 1, .int .u8 2, .int .i64 3, .int .i64 0, .int .i64 0, .int .i64 0, .string ⟨#[47, 97]⟩, .slice A1 0 c1, .int .i64 0, .int .i64 0, .int .i64 2, .int .i64 0, .int .i64 0, .int .i64 0, .slice A2 0 c2, .slice A3 0 c3], .int .i64 0]) := he4
  clear he4
  subst he4'
  have HB4 : Hid (Below w.heap.size w w4) := HB3.out.trans (hB4.mono HB3.out.size)
  have HC4 : Hid (w4.heap[pd]? = some (.cells #[.int .i64 1, .int .u8 2, .int .i64 3, .int .i64 0, .int .i64 0, .int .i64 0, .string ⟨#[47, 97]⟩, .slice none 0 0, .int .i64 0, .int .i64 0, .int .i64 2, .int .i64 0, .int .i64 0, .int .i64 0, .slice none 0 0, .slice none 0 0] 31 (0, 0))) := by show _ = _; rw [hB4.block _ (heap_lt HC3.out)]; exact HC3.out
  have HW4 : Hid (Bs w4 (.slice A 10 C) want0) := by show Bs _ _ _; exact Bs.below' HW3.out hB4
  have HX4 : Hid (Bs w4 (.slice AX 10 CX) want0) := by show Bs _ _ _; exact Bs.below' HX3.out hB4
  have HV4 : Hid (DVal w4 F0 [] A1 c1 A2 c2 A3 c3) := hV4
  clear hgt hB4 HB3 HC3 HW3 HX3 hV4
  as_aux_lemma =>
  obtain ⟨w5, hw5⟩ : ∃ X, X = w4.alloc (.cells #[.int .i64 1, .int .u8 2, .int .i64 3, .int .i64 0, .int .i64 0, .int .i64 0, .string ⟨#[47, 97]⟩, .slice A1 0 c1, .int .i64 0, .int .i64 0, .int .i64 2, .int .i64 0, .int .i64 0, .int .i64 0, .slice A2 0 c2, .slice A3 0 c3] 31) := ⟨_, rfl⟩
  have hB5 : Below w4.heap.size w4 w5 := by rw [hw5]; exact (Below.refl _ _).alloc (Nat.le_refl _) _
  have hc5 : w5.heap[w4.heap.size]? = some (.cells #[.int .i64 1, .int .u8 2, .int .i64 3, .int .i64 0, .int .i64 0, .int .i64 0, .string ⟨#[47, 97]⟩, .slice A1 0 c1, .int .i64 0, .int .i64 0, .int .i64 2, .int .i64 0, .int .i64 0, .int .i64 0, .slice A2 0 c2, .slice A3 0 c3] 31 (0, 0)) := by rw [hw5]; exact heap_alloc_new w4 _
  have hltp : pd < w4.heap.size := heap_lt HC4.out
  obtain ⟨px, hpx⟩ : ∃ px, px = w4.heap.size := ⟨_, rfl⟩
  have HF : Hid (∀ w', Below w5.heap.size w5 w' → Below w.heap.size w w' ∧ w'.heap[pd]? = some (.cells #[.int .i64 1, .int .u8 2, .int .i64 3, .int .i64 0, .int .i64 0, .int .i64 0, .string ⟨#[47, 97]⟩, .slice none 0 0, .int .i64 0, .int .i64 0, .int .i64 2, .int .i64 0, .int .i64 0, .int .i64 0, .slice none 0 0, .slice none 0 0] 31 (0, 0)) ∧ w'.heap[px]? = some (.cells #[.int .i64 1, .int .u8 2, .int .i64 3, .int .i64 0, .int .i64 0, .int .i64 0, .string ⟨#[47, 97]⟩, .slice A1 0 c1, .int .i64 0, .int .i64 0, .int .i64 2, .int .i64 0, .int .i64 0, .int .i64 0, .slice A2 0 c2, .slice A3 0 c3] 31 (0, 0)) ∧ Bs w' (.slice A 10 C) want0 ∧ Bs w' (.slice AX 10 CX) want0 ∧ DVal w' F0 [] A1 c1 A2 c2 A3 c3 ∧ PA.Laid w') := by
    intro w' hB
    have hB' : Below w4.heap.size w4 w' := hB5.trans (hB.mono hB5.size)
    have hBw : Below w.heap.size w w' := HB4.out.trans (hB'.mono HB4.out.size)
    refine ⟨hBw, ?_, ?_, Bs.below' HW4.out hB', Bs.below' HX4.out hB', HV4.out.grow hB', HL.out.below hBw⟩
    · rw [hB'.block _ hltp]; exact HC4.out
    · rw [hpx, hB.block _ (heap_lt hc5)]; exact hc5
  have hr1 : Calls Tryz.prog 9 #[.agg #[.int .i64 1, .int .u8 2, .int .i64 3, .int .i64 0, .int .i64 0, .int .i64 0, .string ⟨#[47, 97]⟩, .slice none 0 0, .int .i64 0, .int .i64 0, .int .i64 2, .int .i64 0, .int .i64 0, .int .i64 0, .slice none 0 0, .slice none 0 0]] w5 fun e w' => e = .returned (.bool true) ∧ Below w5.heap.size w5 w' := by
    have h := right_any F0 [] none none none 0 0 0 w5 (HF.out w5 (Below.refl _ _)).2.2.2.2.2.2 (dval_nil rfl rfl rfl) F0_fit
    rw [F0_right] at h
    exact h
  obtain ⟨z0, z1, z2, z3, z4, z5, z6, z7, z8, z9, z10, z11, z12, z13, z14, z15⟩ := cells16 HC4.out
  rw [hw5] at hr1
  clear hB5 hc5 HC4 HW4 HX4 HV4 HB4
  go_wp2_with fail
  refine hr1.mono ?_
  rintro e w6 ⟨rfl, hB6⟩
  rw [← hw5] at hB6
  have HB6 : Hid (Below w5.heap.size w5 w6) := hB6
  clear hr1 hB6 hw5 z0 z1 z2 z3 z4 z5 z6 z7 z8 z9 z10 z11 z12 z13 z14 z15
  rw [← hpx]
  clear hpx hltp
  as_aux_lemma =>
  have hr2 : ∀ w', Below w5.heap.size w5 w' → Calls Tryz.prog 9 #[.agg #[.int .i64 0, .int .u8 0, .int .i64 0, .int .i64 0, .int .i64 0, .int .i64 0, .string ⟨#[]⟩, .slice none 0 0, .int .i64 0, .int .i64 0, .int .i64 0, .int .i64 0, .int .i64 0, .int .i64 0, .slice none 0 0, .slice none 0 0]] w' fun e w'' => e = .returned (.bool false) ∧ Below w'.heap.size w' w'' := by
    intro w' hB
    have h := right_any Fz [] none none none 0 0 0 w' (HF.out w' hB).2.2.2.2.2.2 (dval_nil rfl rfl rfl) Fz_fit
    rw [Fz_not] at h
    exact h
  have hr2 := hr2 w6 HB6.out
  go_wp2_with fail
  refine hr2.mono ?_
  rintro e w7 ⟨rfl, hB7⟩
  have HB7 : Hid (Below w5.heap.size w5 w7) := HB6.out.trans (hB7.mono HB6.out.size)
  clear hr2 hB7 HB6
  as_aux_lemma =>
  have hsb := same_any (HF.out w7 HB7.out).2.2.2.2.1 (HF.out w7 HB7.out).2.2.2.1 (by decide)
  rw [decide_eq_true (rfl : want0 = want0)] at hsb
  go_wp2_with fail
  refine hsb.mono ?_
  rintro e w8 ⟨rfl, qq, hw8⟩
  have HB8 : Hid (Below w5.heap.size w5 w8) := by
    show Below _ _ _
    rw [hw8]
    exact HB7.out.trans (((Chg.drewN Non w7 qq).below (fun _ h => h.elim) (Nat.le_refl _)).mono HB7.out.size)
  clear hsb hw8 HB7
  as_aux_lemma =>
  have hsd : Calls Tryz.prog 14 #[.agg #[.int .i64 1, .int .u8 2, .int .i64 3, .int .i64 0, .int .i64 0, .int .i64 0, .string ⟨#[47, 97]⟩, .slice A1 0 c1, .int .i64 0, .int .i64 0, .int .i64 2, .int .i64 0, .int .i64 0, .int .i64 0, .slice A2 0 c2, .slice A3 0 c3], .agg #[.int .i64 1, .int .u8 2, .int .i64 3, .int .i64 0, .int .i64 0, .int .i64 0, .string ⟨#[47, 97]⟩, .slice none 0 0, .int .i64 0, .int .i64 0, .int .i64 2, .int .i64 0, .int .i64 0, .int .i64 0, .slice none 0 0, .slice none 0 0]] w8 fun e w' => e = .returned (.bool true) ∧ Below w8.heap.size w8 w' :=
    sameD_any F0 [] A1 A2 A3 none none none c1 c2 c3 0 0 0 w8 (by decide) (by decide) (by decide) rfl (fun p hp => by simp at hp) (HF.out w8 HB8.out).2.2.2.2.2.1 (dval_nil rfl rfl rfl)
  obtain ⟨z0, z1, z2, z3, z4, z5, z6, z7, z8, z9, z10, z11, z12, z13, z14, z15⟩ := cells16 (HF.out w8 HB8.out).2.1
  obtain ⟨y0, y1, y2, y3, y4, y5, y6, y7, y8, y9, y10, y11, y12, y13, y14, y15⟩ := cells16 (HF.out w8 HB8.out).2.2.1
  go_wp2_with fail
  refine hsd.mono ?_
  rintro e w9 ⟨rfl, hB9⟩
  have HB9 : Hid (Below w5.heap.size w5 w9) := HB8.out.trans (hB9.mono HB8.out.size)
  clear hsd hB9 HB8 z0 z1 z2 z3 z4 z5 z6 z7 z8 z9 z10 z11 z12 z13 z14 z15 y0 y1 y2 y3 y4 y5 y6 y7 y8 y9 y10 y11 y12 y13 y14 y15
  as_aux_lemma =>
  have hmk := make_any 1 2 ⟨by decide, by decide⟩ ⟨by decide, by decide⟩ w9
  rw [if_pos (by decide)] at hmk
  go_wp2_with fail
  refine hmk.mono ?_
  rintro e w10 ⟨rfl, hw10⟩
  subst hw10
  clear hmk
  go_wp2
  go_ret
  exact ⟨rfl, (HF.out _ HB9.out).1⟩
end Go.Proofs.YtbbllgpocjipjaaGreatDoor.DD
/- The walks of the document's zxids, and of DeedZxids and DeedOrder. -/
namespace Go.Proofs.YtbbllgpocjipjaaGreatDoor.DD
set_option linter.unusedVariables false
open Go.RowKit
set_option maxRecDepth 100000 in
theorem rmay_any (z : Int) (hz : I64 z) (w : World) : Calls Tryz.prog 32 #[.int .i64 z] w fun x w' => x = .returned (.bool (decide (0 ≤ z) && decide (z / 4294967296 ≤ 1073741824))) ∧ w' = w := by
  unfold I64 at hz
  by_cases h : 0 ≤ z
  · rw [decide_eq_true h, Bool.true_and]
    go_enter Tryz.func32, Tryz.ntmps32
    go_wp2
    go_ret
    exact ⟨rfl, rfl⟩
  · rw [decide_eq_false h, Bool.false_and]
    go_enter Tryz.func32, Tryz.ntmps32
    go_wp2
    go_ret
    exact ⟨rfl, rfl⟩
theorem and_low (z : Int) (h : 0 ≤ z) (h2 : z < 9223372036854775808) : bits BinOp.and IntKind.i64 z 4294967295 = z % 4294967296 := by
  obtain ⟨n, rfl⟩ : ∃ n : Nat, z = (n : Int) := ⟨z.toNat, by omega⟩
  have e1 : n &&& 4294967295 = n % 4294967296 := by
    have := Nat.and_two_pow_sub_one_eq_mod n 32
    simpa using this
  show IntKind.i64.wrap ((BitVec.ofInt 64 (n : Int) &&& BitVec.ofInt 64 4294967295).toNat : Int) = _
  have h3 : (BitVec.ofInt 64 (n : Int)).toNat = n := by
    rw [BitVec.toNat_ofInt]; omega
  have h4 : (BitVec.ofInt 64 4294967295).toNat = 4294967295 := by decide
  rw [BitVec.toNat_and, h3, h4, e1]
  simp [IntKind.wrap, IntKind.bits, IntKind.signed]
  omega
end Go.Proofs.YtbbllgpocjipjaaGreatDoor.DD
/- The walk of DeedOrder. -/
namespace Go.Proofs.YtbbllgpocjipjaaGreatDoor.DD
set_option linter.unusedVariables false
open Go.RowKit
end Go.Proofs.YtbbllgpocjipjaaGreatDoor.DD
/- The walk of great. -/
namespace Go.Proofs.YtbbllgpocjipjaaGreatDoor.DD
set_option linter.unusedVariables false
open Go.RowKit Go.Sort
set_option linter.unusedVariables false

def IsBool (e : Ending) : Prop := ∃ b, e = .returned (.bool b)
set_option maxRecDepth 100000 in
set_option maxHeartbeats 2000000 in
theorem great_any (f : Fl) (ps : List Fl) (A1 A2 A3 : Option Addr) (c1 c2 c3 : Nat) (w : World) (hv : DVal w f ps A1 c1 A2 c2 A3 c3) (hlen : f.np = ps.length) (hl : f.np ≤ 9223372036854775807) :
    Calls Tryz.prog 5 #[.agg #[.int .i64 f.zxid, .int .u8 f.kind, .int .i64 f.session, .int .i64 f.turn, .int .i64 f.xid, .int .i64 f.time, .string (mkS f.path), .slice A1 f.data.length c1, .int .i64 f.owner, .int .i64 f.version, .int .i64 f.cversion, .int .i64 f.timeout, .int .i64 f.err, .int .i64 f.cver, .slice A2 f.mems.length c2, .slice A3 f.np c3]] w fun e w' => IsBool e ∧ Below w.heap.size w w' := by
  obtain ⟨n, hn⟩ : ∃ n, n = f.np := ⟨_, rfl⟩
  have HP : Hid (Prts w w.heap.size (.slice A3 n c3) ps) := by rw [hn]; exact hv.pr
  rw [← hn] at hlen hl ⊢
  have HN : Hid (n = ps.length) := hlen
  clear hv hn hlen
  go_enter Tryz.func5, Tryz.ntmps5
  go_wp2_with fail
  go_loopw [3, 4] (fun v c wr => ∃ (k : Nat) (m : Int), v = .int .i64 m ∧ c = .int .i64 k ∧ k ≤ n ∧ Below w.heap.size w wr ∧ wr.heap[w.heap.size]? = some (.cells #[.int .i64 f.zxid, .int .u8 f.kind, .int .i64 f.session, .int .i64 f.turn, .int .i64 f.xid, .int .i64 f.time, .string (mkS f.path), .slice A1 f.data.length c1, .int .i64 f.owner, .int .i64 f.version, .int .i64 f.cversion, .int .i64 f.timeout, .int .i64 f.err, .int .i64 f.cver, .slice A2 f.mems.length c2, .slice A3 n c3] 31 (0, 0))) (fun _ c _ => n - (intOf c).toNat)
  case atStart => exact ⟨0, _, rfl, rfl, by omega, (Below.refl _ _).alloc (Nat.le_refl _) _, heap_alloc_new w _⟩
  case round =>
    obtain ⟨k, m, rfl, rfl, hk, hB, hc⟩ := hrel
    have HB : Hid (Below w.heap.size w wr) := hB
    have HC : Hid (wr.heap[w.heap.size]? = some (.cells #[.int .i64 f.zxid, .int .u8 f.kind, .int .i64 f.session, .int .i64 f.turn, .int .i64 f.xid, .int .i64 f.time, .string (mkS f.path), .slice A1 f.data.length c1, .int .i64 f.owner, .int .i64 f.version, .int .i64 f.cversion, .int .i64 f.timeout, .int .i64 f.err, .int .i64 f.cver, .slice A2 f.mems.length c2, .slice A3 n c3] 31 (0, 0))) := hc
    obtain ⟨-, -, -, -, -, -, -, -, -, -, -, -, -, -, x14, x15⟩ := cells16 hc
    clear hB hc
    by_cases hlt : k < n
    · by_cases hm : m < 200000
      · have hkl : k < ps.length := by have := HN.out; omega
        obtain ⟨b, o, rfl, -, -, B1, d1, B2, d2, B3, d3, hcl, -⟩ := (HP.out.below HB.out).at' k hkl
        generalize (ps[k]'hkl) = g at hcl
        obtain ⟨-, -, -, -, -, -, z6, z7, -, -, -, -, -, -, -, z15⟩ := hcl
        have z6 := fun d os => cell_regrown z6 d os
        have z7 := fun d os => cell_regrown z7 d os
        have z15 := fun d os => cell_regrown z15 d os
        have y14 := fun d os => cell_regrown x14 d os
        have y15 := fun d os => cell_regrown x15 d os
        go_wp2_with fail
        refine wp_region_quiet_below (by kernel_rfl) (by kernel_rfl) ?_
        repeat (go_big_quiet_step (fail))
        refine wpQuiet_nil ?_
        intro _ hw'
        obtain ⟨⟨dq, osq⟩, hw''⟩ := hw'
        subst hw''
        have HB3 : Hid (Below w.heap.size w (grow (redrawn wr dq) osq)) := below_rg' HB.out dq osq
        have HC3 : Hid ((grow (redrawn wr dq) osq).heap[w.heap.size]? = some (.cells #[.int .i64 f.zxid, .int .u8 f.kind, .int .i64 f.session, .int .i64 f.turn, .int .i64 f.xid, .int .i64 f.time, .string (mkS f.path), .slice A1 f.data.length c1, .int .i64 f.owner, .int .i64 f.version, .int .i64 f.cversion, .int .i64 f.timeout, .int .i64 f.err, .int .i64 f.cver, .slice A2 f.mems.length c2, .slice (some ⟨b, o, none⟩) n c3] 31 (0, 0))) := by
          show _ = _
          rw [(below_regrown wr dq osq).block _ (heap_lt HC.out)]
          exact HC.out
        clear z6 z7 z15 y14 y15 x14 x15
        go_wp2_with fail
        exact ⟨⟨k + 1, _, rfl, by go_num, by omega, HB3.out, HC3.out⟩, by simp [intOf]; omega⟩
      · go_wp2_with fail
        all_goals (go_ret; exact ⟨⟨_, rfl⟩, HB.out⟩)
    · go_wp2_with fail
      all_goals (go_ret; exact ⟨⟨_, rfl⟩, HB.out⟩)
end Go.Proofs.YtbbllgpocjipjaaGreatDoor.DD
