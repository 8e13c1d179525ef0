/- The walk of SameDeed: a deed is the same as itself, wherever it lies. -/
import Derived.Test.YtaeoafedfgbcaaaGreatDoorDdR
import Derived.Lib.QuietBelow
import Derived.BigQuiet
namespace Go.Proofs.YtaeoafedfgbcaaaGreatDoor.DD
set_option linter.unusedVariables false
open Go.RowKit Go.Sort
set_option linter.unusedVariables false

set_option maxRecDepth 100000 in
set_option maxHeartbeats 4000000 in
theorem sameD_core (f : Fl) (A1 A2 A3 B1 B2 B3 : Option Addr) (c1 c2 c3 d1 d2 d3 : Nat) (w : World) (hm : f.mems.length ≤ 140737488355328) (hd : f.data.length ≤ 140737488355328)
    (ha : Bs w (.slice A1 f.data.length c1) f.data) (hb : Bs w (.slice B1 f.data.length d1) f.data) (hma : Mems w (.slice A2 f.mems.length c2) f.mems) (hmb : Mems w (.slice B2 f.mems.length d2) f.mems)
    (hP : ∀ w', Below w.heap.size w w' → Calls Tryz.prog 7 #[.slice A3 f.np c3, .slice B3 f.np d3] w' fun e w'' => e = .returned (.bool true) ∧ Below w'.heap.size w' w'') :
    Calls Tryz.prog 16 #[.agg #[.int .i64 f.zxid, .int .u8 f.kind, .int .i64 f.session, .int .i64 f.turn, .int .i64 f.xid, .int .i64 f.time, .string (mkS f.path), .slice A1 f.data.length c1, .int .i64 f.owner, .int .i64 f.version, .int .i64 f.cversion, .int .i64 f.timeout, .int .i64 f.err, .int .i64 f.cver, .slice A2 f.mems.length c2, .slice A3 f.np c3], .agg #[.int .i64 f.zxid, .int .u8 f.kind, .int .i64 f.session, .int .i64 f.turn, .int .i64 f.xid, .int .i64 f.time, .string (mkS f.path), .slice B1 f.data.length d1, .int .i64 f.owner, .int .i64 f.version, .int .i64 f.cversion, .int .i64 f.timeout, .int .i64 f.err, .int .i64 f.cver, .slice B2 f.mems.length d2, .slice B3 f.np d3]] w fun e w' => e = .returned (.bool true) ∧ Below w.heap.size w w' := by
  have HP : Hid _ := hP
  clear hP
  obtain ⟨w1, hw1⟩ : ∃ X, X = (w.alloc (.cells #[.int .i64 f.zxid, .int .u8 f.kind, .int .i64 f.session, .int .i64 f.turn, .int .i64 f.xid, .int .i64 f.time, .string (mkS f.path), .slice A1 f.data.length c1, .int .i64 f.owner, .int .i64 f.version, .int .i64 f.cversion, .int .i64 f.timeout, .int .i64 f.err, .int .i64 f.cver, .slice A2 f.mems.length c2, .slice A3 f.np c3] 41)).alloc (.cells #[.int .i64 f.zxid, .int .u8 f.kind, .int .i64 f.session, .int .i64 f.turn, .int .i64 f.xid, .int .i64 f.time, .string (mkS f.path), .slice B1 f.data.length d1, .int .i64 f.owner, .int .i64 f.version, .int .i64 f.cversion, .int .i64 f.timeout, .int .i64 f.err, .int .i64 f.cver, .slice B2 f.mems.length d2, .slice B3 f.np d3] 41) := ⟨_, rfl⟩
  have hB1 : Below w.heap.size w w1 := by rw [hw1]; exact below2 _ _ _
  have HB1 : Hid (Below w.heap.size w w1) := hB1
  have hsb := same_any (Bs.below' ha hB1) (Bs.below' hb hB1) hd
  rw [hw1] at hsb
  go_enter Tryz.func16, Tryz.ntmps16
  have HC1 : Hid (w1.heap[w.heap.size]? = some (.cells #[.int .i64 f.zxid, .int .u8 f.kind, .int .i64 f.session, .int .i64 f.turn, .int .i64 f.xid, .int .i64 f.time, .string (mkS f.path), .slice A1 f.data.length c1, .int .i64 f.owner, .int .i64 f.version, .int .i64 f.cversion, .int .i64 f.timeout, .int .i64 f.err, .int .i64 f.cver, .slice A2 f.mems.length c2, .slice A3 f.np c3] 41 (0, 0)) ∧ w1.heap[w.heap.size + 1]? = some (.cells #[.int .i64 f.zxid, .int .u8 f.kind, .int .i64 f.session, .int .i64 f.turn, .int .i64 f.xid, .int .i64 f.time, .string (mkS f.path), .slice B1 f.data.length d1, .int .i64 f.owner, .int .i64 f.version, .int .i64 f.cversion, .int .i64 f.timeout, .int .i64 f.err, .int .i64 f.cver, .slice B2 f.mems.length d2, .slice B3 f.np d3] 41 (0, 0))) := by
    rw [hw1]
    refine ⟨?_, ?_⟩
    · rw [Below.heap_alloc _ _ _ (by simp)]; exact heap_alloc_new w _
    · have := heap_alloc_new (w.alloc (.cells #[.int .i64 f.zxid, .int .u8 f.kind, .int .i64 f.session, .int .i64 f.turn, .int .i64 f.xid, .int .i64 f.time, .string (mkS f.path), .slice A1 f.data.length c1, .int .i64 f.owner, .int .i64 f.version, .int .i64 f.cversion, .int .i64 f.timeout, .int .i64 f.err, .int .i64 f.cver, .slice A2 f.mems.length c2, .slice A3 f.np c3] 41)) (.cells #[.int .i64 f.zxid, .int .u8 f.kind, .int .i64 f.session, .int .i64 f.turn, .int .i64 f.xid, .int .i64 f.time, .string (mkS f.path), .slice B1 f.data.length d1, .int .i64 f.owner, .int .i64 f.version, .int .i64 f.cversion, .int .i64 f.timeout, .int .i64 f.err, .int .i64 f.cver, .slice B2 f.mems.length d2, .slice B3 f.np d3] 41)
      rwa [World.size_alloc] at this
  rw [decide_eq_true (rfl : f.data = f.data)] at hsb
  have HMA : Hid (Mems w (.slice A2 f.mems.length c2) f.mems) := hma
  have HMB : Hid (Mems w (.slice B2 f.mems.length d2) f.mems) := hmb
  clear ha hb hma hmb hB1
  go_wp2_with fail
  refine hsb.mono ?_
  rintro e w2 ⟨rfl, qq, hw2⟩
  rw [← hw1] at hw2
  have hB2 : Below w1.heap.size w1 w2 := by rw [hw2]; exact (Chg.drewN Non _ qq).below (fun _ h => h.elim) (Nat.le_refl _)
  have HB2 : Hid (Below w.heap.size w w2) := HB1.out.trans (hB2.mono HB1.out.size)
  have HC2 : Hid (w2.heap[w.heap.size]? = some (.cells #[.int .i64 f.zxid, .int .u8 f.kind, .int .i64 f.session, .int .i64 f.turn, .int .i64 f.xid, .int .i64 f.time, .string (mkS f.path), .slice A1 f.data.length c1, .int .i64 f.owner, .int .i64 f.version, .int .i64 f.cversion, .int .i64 f.timeout, .int .i64 f.err, .int .i64 f.cver, .slice A2 f.mems.length c2, .slice A3 f.np c3] 41 (0, 0)) ∧ w2.heap[w.heap.size + 1]? = some (.cells #[.int .i64 f.zxid, .int .u8 f.kind, .int .i64 f.session, .int .i64 f.turn, .int .i64 f.xid, .int .i64 f.time, .string (mkS f.path), .slice B1 f.data.length d1, .int .i64 f.owner, .int .i64 f.version, .int .i64 f.cversion, .int .i64 f.timeout, .int .i64 f.err, .int .i64 f.cver, .slice B2 f.mems.length d2, .slice B3 f.np d3] 41 (0, 0))) := ⟨by rw [hB2.block _ (heap_lt HC1.out.1)]; exact HC1.out.1, by rw [hB2.block _ (heap_lt HC1.out.2)]; exact HC1.out.2⟩
  clear hsb hw2 hB2 HB1 HC1 hw1 w1
  obtain ⟨z0, z1, z2, z3, z4, z5, z6, z7, z8, z9, z10, z11, z12, z13, z14, z15⟩ := cells16 HC2.out.1
  obtain ⟨y0, y1, y2, y3, y4, y5, y6, y7, y8, y9, y10, y11, y12, y13, y14, y15⟩ := cells16 HC2.out.2
  have hse := sameE_any (HMA.out.below' HB2.out) (HMB.out.below' HB2.out) hm f.cver f.cver
  rw [decide_eq_true (rfl : f.cver = f.cver), decide_eq_true (rfl : f.mems = f.mems)] at hse
  go_wp2_with fail
  refine hse.mono ?_
  rintro e w3 ⟨rfl, hB3⟩
  have HB3 : Hid (Below w.heap.size w w3) := HB2.out.trans (hB3.mono HB2.out.size)
  have z15' : w3.cell? ⟨w.heap.size, 15, none⟩ = some (.slice A3 f.np c3) := by rw [hB3.cell (p := ⟨w.heap.size, 15, none⟩) (heap_lt HC2.out.1)]; exact z15
  have y15' : w3.cell? ⟨w.heap.size + 1, 15, none⟩ = some (.slice B3 f.np d3) := by rw [hB3.cell (p := ⟨w.heap.size + 1, 15, none⟩) (heap_lt HC2.out.2)]; exact y15
  have hpp := HP.out w3 HB3.out
  clear hse hB3 z0 z1 z2 z3 z4 z5 z6 z7 z8 z9 z10 z11 z12 z13 z14 z15 y0 y1 y2 y3 y4 y5 y6 y7 y8 y9 y10 y11 y12 y13 y14 y15 HB2 HC2
  go_wp2_with fail
  refine hpp.mono ?_
  rintro e w4 ⟨rfl, hB4⟩
  have HB4 : Hid (Below w.heap.size w w4) := HB3.out.trans (hB4.mono HB3.out.size)
  clear hpp hB4 z15' y15'
  go_wp2
  go_ret
  exact ⟨rfl, HB4.out⟩
theorem below_rg' {w w' : World} (h : Below w.heap.size w w') (d : Nat) (os : Array Obj) : Below w.heap.size w (grow (redrawn w' d) os) := h.trans ((below_regrown w' d os).mono h.size)
/- No parts. -/
set_option maxRecDepth 100000 in
theorem sameDs_nil (A A' : Option Addr) (C C' : Nat) (w : World) : Calls Tryz.prog 7 #[.slice A 0 C, .slice A' 0 C'] w fun e w' => e = .returned (.bool true) ∧ Below w.heap.size w w' := by
  go_enter Tryz.func7, Tryz.ntmps7
  go_wp2_with fail
  refine wp_loop_rounds 1 ?_
  rw [rounds_succ]
  go_wp2
  go_ret
  exact ⟨rfl, Below.refl _ _⟩
theorem sameD_leaf (f : Fl) (A1 A2 A3 B1 B2 B3 : Option Addr) (c1 c2 c3 d1 d2 d3 : Nat) (w : World) (hn : f.np = 0) (hm : f.mems.length ≤ 140737488355328) (hd : f.data.length ≤ 140737488355328)
    (ha : Bs w (.slice A1 f.data.length c1) f.data) (hb : Bs w (.slice B1 f.data.length d1) f.data) (hma : Mems w (.slice A2 f.mems.length c2) f.mems) (hmb : Mems w (.slice B2 f.mems.length d2) f.mems) :
    Calls Tryz.prog 16 #[.agg #[.int .i64 f.zxid, .int .u8 f.kind, .int .i64 f.session, .int .i64 f.turn, .int .i64 f.xid, .int .i64 f.time, .string (mkS f.path), .slice A1 f.data.length c1, .int .i64 f.owner, .int .i64 f.version, .int .i64 f.cversion, .int .i64 f.timeout, .int .i64 f.err, .int .i64 f.cver, .slice A2 f.mems.length c2, .slice A3 f.np c3], .agg #[.int .i64 f.zxid, .int .u8 f.kind, .int .i64 f.session, .int .i64 f.turn, .int .i64 f.xid, .int .i64 f.time, .string (mkS f.path), .slice B1 f.data.length d1, .int .i64 f.owner, .int .i64 f.version, .int .i64 f.cversion, .int .i64 f.timeout, .int .i64 f.err, .int .i64 f.cver, .slice B2 f.mems.length d2, .slice B3 f.np d3]] w fun e w' => e = .returned (.bool true) ∧ Below w.heap.size w w' :=
  sameD_core f A1 A2 A3 B1 B2 B3 c1 c2 c3 d1 d2 d3 w hm hd ha hb hma hmb (fun w' _ => by rw [hn]; exact sameDs_nil _ _ _ _ w')
/- Lists of deeds without parts. -/
set_option maxRecDepth 100000 in
set_option maxHeartbeats 4000000 in
theorem sameDs_any {w : World} {v x : Value} {ps : List Fl} (h : Prts w w.heap.size v ps) (hx : Prts w w.heap.size x ps) (hl : ps.length ≤ 1000000) (hp : ∀ p ∈ ps, p.np = 0 ∧ p.mems.length ≤ 140737488355328 ∧ p.data.length ≤ 140737488355328) :
    Calls Tryz.prog 7 #[v, x] w fun e w' => e = .returned (.bool true) ∧ Below w.heap.size w w' := by
  have HP : Hid (Prts w w.heap.size v ps) := h
  have HX : Hid (Prts w w.heap.size x ps) := hx
  have HQ : Hid (∀ p ∈ ps, p.np = 0 ∧ p.mems.length ≤ 140737488355328 ∧ p.data.length ≤ 140737488355328) := hp
  obtain ⟨A, C, rfl⟩ := h.form
  obtain ⟨A', C', rfl⟩ := hx.form
  clear h hx hp
  generalize hn : ps.length = n at hl HP HX ⊢
  have HN : Hid (ps.length = n) := hn
  clear hn
  go_enter Tryz.func7, Tryz.ntmps7
  go_wp2_with fail
  go_loopw [5] (fun c wr => ∃ k : Nat, k ≤ n ∧ c = .int .i64 k ∧ Below w.heap.size w wr) (fun c _ => n - (intOf c).toNat)
  case atStart => exact ⟨0, by omega, rfl, Below.refl _ _⟩
  case round =>
    obtain ⟨k, hk, rfl, hB⟩ := hrel
    have HB : Hid (Below w.heap.size w wr) := hB
    clear hB
    by_cases hlt : k < n
    · have hkl : k < ps.length := by have := HN.out; omega
      obtain ⟨b, o, rfl, -, -, A1, c1, A2, c2, A3, c3, hcl, hdr⟩ := (HP.out.below HB.out).at' k hkl
      obtain ⟨b', o', rfl, -, -, B1, d1, B2, d2, B3, d3, hcl', hdr'⟩ := (HX.out.below HB.out).at' k hkl
      obtain ⟨hn0, hm0, hd0⟩ := HQ.out _ (List.getElem_mem hkl)
      generalize (ps[k]'hkl) = f at hcl hdr hcl' hdr' hn0 hm0 hd0
      have sQ := fun d os => Calls.regrown_of (sameD_leaf f A1 A2 A3 B1 B2 B3 c1 c2 c3 d1 d2 d3 (grow (redrawn wr d) os) hn0 hm0 hd0 (Bs.below' hdr.bs (below_regrown wr d os)) (Bs.below' hdr'.bs (below_regrown wr d os)) (hdr.ms.below' (below_regrown wr d os)) (hdr'.ms.below' (below_regrown wr d os)))
      obtain ⟨z0, z1, z2, z3, z4, z5, z6, z7, z8, z9, z10, z11, z12, z13, z14, z15⟩ := hcl
      obtain ⟨y0, y1, y2, y3, y4, y5, y6, y7, y8, y9, y10, y11, y12, y13, y14, y15⟩ := hcl'
      have z0 := fun d os => cell_regrown z0 d os
      have y0 := fun d os => cell_regrown y0 d os
      have z1 := fun d os => cell_regrown z1 d os
      have y1 := fun d os => cell_regrown y1 d os
      have z2 := fun d os => cell_regrown z2 d os
      have y2 := fun d os => cell_regrown y2 d os
      have z3 := fun d os => cell_regrown z3 d os
      have y3 := fun d os => cell_regrown y3 d os
      have z4 := fun d os => cell_regrown z4 d os
      have y4 := fun d os => cell_regrown y4 d os
      have z5 := fun d os => cell_regrown z5 d os
      have y5 := fun d os => cell_regrown y5 d os
      have z6 := fun d os => cell_regrown z6 d os
      have y6 := fun d os => cell_regrown y6 d os
      have z7 := fun d os => cell_regrown z7 d os
      have y7 := fun d os => cell_regrown y7 d os
      have z8 := fun d os => cell_regrown z8 d os
      have y8 := fun d os => cell_regrown y8 d os
      have z9 := fun d os => cell_regrown z9 d os
      have y9 := fun d os => cell_regrown y9 d os
      have z10 := fun d os => cell_regrown z10 d os
      have y10 := fun d os => cell_regrown y10 d os
      have z11 := fun d os => cell_regrown z11 d os
      have y11 := fun d os => cell_regrown y11 d os
      have z12 := fun d os => cell_regrown z12 d os
      have y12 := fun d os => cell_regrown y12 d os
      have z13 := fun d os => cell_regrown z13 d os
      have y13 := fun d os => cell_regrown y13 d os
      have z14 := fun d os => cell_regrown z14 d os
      have y14 := fun d os => cell_regrown y14 d os
      have z15 := fun d os => cell_regrown z15 d os
      have y15 := fun d os => cell_regrown y15 d os
      clear hdr hdr' hn0 hm0 hd0
      go_wp2_with fail
      refine wp_region_quiet_below (by kernel_rfl) (by kernel_rfl) ?_
      repeat (go_big_quiet_step ((go_at_call 16; exact sQ _ _)))
      refine wpQuiet_nil ?_
      intro _ hw'
      obtain ⟨⟨dq, osq⟩, hw''⟩ := hw'
      subst hw''
      have HB3 : Hid (Below w.heap.size w (grow (redrawn wr dq) osq)) := below_rg' HB.out dq osq
      clear z0 z1 z2 z3 z4 z5 z6 z7 z8 z9 z10 z11 z12 z13 z14 z15 y0 y1 y2 y3 y4 y5 y6 y7 y8 y9 y10 y11 y12 y13 y14 y15 sQ
      go_wp2
      exact ⟨⟨k + 1, by omega, by go_num, HB3.out⟩, by simp [intOf]; omega⟩
    · go_wp2
      go_ret
      exact ⟨rfl, HB.out⟩
theorem sameD_any (f : Fl) (ps : List Fl) (A1 A2 A3 B1 B2 B3 : Option Addr) (c1 c2 c3 d1 d2 d3 : Nat) (w : World) (hm : f.mems.length ≤ 140737488355328) (hd : f.data.length ≤ 140737488355328) (hl : ps.length ≤ 1000000) (hnp : f.np = ps.length) (hp : ∀ p ∈ ps, p.np = 0 ∧ p.mems.length ≤ 140737488355328 ∧ p.data.length ≤ 140737488355328)
    (ha : DVal w f ps A1 c1 A2 c2 A3 c3) (hb : DVal w f ps B1 d1 B2 d2 B3 d3) :
    Calls Tryz.prog 16 #[.agg #[.int .i64 f.zxid, .int .u8 f.kind, .int .i64 f.session, .int .i64 f.turn, .int .i64 f.xid, .int .i64 f.time, .string (mkS f.path), .slice A1 f.data.length c1, .int .i64 f.owner, .int .i64 f.version, .int .i64 f.cversion, .int .i64 f.timeout, .int .i64 f.err, .int .i64 f.cver, .slice A2 f.mems.length c2, .slice A3 f.np c3], .agg #[.int .i64 f.zxid, .int .u8 f.kind, .int .i64 f.session, .int .i64 f.turn, .int .i64 f.xid, .int .i64 f.time, .string (mkS f.path), .slice B1 f.data.length d1, .int .i64 f.owner, .int .i64 f.version, .int .i64 f.cversion, .int .i64 f.timeout, .int .i64 f.err, .int .i64 f.cver, .slice B2 f.mems.length d2, .slice B3 f.np d3]] w fun e w' => e = .returned (.bool true) ∧ Below w.heap.size w w' :=
  sameD_core f A1 A2 A3 B1 B2 B3 c1 c2 c3 d1 d2 d3 w hm hd ha.bs hb.bs ha.ms hb.ms (fun w' hB => sameDs_any (ha.pr.grow hB) (hb.pr.grow hB) hl hp)
end Go.Proofs.YtaeoafedfgbcaaaGreatDoor.DD
