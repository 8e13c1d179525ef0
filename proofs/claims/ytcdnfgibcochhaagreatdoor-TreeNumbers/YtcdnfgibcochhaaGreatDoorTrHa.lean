/- Trees: a deed that takes a node away. Trees: deeds that do nothing. Trees: a deed that sets a node. Trees: a deed that opens a session. -/
import Derived.Test.YtcdnfgibcochhaaGreatDoorTrG
namespace Go.Proofs.YtcdnfgibcochhaaGreatDoor
set_option linter.unusedSimpArgs false
set_option linter.unusedVariables false
open Go.RowKit Go.MapKept
set_option linter.unusedVariables false
set_option linter.unusedSimpArgs false

set_option maxRecDepth 100000 in
set_option maxHeartbeats 4000000 in
theorem do_delete {w : World} {t m n : Nat} {N : List Fi} {S : List Si.Fi} (h : Tr w t m n N S) (hL : PA.Laid w) (f : Fl) (hk : f.kind = 2) (hp : f.path.length ≤ 281474976710656) {A1 A2 A3 : Option Addr} {c1 c2 c3 : Nat} (hx : Bs w (.slice A1 f.data.length c1) f.data) (hl : f.data.length ≤ 1000) :
    Calls Tryz.prog 37 #[.pointer (some ⟨t, 0, none⟩), .agg (dA f A1 A2 A3 c1 c2 c3)] w fun e w' => e = .returned (.tuple #[]) ∧ Tr w' t m n (doN f N) (doS f S) ∧ Chg (Mn m n) w w' := by
  have HD : Hid (doN f N = parN f (delF f.path N) ∧ doS f S = S) := by simp [Hid, doN, doS, hk]
  rw [HD.out.1, HD.out.2]
  simp only [dA, hk]
  obtain ⟨W, hW⟩ : ∃ W, W = w.alloc (.cells #[.int .i64 f.zxid, .int .u8 2, .int .i64 f.session, .int .i64 f.turn, .int .i64 f.xid, .int .i64 f.time, .string (mkS f.path), .slice A1 f.data.length c1, .int .i64 f.owner, .int .i64 f.version, .int .i64 f.cversion, .int .i64 f.timeout, .int .i64 f.err, .int .i64 f.cver, .slice A2 f.mems.length c2, .slice A3 f.np c3] 31) := ⟨_, rfl⟩
  have hBW : Below w.heap.size w W := by rw [hW]; exact lay1 _ _
  have hTW : Tr W t m n N S := h.below hBW
  have hxW : Bs W (.slice A1 f.data.length c1) f.data := hx.keep (Chg.of_below hBW) (fun _ _ => id)
  have HML : Hid (m < w.heap.size ∧ n < w.heap.size ∧ t < w.heap.size) := h.lt
  have HB : Hid (∀ {w' : World}, Chg (Mn m n) W w' → w'.cell? ⟨w.heap.size, 0, none⟩ = some (.int .i64 f.zxid) ∧ w'.cell? ⟨w.heap.size, 1, none⟩ = some (.int .u8 2) ∧ w'.cell? ⟨w.heap.size, 2, none⟩ = some (.int .i64 f.session) ∧ w'.cell? ⟨w.heap.size, 3, none⟩ = some (.int .i64 f.turn) ∧ w'.cell? ⟨w.heap.size, 4, none⟩ = some (.int .i64 f.xid) ∧ w'.cell? ⟨w.heap.size, 5, none⟩ = some (.int .i64 f.time) ∧ w'.cell? ⟨w.heap.size, 6, none⟩ = some (.string (mkS f.path)) ∧ w'.cell? ⟨w.heap.size, 7, none⟩ = some (.slice A1 f.data.length c1) ∧ w'.cell? ⟨w.heap.size, 8, none⟩ = some (.int .i64 f.owner) ∧ w'.cell? ⟨w.heap.size, 9, none⟩ = some (.int .i64 f.version) ∧ w'.cell? ⟨w.heap.size, 10, none⟩ = some (.int .i64 f.cversion) ∧ w'.cell? ⟨w.heap.size, 11, none⟩ = some (.int .i64 f.timeout) ∧ w'.cell? ⟨w.heap.size, 12, none⟩ = some (.int .i64 f.err) ∧ w'.cell? ⟨w.heap.size, 13, none⟩ = some (.int .i64 f.cver) ∧ w'.cell? ⟨w.heap.size, 14, none⟩ = some (.slice A2 f.mems.length c2) ∧ w'.cell? ⟨w.heap.size, 15, none⟩ = some (.slice A3 f.np c3)) := by
    intro w' hc
    have hb : W.heap[w.heap.size]? = some (.cells #[.int .i64 f.zxid, .int .u8 2, .int .i64 f.session, .int .i64 f.turn, .int .i64 f.xid, .int .i64 f.time, .string (mkS f.path), .slice A1 f.data.length c1, .int .i64 f.owner, .int .i64 f.version, .int .i64 f.cversion, .int .i64 f.timeout, .int .i64 f.err, .int .i64 f.cver, .slice A2 f.mems.length c2, .slice A3 f.np c3] 31 (0, 0)) := by rw [hW]; exact heap_alloc_new w _
    have hb' : w'.heap[w.heap.size]? = some (.cells #[.int .i64 f.zxid, .int .u8 2, .int .i64 f.session, .int .i64 f.turn, .int .i64 f.xid, .int .i64 f.time, .string (mkS f.path), .slice A1 f.data.length c1, .int .i64 f.owner, .int .i64 f.version, .int .i64 f.cversion, .int .i64 f.timeout, .int .i64 f.err, .int .i64 f.cver, .slice A2 f.mems.length c2, .slice A3 f.np c3] 31 (0, 0)) := by rw [hc.block _ (theap_lt hb) (by have := HML.out; rintro (e | e) <;> omega)]; exact hb
    exact ⟨cell_at hb' 0, cell_at hb' 1, cell_at hb' 2, cell_at hb' 3, cell_at hb' 4, cell_at hb' 5, cell_at hb' 6, cell_at hb' 7, cell_at hb' 8, cell_at hb' 9, cell_at hb' 10, cell_at hb' 11, cell_at hb' 12, cell_at hb' 13, cell_at hb' 14, cell_at hb' 15⟩
  have HC : Hid (Chg (Mn m n) w W) := (Chg.of_below hBW).weak fun _ _ e => e.elim
  have hLW := hL.below hBW
  have hTW0 := hTW
  obtain ⟨L, K, hTk, hLN, hKS⟩ := hTW
  have hBD : Below W.heap.size W W.drew := (Below.refl _ _).drew
  have hTD := hTk.below hBD
  obtain ⟨w3, hrun, h3, k3, s3⟩ := hTD.nodes.delete f.path 0
  have hT3 := hTD.del f.path h3 k3
  have kW : Chg (Mn m n) W w3 := ((Chg.of_below hBD).weak fun _ _ e => e.elim).trans (k3.weak fun _ _ e => .inl e)
  have hR3 : Tr w3 t m n (delF f.path N) S := ⟨_, K, hT3, by rw [del_F, hLN], hKS⟩
  have hc2 := mark_tr (A1 := A1) (A2 := A2) (A3 := A3) (c1 := c1) (c2 := c2) (c3 := c3) hR3 (laid_chg hLW hTW0 kW) f
  simp only [dA, hk] at hc2
  have HK : Hid (Chg (Mn m n) w w3) := HC.out.trans kW
  have hS0 : W.drew.cell? ⟨t, 0, none⟩ = some (.map (some m)) ∧ W.drew.cell? ⟨w.heap.size, 6, none⟩ = some (.string (mkS f.path)) := ⟨cell_at hTD.cell 0, (HB.out (Chg.refl _ W)).2.2.2.2.2.2.1⟩
  have hS1 : w3.cell? ⟨t, 0, none⟩ = some (.map (some m)) ∧ w3.cell? ⟨w.heap.size, 6, none⟩ = some (.string (mkS f.path)) := ⟨cell_at hT3.cell 0, (HB.out kW).2.2.2.2.2.2.1⟩
  obtain ⟨z0, z1, z2, z3, z4, z5, z6, z7, z8, z9, z10, z11, z12, z13, z14, z15⟩ := HB.out kW
  rw [hW] at hrun hS0
  clear h hL hx hBW hxW hk h3 k3 s3 hW hTk hTD hBD hT3 kW hR3 hLW hTW0
  go_enter Tryz.func37, Tryz.ntmps37
  go_wp2_with fail
  go_region_held3 (fun w' => w'.cell? ⟨t, 0, none⟩ = some (.map (some m)) ∧ w'.cell? ⟨w.heap.size, 6, none⟩ = some (.string (mkS f.path)))
    (first | exact hS0 | exact hS1 | go_keep)
    (fail)
  go_wp2_with fail
  refine hc2.mono ?_
  rintro e w4 ⟨rfl, h4, k4⟩
  have HF : Hid _ := And.intro h4 (HK.out.trans k4)
  clear hc2 h4 k4 z0 z1 z2 z3 z4 z5 z6 z7 z8 z9 z10 z11 z12 z13 z14 z15
  go_wp2_with fail
  go_end0
  exact ⟨rfl, HF.out⟩
end Go.Proofs.YtcdnfgibcochhaaGreatDoor

namespace Go.Proofs.YtcdnfgibcochhaaGreatDoor
set_option linter.unusedSimpArgs false
set_option linter.unusedVariables false
open Go.RowKit Go.MapKept
set_option linter.unusedVariables false
set_option linter.unusedSimpArgs false

set_option maxRecDepth 100000 in
set_option maxHeartbeats 4000000 in
theorem do_sync {w : World} {t m n : Nat} {N : List Fi} {S : List Si.Fi} (h : Tr w t m n N S) (hL : PA.Laid w) (f : Fl) (hk : f.kind = 6) (hp : f.path.length ≤ 281474976710656) {A1 A2 A3 : Option Addr} {c1 c2 c3 : Nat} (hx : Bs w (.slice A1 f.data.length c1) f.data) (hl : f.data.length ≤ 1000) :
    Calls Tryz.prog 37 #[.pointer (some ⟨t, 0, none⟩), .agg (dA f A1 A2 A3 c1 c2 c3)] w fun e w' => e = .returned (.tuple #[]) ∧ Tr w' t m n (doN f N) (doS f S) ∧ Chg (Mn m n) w w' := by
  have HD : Hid (doN f N = N ∧ doS f S = S) := by simp [Hid, doN, doS, hk]
  rw [HD.out.1, HD.out.2]
  simp only [dA, hk]
  obtain ⟨W, hW⟩ : ∃ W, W = w.alloc (.cells #[.int .i64 f.zxid, .int .u8 6, .int .i64 f.session, .int .i64 f.turn, .int .i64 f.xid, .int .i64 f.time, .string (mkS f.path), .slice A1 f.data.length c1, .int .i64 f.owner, .int .i64 f.version, .int .i64 f.cversion, .int .i64 f.timeout, .int .i64 f.err, .int .i64 f.cver, .slice A2 f.mems.length c2, .slice A3 f.np c3] 31) := ⟨_, rfl⟩
  have hBW : Below w.heap.size w W := by rw [hW]; exact lay1 _ _
  have hTW : Tr W t m n N S := h.below hBW
  have hxW : Bs W (.slice A1 f.data.length c1) f.data := hx.keep (Chg.of_below hBW) (fun _ _ => id)
  have HML : Hid (m < w.heap.size ∧ n < w.heap.size ∧ t < w.heap.size) := h.lt
  have HB : Hid (∀ {w' : World}, Chg (Mn m n) W w' → w'.cell? ⟨w.heap.size, 0, none⟩ = some (.int .i64 f.zxid) ∧ w'.cell? ⟨w.heap.size, 1, none⟩ = some (.int .u8 6) ∧ w'.cell? ⟨w.heap.size, 2, none⟩ = some (.int .i64 f.session) ∧ w'.cell? ⟨w.heap.size, 3, none⟩ = some (.int .i64 f.turn) ∧ w'.cell? ⟨w.heap.size, 4, none⟩ = some (.int .i64 f.xid) ∧ w'.cell? ⟨w.heap.size, 5, none⟩ = some (.int .i64 f.time) ∧ w'.cell? ⟨w.heap.size, 6, none⟩ = some (.string (mkS f.path)) ∧ w'.cell? ⟨w.heap.size, 7, none⟩ = some (.slice A1 f.data.length c1) ∧ w'.cell? ⟨w.heap.size, 8, none⟩ = some (.int .i64 f.owner) ∧ w'.cell? ⟨w.heap.size, 9, none⟩ = some (.int .i64 f.version) ∧ w'.cell? ⟨w.heap.size, 10, none⟩ = some (.int .i64 f.cversion) ∧ w'.cell? ⟨w.heap.size, 11, none⟩ = some (.int .i64 f.timeout) ∧ w'.cell? ⟨w.heap.size, 12, none⟩ = some (.int .i64 f.err) ∧ w'.cell? ⟨w.heap.size, 13, none⟩ = some (.int .i64 f.cver) ∧ w'.cell? ⟨w.heap.size, 14, none⟩ = some (.slice A2 f.mems.length c2) ∧ w'.cell? ⟨w.heap.size, 15, none⟩ = some (.slice A3 f.np c3)) := by
    intro w' hc
    have hb : W.heap[w.heap.size]? = some (.cells #[.int .i64 f.zxid, .int .u8 6, .int .i64 f.session, .int .i64 f.turn, .int .i64 f.xid, .int .i64 f.time, .string (mkS f.path), .slice A1 f.data.length c1, .int .i64 f.owner, .int .i64 f.version, .int .i64 f.cversion, .int .i64 f.timeout, .int .i64 f.err, .int .i64 f.cver, .slice A2 f.mems.length c2, .slice A3 f.np c3] 31 (0, 0)) := by rw [hW]; exact heap_alloc_new w _
    have hb' : w'.heap[w.heap.size]? = some (.cells #[.int .i64 f.zxid, .int .u8 6, .int .i64 f.session, .int .i64 f.turn, .int .i64 f.xid, .int .i64 f.time, .string (mkS f.path), .slice A1 f.data.length c1, .int .i64 f.owner, .int .i64 f.version, .int .i64 f.cversion, .int .i64 f.timeout, .int .i64 f.err, .int .i64 f.cver, .slice A2 f.mems.length c2, .slice A3 f.np c3] 31 (0, 0)) := by rw [hc.block _ (theap_lt hb) (by have := HML.out; rintro (e | e) <;> omega)]; exact hb
    exact ⟨cell_at hb' 0, cell_at hb' 1, cell_at hb' 2, cell_at hb' 3, cell_at hb' 4, cell_at hb' 5, cell_at hb' 6, cell_at hb' 7, cell_at hb' 8, cell_at hb' 9, cell_at hb' 10, cell_at hb' 11, cell_at hb' 12, cell_at hb' 13, cell_at hb' 14, cell_at hb' 15⟩
  have HC : Hid (Chg (Mn m n) w W) := (Chg.of_below hBW).weak fun _ _ e => e.elim
  have HE : Hid (Tr W t m n N S) := hTW
  rw [hW] at HC HE
  clear h hL hx hBW hTW hxW hW hk HB
  go_enter Tryz.func37, Tryz.ntmps37
  go_wp2_with fail
  go_end0
  exact ⟨rfl, HE.out, HC.out⟩
set_option maxRecDepth 100000 in
set_option maxHeartbeats 4000000 in
theorem do_config {w : World} {t m n : Nat} {N : List Fi} {S : List Si.Fi} (h : Tr w t m n N S) (hL : PA.Laid w) (f : Fl) (hk : f.kind = 7) (hp : f.path.length ≤ 281474976710656) {A1 A2 A3 : Option Addr} {c1 c2 c3 : Nat} (hx : Bs w (.slice A1 f.data.length c1) f.data) (hl : f.data.length ≤ 1000) :
    Calls Tryz.prog 37 #[.pointer (some ⟨t, 0, none⟩), .agg (dA f A1 A2 A3 c1 c2 c3)] w fun e w' => e = .returned (.tuple #[]) ∧ Tr w' t m n (doN f N) (doS f S) ∧ Chg (Mn m n) w w' := by
  have HD : Hid (doN f N = N ∧ doS f S = S) := by simp [Hid, doN, doS, hk]
  rw [HD.out.1, HD.out.2]
  simp only [dA, hk]
  obtain ⟨W, hW⟩ : ∃ W, W = w.alloc (.cells #[.int .i64 f.zxid, .int .u8 7, .int .i64 f.session, .int .i64 f.turn, .int .i64 f.xid, .int .i64 f.time, .string (mkS f.path), .slice A1 f.data.length c1, .int .i64 f.owner, .int .i64 f.version, .int .i64 f.cversion, .int .i64 f.timeout, .int .i64 f.err, .int .i64 f.cver, .slice A2 f.mems.length c2, .slice A3 f.np c3] 31) := ⟨_, rfl⟩
  have hBW : Below w.heap.size w W := by rw [hW]; exact lay1 _ _
  have hTW : Tr W t m n N S := h.below hBW
  have hxW : Bs W (.slice A1 f.data.length c1) f.data := hx.keep (Chg.of_below hBW) (fun _ _ => id)
  have HML : Hid (m < w.heap.size ∧ n < w.heap.size ∧ t < w.heap.size) := h.lt
  have HB : Hid (∀ {w' : World}, Chg (Mn m n) W w' → w'.cell? ⟨w.heap.size, 0, none⟩ = some (.int .i64 f.zxid) ∧ w'.cell? ⟨w.heap.size, 1, none⟩ = some (.int .u8 7) ∧ w'.cell? ⟨w.heap.size, 2, none⟩ = some (.int .i64 f.session) ∧ w'.cell? ⟨w.heap.size, 3, none⟩ = some (.int .i64 f.turn) ∧ w'.cell? ⟨w.heap.size, 4, none⟩ = some (.int .i64 f.xid) ∧ w'.cell? ⟨w.heap.size, 5, none⟩ = some (.int .i64 f.time) ∧ w'.cell? ⟨w.heap.size, 6, none⟩ = some (.string (mkS f.path)) ∧ w'.cell? ⟨w.heap.size, 7, none⟩ = some (.slice A1 f.data.length c1) ∧ w'.cell? ⟨w.heap.size, 8, none⟩ = some (.int .i64 f.owner) ∧ w'.cell? ⟨w.heap.size, 9, none⟩ = some (.int .i64 f.version) ∧ w'.cell? ⟨w.heap.size, 10, none⟩ = some (.int .i64 f.cversion) ∧ w'.cell? ⟨w.heap.size, 11, none⟩ = some (.int .i64 f.timeout) ∧ w'.cell? ⟨w.heap.size, 12, none⟩ = some (.int .i64 f.err) ∧ w'.cell? ⟨w.heap.size, 13, none⟩ = some (.int .i64 f.cver) ∧ w'.cell? ⟨w.heap.size, 14, none⟩ = some (.slice A2 f.mems.length c2) ∧ w'.cell? ⟨w.heap.size, 15, none⟩ = some (.slice A3 f.np c3)) := by
    intro w' hc
    have hb : W.heap[w.heap.size]? = some (.cells #[.int .i64 f.zxid, .int .u8 7, .int .i64 f.session, .int .i64 f.turn, .int .i64 f.xid, .int .i64 f.time, .string (mkS f.path), .slice A1 f.data.length c1, .int .i64 f.owner, .int .i64 f.version, .int .i64 f.cversion, .int .i64 f.timeout, .int .i64 f.err, .int .i64 f.cver, .slice A2 f.mems.length c2, .slice A3 f.np c3] 31 (0, 0)) := by rw [hW]; exact heap_alloc_new w _
    have hb' : w'.heap[w.heap.size]? = some (.cells #[.int .i64 f.zxid, .int .u8 7, .int .i64 f.session, .int .i64 f.turn, .int .i64 f.xid, .int .i64 f.time, .string (mkS f.path), .slice A1 f.data.length c1, .int .i64 f.owner, .int .i64 f.version, .int .i64 f.cversion, .int .i64 f.timeout, .int .i64 f.err, .int .i64 f.cver, .slice A2 f.mems.length c2, .slice A3 f.np c3] 31 (0, 0)) := by rw [hc.block _ (theap_lt hb) (by have := HML.out; rintro (e | e) <;> omega)]; exact hb
    exact ⟨cell_at hb' 0, cell_at hb' 1, cell_at hb' 2, cell_at hb' 3, cell_at hb' 4, cell_at hb' 5, cell_at hb' 6, cell_at hb' 7, cell_at hb' 8, cell_at hb' 9, cell_at hb' 10, cell_at hb' 11, cell_at hb' 12, cell_at hb' 13, cell_at hb' 14, cell_at hb' 15⟩
  have HC : Hid (Chg (Mn m n) w W) := (Chg.of_below hBW).weak fun _ _ e => e.elim
  have HE : Hid (Tr W t m n N S) := hTW
  rw [hW] at HC HE
  clear h hL hx hBW hTW hxW hW hk HB
  go_enter Tryz.func37, Tryz.ntmps37
  go_wp2_with fail
  go_end0
  exact ⟨rfl, HE.out, HC.out⟩
set_option maxRecDepth 100000 in
set_option maxHeartbeats 4000000 in
theorem do_error {w : World} {t m n : Nat} {N : List Fi} {S : List Si.Fi} (h : Tr w t m n N S) (hL : PA.Laid w) (f : Fl) (hk : f.kind = 9) (hp : f.path.length ≤ 281474976710656) {A1 A2 A3 : Option Addr} {c1 c2 c3 : Nat} (hx : Bs w (.slice A1 f.data.length c1) f.data) (hl : f.data.length ≤ 1000) :
    Calls Tryz.prog 37 #[.pointer (some ⟨t, 0, none⟩), .agg (dA f A1 A2 A3 c1 c2 c3)] w fun e w' => e = .returned (.tuple #[]) ∧ Tr w' t m n (doN f N) (doS f S) ∧ Chg (Mn m n) w w' := by
  have HD : Hid (doN f N = N ∧ doS f S = S) := by simp [Hid, doN, doS, hk]
  rw [HD.out.1, HD.out.2]
  simp only [dA, hk]
  obtain ⟨W, hW⟩ : ∃ W, W = w.alloc (.cells #[.int .i64 f.zxid, .int .u8 9, .int .i64 f.session, .int .i64 f.turn, .int .i64 f.xid, .int .i64 f.time, .string (mkS f.path), .slice A1 f.data.length c1, .int .i64 f.owner, .int .i64 f.version, .int .i64 f.cversion, .int .i64 f.timeout, .int .i64 f.err, .int .i64 f.cver, .slice A2 f.mems.length c2, .slice A3 f.np c3] 31) := ⟨_, rfl⟩
  have hBW : Below w.heap.size w W := by rw [hW]; exact lay1 _ _
  have hTW : Tr W t m n N S := h.below hBW
  have hxW : Bs W (.slice A1 f.data.length c1) f.data := hx.keep (Chg.of_below hBW) (fun _ _ => id)
  have HML : Hid (m < w.heap.size ∧ n < w.heap.size ∧ t < w.heap.size) := h.lt
  have HB : Hid (∀ {w' : World}, Chg (Mn m n) W w' → w'.cell? ⟨w.heap.size, 0, none⟩ = some (.int .i64 f.zxid) ∧ w'.cell? ⟨w.heap.size, 1, none⟩ = some (.int .u8 9) ∧ w'.cell? ⟨w.heap.size, 2, none⟩ = some (.int .i64 f.session) ∧ w'.cell? ⟨w.heap.size, 3, none⟩ = some (.int .i64 f.turn) ∧ w'.cell? ⟨w.heap.size, 4, none⟩ = some (.int .i64 f.xid) ∧ w'.cell? ⟨w.heap.size, 5, none⟩ = some (.int .i64 f.time) ∧ w'.cell? ⟨w.heap.size, 6, none⟩ = some (.string (mkS f.path)) ∧ w'.cell? ⟨w.heap.size, 7, none⟩ = some (.slice A1 f.data.length c1) ∧ w'.cell? ⟨w.heap.size, 8, none⟩ = some (.int .i64 f.owner) ∧ w'.cell? ⟨w.heap.size, 9, none⟩ = some (.int .i64 f.version) ∧ w'.cell? ⟨w.heap.size, 10, none⟩ = some (.int .i64 f.cversion) ∧ w'.cell? ⟨w.heap.size, 11, none⟩ = some (.int .i64 f.timeout) ∧ w'.cell? ⟨w.heap.size, 12, none⟩ = some (.int .i64 f.err) ∧ w'.cell? ⟨w.heap.size, 13, none⟩ = some (.int .i64 f.cver) ∧ w'.cell? ⟨w.heap.size, 14, none⟩ = some (.slice A2 f.mems.length c2) ∧ w'.cell? ⟨w.heap.size, 15, none⟩ = some (.slice A3 f.np c3)) := by
    intro w' hc
    have hb : W.heap[w.heap.size]? = some (.cells #[.int .i64 f.zxid, .int .u8 9, .int .i64 f.session, .int .i64 f.turn, .int .i64 f.xid, .int .i64 f.time, .string (mkS f.path), .slice A1 f.data.length c1, .int .i64 f.owner, .int .i64 f.version, .int .i64 f.cversion, .int .i64 f.timeout, .int .i64 f.err, .int .i64 f.cver, .slice A2 f.mems.length c2, .slice A3 f.np c3] 31 (0, 0)) := by rw [hW]; exact heap_alloc_new w _
    have hb' : w'.heap[w.heap.size]? = some (.cells #[.int .i64 f.zxid, .int .u8 9, .int .i64 f.session, .int .i64 f.turn, .int .i64 f.xid, .int .i64 f.time, .string (mkS f.path), .slice A1 f.data.length c1, .int .i64 f.owner, .int .i64 f.version, .int .i64 f.cversion, .int .i64 f.timeout, .int .i64 f.err, .int .i64 f.cver, .slice A2 f.mems.length c2, .slice A3 f.np c3] 31 (0, 0)) := by rw [hc.block _ (theap_lt hb) (by have := HML.out; rintro (e | e) <;> omega)]; exact hb
    exact ⟨cell_at hb' 0, cell_at hb' 1, cell_at hb' 2, cell_at hb' 3, cell_at hb' 4, cell_at hb' 5, cell_at hb' 6, cell_at hb' 7, cell_at hb' 8, cell_at hb' 9, cell_at hb' 10, cell_at hb' 11, cell_at hb' 12, cell_at hb' 13, cell_at hb' 14, cell_at hb' 15⟩
  have HC : Hid (Chg (Mn m n) w W) := (Chg.of_below hBW).weak fun _ _ e => e.elim
  have HE : Hid (Tr W t m n N S) := hTW
  rw [hW] at HC HE
  clear h hL hx hBW hTW hxW hW hk HB
  go_enter Tryz.func37, Tryz.ntmps37
  go_wp2_with fail
  go_end0
  exact ⟨rfl, HE.out, HC.out⟩
end Go.Proofs.YtcdnfgibcochhaaGreatDoor

namespace Go.Proofs.YtcdnfgibcochhaaGreatDoor
set_option linter.unusedSimpArgs false
set_option linter.unusedVariables false
open Go.RowKit Go.MapKept
set_option linter.unusedVariables false
set_option linter.unusedSimpArgs false

set_option maxRecDepth 100000 in
set_option maxHeartbeats 4000000 in
theorem do_set {w : World} {t m n : Nat} {N : List Fi} {S : List Si.Fi} (h : Tr w t m n N S) (hL : PA.Laid w) (f : Fl) (hk : f.kind = 3) (hp : f.path.length ≤ 281474976710656) {A1 A2 A3 : Option Addr} {c1 c2 c3 : Nat} (hx : Bs w (.slice A1 f.data.length c1) f.data) (hl : f.data.length ≤ 1000) :
    Calls Tryz.prog 37 #[.pointer (some ⟨t, 0, none⟩), .agg (dA f A1 A2 A3 c1 c2 c3)] w fun e w' => e = .returned (.tuple #[]) ∧ Tr w' t m n (doN f N) (doS f S) ∧ Chg (Mn m n) w w' := by
  have HD : Hid (doN f N = setN f N ∧ doS f S = S) := by simp [Hid, doN, doS, hk]
  rw [HD.out.1, HD.out.2]
  simp only [dA, hk]
  obtain ⟨W, hW⟩ : ∃ W, W = w.alloc (.cells #[.int .i64 f.zxid, .int .u8 3, .int .i64 f.session, .int .i64 f.turn, .int .i64 f.xid, .int .i64 f.time, .string (mkS f.path), .slice A1 f.data.length c1, .int .i64 f.owner, .int .i64 f.version, .int .i64 f.cversion, .int .i64 f.timeout, .int .i64 f.err, .int .i64 f.cver, .slice A2 f.mems.length c2, .slice A3 f.np c3] 31) := ⟨_, rfl⟩
  have hBW : Below w.heap.size w W := by rw [hW]; exact lay1 _ _
  have hTW : Tr W t m n N S := h.below hBW
  have hxW : Bs W (.slice A1 f.data.length c1) f.data := hx.keep (Chg.of_below hBW) (fun _ _ => id)
  have HML : Hid (m < w.heap.size ∧ n < w.heap.size ∧ t < w.heap.size) := h.lt
  have HB : Hid (∀ {w' : World}, Chg (Mn m n) W w' → w'.cell? ⟨w.heap.size, 0, none⟩ = some (.int .i64 f.zxid) ∧ w'.cell? ⟨w.heap.size, 1, none⟩ = some (.int .u8 3) ∧ w'.cell? ⟨w.heap.size, 2, none⟩ = some (.int .i64 f.session) ∧ w'.cell? ⟨w.heap.size, 3, none⟩ = some (.int .i64 f.turn) ∧ w'.cell? ⟨w.heap.size, 4, none⟩ = some (.int .i64 f.xid) ∧ w'.cell? ⟨w.heap.size, 5, none⟩ = some (.int .i64 f.time) ∧ w'.cell? ⟨w.heap.size, 6, none⟩ = some (.string (mkS f.path)) ∧ w'.cell? ⟨w.heap.size, 7, none⟩ = some (.slice A1 f.data.length c1) ∧ w'.cell? ⟨w.heap.size, 8, none⟩ = some (.int .i64 f.owner) ∧ w'.cell? ⟨w.heap.size, 9, none⟩ = some (.int .i64 f.version) ∧ w'.cell? ⟨w.heap.size, 10, none⟩ = some (.int .i64 f.cversion) ∧ w'.cell? ⟨w.heap.size, 11, none⟩ = some (.int .i64 f.timeout) ∧ w'.cell? ⟨w.heap.size, 12, none⟩ = some (.int .i64 f.err) ∧ w'.cell? ⟨w.heap.size, 13, none⟩ = some (.int .i64 f.cver) ∧ w'.cell? ⟨w.heap.size, 14, none⟩ = some (.slice A2 f.mems.length c2) ∧ w'.cell? ⟨w.heap.size, 15, none⟩ = some (.slice A3 f.np c3)) := by
    intro w' hc
    have hb : W.heap[w.heap.size]? = some (.cells #[.int .i64 f.zxid, .int .u8 3, .int .i64 f.session, .int .i64 f.turn, .int .i64 f.xid, .int .i64 f.time, .string (mkS f.path), .slice A1 f.data.length c1, .int .i64 f.owner, .int .i64 f.version, .int .i64 f.cversion, .int .i64 f.timeout, .int .i64 f.err, .int .i64 f.cver, .slice A2 f.mems.length c2, .slice A3 f.np c3] 31 (0, 0)) := by rw [hW]; exact heap_alloc_new w _
    have hb' : w'.heap[w.heap.size]? = some (.cells #[.int .i64 f.zxid, .int .u8 3, .int .i64 f.session, .int .i64 f.turn, .int .i64 f.xid, .int .i64 f.time, .string (mkS f.path), .slice A1 f.data.length c1, .int .i64 f.owner, .int .i64 f.version, .int .i64 f.cversion, .int .i64 f.timeout, .int .i64 f.err, .int .i64 f.cver, .slice A2 f.mems.length c2, .slice A3 f.np c3] 31 (0, 0)) := by rw [hc.block _ (theap_lt hb) (by have := HML.out; rintro (e | e) <;> omega)]; exact hb
    exact ⟨cell_at hb' 0, cell_at hb' 1, cell_at hb' 2, cell_at hb' 3, cell_at hb' 4, cell_at hb' 5, cell_at hb' 6, cell_at hb' 7, cell_at hb' 8, cell_at hb' 9, cell_at hb' 10, cell_at hb' 11, cell_at hb' 12, cell_at hb' 13, cell_at hb' 14, cell_at hb' 15⟩
  have HC : Hid (Chg (Mn m n) w W) := (Chg.of_below hBW).weak fun _ _ e => e.elim
  have hc1 := set_tr (A2 := A2) (A3 := A3) (c2 := c2) (c3 := c3) hTW f hp hxW hl
  simp only [dA, hk] at hc1
  rw [hW] at hc1 HC
  clear h hL hx hBW hTW hxW hW hk HB
  go_enter Tryz.func37, Tryz.ntmps37
  go_wp2_with fail
  refine hc1.mono ?_
  rintro e w1 ⟨rfl, h1, k1⟩
  have HF : Hid _ := And.intro h1 (HC.out.trans k1)
  clear hc1 h1 k1
  go_wp2_with fail
  go_end0
  exact ⟨rfl, HF.out⟩
end Go.Proofs.YtcdnfgibcochhaaGreatDoor

namespace Go.Proofs.YtcdnfgibcochhaaGreatDoor
set_option linter.unusedSimpArgs false
set_option linter.unusedVariables false
open Go.RowKit Go.MapKept
set_option linter.unusedVariables false
set_option linter.unusedSimpArgs false

set_option maxRecDepth 100000 in
set_option maxHeartbeats 4000000 in
theorem do_open {w : World} {t m n : Nat} {N : List Fi} {S : List Si.Fi} (h : Tr w t m n N S) (hL : PA.Laid w) (f : Fl) (hk : f.kind = 4) (hp : f.path.length ≤ 281474976710656) {A1 A2 A3 : Option Addr} {c1 c2 c3 : Nat} (hx : Bs w (.slice A1 f.data.length c1) f.data) (hl : f.data.length ≤ 1000) :
    Calls Tryz.prog 37 #[.pointer (some ⟨t, 0, none⟩), .agg (dA f A1 A2 A3 c1 c2 c3)] w fun e w' => e = .returned (.tuple #[]) ∧ Tr w' t m n (doN f N) (doS f S) ∧ Chg (Mn m n) w w' := by
  have HD : Hid (doN f N = N ∧ doS f S = Si.putF ⟨f.zxid, f.timeout, f.turn⟩ S) := by simp [Hid, doN, doS, hk]
  rw [HD.out.1, HD.out.2]
  simp only [dA, hk]
  obtain ⟨W, hW⟩ : ∃ W, W = w.alloc (.cells #[.int .i64 f.zxid, .int .u8 4, .int .i64 f.session, .int .i64 f.turn, .int .i64 f.xid, .int .i64 f.time, .string (mkS f.path), .slice A1 f.data.length c1, .int .i64 f.owner, .int .i64 f.version, .int .i64 f.cversion, .int .i64 f.timeout, .int .i64 f.err, .int .i64 f.cver, .slice A2 f.mems.length c2, .slice A3 f.np c3] 31) := ⟨_, rfl⟩
  have hBW : Below w.heap.size w W := by rw [hW]; exact lay1 _ _
  have hTW : Tr W t m n N S := h.below hBW
  have hxW : Bs W (.slice A1 f.data.length c1) f.data := hx.keep (Chg.of_below hBW) (fun _ _ => id)
  have HML : Hid (m < w.heap.size ∧ n < w.heap.size ∧ t < w.heap.size) := h.lt
  have HB : Hid (∀ {w' : World}, Chg (Mn m n) W w' → w'.cell? ⟨w.heap.size, 0, none⟩ = some (.int .i64 f.zxid) ∧ w'.cell? ⟨w.heap.size, 1, none⟩ = some (.int .u8 4) ∧ w'.cell? ⟨w.heap.size, 2, none⟩ = some (.int .i64 f.session) ∧ w'.cell? ⟨w.heap.size, 3, none⟩ = some (.int .i64 f.turn) ∧ w'.cell? ⟨w.heap.size, 4, none⟩ = some (.int .i64 f.xid) ∧ w'.cell? ⟨w.heap.size, 5, none⟩ = some (.int .i64 f.time) ∧ w'.cell? ⟨w.heap.size, 6, none⟩ = some (.string (mkS f.path)) ∧ w'.cell? ⟨w.heap.size, 7, none⟩ = some (.slice A1 f.data.length c1) ∧ w'.cell? ⟨w.heap.size, 8, none⟩ = some (.int .i64 f.owner) ∧ w'.cell? ⟨w.heap.size, 9, none⟩ = some (.int .i64 f.version) ∧ w'.cell? ⟨w.heap.size, 10, none⟩ = some (.int .i64 f.cversion) ∧ w'.cell? ⟨w.heap.size, 11, none⟩ = some (.int .i64 f.timeout) ∧ w'.cell? ⟨w.heap.size, 12, none⟩ = some (.int .i64 f.err) ∧ w'.cell? ⟨w.heap.size, 13, none⟩ = some (.int .i64 f.cver) ∧ w'.cell? ⟨w.heap.size, 14, none⟩ = some (.slice A2 f.mems.length c2) ∧ w'.cell? ⟨w.heap.size, 15, none⟩ = some (.slice A3 f.np c3)) := by
    intro w' hc
    have hb : W.heap[w.heap.size]? = some (.cells #[.int .i64 f.zxid, .int .u8 4, .int .i64 f.session, .int .i64 f.turn, .int .i64 f.xid, .int .i64 f.time, .string (mkS f.path), .slice A1 f.data.length c1, .int .i64 f.owner, .int .i64 f.version, .int .i64 f.cversion, .int .i64 f.timeout, .int .i64 f.err, .int .i64 f.cver, .slice A2 f.mems.length c2, .slice A3 f.np c3] 31 (0, 0)) := by rw [hW]; exact heap_alloc_new w _
    have hb' : w'.heap[w.heap.size]? = some (.cells #[.int .i64 f.zxid, .int .u8 4, .int .i64 f.session, .int .i64 f.turn, .int .i64 f.xid, .int .i64 f.time, .string (mkS f.path), .slice A1 f.data.length c1, .int .i64 f.owner, .int .i64 f.version, .int .i64 f.cversion, .int .i64 f.timeout, .int .i64 f.err, .int .i64 f.cver, .slice A2 f.mems.length c2, .slice A3 f.np c3] 31 (0, 0)) := by rw [hc.block _ (theap_lt hb) (by have := HML.out; rintro (e | e) <;> omega)]; exact hb
    exact ⟨cell_at hb' 0, cell_at hb' 1, cell_at hb' 2, cell_at hb' 3, cell_at hb' 4, cell_at hb' 5, cell_at hb' 6, cell_at hb' 7, cell_at hb' 8, cell_at hb' 9, cell_at hb' 10, cell_at hb' 11, cell_at hb' 12, cell_at hb' 13, cell_at hb' 14, cell_at hb' 15⟩
  have HC : Hid (Chg (Mn m n) w W) := (Chg.of_below hBW).weak fun _ _ e => e.elim
  obtain ⟨L, K, hTk, hLN, hKS⟩ := hTW
  have hBD : Below W.heap.size W W.drew := (Below.refl _ _).drew
  have hTD := hTk.below hBD
  obtain ⟨w3, hrun, h3, k3, s3⟩ := hTD.seats.update (⟨f.zxid, f.timeout, f.turn⟩, ())
  have hT3 := hTD.seat h3 k3
  have kW : Chg (Mn m n) W w3 := ((Chg.of_below hBD).weak fun _ _ e => e.elim).trans (k3.weak fun _ _ e => .inr e)
  have HF : Hid (Tr w3 t m n N (Si.putF ⟨f.zxid, f.timeout, f.turn⟩ S) ∧ Chg (Mn m n) w w3) := ⟨⟨L, _, hT3, hLN, by rw [← hKS]; exact Si.put_F _ _⟩, HC.out.trans kW⟩
  have hrun' : (Instr.mapUpdate 36 (.map (some n)) (.int .i64 f.zxid) (.agg #[.int .i64 f.zxid, .int .i64 f.timeout, .int .i64 f.turn])).run Tryz.prog W.drew = .ok () w3 := hrun
  have hS0 : W.drew.cell? ⟨t, 1, none⟩ = some (.map (some n)) ∧ W.drew.cell? ⟨w.heap.size, 3, none⟩ = some (.int .i64 f.turn) ∧ W.drew.cell? ⟨w.heap.size, 11, none⟩ = some (.int .i64 f.timeout) := ⟨cell_at hTD.cell 1, (HB.out (Chg.refl _ W)).2.2.2.1, (HB.out (Chg.refl _ W)).2.2.2.2.2.2.2.2.2.2.2.1⟩
  have hS1 : w3.cell? ⟨t, 1, none⟩ = some (.map (some n)) ∧ w3.cell? ⟨w.heap.size, 3, none⟩ = some (.int .i64 f.turn) ∧ w3.cell? ⟨w.heap.size, 11, none⟩ = some (.int .i64 f.timeout) := ⟨cell_at hT3.cell 1, (HB.out kW).2.2.2.1, (HB.out kW).2.2.2.2.2.2.2.2.2.2.2.1⟩
  rw [hW] at hrun' hS0
  clear h hL hx hBW hxW hk hrun h3 k3 s3 hW hTk hTD hBD hT3 kW HB
  go_enter Tryz.func37, Tryz.ntmps37
  go_wp2_with fail
  go_region_held3 (fun w' => w'.cell? ⟨t, 1, none⟩ = some (.map (some n)) ∧ w'.cell? ⟨w.heap.size, 3, none⟩ = some (.int .i64 f.turn) ∧ w'.cell? ⟨w.heap.size, 11, none⟩ = some (.int .i64 f.timeout))
    (first | exact hS0 | exact hS1 | go_keep)
    (fail)
  go_wp2_with fail
  go_end0
  exact ⟨rfl, HF.out⟩
end Go.Proofs.YtcdnfgibcochhaaGreatDoor
