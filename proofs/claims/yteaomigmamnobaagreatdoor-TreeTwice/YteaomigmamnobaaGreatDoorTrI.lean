/- Trees: deeds that do nothing. -/
import Derived.Test.YteaomigmamnobaaGreatDoorTrG
namespace Go.Proofs.YteaomigmamnobaaGreatDoor
set_option linter.unusedSimpArgs false
set_option linter.unusedVariables false
open Go.RowKit Go.MapKept
set_option linter.unusedVariables false
set_option linter.unusedSimpArgs false

set_option maxRecDepth 100000 in
set_option maxHeartbeats 4000000 in
theorem do_sync {w : World} {t m n : Nat} {N : List Fi} {S : List Si.Fi} (h : Tr w t m n N S) (hL : PA.Laid w) (f : Fl) (hk : f.kind = 6) (hp : f.path.length ≤ 281474976710656) {A1 A2 A3 : Option Addr} {c1 c2 c3 : Nat} (hx : Bs w (.slice A1 f.data.length c1) f.data) (hl : f.data.length ≤ 1000) :
    Calls Tryz.prog 37 #[.pointer (some ⟨t, 0, none⟩), .agg (dA f A1 A2 A3 c1 c2 c3)] w fun e w' => e = .returned (.tuple #[]) ∧ Tr w' t m n (doN f N) (doS f S) ∧ Chg (Mn m n) w w' := by
  have HD : Hid (doN f N = N ∧ doS f S = S) := by simp [Hid, doN, doS, hk]
  rw [HD.out.1, HD.out.2]
  simp only [dA, hk]
  obtain ⟨W, hW⟩ : ∃ W, W = w.alloc (.cells #[.int .i64 f.zxid, .int .u8 6, .int .i64 f.session, .int .i64 f.turn, .int .i64 f.xid, .int .i64 f.time, .string (mkS f.path), .slice A1 f.data.length c1, .int .i64 f.owner, .int .i64 f.version, .int .i64 f.cversion, .int .i64 f.timeout, .int .i64 f.err, .int .i64 f.cver, .slice A2 f.mems.length c2, .slice A3 f.np c3] 31) := ⟨_, rfl⟩
  have hBW : Below w.heap.size w W := by rw [hW]; exact lay1 _ _
  have hTW : Tr W t m n N S := h.below hBW
  have hxW : Bs W (.slice A1 f.data.length c1) f.data := hx.keep (Chg.of_below hBW) (fun _ _ => id)
  have HML : Hid (m < w.heap.size ∧ n < w.heap.size ∧ t < w.heap.size) := h.lt
  have HB : Hid (∀ {w' : World}, Chg (Mn m n) W w' → w'.cell? ⟨w.heap.size, 0, none⟩ = some (.int .i64 f.zxid) ∧ w'.cell? ⟨w.heap.size, 1, none⟩ = some (.int .u8 6) ∧ w'.cell? ⟨w.heap.size, 2, none⟩ = some (.int .i64 f.session) ∧ w'.cell? ⟨w.heap.size, 3, none⟩ = some (.int .i64 f.turn) ∧ w'.cell? ⟨w.heap.size, 4, none⟩ = some (.int .i64 f.xid) ∧ w'.cell? ⟨w.heap.size, 5, none⟩ = some (.int .i64 f.time) ∧ w'.cell? ⟨w.heap.size, 6, none⟩ = some (.string (mkS f.path)) ∧ w'.cell? ⟨w.heap.size, 7, none⟩ = some (.slice A1 f.data.length c1) ∧ w'.cell? ⟨w.heap.size, 8, none⟩ = some (.int .i64 f.owner) ∧ w'.cell? ⟨w.heap.size, 9, none⟩ = some (.int .i64 f.version) ∧ w'.cell? ⟨w.heap.size, 10, none⟩ = some (.int .i64 f.cversion) ∧ w'.cell? ⟨w.heap.size, 11, none⟩ = some (.int .i64 f.timeout) ∧ w'.cell? ⟨w.heap.size, 12, none⟩ = some (.int .i64 f.err) ∧ w'.cell? ⟨w.heap.size, 13, none⟩ = some (.int .i64 f.cver) ∧ w'.cell? ⟨w.heap.size, 14, none⟩ = some (.slice A2 f.mems.length c2) ∧ w'.cell? ⟨w.heap.size, 15, none⟩ = some (.slice A3 f.np c3)) := by
    intro w' hc
    have hb : W.heap[w.heap.size]? = some (.cells #[.int .i64 f.zxid, .int .u8 6, .int .i64 f.session, .int .i64 f.turn, .int .i64 f.xid, .int .i64 f.time, .string (mkS f.path), .slice A1 f.data.length c1, .int .i64 f.owner, .int .i64 f.version, .int .i64 f.cversion, .int .i64 f.timeout, .int .i64 f.err, .int .i64 f.cver, .slice A2 f.mems.length c2, .slice A3 f.np c3] 31 (0, 0)) := by rw [hW]; exact heap_alloc_new w _
    have hb' : w'.heap[w.heap.size]? = some (.cells #[.int .i64 f.zxid, .int .u8 6, .int .i64 f.session, .int .i64 f.turn, .int .i64 f.xid, .int .i64 f.time, .string (mkS f.path), .slice A1 f.data.length c1, .int .i64 f.owner, .int .i64 f.version, .int .i64 f.cversion, .int .i64 f.timeout, .int .i64 f.err, .int .i64 f.cver, .slice A2 f.mems.length c2, .slice A3 f.np c3] 31 (0, 0)) := by rw [hc.block _ (theap_lt hb) (by have := HML.out; rintro (e | e) <;> omega)]; exact hb
    exact ⟨cell_at hb' 0, cell_at hb' 1, cell_at hb' 2, cell_at hb' 3, cell_at hb' 4, cell_at hb' 5, cell_at hb' 6, cell_at hb' 7, cell_at hb' 8, cell_at hb' 9, cell_at hb' 10, cell_at hb' 11, cell_at hb' 12, cell_at hb' 13, cell_at hb' 14, cell_at hb' 15⟩
  have HC : Hid (Chg (Mn m n) w W) := (Chg.of_below hBW).weak fun _ _ e => e.elim
  have HE : Hid (Tr W t m n N S) := hTW
  rw [hW] at HC HE
  clear h hL hx hBW hTW hxW hW hk HB
  go_enter Tryz.func37, Tryz.ntmps37
  go_wp2_with fail
  go_end0
  exact ⟨rfl, HE.out, HC.out⟩
set_option maxRecDepth 100000 in
set_option maxHeartbeats 4000000 in
theorem do_config {w : World} {t m n : Nat} {N : List Fi} {S : List Si.Fi} (h : Tr w t m n N S) (hL : PA.Laid w) (f : Fl) (hk : f.kind = 7) (hp : f.path.length ≤ 281474976710656) {A1 A2 A3 : Option Addr} {c1 c2 c3 : Nat} (hx : Bs w (.slice A1 f.data.length c1) f.data) (hl : f.data.length ≤ 1000) :
    Calls Tryz.prog 37 #[.pointer (some ⟨t, 0, none⟩), .agg (dA f A1 A2 A3 c1 c2 c3)] w fun e w' => e = .returned (.tuple #[]) ∧ Tr w' t m n (doN f N) (doS f S) ∧ Chg (Mn m n) w w' := by
  have HD : Hid (doN f N = N ∧ doS f S = S) := by simp [Hid, doN, doS, hk]
  rw [HD.out.1, HD.out.2]
  simp only [dA, hk]
  obtain ⟨W, hW⟩ : ∃ W, W = w.alloc (.cells #[.int .i64 f.zxid, .int .u8 7, .int .i64 f.session, .int .i64 f.turn, .int .i64 f.xid, .int .i64 f.time, .string (mkS f.path), .slice A1 f.data.length c1, .int .i64 f.owner, .int .i64 f.version, .int .i64 f.cversion, .int .i64 f.timeout, .int .i64 f.err, .int .i64 f.cver, .slice A2 f.mems.length c2, .slice A3 f.np c3] 31) := ⟨_, rfl⟩
  have hBW : Below w.heap.size w W := by rw [hW]; exact lay1 _ _
  have hTW : Tr W t m n N S := h.below hBW
  have hxW : Bs W (.slice A1 f.data.length c1) f.data := hx.keep (Chg.of_below hBW) (fun _ _ => id)
  have HML : Hid (m < w.heap.size ∧ n < w.heap.size ∧ t < w.heap.size) := h.lt
  have HB : Hid (∀ {w' : World}, Chg (Mn m n) W w' → w'.cell? ⟨w.heap.size, 0, none⟩ = some (.int .i64 f.zxid) ∧ w'.cell? ⟨w.heap.size, 1, none⟩ = some (.int .u8 7) ∧ w'.cell? ⟨w.heap.size, 2, none⟩ = some (.int .i64 f.session) ∧ w'.cell? ⟨w.heap.size, 3, none⟩ = some (.int .i64 f.turn) ∧ w'.cell? ⟨w.heap.size, 4, none⟩ = some (.int .i64 f.xid) ∧ w'.cell? ⟨w.heap.size, 5, none⟩ = some (.int .i64 f.time) ∧ w'.cell? ⟨w.heap.size, 6, none⟩ = some (.string (mkS f.path)) ∧ w'.cell? ⟨w.heap.size, 7, none⟩ = some (.slice A1 f.data.length c1) ∧ w'.cell? ⟨w.heap.size, 8, none⟩ = some (.int .i64 f.owner) ∧ w'.cell? ⟨w.heap.size, 9, none⟩ = some (.int .i64 f.version) ∧ w'.cell? ⟨w.heap.size, 10, none⟩ = some (.int .i64 f.cversion) ∧ w'.cell? ⟨w.heap.size, 11, none⟩ = some (.int .i64 f.timeout) ∧ w'.cell? ⟨w.heap.size, 12, none⟩ = some (.int .i64 f.err) ∧ w'.cell? ⟨w.heap.size, 13, none⟩ = some (.int .i64 f.cver) ∧ w'.cell? ⟨w.heap.size, 14, none⟩ = some (.slice A2 f.mems.length c2) ∧ w'.cell? ⟨w.heap.size, 15, none⟩ = some (.slice A3 f.np c3)) := by
    intro w' hc
    have hb : W.heap[w.heap.size]? = some (.cells #[.int .i64 f.zxid, .int .u8 7, .int .i64 f.session, .int .i64 f.turn, .int .i64 f.xid, .int .i64 f.time, .string (mkS f.path), .slice A1 f.data.length c1, .int .i64 f.owner, .int .i64 f.version, .int .i64 f.cversion, .int .i64 f.timeout, .int .i64 f.err, .int .i64 f.cver, .slice A2 f.mems.length c2, .slice A3 f.np c3] 31 (0, 0)) := by rw [hW]; exact heap_alloc_new w _
    have hb' : w'.heap[w.heap.size]? = some (.cells #[.int .i64 f.zxid, .int .u8 7, .int .i64 f.session, .int .i64 f.turn, .int .i64 f.xid, .int .i64 f.time, .string (mkS f.path), .slice A1 f.data.length c1, .int .i64 f.owner, .int .i64 f.version, .int .i64 f.cversion, .int .i64 f.timeout, .int .i64 f.err, .int .i64 f.cver, .slice A2 f.mems.length c2, .slice A3 f.np c3] 31 (0, 0)) := by rw [hc.block _ (theap_lt hb) (by have := HML.out; rintro (e | e) <;> omega)]; exact hb
    exact ⟨cell_at hb' 0, cell_at hb' 1, cell_at hb' 2, cell_at hb' 3, cell_at hb' 4, cell_at hb' 5, cell_at hb' 6, cell_at hb' 7, cell_at hb' 8, cell_at hb' 9, cell_at hb' 10, cell_at hb' 11, cell_at hb' 12, cell_at hb' 13, cell_at hb' 14, cell_at hb' 15⟩
  have HC : Hid (Chg (Mn m n) w W) := (Chg.of_below hBW).weak fun _ _ e => e.elim
  have HE : Hid (Tr W t m n N S) := hTW
  rw [hW] at HC HE
  clear h hL hx hBW hTW hxW hW hk HB
  go_enter Tryz.func37, Tryz.ntmps37
  go_wp2_with fail
  go_end0
  exact ⟨rfl, HE.out, HC.out⟩
set_option maxRecDepth 100000 in
set_option maxHeartbeats 4000000 in
theorem do_error {w : World} {t m n : Nat} {N : List Fi} {S : List Si.Fi} (h : Tr w t m n N S) (hL : PA.Laid w) (f : Fl) (hk : f.kind = 9) (hp : f.path.length ≤ 281474976710656) {A1 A2 A3 : Option Addr} {c1 c2 c3 : Nat} (hx : Bs w (.slice A1 f.data.length c1) f.data) (hl : f.data.length ≤ 1000) :
    Calls Tryz.prog 37 #[.pointer (some ⟨t, 0, none⟩), .agg (dA f A1 A2 A3 c1 c2 c3)] w fun e w' => e = .returned (.tuple #[]) ∧ Tr w' t m n (doN f N) (doS f S) ∧ Chg (Mn m n) w w' := by
  have HD : Hid (doN f N = N ∧ doS f S = S) := by simp [Hid, doN, doS, hk]
  rw [HD.out.1, HD.out.2]
  simp only [dA, hk]
  obtain ⟨W, hW⟩ : ∃ W, W = w.alloc (.cells #[.int .i64 f.zxid, .int .u8 9, .int .i64 f.session, .int .i64 f.turn, .int .i64 f.xid, .int .i64 f.time, .string (mkS f.path), .slice A1 f.data.length c1, .int .i64 f.owner, .int .i64 f.version, .int .i64 f.cversion, .int .i64 f.timeout, .int .i64 f.err, .int .i64 f.cver, .slice A2 f.mems.length c2, .slice A3 f.np c3] 31) := ⟨_, rfl⟩
  have hBW : Below w.heap.size w W := by rw [hW]; exact lay1 _ _
  have hTW : Tr W t m n N S := h.below hBW
  have hxW : Bs W (.slice A1 f.data.length c1) f.data := hx.keep (Chg.of_below hBW) (fun _ _ => id)
  have HML : Hid (m < w.heap.size ∧ n < w.heap.size ∧ t < w.heap.size) := h.lt
  have HB : Hid (∀ {w' : World}, Chg (Mn m n) W w' → w'.cell? ⟨w.heap.size, 0, none⟩ = some (.int .i64 f.zxid) ∧ w'.cell? ⟨w.heap.size, 1, none⟩ = some (.int .u8 9) ∧ w'.cell? ⟨w.heap.size, 2, none⟩ = some (.int .i64 f.session) ∧ w'.cell? ⟨w.heap.size, 3, none⟩ = some (.int .i64 f.turn) ∧ w'.cell? ⟨w.heap.size, 4, none⟩ = some (.int .i64 f.xid) ∧ w'.cell? ⟨w.heap.size, 5, none⟩ = some (.int .i64 f.time) ∧ w'.cell? ⟨w.heap.size, 6, none⟩ = some (.string (mkS f.path)) ∧ w'.cell? ⟨w.heap.size, 7, none⟩ = some (.slice A1 f.data.length c1) ∧ w'.cell? ⟨w.heap.size, 8, none⟩ = some (.int .i64 f.owner) ∧ w'.cell? ⟨w.heap.size, 9, none⟩ = some (.int .i64 f.version) ∧ w'.cell? ⟨w.heap.size, 10, none⟩ = some (.int .i64 f.cversion) ∧ w'.cell? ⟨w.heap.size, 11, none⟩ = some (.int .i64 f.timeout) ∧ w'.cell? ⟨w.heap.size, 12, none⟩ = some (.int .i64 f.err) ∧ w'.cell? ⟨w.heap.size, 13, none⟩ = some (.int .i64 f.cver) ∧ w'.cell? ⟨w.heap.size, 14, none⟩ = some (.slice A2 f.mems.length c2) ∧ w'.cell? ⟨w.heap.size, 15, none⟩ = some (.slice A3 f.np c3)) := by
    intro w' hc
    have hb : W.heap[w.heap.size]? = some (.cells #[.int .i64 f.zxid, .int .u8 9, .int .i64 f.session, .int .i64 f.turn, .int .i64 f.xid, .int .i64 f.time, .string (mkS f.path), .slice A1 f.data.length c1, .int .i64 f.owner, .int .i64 f.version, .int .i64 f.cversion, .int .i64 f.timeout, .int .i64 f.err, .int .i64 f.cver, .slice A2 f.mems.length c2, .slice A3 f.np c3] 31 (0, 0)) := by rw [hW]; exact heap_alloc_new w _
    have hb' : w'.heap[w.heap.size]? = some (.cells #[.int .i64 f.zxid, .int .u8 9, .int .i64 f.session, .int .i64 f.turn, .int .i64 f.xid, .int .i64 f.time, .string (mkS f.path), .slice A1 f.data.length c1, .int .i64 f.owner, .int .i64 f.version, .int .i64 f.cversion, .int .i64 f.timeout, .int .i64 f.err, .int .i64 f.cver, .slice A2 f.mems.length c2, .slice A3 f.np c3] 31 (0, 0)) := by rw [hc.block _ (theap_lt hb) (by have := HML.out; rintro (e | e) <;> omega)]; exact hb
    exact ⟨cell_at hb' 0, cell_at hb' 1, cell_at hb' 2, cell_at hb' 3, cell_at hb' 4, cell_at hb' 5, cell_at hb' 6, cell_at hb' 7, cell_at hb' 8, cell_at hb' 9, cell_at hb' 10, cell_at hb' 11, cell_at hb' 12, cell_at hb' 13, cell_at hb' 14, cell_at hb' 15⟩
  have HC : Hid (Chg (Mn m n) w W) := (Chg.of_below hBW).weak fun _ _ e => e.elim
  have HE : Hid (Tr W t m n N S) := hTW
  rw [hW] at HC HE
  clear h hL hx hBW hTW hxW hW hk HB
  go_enter Tryz.func37, Tryz.ntmps37
  go_wp2_with fail
  go_end0
  exact ⟨rfl, HE.out, HC.out⟩
end Go.Proofs.YteaomigmamnobaaGreatDoor
