/- Trees: what a deed of parts does. Trees: what a deed that closes does. Trees: any deed applied. The contracts of the library's functions at this dump: each an application of a proved contract, the program's own bodies compared by the kernel. Trees: Copy (45, 46: maps.Clone at both maps in the dump). Trees: a deed done twice is as a deed done once. -/
import Derived.Test.YtcdnfgibcochhaaGreatDoorTrL
import Derived.Shelf.SlGeneric
import Derived.Shelf.SlMaps.Clone
import Derived.Ground.SlmcProg
import Derived.Test.YtcdnfgibcochhaaGreatDoorProg
namespace Go.Proofs.YtcdnfgibcochhaaGreatDoor
set_option linter.unusedSimpArgs false
set_option linter.unusedVariables false
open Go.RowKit Go.MapKept
set_option linter.unusedVariables false
set_option linter.unusedSimpArgs false

/- A part as it is done. -/
def ptF (f p : Fl) : Fl := { p with zxid := f.zxid, time := f.time }
def doPs (f : Fl) (ps : List Fl) (N : List Fi) : List Fi := ps.foldl (fun N p => doN (ptF f p) N) N
theorem doPs_take (f : Fl) (ps : List Fl) (N : List Fi) (j : Nat) (hj : j < ps.length) : doPs f (ps.take (j + 1)) N = doN (ptF f (ps[j]'hj)) (doPs f (ps.take j) N) := by
  unfold doPs
  rw [List.take_succ_eq_append_getElem hj, List.foldl_append]
  rfl
theorem cell_mn {w w' : World} {t m n : Nat} {N : List Fi} {S : List Si.Fi} (hT : Tr w t m n N S) (hc : Chg (Mn m n) w w') {g i : Nat} {v : Value} (hv : w.cell? ⟨g, i, none⟩ = some v) : w'.cell? ⟨g, i, none⟩ = some v := by
  obtain ⟨⟨es, c, hm⟩, es', c', hn⟩ := hT.mn
  have hl := World.block_lt_of_cell? w _ hv
  rw [hc.cell (a := ⟨g, i, none⟩) hl ?_]
  · exact hv
  · rintro (e | e)
    · have e' : g = m := e
      subst e'
      simp [World.cell?, hm] at hv
    · have e' : g = n := e
      subst e'
      simp [World.cell?, hn] at hv
theorem bs_mn {w w' : World} {t m n : Nat} {N : List Fi} {S : List Si.Fi} (hT : Tr w t m n N S) (hc : Chg (Mn m n) w w') {v : Value} {l : List UInt8} (h : Bs w v l) : Bs w' v l := by
  rcases h with h | h | ⟨h0, b, o, c, rfl, h1, h2, h3⟩
  · exact .inl h
  · exact .inr (.inl h)
  · exact .inr (.inr ⟨h0, b, o, c, rfl, h1, Nat.lt_of_lt_of_le h2 hc.size, fun j hj => cell_mn hT hc (h3 j hj)⟩)
/- A leaf among the parts. -/
theorem do_node {w : World} {t m n : Nat} {N : List Fi} {S : List Si.Fi} (h : Tr w t m n N S) (hL : PA.Laid w) (f : Fl) (hk : f.kind = 1 ∨ f.kind = 2 ∨ f.kind = 3) (hp : f.path.length ≤ 281474976710656) {A1 A2 A3 : Option Addr} {c1 c2 c3 : Nat} (hx : Bs w (.slice A1 f.data.length c1) f.data) (hl : f.data.length ≤ 1000) :
    Calls Tryz.prog 37 #[.pointer (some ⟨t, 0, none⟩), .agg (dA f A1 A2 A3 c1 c2 c3)] w fun e w' => e = .returned (.tuple #[]) ∧ Tr w' t m n (doN f N) S ∧ Chg (Mn m n) w w' := by
  have hS : doS f S = S := by unfold doS; rw [if_neg (by omega), if_neg (by omega)]
  have key : Calls Tryz.prog 37 #[.pointer (some ⟨t, 0, none⟩), .agg (dA f A1 A2 A3 c1 c2 c3)] w fun e w' => e = .returned (.tuple #[]) ∧ Tr w' t m n (doN f N) (doS f S) ∧ Chg (Mn m n) w w' := by
    rcases hk with hk | hk | hk
    · exact do_create h hL f hk hp hx hl
    · exact do_delete h hL f hk hp hx hl
    · exact do_set h hL f hk hp hx hl
  rw [hS] at key
  exact key

set_option maxRecDepth 100000 in
set_option maxHeartbeats 2000000 in
theorem do_multi {w : World} {t m n : Nat} {N : List Fi} {S : List Si.Fi} (h : Tr w t m n N S) (hL : PA.Laid w) (f : Fl) (ps : List Fl) (hk : f.kind = 8) {A1 A2 A3 : Option Addr} {c1 c2 c3 : Nat} (hn : f.np = ps.length) (hpr : DD.Prts w w.heap.size (.slice A3 f.np c3) ps) (hlen : ps.length ≤ 1000000)
    (hps : ∀ p ∈ ps, (p.kind = 1 ∨ p.kind = 2 ∨ p.kind = 3) ∧ p.path.length ≤ 281474976710656 ∧ p.data.length ≤ 1000) :
    Calls Tryz.prog 37 #[.pointer (some ⟨t, 0, none⟩), .agg (dA f A1 A2 A3 c1 c2 c3)] w fun e w' => e = .returned (.tuple #[]) ∧ Tr w' t m n (doPs f ps N) S ∧ Chg (Mn m n) w w' := by
  obtain ⟨K, hK⟩ : ∃ K, K = ps.length := ⟨_, rfl⟩
  simp only [dA, hk]
  rw [hn, ← hK]
  obtain ⟨W, hW⟩ : ∃ W, W = w.alloc (.cells #[.int .i64 f.zxid, .int .u8 8, .int .i64 f.session, .int .i64 f.turn, .int .i64 f.xid, .int .i64 f.time, .string (mkS f.path), .slice A1 f.data.length c1, .int .i64 f.owner, .int .i64 f.version, .int .i64 f.cversion, .int .i64 f.timeout, .int .i64 f.err, .int .i64 f.cver, .slice A2 f.mems.length c2, .slice A3 K c3] 31) := ⟨_, rfl⟩
  have hBW : Below w.heap.size w W := by rw [hW]; exact lay1 _ _
  have hTW : Tr W t m n N S := h.below hBW
  have hLW : PA.Laid W := hL.below hBW
  have hbx : W.heap[w.heap.size]? = some (.cells #[.int .i64 f.zxid, .int .u8 8, .int .i64 f.session, .int .i64 f.turn, .int .i64 f.xid, .int .i64 f.time, .string (mkS f.path), .slice A1 f.data.length c1, .int .i64 f.owner, .int .i64 f.version, .int .i64 f.cversion, .int .i64 f.timeout, .int .i64 f.err, .int .i64 f.cver, .slice A2 f.mems.length c2, .slice A3 K c3] 31 (0, 0)) := by rw [hW]; exact heap_alloc_new w _
  have HBX : Hid (∀ {wa : World}, Chg (Mn m n) W wa → wa.cell? ⟨w.heap.size, 0, none⟩ = some (.int .i64 f.zxid) ∧ wa.cell? ⟨w.heap.size, 5, none⟩ = some (.int .i64 f.time)) := fun c => ⟨cell_mn hTW c (cell_at hbx 0), cell_mn hTW c (cell_at hbx 5)⟩
  have HPT : Hid (∀ {wa : World}, Chg (Mn m n) W wa → ∀ j (hj : j < ps.length), ∃ b o, A3 = some ⟨b, o, none⟩ ∧ b < w.heap.size ∧ ∃ B1 d1 B2 d2 B3 d3, DD.DCells wa b (o + j * 16) (ps[j]'hj) B1 d1 B2 d2 B3 d3 ∧ Bs wa (.slice B1 (ps[j]'hj).data.length d1) (ps[j]'hj).data) := by
    intro wa c j hj
    rcases hpr with ⟨_, e⟩ | ⟨_, _, _, e⟩ | ⟨_, b, o, c', e1, _, hb, _, hall⟩
    · rw [e] at hj; simp at hj
    · rw [e] at hj; simp at hj
    · injection e1 with e1 _ _
      obtain ⟨B1, d1, B2, d2, B3, d3, hd, hr⟩ := hall j hj
      refine ⟨b, o, e1, hb, B1, d1, B2, d2, B3, d3, ?_, bs_mn hTW c (DD.Bs.below hr.bs hBW hr.bsB)⟩
      have kk : ∀ {i : Nat} {v : Value}, w.cell? ⟨b, i, none⟩ = some v → wa.cell? ⟨b, i, none⟩ = some v := fun hv => cell_mn hTW c ((hBW.cell (p := ⟨b, _, none⟩) hb).trans hv)
      obtain ⟨h0, h1, h2, h3, h4, h5, h6, h7, h8, h9, h10, h11, h12, h13, h14, h15⟩ := hd
      exact ⟨kk h0, kk h1, kk h2, kk h3, kk h4, kk h5, kk h6, kk h7, kk h8, kk h9, kk h10, kk h11, kk h12, kk h13, kk h14, kk h15⟩
  have HPS : Hid (∀ p ∈ ps, (p.kind = 1 ∨ p.kind = 2 ∨ p.kind = 3) ∧ p.path.length ≤ 281474976710656 ∧ p.data.length ≤ 1000) := hps
  have HTW : Hid (Tr W t m n N S ∧ PA.Laid W ∧ Chg (Mn m n) w W ∧ w.heap.size < W.heap.size) := ⟨hTW, hLW, (Chg.of_below hBW).weak fun _ _ e => e.elim, theap_lt hbx⟩
  have HW : Hid (W = w.alloc (.cells #[.int .i64 f.zxid, .int .u8 8, .int .i64 f.session, .int .i64 f.turn, .int .i64 f.xid, .int .i64 f.time, .string (mkS f.path), .slice A1 f.data.length c1, .int .i64 f.owner, .int .i64 f.version, .int .i64 f.cversion, .int .i64 f.timeout, .int .i64 f.err, .int .i64 f.cver, .slice A2 f.mems.length c2, .slice A3 K c3] 31)) := hW
  have HK : Hid (K = ps.length) := hK
  rw [← hK] at hlen
  clear h hL hn hpr hps hBW hTW hLW hbx hW hK hk
  go_enter Tryz.func37, Tryz.ntmps37
  go_wp2_with fail
  go_loopw [61] (fun v wr => ∃ j : Nat, j ≤ K ∧ v = .int .i64 j ∧ Tr wr t m n (doPs f (ps.take j) N) S ∧ Chg (Mn m n) W wr) (fun v _ => K - (Go.Lib.intOf v).toNat)
  case atStart => exact ⟨0, Nat.zero_le _, rfl, by rw [← HW.out]; exact HTW.out.1, by rw [← HW.out]; exact Chg.refl _ _⟩
  case round =>
    obtain ⟨j, hj, rfl, hT, hc⟩ := hrel
    by_cases hlt : j < K
    · have hj' : j < ps.length := by have := HK.out; omega
      obtain ⟨b, o, rfl, hb, B1, d1, B2, d2, B3, d3, hd, hx⟩ := HPT.out hc j hj'
      have hnode := HPS.out _ (List.getElem_mem hj')
      have htake := doPs_take f ps N j hj'
      obtain ⟨p, hp⟩ : ∃ p, p = ps[j]'hj' := ⟨_, rfl⟩
      rw [← hp] at hd hx hnode htake
      obtain ⟨h0, h1, h2, h3, h4, h5, h6, h7, h8, h9, h10, h11, h12, h13, h14, h15⟩ := hd
      obtain ⟨hz, ht⟩ := HBX.out hc
      have hwl : w.heap.size < wr.heap.size := by
        have hl := HTW.out.2.2.2
        have hcs := hc.size
        omega
      have hS0 : (wr.alloc (.cells #[.int .i64 p.zxid, .int .u8 p.kind, .int .i64 p.session, .int .i64 p.turn, .int .i64 p.xid, .int .i64 p.time, .string (mkS p.path), .slice B1 p.data.length d1, .int .i64 p.owner, .int .i64 p.version, .int .i64 p.cversion, .int .i64 p.timeout, .int .i64 p.err, .int .i64 p.cver, .slice B2 p.mems.length d2, .slice B3 p.np d3] 31)).cell? ⟨w.heap.size, 0, none⟩ = some (.int .i64 f.zxid) ∧ (wr.alloc (.cells #[.int .i64 p.zxid, .int .u8 p.kind, .int .i64 p.session, .int .i64 p.turn, .int .i64 p.xid, .int .i64 p.time, .string (mkS p.path), .slice B1 p.data.length d1, .int .i64 p.owner, .int .i64 p.version, .int .i64 p.cversion, .int .i64 p.timeout, .int .i64 p.err, .int .i64 p.cver, .slice B2 p.mems.length d2, .slice B3 p.np d3] 31)).cell? ⟨w.heap.size, 5, none⟩ = some (.int .i64 f.time) :=
        ⟨((lay1 wr _).cell (p := ⟨w.heap.size, 0, none⟩) (by show w.heap.size < _; omega)).trans hz, ((lay1 wr _).cell (p := ⟨w.heap.size, 5, none⟩) (by show w.heap.size < _; omega)).trans ht⟩
      have hne1 : ¬ wr.heap.size = w.heap.size := by omega
      have hne2 : ¬ w.heap.size = wr.heap.size := by omega
      have i1 : (j : Int) < (K : Int) := by omega
      have i2 : (0 : Int) ≤ (j : Int) := by omega
      have HR : Hid (Tr wr t m n (doPs f (ps.take j) N) S ∧ Chg (Mn m n) W wr ∧ Bs wr (.slice B1 p.data.length d1) p.data ∧ ((p.kind = 1 ∨ p.kind = 2 ∨ p.kind = 3) ∧ p.path.length ≤ 281474976710656 ∧ p.data.length ≤ 1000) ∧ doPs f (ps.take (j + 1)) N = doN (ptF f p) (doPs f (ps.take j) N)) := ⟨hT, hc, hx, hnode, htake⟩
      clear hT hc hx hnode htake hp hb
      go_wp2_with fail
      go_region_held3 (fun w' => w'.cell? ⟨w.heap.size, 0, none⟩ = some (.int .i64 f.zxid) ∧ w'.cell? ⟨w.heap.size, 5, none⟩ = some (.int .i64 f.time))
        (first | exact hS0 | go_keep)
        (fail)
      have hB5 : Below wr.heap.size wr ((wr.alloc (.cells #[.int .i64 f.zxid, .int .u8 p.kind, .int .i64 p.session, .int .i64 p.turn, .int .i64 p.xid, .int .i64 f.time, .string (mkS p.path), .slice B1 p.data.length d1, .int .i64 p.owner, .int .i64 p.version, .int .i64 p.cversion, .int .i64 p.timeout, .int .i64 p.err, .int .i64 p.cver, .slice B2 p.mems.length d2, .slice B3 p.np d3] 31)).drew) := (lay1 wr _).drew
      have c5 := do_node (HR.out.1.below hB5) ((laid_chg HTW.out.2.1 HTW.out.1 HR.out.2.1).below hB5) (ptF f p) HR.out.2.2.2.1.1 HR.out.2.2.2.1.2.1 (A1 := B1) (A2 := B2) (A3 := B3) (c1 := d1) (c2 := d2) (c3 := d3) (DD.Bs.below' HR.out.2.2.1 hB5) HR.out.2.2.2.1.2.2
      simp only [dA, ptF] at c5
      have HB5 : Hid (Below wr.heap.size wr ((wr.alloc (.cells #[.int .i64 f.zxid, .int .u8 p.kind, .int .i64 p.session, .int .i64 p.turn, .int .i64 p.xid, .int .i64 f.time, .string (mkS p.path), .slice B1 p.data.length d1, .int .i64 p.owner, .int .i64 p.version, .int .i64 p.cversion, .int .i64 p.timeout, .int .i64 p.err, .int .i64 p.cver, .slice B2 p.mems.length d2, .slice B3 p.np d3] 31)).drew)) := hB5
      clear hB5 hS0 h0 h1 h2 h3 h4 h5 h6 h7 h8 h9 h10 h11 h12 h13 h14 h15
      go_wp2_with fail
      refine c5.mono ?_
      rintro e w5 ⟨rfl, hT5, k5⟩
      have HE : Hid (Tr w5 t m n (doPs f (ps.take (j + 1)) N) S ∧ Chg (Mn m n) W w5) := ⟨by rw [HR.out.2.2.2.2]; exact hT5, HR.out.2.1.trans (((Chg.of_below HB5.out).weak fun _ _ e => e.elim).trans k5)⟩
      clear c5 hT5 k5 hz ht
      go_wp2_with fail
      go_roundw
      case rel => exact ⟨j + 1, by omega, by go_num, HE.out.1, HE.out.2⟩
      case measure => simp [Go.Lib.intOf]; omega
    · obtain rfl : j = K := by omega
      have e : ps.take j = ps := by rw [HK.out]; exact List.take_length
      rw [e] at hT
      have HF : Hid (Tr wr t m n (doPs f ps N) S ∧ Chg (Mn m n) w wr) := ⟨hT, HTW.out.2.2.1.trans hc⟩
      clear hT hc
      go_wp2_with fail
      go_end0
      exact ⟨rfl, HF.out⟩
end Go.Proofs.YtcdnfgibcochhaaGreatDoor

namespace Go.Proofs.YtcdnfgibcochhaaGreatDoor
set_option linter.unusedSimpArgs false
set_option linter.unusedVariables false
open Go.RowKit Go.MapKept
set_option linter.unusedVariables false
set_option linter.unusedSimpArgs false

set_option maxRecDepth 100000 in
set_option maxHeartbeats 2000000 in
theorem do_close {w : World} {t m n : Nat} {N : List Fi} {S : List Si.Fi} (h : Tr w t m n N S) (hL : PA.Laid w) (f : Fl) (ps : List Fl) (hk : f.kind = 5) {A1 A2 A3 : Option Addr} {c1 c2 c3 : Nat} (hn : f.np = ps.length) (hpr : DD.Prts w w.heap.size (.slice A3 f.np c3) ps) (hlen : ps.length ≤ 1000000)
    (hps : ∀ p ∈ ps, (p.kind = 1 ∨ p.kind = 2 ∨ p.kind = 3) ∧ p.path.length ≤ 281474976710656 ∧ p.data.length ≤ 1000) :
    Calls Tryz.prog 37 #[.pointer (some ⟨t, 0, none⟩), .agg (dA f A1 A2 A3 c1 c2 c3)] w fun e w' => e = .returned (.tuple #[]) ∧ Tr w' t m n (doPs f ps N) (Si.delF f.owner S) ∧ Chg (Mn m n) w w' := by
  obtain ⟨K, hK⟩ : ∃ K, K = ps.length := ⟨_, rfl⟩
  simp only [dA, hk]
  rw [hn, ← hK]
  obtain ⟨W, hW⟩ : ∃ W, W = w.alloc (.cells #[.int .i64 f.zxid, .int .u8 5, .int .i64 f.session, .int .i64 f.turn, .int .i64 f.xid, .int .i64 f.time, .string (mkS f.path), .slice A1 f.data.length c1, .int .i64 f.owner, .int .i64 f.version, .int .i64 f.cversion, .int .i64 f.timeout, .int .i64 f.err, .int .i64 f.cver, .slice A2 f.mems.length c2, .slice A3 K c3] 31) := ⟨_, rfl⟩
  have hBW : Below w.heap.size w W := by rw [hW]; exact lay1 _ _
  have hTW : Tr W t m n N S := h.below hBW
  have hLW : PA.Laid W := hL.below hBW
  have hbx : W.heap[w.heap.size]? = some (.cells #[.int .i64 f.zxid, .int .u8 5, .int .i64 f.session, .int .i64 f.turn, .int .i64 f.xid, .int .i64 f.time, .string (mkS f.path), .slice A1 f.data.length c1, .int .i64 f.owner, .int .i64 f.version, .int .i64 f.cversion, .int .i64 f.timeout, .int .i64 f.err, .int .i64 f.cver, .slice A2 f.mems.length c2, .slice A3 K c3] 31 (0, 0)) := by rw [hW]; exact heap_alloc_new w _
  have HBX : Hid (∀ {wa : World}, Chg (Mn m n) W wa → wa.cell? ⟨w.heap.size, 0, none⟩ = some (.int .i64 f.zxid) ∧ wa.cell? ⟨w.heap.size, 5, none⟩ = some (.int .i64 f.time)) := fun c => ⟨cell_mn hTW c (cell_at hbx 0), cell_mn hTW c (cell_at hbx 5)⟩
  have HPT : Hid (∀ {wa : World}, Chg (Mn m n) W wa → ∀ j (hj : j < ps.length), ∃ b o, A3 = some ⟨b, o, none⟩ ∧ b < w.heap.size ∧ ∃ B1 d1 B2 d2 B3 d3, DD.DCells wa b (o + j * 16) (ps[j]'hj) B1 d1 B2 d2 B3 d3 ∧ Bs wa (.slice B1 (ps[j]'hj).data.length d1) (ps[j]'hj).data) := by
    intro wa c j hj
    rcases hpr with ⟨_, e⟩ | ⟨_, _, _, e⟩ | ⟨_, b, o, c', e1, _, hb, _, hall⟩
    · rw [e] at hj; simp at hj
    · rw [e] at hj; simp at hj
    · injection e1 with e1 _ _
      obtain ⟨B1, d1, B2, d2, B3, d3, hd, hr⟩ := hall j hj
      refine ⟨b, o, e1, hb, B1, d1, B2, d2, B3, d3, ?_, bs_mn hTW c (DD.Bs.below hr.bs hBW hr.bsB)⟩
      have kk : ∀ {i : Nat} {v : Value}, w.cell? ⟨b, i, none⟩ = some v → wa.cell? ⟨b, i, none⟩ = some v := fun hv => cell_mn hTW c ((hBW.cell (p := ⟨b, _, none⟩) hb).trans hv)
      obtain ⟨h0, h1, h2, h3, h4, h5, h6, h7, h8, h9, h10, h11, h12, h13, h14, h15⟩ := hd
      exact ⟨kk h0, kk h1, kk h2, kk h3, kk h4, kk h5, kk h6, kk h7, kk h8, kk h9, kk h10, kk h11, kk h12, kk h13, kk h14, kk h15⟩
  have hTW2 := hTW
  obtain ⟨L, KK, hTk, hLN, hKS⟩ := hTW2
  have hBD : Below W.heap.size W W.drew := (Below.refl _ _).drew
  have hTD := hTk.below hBD
  obtain ⟨w3, hrun, h3, k3, s3⟩ := hTD.seats.delete f.owner 0
  have hT3 := hTD.seat h3 k3
  have kW : Chg (Mn m n) W w3 := ((Chg.of_below hBD).weak fun _ _ e => e.elim).trans (k3.weak fun _ _ e => .inr e)
  have HT3 : Hid (Tr w3 t m n N (Si.delF f.owner S) ∧ Chg (Mn m n) W w3) := ⟨⟨L, _, hT3, hLN, by rw [Si.del_F, hKS]⟩, kW⟩
  have hS0 : W.drew.cell? ⟨t, 1, none⟩ = some (.map (some n)) ∧ W.drew.cell? ⟨w.heap.size, 8, none⟩ = some (.int .i64 f.owner) := ⟨cell_at hTD.cell 1, cell_at hbx 8⟩
  have hS1 : w3.cell? ⟨t, 1, none⟩ = some (.map (some n)) ∧ w3.cell? ⟨w.heap.size, 8, none⟩ = some (.int .i64 f.owner) := ⟨cell_at hT3.cell 1, cell_mn hTW kW (cell_at hbx 8)⟩
  have z14 : w3.cell? ⟨w.heap.size, 15, none⟩ = some (.slice A3 K c3) := cell_mn hTW kW (cell_at hbx 15)
  rw [hW] at hrun hS0
  clear hTk hBD hTD h3 k3 s3 hT3 kW hLN hKS
  have HPS : Hid (∀ p ∈ ps, (p.kind = 1 ∨ p.kind = 2 ∨ p.kind = 3) ∧ p.path.length ≤ 281474976710656 ∧ p.data.length ≤ 1000) := hps
  have HTW : Hid (Tr W t m n N S ∧ PA.Laid W ∧ Chg (Mn m n) w W ∧ w.heap.size < W.heap.size) := ⟨hTW, hLW, (Chg.of_below hBW).weak fun _ _ e => e.elim, theap_lt hbx⟩
  have HW : Hid (W = w.alloc (.cells #[.int .i64 f.zxid, .int .u8 5, .int .i64 f.session, .int .i64 f.turn, .int .i64 f.xid, .int .i64 f.time, .string (mkS f.path), .slice A1 f.data.length c1, .int .i64 f.owner, .int .i64 f.version, .int .i64 f.cversion, .int .i64 f.timeout, .int .i64 f.err, .int .i64 f.cver, .slice A2 f.mems.length c2, .slice A3 K c3] 31)) := hW
  have HK : Hid (K = ps.length) := hK
  rw [← hK] at hlen
  clear h hL hn hpr hps hBW hTW hLW hbx hW hK hk
  go_enter Tryz.func37, Tryz.ntmps37
  go_wp2_with fail
  go_region_held3 (fun w' => w'.cell? ⟨t, 1, none⟩ = some (.map (some n)) ∧ w'.cell? ⟨w.heap.size, 8, none⟩ = some (.int .i64 f.owner))
    (first | exact hS0 | exact hS1 | go_keep)
    (fail)
  clear hrun hS0 hS1
  go_wp2_with fail
  go_loopw [61] (fun v wr => ∃ j : Nat, j ≤ K ∧ v = .int .i64 j ∧ Tr wr t m n (doPs f (ps.take j) N) (Si.delF f.owner S) ∧ Chg (Mn m n) W wr) (fun v _ => K - (Go.Lib.intOf v).toNat)
  case atStart => exact ⟨0, Nat.zero_le _, rfl, HT3.out.1, HT3.out.2⟩
  case round =>
    obtain ⟨j, hj, rfl, hT, hc⟩ := hrel
    by_cases hlt : j < K
    · have hj' : j < ps.length := by have := HK.out; omega
      obtain ⟨b, o, rfl, hb, B1, d1, B2, d2, B3, d3, hd, hx⟩ := HPT.out hc j hj'
      have hnode := HPS.out _ (List.getElem_mem hj')
      have htake := doPs_take f ps N j hj'
      obtain ⟨p, hp⟩ : ∃ p, p = ps[j]'hj' := ⟨_, rfl⟩
      rw [← hp] at hd hx hnode htake
      obtain ⟨h0, h1, h2, h3, h4, h5, h6, h7, h8, h9, h10, h11, h12, h13, h14, h15⟩ := hd
      obtain ⟨hz, ht⟩ := HBX.out hc
      have hwl : w.heap.size < wr.heap.size := by
        have hl := HTW.out.2.2.2
        have hcs := hc.size
        omega
      have hS0 : (wr.alloc (.cells #[.int .i64 p.zxid, .int .u8 p.kind, .int .i64 p.session, .int .i64 p.turn, .int .i64 p.xid, .int .i64 p.time, .string (mkS p.path), .slice B1 p.data.length d1, .int .i64 p.owner, .int .i64 p.version, .int .i64 p.cversion, .int .i64 p.timeout, .int .i64 p.err, .int .i64 p.cver, .slice B2 p.mems.length d2, .slice B3 p.np d3] 31)).cell? ⟨w.heap.size, 0, none⟩ = some (.int .i64 f.zxid) ∧ (wr.alloc (.cells #[.int .i64 p.zxid, .int .u8 p.kind, .int .i64 p.session, .int .i64 p.turn, .int .i64 p.xid, .int .i64 p.time, .string (mkS p.path), .slice B1 p.data.length d1, .int .i64 p.owner, .int .i64 p.version, .int .i64 p.cversion, .int .i64 p.timeout, .int .i64 p.err, .int .i64 p.cver, .slice B2 p.mems.length d2, .slice B3 p.np d3] 31)).cell? ⟨w.heap.size, 5, none⟩ = some (.int .i64 f.time) :=
        ⟨((lay1 wr _).cell (p := ⟨w.heap.size, 0, none⟩) (by show w.heap.size < _; omega)).trans hz, ((lay1 wr _).cell (p := ⟨w.heap.size, 5, none⟩) (by show w.heap.size < _; omega)).trans ht⟩
      have hne1 : ¬ wr.heap.size = w.heap.size := by omega
      have hne2 : ¬ w.heap.size = wr.heap.size := by omega
      have i1 : (j : Int) < (K : Int) := by omega
      have i2 : (0 : Int) ≤ (j : Int) := by omega
      have HR : Hid (Tr wr t m n (doPs f (ps.take j) N) (Si.delF f.owner S) ∧ Chg (Mn m n) W wr ∧ Bs wr (.slice B1 p.data.length d1) p.data ∧ ((p.kind = 1 ∨ p.kind = 2 ∨ p.kind = 3) ∧ p.path.length ≤ 281474976710656 ∧ p.data.length ≤ 1000) ∧ doPs f (ps.take (j + 1)) N = doN (ptF f p) (doPs f (ps.take j) N)) := ⟨hT, hc, hx, hnode, htake⟩
      clear hT hc hx hnode htake hp hb
      go_wp2_with fail
      go_region_held3 (fun w' => w'.cell? ⟨w.heap.size, 0, none⟩ = some (.int .i64 f.zxid) ∧ w'.cell? ⟨w.heap.size, 5, none⟩ = some (.int .i64 f.time))
        (first | exact hS0 | go_keep)
        (fail)
      have hB5 : Below wr.heap.size wr ((wr.alloc (.cells #[.int .i64 f.zxid, .int .u8 p.kind, .int .i64 p.session, .int .i64 p.turn, .int .i64 p.xid, .int .i64 f.time, .string (mkS p.path), .slice B1 p.data.length d1, .int .i64 p.owner, .int .i64 p.version, .int .i64 p.cversion, .int .i64 p.timeout, .int .i64 p.err, .int .i64 p.cver, .slice B2 p.mems.length d2, .slice B3 p.np d3] 31)).drew) := (lay1 wr _).drew
      have c5 := do_node (HR.out.1.below hB5) ((laid_chg HTW.out.2.1 HTW.out.1 HR.out.2.1).below hB5) (ptF f p) HR.out.2.2.2.1.1 HR.out.2.2.2.1.2.1 (A1 := B1) (A2 := B2) (A3 := B3) (c1 := d1) (c2 := d2) (c3 := d3) (DD.Bs.below' HR.out.2.2.1 hB5) HR.out.2.2.2.1.2.2
      simp only [dA, ptF] at c5
      have HB5 : Hid (Below wr.heap.size wr ((wr.alloc (.cells #[.int .i64 f.zxid, .int .u8 p.kind, .int .i64 p.session, .int .i64 p.turn, .int .i64 p.xid, .int .i64 f.time, .string (mkS p.path), .slice B1 p.data.length d1, .int .i64 p.owner, .int .i64 p.version, .int .i64 p.cversion, .int .i64 p.timeout, .int .i64 p.err, .int .i64 p.cver, .slice B2 p.mems.length d2, .slice B3 p.np d3] 31)).drew)) := hB5
      clear hB5 hS0 h0 h1 h2 h3 h4 h5 h6 h7 h8 h9 h10 h11 h12 h13 h14 h15
      go_wp2_with fail
      refine c5.mono ?_
      rintro e w5 ⟨rfl, hT5, k5⟩
      have HE : Hid (Tr w5 t m n (doPs f (ps.take (j + 1)) N) (Si.delF f.owner S) ∧ Chg (Mn m n) W w5) := ⟨by rw [HR.out.2.2.2.2]; exact hT5, HR.out.2.1.trans (((Chg.of_below HB5.out).weak fun _ _ e => e.elim).trans k5)⟩
      clear c5 hT5 k5 hz ht
      go_wp2_with fail
      go_roundw
      case rel => exact ⟨j + 1, by omega, by go_num, HE.out.1, HE.out.2⟩
      case measure => simp [Go.Lib.intOf]; omega
    · obtain rfl : j = K := by omega
      have e : ps.take j = ps := by rw [HK.out]; exact List.take_length
      rw [e] at hT
      have HF : Hid (Tr wr t m n (doPs f ps N) (Si.delF f.owner S) ∧ Chg (Mn m n) w wr) := ⟨hT, HTW.out.2.2.1.trans hc⟩
      clear hT hc
      go_wp2_with fail
      go_end0
      exact ⟨rfl, HF.out⟩
end Go.Proofs.YtcdnfgibcochhaaGreatDoor

namespace Go.Proofs.YtcdnfgibcochhaaGreatDoor
set_option linter.unusedSimpArgs false
set_option linter.unusedVariables false
open Go.RowKit Go.MapKept
set_option linter.unusedVariables false
set_option linter.unusedSimpArgs false

/- What a deed makes of the nodes. -/
def deN (f : Fl) (ps : List Fl) (N : List Fi) : List Fi := if f.kind = 5 ∨ f.kind = 8 then doPs f ps N else doN f N
theorem com_data {f : Fl} (h : comB f = true) : f.data.length ≤ 1000 := by
  simp only [comB, Bool.and_eq_true, decide_eq_true_eq] at h
  exact h.1.2
theorem leaf_fit {f : Fl} (h : leafB f = true) : (f.kind = 1 ∨ f.kind = 2 ∨ f.kind = 3) ∧ f.path.length ≤ 281474976710656 ∧ f.data.length ≤ 1000 := by
  obtain ⟨h1, h2, h3⟩ := leaf_parts h
  refine ⟨by simpa [isNode, or_assoc] using h1, ?_, com_data h2⟩
  have := PA.right_len h3
  omega
theorem bare_path {f : Fl} (h : comB f = true) (hk : ¬ (f.kind = 1 ∨ f.kind = 2 ∨ f.kind = 3)) : f.path = [] := by
  simp only [comB, Bool.and_eq_true] at h
  have hb := h.1.1
  have ha : (allow f.kind).head? = some false := by
    unfold allow
    rw [if_neg (by omega), if_neg (by omega), if_neg (by omega)]
    repeat' split
    all_goals rfl
  cases hx : allow f.kind with
  | nil => rw [hx] at ha; simp at ha
  | cons b r =>
    rw [hx] at ha
    simp only [List.head?_cons, Option.some.injEq] at ha
    subst ha
    unfold bareB at hb
    rw [hx] at hb
    simp only [flags, under, Bool.and_eq_true, Bool.or_false, Bool.not_eq_true', decide_eq_false_iff_not, Decidable.not_not] at hb
    exact hb.1
theorem part_fit {b : Bool} {p : Fl} (h : partB b p = true) : (p.kind = 1 ∨ p.kind = 2 ∨ p.kind = 3) ∧ p.path.length ≤ 281474976710656 ∧ p.data.length ≤ 1000 := by
  simp only [partB, Bool.and_eq_true] at h
  exact leaf_fit h.2
theorem do_any {w : World} {t m n : Nat} {N : List Fi} {S : List Si.Fi} (h : Tr w t m n N S) (hL : PA.Laid w) (f : Fl) (ps : List Fl) {A1 A2 A3 : Option Addr} {c1 c2 c3 : Nat} (hv : DD.DVal w f ps A1 c1 A2 c2 A3 c3) (hf : DedFit f ps) (hr : rightD f ps = true) :
    Calls Tryz.prog 37 #[.pointer (some ⟨t, 0, none⟩), .agg (dA f A1 A2 A3 c1 c2 c3)] w fun e w' => e = .returned (.tuple #[]) ∧ Tr w' t m n (deN f ps N) (doS f S) ∧ Chg (Mn m n) w w' := by
  have hfit : fitsB f ps = true := by simp only [rightD, Bool.and_eq_true] at hr; exact hr.2
  unfold fitsB at hfit
  by_cases hn : isNode f.kind = true
  · rw [if_pos hn] at hfit
    obtain ⟨h1, h2, h3⟩ := leaf_fit hfit
    have hS : doS f S = S := by unfold doS; rw [if_neg (by omega), if_neg (by omega)]
    rw [hS, show deN f ps N = doN f N by unfold deN; rw [if_neg (by omega)]]
    exact do_node h hL f h1 h2 hv.bs h3
  · rw [if_neg hn] at hfit
    have hn' : ¬ (f.kind = 1 ∨ f.kind = 2 ∨ f.kind = 3) := by simpa [isNode, or_assoc] using hn
    simp only [Bool.and_eq_true] at hfit
    obtain ⟨hc, hk⟩ := hfit
    have hp : f.path.length ≤ 281474976710656 := by rw [bare_path hc hn']; simp
    have hd := com_data hc
    unfold kindB at hk
    by_cases k4 : f.kind = 4
    · rw [show deN f ps N = doN f N by unfold deN; rw [if_neg (by omega)]]
      exact do_open h hL f k4 hp hv.bs hd
    rw [if_neg k4] at hk
    by_cases k5 : f.kind = 5
    · rw [if_pos k5] at hk
      simp only [Bool.and_eq_true, decide_eq_true_eq, List.all_eq_true] at hk
      rw [show deN f ps N = doPs f ps N by unfold deN; rw [if_pos (.inl k5)], show doS f S = Si.delF f.owner S by unfold doS; rw [if_neg k4, if_pos k5]]
      exact do_close h hL f ps k5 hf.len hv.pr (by omega) (fun p hp => part_fit (hk.2 p hp))
    rw [if_neg k5] at hk
    by_cases k6 : f.kind = 6
    · rw [show deN f ps N = doN f N by unfold deN; rw [if_neg (by omega)]]
      exact do_sync h hL f k6 hp hv.bs hd
    rw [if_neg k6] at hk
    by_cases k7 : f.kind = 7
    · rw [show deN f ps N = doN f N by unfold deN; rw [if_neg (by omega)]]
      exact do_config h hL f k7 hp hv.bs hd
    rw [if_neg k7] at hk
    by_cases k8 : f.kind = 8
    · rw [if_pos k8] at hk
      simp only [Bool.and_eq_true, decide_eq_true_eq, List.all_eq_true] at hk
      rw [show deN f ps N = doPs f ps N by unfold deN; rw [if_pos (.inr k8)], show doS f S = S by unfold doS; rw [if_neg k4, if_neg k5]]
      exact do_multi h hL f ps k8 hf.len hv.pr (by omega) (fun p hp => part_fit (hk.2 p hp))
    rw [if_neg k8] at hk
    by_cases k9 : f.kind = 9
    · rw [show deN f ps N = doN f N by unfold deN; rw [if_neg (by omega)]]
      exact do_error h hL f k9 hp hv.bs hd
    rw [if_neg k9] at hk
    cases hk
/- Apply, of any deed. -/
theorem apply_any {w : World} {t m n : Nat} {N : List Fi} {S : List Si.Fi} (h : Tr w t m n N S) (hL : PA.Laid w) (f : Fl) (ps : List Fl) {A1 A2 A3 : Option Addr} {c1 c2 c3 : Nat} (hv : DD.DVal w f ps A1 c1 A2 c2 A3 c3) (hf : DedFit f ps) :
    Calls Tryz.prog 12 #[.pointer (some ⟨t, 0, none⟩), .agg (dA f A1 A2 A3 c1 c2 c3)] w fun e w' => e = .returned (.tuple #[]) ∧ Tr w' t m n (if rightD f ps then deN f ps N else N) (if rightD f ps then turnS f.session f.turn (doS f S) else S) ∧ Chg (Mn m n) w w' :=
  apply_core h hL f ps hv hf fun hr w' hB => do_any (h.below hB) (hL.below hB) f ps (hv.grow hB) hf hr
end Go.Proofs.YtcdnfgibcochhaaGreatDoor

namespace Go.Proofs
open Go.Shelf
def Tryz.cloneN_ren : Go.Shelf.Ren := ⟨fun | 5 => 45 | 7 => 68 | n => n, fun | 23 => 35 | 25 => 9 | 3 => 77 | 4 => 4 | 20 => 20 | n => n, fun | n => n⟩
theorem Tryz.cloneN : Go.Proofs.SlLaysW.n5 Tryz.prog Tryz.cloneN_ren := {
  mixed := by kernel_rfl
  f5 := ⟨Tryz.f45.name, by decide, Tryz.func45.trans (congrArg some (by kernel_rfl))⟩
  f7 := Tryz.func68.trans (congrArg some (by kernel_rfl))
  t4 := Tryz.underlying4
  a4 := Tryz.isAgg4
  z4 := Tryz.sizeOf4
  v4 := Tryz.zeroValue4
  t20 := Tryz.underlying20
  a20 := Tryz.isAgg20
  z20 := Tryz.sizeOf20
  v20 := Tryz.zeroValue20
  t23 := Tryz.underlying35
  a23 := Tryz.isAgg35
  z23 := Tryz.sizeOf35
  v23 := Tryz.zeroValue35 }
def Tryz.cloneS_ren : Go.Shelf.Ren := ⟨fun | 5 => 46 | 7 => 68 | n => n, fun | 23 => 36 | 25 => 2 | 3 => 57 | 4 => 4 | 20 => 20 | n => n, fun | n => n⟩
theorem Tryz.cloneS : Go.Proofs.SlLaysW.n5 Tryz.prog Tryz.cloneS_ren := {
  mixed := by kernel_rfl
  f5 := ⟨Tryz.f46.name, by decide, Tryz.func46.trans (congrArg some (by kernel_rfl))⟩
  f7 := Tryz.func68.trans (congrArg some (by kernel_rfl))
  t4 := Tryz.underlying4
  a4 := Tryz.isAgg4
  z4 := Tryz.sizeOf4
  v4 := Tryz.zeroValue4
  t20 := Tryz.underlying20
  a20 := Tryz.isAgg20
  z20 := Tryz.sizeOf20
  v20 := Tryz.zeroValue20
  t23 := Tryz.underlying36
  a23 := Tryz.isAgg36
  z23 := Tryz.sizeOf36
  v23 := Tryz.zeroValue36 }
end Go.Proofs

namespace Go.Proofs.YtcdnfgibcochhaaGreatDoor
set_option linter.unusedSimpArgs false
set_option linter.unusedVariables false
open Go.RowKit Go.MapKept
set_option linter.unusedVariables false
set_option linter.unusedSimpArgs false

theorem clone_nodes {w : World} {m : Nat} {L : List Fv} (h : MapIs w m L) : Calls Tryz.prog 45 #[.map (some m)] w fun e w' => e = .returned (.map (some w.heap.size)) ∧ MapIs w' w.heap.size L ∧ Below w.heap.size w w' := by
  obtain ⟨es, clock, hb, h1, h2⟩ := h
  refine (show Calls Tryz.prog 45 #[.map (some m)] w _ from AnyW.maps_Clone Tryz.cloneN m es clock w hb).mono ?_
  rintro e w' ⟨rfl, rfl⟩
  exact ⟨rfl, ⟨es, clock, heap_alloc_new w _, h1, h2⟩, lay1 w _⟩
theorem clone_seats {w : World} {m : Nat} {K : List Si.Fv} (h : Si.MapIs w m K) : Calls Tryz.prog 46 #[.map (some m)] w fun e w' => e = .returned (.map (some w.heap.size)) ∧ Si.MapIs w' w.heap.size K ∧ Below w.heap.size w w' := by
  obtain ⟨es, clock, hb, h1, h2⟩ := h
  refine (show Calls Tryz.prog 46 #[.map (some m)] w _ from AnyW.maps_Clone Tryz.cloneS m es clock w hb).mono ?_
  rintro e w' ⟨rfl, rfl⟩
  exact ⟨rfl, ⟨es, clock, heap_alloc_new w _, h1, h2⟩, lay1 w _⟩
set_option maxRecDepth 100000 in
set_option maxHeartbeats 2000000 in
theorem copy_yes {w : World} {t m n : Nat} {L : List Fv} {K : List Si.Fv} (h : Tk w t m n L K) :
    Calls Tryz.prog 19 #[.pointer (some ⟨t, 0, none⟩)] w fun e w' => ∃ t' m' n', e = .returned (.pointer (some ⟨t', 0, none⟩)) ∧ Tk w' t' m' n' L K ∧ (∀ k, Wt t' m' n' k → w.heap.size ≤ k) ∧ Below w.heap.size w w' := by
  have hth := there_yes (cell_at h.cell 0)
  have hd : Tk w.drew t m n L K := h.below (Below.refl _ _).drew
  have c1 := clone_nodes hd.nodes
  have hS0 : w.drew.cell? ⟨t, 0, none⟩ = some (.map (some m)) ∧ w.drew.cell? ⟨t, 1, none⟩ = some (.map (some n)) := ⟨cell_at hd.cell 0, cell_at hd.cell 1⟩
  have HD : Hid (Tk w.drew t m n L K) := hd
  have HS : Hid (∀ {w1 : World}, Below w.drew.heap.size w.drew w1 → (w1.cell? ⟨t, 0, none⟩ = some (.map (some m)) ∧ w1.cell? ⟨t, 1, none⟩ = some (.map (some n))) ∧ Calls Tryz.prog 46 #[.map (some n)] w1 fun e w' => e = .returned (.map (some w1.heap.size)) ∧ Si.MapIs w' w1.heap.size K ∧ Below w1.heap.size w1 w' ∧ (w'.cell? ⟨t, 0, none⟩ = some (.map (some m)) ∧ w'.cell? ⟨t, 1, none⟩ = some (.map (some n)))) := by
    intro w1 hB
    have h1 := HD.out.below hB
    refine ⟨⟨cell_at h1.cell 0, cell_at h1.cell 1⟩, ?_⟩
    refine (clone_seats h1.seats).mono ?_
    rintro e w' ⟨rfl, h2, h3⟩
    have h4 := h1.below h3
    exact ⟨rfl, h2, h3, cell_at h4.cell 0, cell_at h4.cell 1⟩
  clear h hd
  go_enter Tryz.func19, Tryz.ntmps19
  go_wp2_with fail
  refine hth.mono ?_
  rintro e w0 ⟨rfl, hw0⟩
  obtain rfl : w = w0 := hw0.symm
  clear hth hw0
  go_wp2_with fail
  go_region_held3 (fun w' => w'.cell? ⟨t, 0, none⟩ = some (.map (some m)) ∧ w'.cell? ⟨t, 1, none⟩ = some (.map (some n)))
    (first | exact hS0 | exact hS1 | exact hS2 | go_keep)
    (first
      | (go_at_call 45; refine c1.mono ?_; rintro e w1 ⟨rfl, a1, b1⟩; obtain ⟨hS1, c2⟩ := HS.out b1; have HA : Hid (MapIs w1 w.drew.heap.size L ∧ Below w.drew.heap.size w.drew w1) := ⟨a1, b1⟩; clear a1 b1)
      | (go_at_call 46; refine c2.mono ?_; rintro e w2 ⟨rfl, a2, b2, hS2⟩; have HB : Hid (Si.MapIs w2 w1.heap.size K ∧ Below w1.heap.size w1 w2) := ⟨a2, b2⟩; clear a2 b2))
  go_wp2_with fail
  go_ret
  have hA := HA.out
  have hB := HB.out
  have hlt : w.heap.size < w1.heap.size := hA.1.lt
  have hl2 : w1.heap.size < w2.heap.size := hB.1.lt
  have e3 := lay1 w2 (.cells #[.map (some w.heap.size), .map (some w1.heap.size)] 38)
  have k1 : Below w1.heap.size w1 (w2.alloc (.cells #[.map (some w.heap.size), .map (some w1.heap.size)] 38)) := hB.2.trans (e3.mono hB.2.size)
  have k0 : Below w.heap.size w (w2.alloc (.cells #[.map (some w.heap.size), .map (some w1.heap.size)] 38)) := (Below.refl _ w).drew.trans (hA.2.trans (k1.mono hA.2.size))
  have hD := (HD.out.below hA.2).below k1
  refine ⟨w2.heap.size, w.heap.size, w1.heap.size, rfl, ⟨heap_alloc_new w2 _, hA.1.keep (Chg.of_below k1) id, hB.1.keep (Chg.of_below e3) id, by omega, hD.bs, hD.fits⟩, ?_, k0⟩
  rintro k (rfl | rfl | rfl) <;> omega
end Go.Proofs.YtcdnfgibcochhaaGreatDoor

namespace Go.Proofs.YtcdnfgibcochhaaGreatDoor
set_option linter.unusedSimpArgs false
set_option linter.unusedVariables false
open Go.RowKit Go.MapKept
set_option linter.unusedVariables false
set_option linter.unusedSimpArgs false

def nam (N : List Fi) : Prop := (N.map (·.nm)).Nodup
theorem look_put (p : Fi) (k : List UInt8) : ∀ N : List Fi, lookF k (putF p N) = if k = p.nm then some p else lookF k N
  | [] => by
    simp only [putF, lookF]
    by_cases h : k = p.nm
    · rw [if_pos h, if_pos h.symm]
    · rw [if_neg h, if_neg (fun e => h e.symm)]
  | q :: N => by
    have ih := look_put p k N
    simp only [putF]
    by_cases hq : q.nm = p.nm
    · rw [if_pos hq]
      simp only [lookF]
      by_cases h : k = p.nm
      · rw [if_pos h, if_pos h.symm]
      · rw [if_neg h, if_neg (fun e => h e.symm), if_neg (fun e => h (by rw [← e, hq]))]
    · rw [if_neg hq]
      simp only [lookF]
      rw [ih]
      by_cases h : k = p.nm
      · rw [if_pos h, if_pos h, if_neg (fun e => hq (by rw [e, h]))]
      · rw [if_neg h, if_neg h]
theorem look_nm : ∀ {N : List Fi} {k : List UInt8} {q : Fi}, lookF k N = some q → q.nm = k ∧ q ∈ N
  | p :: N, k, q, h => by
    simp only [lookF] at h
    by_cases hp : p.nm = k
    · rw [if_pos hp] at h; cases h; exact ⟨hp, .head _⟩
    · rw [if_neg hp] at h
      obtain ⟨a, b⟩ := look_nm h
      exact ⟨a, .tail _ b⟩
theorem look_no : ∀ {N : List Fi} {k : List UInt8}, k ∉ N.map (·.nm) → lookF k N = none
  | [], _, _ => rfl
  | p :: N, k, h => by
    simp only [List.map_cons, List.mem_cons, not_or] at h
    simp only [lookF]
    rw [if_neg (fun e => h.1 e.symm)]
    exact look_no h.2
theorem look_in : ∀ {N : List Fi} {q : Fi}, nam N → q ∈ N → lookF q.nm N = some q
  | p :: N, q, hn, h => by
    unfold nam at hn
    simp only [List.map_cons, List.nodup_cons] at hn
    simp only [lookF]
    rcases List.mem_cons.1 h with rfl | h
    · rw [if_pos rfl]
    · rw [if_neg (fun e => hn.1 (by rw [e]; exact List.mem_map.2 ⟨q, h, rfl⟩))]
      exact look_in hn.2 h
theorem look_del (k j : List UInt8) : ∀ {N : List Fi}, nam N → lookF k (delF j N) = if k = j then none else lookF k N
  | [], _ => by simp [delF, lookF]
  | p :: N, hn => by
    have hn' := hn
    unfold nam at hn'
    simp only [List.map_cons, List.nodup_cons] at hn'
    have ih := look_del k j (N := N) hn'.2
    simp only [delF]
    by_cases hp : p.nm = j
    · rw [if_pos hp]
      simp only [lookF]
      by_cases h : k = j
      · rw [if_pos h]; exact look_no (by rw [h, ← hp]; exact hn'.1)
      · rw [if_neg h, if_neg (fun e => h (by rw [← e, hp]))]
    · rw [if_neg hp]
      simp only [lookF]
      rw [ih]
      by_cases h : k = j
      · rw [if_pos h, if_pos h, if_neg (fun e => hp (by rw [e, h]))]
      · rw [if_neg h, if_neg h]
theorem names_put (p : Fi) : ∀ N : List Fi, ∀ x ∈ (putF p N).map (·.nm), x = p.nm ∨ x ∈ N.map (·.nm)
  | [], x, h => by simp [putF] at h; exact .inl h
  | q :: N, x, h => by
    simp only [putF] at h
    split at h
    · simp only [List.map_cons, List.mem_cons] at h ⊢
      rcases h with h | h
      · exact .inl h
      · exact .inr (.inr h)
    · simp only [List.map_cons, List.mem_cons] at h ⊢
      rcases h with h | h
      · exact .inr (.inl h)
      · rcases names_put p N x h with h | h
        · exact .inl h
        · exact .inr (.inr h)
theorem nam_put (p : Fi) : ∀ {N : List Fi}, nam N → nam (putF p N)
  | [], _ => by simp [nam, putF]
  | q :: N, hn => by
    unfold nam at hn ⊢
    simp only [List.map_cons, List.nodup_cons] at hn
    simp only [putF]
    by_cases h : q.nm = p.nm
    · rw [if_pos h, List.map_cons, List.nodup_cons]
      exact ⟨by rw [← h]; exact hn.1, hn.2⟩
    · rw [if_neg h, List.map_cons, List.nodup_cons]
      refine ⟨fun hm => ?_, nam_put p hn.2⟩
      rcases names_put p N _ hm with e | e
      · exact h e
      · exact hn.1 e
theorem sub_del (j : List UInt8) : ∀ N : List Fi, (delF j N).Sublist N
  | [] => by simp [delF]
  | q :: N => by
    simp only [delF]
    split
    · exact List.sublist_cons_self q N
    · exact (sub_del j N).cons_cons q
theorem nam_del (j : List UInt8) {N : List Fi} (hn : nam N) : nam (delF j N) := ((sub_del j N).map _).nodup hn

/- The fields of a node, by number. -/
def fld : Nat → Fi → List UInt8 × Int
  | 0, x => (x.nm, 0)
  | 1, x => (x.b, 0)
  | 2, x => ([], x.st.cz)
  | 3, x => ([], x.st.mz)
  | 4, x => ([], x.st.pz)
  | 5, x => ([], x.st.ct)
  | 6, x => ([], x.st.mt)
  | 7, x => ([], x.st.ver)
  | 8, x => ([], x.st.cv)
  | 9, x => ([], x.st.own)
  | 10, x => ([], x.st.len)
  | 11, x => ([], x.st.chd)
  | _ + 12, _ => ([], 0)
theorem fld_ext {x y : Fi} (h : ∀ i, fld i x = fld i y) : x = y := by
  obtain ⟨a, b, ⟨s0, s1, s2, s3, s4, s5, s6, s7, s8, s9⟩⟩ := x
  obtain ⟨a', b', ⟨t0, t1, t2, t3, t4, t5, t6, t7, t8, t9⟩⟩ := y
  have h0 := h 0
  have h1 := h 1
  have h2 := h 2
  have h3 := h 3
  have h4 := h 4
  have h5 := h 5
  have h6 := h 6
  have h7 := h 7
  have h8 := h 8
  have h9 := h 9
  have h10 := h 10
  have h11 := h 11
  clear h
  simp only [fld, Prod.mk.injEq, true_and, and_true] at *
  subst h0 h1 h2 h3 h4 h5 h6 h7 h8 h9 h10 h11
  rfl
/- Each field is left or set. -/
def Ow (u : Fi → Fi) : Prop := ∀ i, (∀ x, fld i (u x) = fld i x) ∨ ∃ c, ∀ x, fld i (u x) = c
theorem Ow.id : Ow fun x => x := fun _ => .inl fun _ => rfl
theorem Ow.comp {u v : Fi → Fi} (hu : Ow u) (hv : Ow v) : Ow fun x => v (u x) := by
  intro i
  rcases hv i with h | ⟨c, h⟩
  · rcases hu i with h' | ⟨c, h'⟩
    · exact .inl fun x => (h _).trans (h' x)
    · exact .inr ⟨c, fun x => (h _).trans (h' x)⟩
  · exact .inr ⟨c, fun x => h _⟩
theorem Ow.twice {u : Fi → Fi} (hu : Ow u) (x : Fi) : u (u x) = u x := by
  refine fld_ext fun i => ?_
  rcases hu i with h | ⟨c, h⟩
  · exact h _
  · rw [h, h]
/- What is done at one path: it is made or taken away, or fields of it are set. -/
def Wri (g : Option Fi → Option Fi) : Prop := (∃ c, ∀ o, g o = c) ∨ ∃ u, Ow u ∧ ∀ o, g o = o.map u
theorem Wri.id : Wri fun o => o := .inr ⟨_, Ow.id, fun o => by simp⟩
theorem Wri.comp {g h : Option Fi → Option Fi} (hg : Wri g) (hh : Wri h) : Wri fun o => h (g o) := by
  rcases hh with ⟨c, hc⟩ | ⟨v, hv, e⟩
  · exact .inl ⟨c, fun o => hc _⟩
  · rcases hg with ⟨c, hc⟩ | ⟨u, hu, e'⟩
    · exact .inl ⟨c.map v, fun o => by show h (g o) = _; rw [e, hc]⟩
    · exact .inr ⟨_, hu.comp hv, fun o => by show h (g o) = _; rw [e, e']; cases o <;> rfl⟩
theorem Wri.twice {g : Option Fi → Option Fi} (hg : Wri g) (o : Option Fi) : g (g o) = g o := by
  rcases hg with ⟨c, hc⟩ | ⟨u, hu, e⟩
  · rw [hc, hc]
  · rw [e, e]; cases o with
    | none => rfl
    | some x => simp [hu.twice]
/- A change of the nodes that is a writer at each path. -/
structure Wact (D : List Fi → List Fi) : Prop where
  at_ : ∀ k, ∃ g, Wri g ∧ ∀ N, nam N → lookF k (D N) = g (lookF k N)
  nam_ : ∀ N, nam N → nam (D N)
theorem Wact.id : Wact fun N => N := ⟨fun k => ⟨_, Wri.id, fun _ _ => rfl⟩, fun _ h => h⟩
theorem Wact.comp {D E : List Fi → List Fi} (hD : Wact D) (hE : Wact E) : Wact fun N => E (D N) := by
  refine ⟨fun k => ?_, fun N h => hE.nam_ _ (hD.nam_ _ h)⟩
  obtain ⟨g, hg, e⟩ := hD.at_ k
  obtain ⟨g', hg', e'⟩ := hE.at_ k
  exact ⟨_, hg.comp hg', fun N h => by rw [e' _ (hD.nam_ _ h), e _ h]⟩
theorem Wact.twice {D : List Fi → List Fi} (hD : Wact D) {N M : List Fi} (hN : nam N) (hM : nam M) (h : ∀ k, lookF k N = lookF k M) (k : List UInt8) : lookF k (D N) = lookF k (D (D M)) := by
  obtain ⟨g, hg, e⟩ := hD.at_ k
  rw [e _ hN, e _ (hD.nam_ _ hM), e _ hM, hg.twice, h]
theorem Wact.put (p : Fi) : Wact (putF p) := by
  refine ⟨fun k => ?_, fun N h => nam_put p h⟩
  by_cases hk : k = p.nm
  · exact ⟨fun _ => some p, .inl ⟨_, fun _ => rfl⟩, fun N _ => by rw [look_put, if_pos hk]⟩
  · exact ⟨_, Wri.id, fun N _ => by rw [look_put, if_neg hk]⟩
theorem Wact.del (j : List UInt8) : Wact (delF j) := by
  refine ⟨fun k => ?_, fun N h => nam_del j h⟩
  by_cases hk : k = j
  · exact ⟨fun _ => none, .inl ⟨_, fun _ => rfl⟩, fun N h => by rw [look_del k j h, if_pos hk]⟩
  · exact ⟨_, Wri.id, fun N h => by rw [look_del k j h, if_neg hk]⟩
theorem Wact.over (j : List UInt8) (u : Fi → Fi) (hu : Ow u) (hn : ∀ q, q.nm = j → (u q).nm = j) : Wact fun N => match lookF j N with | none => N | some q => putF (u q) N := by
  refine ⟨fun k => ?_, fun N h => ?_⟩
  · by_cases hk : k = j
    · refine ⟨fun o => o.map u, .inr ⟨u, hu, fun _ => rfl⟩, fun N h => ?_⟩
      subst hk
      cases hq : lookF k N with
      | none => simp only [hq, Option.map_none]
      | some q => simp only [Option.map_some]; rw [look_put, if_pos (hn q (look_nm hq).1).symm]
    · refine ⟨_, Wri.id, fun N h => ?_⟩
      cases hq : lookF j N with
      | none => rfl
      | some q => simp only; rw [look_put, if_neg (fun e => hk (by rw [e]; exact hn q (look_nm hq).1))]
  · cases hq : lookF j N with
    | none => simpa only [hq] using h
    | some q => simp only; exact nam_put _ h
theorem par_act (f : Fl) : Wact (parN f) := by
  refine Wact.over (PA.parentS f.path) (fun q => ⟨q.nm, q.b, { q.st with cv := f.cversion, pz := f.zxid }⟩) ?_ (fun q h => h)
  intro i
  match i with
  | 4 => exact .inr ⟨([], f.zxid), fun _ => rfl⟩
  | 8 => exact .inr ⟨([], f.cversion), fun _ => rfl⟩
  | 0 | 1 | 2 | 3 | 5 | 6 | 7 | 9 | 10 | 11 | _ + 12 => exact .inl fun _ => rfl
theorem set_act (f : Fl) : Wact (setN f) := by
  refine Wact.over f.path (fun q => ⟨f.path, f.data, setSt f q.st⟩) ?_ (fun q h => rfl)
  intro i
  match i with
  | 0 => exact .inr ⟨(f.path, 0), fun _ => rfl⟩
  | 1 => exact .inr ⟨(f.data, 0), fun _ => rfl⟩
  | 3 => exact .inr ⟨([], f.zxid), fun _ => rfl⟩
  | 6 => exact .inr ⟨([], f.time), fun _ => rfl⟩
  | 7 => exact .inr ⟨([], f.version), fun _ => rfl⟩
  | 10 => exact .inr ⟨([], 0), fun _ => rfl⟩
  | 11 => exact .inr ⟨([], 0), fun _ => rfl⟩
  | 2 | 4 | 5 | 8 | 9 | _ + 12 => exact .inl fun _ => rfl
theorem doN_act (f : Fl) : Wact (doN f) := by
  unfold doN
  by_cases h1 : f.kind = 1
  · simp only [if_pos h1]
    exact (Wact.put _).comp (par_act f)
  by_cases h2 : f.kind = 2
  · simp only [if_neg h1, if_pos h2]
    exact (Wact.del _).comp (par_act f)
  by_cases h3 : f.kind = 3
  · simp only [if_neg h1, if_neg h2, if_pos h3]
    exact set_act f
  · simp only [if_neg h1, if_neg h2, if_neg h3]
    exact Wact.id
theorem doPs_act (f : Fl) : ∀ ps : List Fl, Wact (doPs f ps)
  | [] => Wact.id
  | p :: ps => (doN_act (ptF f p)).comp (doPs_act f ps)
theorem deN_act (f : Fl) (ps : List Fl) : Wact (deN f ps) := by
  unfold deN
  by_cases h : f.kind = 5 ∨ f.kind = 8
  · simp only [if_pos h]; exact doPs_act f ps
  · simp only [if_neg h]; exact doN_act f
/- The same nodes in whatever order. -/
theorem alike_perm {N M : List Fi} (hN : nam N) (hM : nam M) (h : ∀ k, lookF k N = lookF k M) : N.Perm M := by
  have n1 : N.Nodup := List.Pairwise.of_map (fun x : Fi => x.nm) (fun a b h e => h (by rw [e])) hN
  have n2 : M.Nodup := List.Pairwise.of_map (fun x : Fi => x.nm) (fun a b h e => h (by rw [e])) hM
  refine (List.perm_ext_iff_of_nodup n1 n2).2 fun x => ⟨fun hx => ?_, fun hx => ?_⟩
  · have := look_in hN hx
    rw [h] at this
    exact (look_nm this).2
  · have := look_in hM hx
    rw [← h] at this
    exact (look_nm this).2
namespace Si
set_option linter.unusedSimpArgs false
set_option linter.unusedVariables false
def nam (N : List Fi) : Prop := (N.map (·.nm)).Nodup
theorem look_put (p : Fi) (k : Int) : ∀ N : List Fi, lookF k (putF p N) = if k = p.nm then some p else lookF k N
  | [] => by
    simp only [putF, lookF]
    by_cases h : k = p.nm
    · rw [if_pos h, if_pos h.symm]
    · rw [if_neg h, if_neg (fun e => h e.symm)]
  | q :: N => by
    have ih := look_put p k N
    simp only [putF]
    by_cases hq : q.nm = p.nm
    · rw [if_pos hq]
      simp only [lookF]
      by_cases h : k = p.nm
      · rw [if_pos h, if_pos h.symm]
      · rw [if_neg h, if_neg (fun e => h e.symm), if_neg (fun e => h (by rw [← e, hq]))]
    · rw [if_neg hq]
      simp only [lookF]
      rw [ih]
      by_cases h : k = p.nm
      · rw [if_pos h, if_pos h, if_neg (fun e => hq (by rw [e, h]))]
      · rw [if_neg h, if_neg h]
theorem look_nm : ∀ {N : List Fi} {k : Int} {q : Fi}, lookF k N = some q → q.nm = k ∧ q ∈ N
  | p :: N, k, q, h => by
    simp only [lookF] at h
    by_cases hp : p.nm = k
    · rw [if_pos hp] at h; cases h; exact ⟨hp, .head _⟩
    · rw [if_neg hp] at h
      obtain ⟨a, b⟩ := look_nm h
      exact ⟨a, .tail _ b⟩
theorem look_no : ∀ {N : List Fi} {k : Int}, k ∉ N.map (·.nm) → lookF k N = none
  | [], _, _ => rfl
  | p :: N, k, h => by
    simp only [List.map_cons, List.mem_cons, not_or] at h
    simp only [lookF]
    rw [if_neg (fun e => h.1 e.symm)]
    exact look_no h.2
theorem look_in : ∀ {N : List Fi} {q : Fi}, nam N → q ∈ N → lookF q.nm N = some q
  | p :: N, q, hn, h => by
    unfold nam at hn
    simp only [List.map_cons, List.nodup_cons] at hn
    simp only [lookF]
    rcases List.mem_cons.1 h with rfl | h
    · rw [if_pos rfl]
    · rw [if_neg (fun e => hn.1 (by rw [e]; exact List.mem_map.2 ⟨q, h, rfl⟩))]
      exact look_in hn.2 h
theorem look_del (k j : Int) : ∀ {N : List Fi}, nam N → lookF k (delF j N) = if k = j then none else lookF k N
  | [], _ => by simp [delF, lookF]
  | p :: N, hn => by
    have hn' := hn
    unfold nam at hn'
    simp only [List.map_cons, List.nodup_cons] at hn'
    have ih := look_del k j (N := N) hn'.2
    simp only [delF]
    by_cases hp : p.nm = j
    · rw [if_pos hp]
      simp only [lookF]
      by_cases h : k = j
      · rw [if_pos h]; exact look_no (by rw [h, ← hp]; exact hn'.1)
      · rw [if_neg h, if_neg (fun e => h (by rw [← e, hp]))]
    · rw [if_neg hp]
      simp only [lookF]
      rw [ih]
      by_cases h : k = j
      · rw [if_pos h, if_pos h, if_neg (fun e => hp (by rw [e, h]))]
      · rw [if_neg h, if_neg h]
theorem names_put (p : Fi) : ∀ N : List Fi, ∀ x ∈ (putF p N).map (·.nm), x = p.nm ∨ x ∈ N.map (·.nm)
  | [], x, h => by simp [putF] at h; exact .inl h
  | q :: N, x, h => by
    simp only [putF] at h
    split at h
    · simp only [List.map_cons, List.mem_cons] at h ⊢
      rcases h with h | h
      · exact .inl h
      · exact .inr (.inr h)
    · simp only [List.map_cons, List.mem_cons] at h ⊢
      rcases h with h | h
      · exact .inr (.inl h)
      · rcases names_put p N x h with h | h
        · exact .inl h
        · exact .inr (.inr h)
theorem nam_put (p : Fi) : ∀ {N : List Fi}, nam N → nam (putF p N)
  | [], _ => by simp [nam, putF]
  | q :: N, hn => by
    unfold nam at hn ⊢
    simp only [List.map_cons, List.nodup_cons] at hn
    simp only [putF]
    by_cases h : q.nm = p.nm
    · rw [if_pos h, List.map_cons, List.nodup_cons]
      exact ⟨by rw [← h]; exact hn.1, hn.2⟩
    · rw [if_neg h, List.map_cons, List.nodup_cons]
      refine ⟨fun hm => ?_, nam_put p hn.2⟩
      rcases names_put p N _ hm with e | e
      · exact h e
      · exact hn.1 e
theorem sub_del (j : Int) : ∀ N : List Fi, (delF j N).Sublist N
  | [] => by simp [delF]
  | q :: N => by
    simp only [delF]
    split
    · exact List.sublist_cons_self q N
    · exact (sub_del j N).cons_cons q
theorem nam_del (j : Int) {N : List Fi} (hn : nam N) : nam (delF j N) := ((sub_del j N).map _).nodup hn

theorem alike_perm {N M : List Fi} (hN : nam N) (hM : nam M) (h : ∀ k, lookF k N = lookF k M) : N.Perm M := by
  have n1 : N.Nodup := List.Pairwise.of_map (fun x : Fi => x.nm) (fun a b h e => h (by rw [e])) hN
  have n2 : M.Nodup := List.Pairwise.of_map (fun x : Fi => x.nm) (fun a b h e => h (by rw [e])) hM
  refine (List.perm_ext_iff_of_nodup n1 n2).2 fun x => ⟨fun hx => ?_, fun hx => ?_⟩
  · have := look_in hN hx
    rw [h] at this
    exact (look_nm this).2
  · have := look_in hM hx
    rw [← h] at this
    exact (look_nm this).2
/- A change of the sittings that done twice is as done once, at each key. -/
structure Wact2 (D : List Fi → List Fi) : Prop where
  at_ : ∀ k, ∃ g : Option Fi → Option Fi, (∀ o, g (g o) = g o) ∧ ∀ N, nam N → lookF k (D N) = g (lookF k N)
  nam_ : ∀ N, nam N → nam (D N)
theorem Wact2.twice {D : List Fi → List Fi} (hD : Wact2 D) {N M : List Fi} (hN : nam N) (hM : nam M) (h : ∀ k, lookF k N = lookF k M) (k : Int) : lookF k (D N) = lookF k (D (D M)) := by
  obtain ⟨g, hg, e⟩ := hD.at_ k
  rw [e _ hN, e _ (hD.nam_ _ hM), e _ hM, hg, h]
theorem turn_at (s t k : Int) {S : List Fi} (h : nam S) : lookF k (turnS s t S) = if k = s then (lookF k S).map (fun q => ⟨q.nm, q.tmo, max q.turn t⟩) else lookF k S := by
  unfold turnS
  cases hq : lookF s S with
  | none =>
    by_cases hk : k = s
    · subst hk; rw [if_pos rfl, hq]; simp only [hq, Option.map_none]
    · rw [if_neg hk]
  | some q =>
    simp only
    rw [look_put]
    have hn := (look_nm hq).1
    by_cases hk : k = s
    · subst hk; rw [if_pos hn.symm, if_pos rfl, hq]; rfl
    · rw [if_neg (fun e => hk (by rw [e]; exact hn)), if_neg hk]
theorem nam_turn (s t : Int) {S : List Fi} (h : nam S) : nam (turnS s t S) := by
  unfold turnS
  cases hq : lookF s S with
  | none => exact h
  | some q => exact nam_put _ h
theorem nam_do (f : Fl) {S : List Fi} (h : nam S) : nam (doS f S) := by
  unfold doS
  split
  · exact nam_put _ h
  · split
    · exact nam_del _ h
    · exact h
theorem sit_act (f : Fl) : Wact2 fun S => turnS f.session f.turn (doS f S) := by
  refine ⟨fun k => ?_, fun S h => nam_turn _ _ (nam_do f h)⟩
  have hv : ∀ (o : Option Fi), ((o.map fun q : Fi => (⟨q.nm, q.tmo, max q.turn f.turn⟩ : Fi)).map fun q : Fi => (⟨q.nm, q.tmo, max q.turn f.turn⟩ : Fi)) = o.map fun q : Fi => (⟨q.nm, q.tmo, max q.turn f.turn⟩ : Fi) := by
    intro o
    cases o with
    | none => rfl
    | some q => simp only [Option.map_some, Option.some.injEq, Fi.mk.injEq, true_and]; omega
  have hc : (∃ c, ∀ S, nam S → lookF k (doS f S) = c) ∨ ∀ S, nam S → lookF k (doS f S) = lookF k S := by
    unfold doS
    by_cases h4 : f.kind = 4
    · simp only [if_pos h4]
      by_cases hk : k = f.zxid
      · exact .inl ⟨some ⟨f.zxid, f.timeout, f.turn⟩, fun S h => by rw [look_put, if_pos hk]⟩
      · exact .inr fun S h => by rw [look_put, if_neg hk]
    · by_cases h5 : f.kind = 5
      · simp only [if_neg h4, if_pos h5]
        by_cases hk : k = f.owner
        · exact .inl ⟨none, fun S h => by rw [look_del k f.owner h, if_pos hk]⟩
        · exact .inr fun S h => by rw [look_del k f.owner h, if_neg hk]
      · simp only [if_neg h4, if_neg h5]
        refine .inr fun S h => ?_
        first | rfl | trivial
  by_cases hs : k = f.session
  · rcases hc with ⟨c, hc⟩ | hc
    · exact ⟨fun _ => c.map (fun q => ⟨q.nm, q.tmo, max q.turn f.turn⟩), fun _ => rfl, fun S h => by rw [turn_at _ _ _ (nam_do f h), if_pos hs, hc S h]⟩
    · exact ⟨fun o => o.map (fun q => ⟨q.nm, q.tmo, max q.turn f.turn⟩), hv, fun S h => by rw [turn_at _ _ _ (nam_do f h), if_pos hs, hc S h]⟩
  · rcases hc with ⟨c, hc⟩ | hc
    · exact ⟨fun _ => c, fun _ => rfl, fun S h => by rw [turn_at _ _ _ (nam_do f h), if_neg hs, hc S h]⟩
    · exact ⟨fun o => o, fun _ => rfl, fun S h => by rw [turn_at _ _ _ (nam_do f h), if_neg hs, hc S h]⟩
end Si
end Go.Proofs.YtcdnfgibcochhaaGreatDoor
