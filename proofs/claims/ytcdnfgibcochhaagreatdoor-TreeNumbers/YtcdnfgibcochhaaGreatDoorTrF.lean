/- Trees: a node set; what a deed without parts does. -/
import Derived.Test.YtcdnfgibcochhaaGreatDoorTrE
namespace Go.Proofs.YtcdnfgibcochhaaGreatDoor
set_option linter.unusedSimpArgs false
set_option linter.unusedVariables false
open Go.RowKit Go.MapKept
set_option linter.unusedVariables false
set_option linter.unusedSimpArgs false

def setSt (f : Fl) (s : Stt) : Stt := { s with mz := f.zxid, mt := f.time, ver := f.version, len := 0, chd := 0 }
set_option maxRecDepth 100000 in
set_option maxHeartbeats 2000000 in
theorem set_any {w : World} {t m n : Nat} {L : List Fv} {K : List Si.Fv} (h : Tk w t m n L K) (f : Fl) (hp : f.path.length ≤ 281474976710656) {A1 A2 A3 : Option Addr} {c1 c2 c3 : Nat} (hx : Bs w (.slice A1 f.data.length c1) f.data) (hl : f.data.length ≤ 1000) :
    Calls Tryz.prog 60 #[.pointer (some ⟨t, 0, none⟩), .agg (dA f A1 A2 A3 c1 c2 c3)] w fun e w' => e = .returned (.tuple #[]) ∧ ∃ v, Tk w' t m n (match look f.path L with | none => L | some q => putL (⟨f.path, f.data, setSt f q.1.st⟩, v) L) K ∧ Chg (fun k => k = m) w w' := by
  obtain ⟨W, hW⟩ : ∃ W, W = w.alloc (.cells (dA f A1 A2 A3 c1 c2 c3) 31) := ⟨_, rfl⟩
  have hBW : Below w.heap.size w W := by rw [hW]; exact lay1 _ _
  have hb1 : W.heap[w.heap.size]? = some (.cells (dA f A1 A2 A3 c1 c2 c3) 31 (0, 0)) := by rw [hW]; exact heap_alloc_new w _
  have hTW := h.below hBW
  have hxW : Bs W (.slice A1 f.data.length c1) f.data := hx.keep (Chg.of_below hBW) (fun _ _ => id)
  simp only [dA] at hW ⊢
  have hc0 := cell_at hTW.cell 0
  simp at hc0
  have hlk := hTW.nodes.lookup f.path true
  cases hq : look f.path L with
  | none =>
    rw [hq] at hlk
    simp only [if_true, valOf, zeroFv, Option.getD_none, Option.isSome_none, stV, zeroSt] at hlk
    simp only
    have HSS : Hid (∀ {w' : World}, Below W.heap.size W w' → w'.cell? ⟨t, 0, none⟩ = some (.map (some m)) ∧ w'.cell? ⟨w.heap.size, 6, none⟩ = some (.string (mkS f.path)) ∧ (Instr.lookup 35 (.map (some m)) (.string (mkS f.path)) true).run Tryz.prog w' = .ok (.tuple #[(.agg #[.slice none 0 0, .int .i64 0, .int .i64 0, .int .i64 0, .int .i64 0, .int .i64 0, .int .i64 0, .int .i64 0, .int .i64 0, .int .i64 0, .int .i64 0]), .bool false]) w') := by
      intro w' hb
      have hT := hTW.below hb
      have hlk := hT.nodes.lookup f.path true
      rw [hq] at hlk
      simp only [if_true, valOf, zeroFv, Option.getD_none, Option.isSome_none, Option.getD_some, Option.isSome_some, stV, zeroSt] at hlk
      have hb1' : w'.heap[w.heap.size]? = some (.cells (dA f A1 A2 A3 c1 c2 c3) 31 (0, 0)) := by rw [hb.block _ (theap_lt hb1)]; exact hb1
      exact ⟨cell_at hT.cell 0, cell_at hb1' 6, hlk⟩
    have hS0 := HSS.out (Below.refl W.heap.size W).drew
    have hS1 := HSS.out (lay1 W (.cells #[.slice none 0 0, .int .i64 0, .int .i64 0, .int .i64 0, .int .i64 0, .int .i64 0, .int .i64 0, .int .i64 0, .int .i64 0, .int .i64 0, .int .i64 0] 77)).drew
    have HE : Hid (Tk W t m n L K ∧ Below w.heap.size w W) := ⟨hTW, hBW⟩
    have HW : Hid (W = w.alloc (.cells #[.int .i64 f.zxid, .int .u8 f.kind, .int .i64 f.session, .int .i64 f.turn, .int .i64 f.xid, .int .i64 f.time, .string (mkS f.path), .slice A1 f.data.length c1, .int .i64 f.owner, .int .i64 f.version, .int .i64 f.cversion, .int .i64 f.timeout, .int .i64 f.err, .int .i64 f.cver, .slice A2 f.mems.length c2, .slice A3 f.np c3] 31)) := hW
    have HEND : Hid (Tk (W.alloc (.cells #[.slice none 0 0, .int .i64 0, .int .i64 0, .int .i64 0, .int .i64 0, .int .i64 0, .int .i64 0, .int .i64 0, .int .i64 0, .int .i64 0, .int .i64 0] 77)).drew t m n L K ∧ Chg (fun k => k = m) w (W.alloc (.cells #[.slice none 0 0, .int .i64 0, .int .i64 0, .int .i64 0, .int .i64 0, .int .i64 0, .int .i64 0, .int .i64 0, .int .i64 0, .int .i64 0, .int .i64 0] 77)).drew) := ⟨hTW.below (lay1 _ _).drew, (Chg.of_below (hBW.trans ((lay1 _ _).drew.mono hBW.size))).weak fun _ _ e => e.elim⟩
    rw [hW] at hS0 hS1 HEND
    clear hc0 hlk
    clear h hq hb1 hTW hxW hBW hx hW
    go_enter Tryz.func60, Tryz.ntmps60
    go_wp2_with fail
    go_region_held3 (fun w' => w'.cell? ⟨t, 0, none⟩ = some (.map (some m)) ∧ w'.cell? ⟨w.heap.size, 6, none⟩ = some (.string (mkS f.path)) ∧ (Instr.lookup 35 (.map (some m)) (.string (mkS f.path)) true).run Tryz.prog w' = .ok (.tuple #[(.agg #[.slice none 0 0, .int .i64 0, .int .i64 0, .int .i64 0, .int .i64 0, .int .i64 0, .int .i64 0, .int .i64 0, .int .i64 0, .int .i64 0, .int .i64 0]), .bool false]) w')
      (first | exact hS0 | exact hS1 | exact hS2 | go_keep)
      (fail)
    all_goals
      go_wp2_with fail
      exact bodyPost_ret (results_none Tryz.results60 _ _ _) rfl ⟨rfl, .slice none 0 0, HEND.out⟩
  | some q =>
    obtain ⟨hqm, hqn⟩ := look_some hq
    obtain ⟨A4, C4, hv4⟩ := owns_form' (h.bs q hqm)
    obtain ⟨⟨nm, b, ⟨cz, mz, pz, ct, mt, ver, cv, own, len, chd⟩⟩, v⟩ := q
    simp only at hv4 hqn
    subst hv4
    rw [hq] at hlk
    simp only [if_true, valOf, Option.getD_some, Option.isSome_some, stV] at hlk
    simp only
    have hd0 : W.cell? ⟨w.heap.size, 0, none⟩ = some (.int .i64 f.zxid) := cell_at hb1 0
    have hd5 : W.cell? ⟨w.heap.size, 5, none⟩ = some (.int .i64 f.time) := cell_at hb1 5
    have hd9 : W.cell? ⟨w.heap.size, 9, none⟩ = some (.int .i64 f.version) := cell_at hb1 9
    have hwl : w.heap.size < W.heap.size := theap_lt hb1
    have htl : t < W.heap.size := theap_lt hTW.cell
    have HSS : Hid (∀ {w' : World}, Below W.heap.size W w' → w'.cell? ⟨t, 0, none⟩ = some (.map (some m)) ∧ w'.cell? ⟨w.heap.size, 6, none⟩ = some (.string (mkS f.path)) ∧ (Instr.lookup 35 (.map (some m)) (.string (mkS f.path)) true).run Tryz.prog w' = .ok (.tuple #[(.agg #[.slice A4 b.length C4, .int .i64 cz, .int .i64 mz, .int .i64 pz, .int .i64 ct, .int .i64 mt, .int .i64 ver, .int .i64 cv, .int .i64 own, .int .i64 len, .int .i64 chd]), .bool true]) w') := by
      intro w' hb
      have hT := hTW.below hb
      have hlk := hT.nodes.lookup f.path true
      rw [hq] at hlk
      simp only [if_true, valOf, zeroFv, Option.getD_none, Option.isSome_none, Option.getD_some, Option.isSome_some, stV, zeroSt] at hlk
      have hb1' : w'.heap[w.heap.size]? = some (.cells (dA f A1 A2 A3 c1 c2 c3) 31 (0, 0)) := by rw [hb.block _ (theap_lt hb1)]; exact hb1
      exact ⟨cell_at hT.cell 0, cell_at hb1' 6, hlk⟩
    have hS0 := HSS.out (Below.refl W.heap.size W).drew
    have hS1 := HSS.out (lay1 W (.cells #[.slice none 0 0, .int .i64 0, .int .i64 0, .int .i64 0, .int .i64 0, .int .i64 0, .int .i64 0, .int .i64 0, .int .i64 0, .int .i64 0, .int .i64 0] 77)).drew
    have hS2 := HSS.out (lay1 W (.cells #[.slice A4 b.length C4, .int .i64 cz, .int .i64 mz, .int .i64 pz, .int .i64 ct, .int .i64 mt, .int .i64 ver, .int .i64 cv, .int .i64 own, .int .i64 len, .int .i64 chd] 77)).drew
    have HE : Hid (Tk W t m n L K ∧ Below w.heap.size w W) := ⟨hTW, hBW⟩
    have HW : Hid (W = w.alloc (.cells #[.int .i64 f.zxid, .int .u8 f.kind, .int .i64 f.session, .int .i64 f.turn, .int .i64 f.xid, .int .i64 f.time, .string (mkS f.path), .slice A1 f.data.length c1, .int .i64 f.owner, .int .i64 f.version, .int .i64 f.cversion, .int .i64 f.timeout, .int .i64 f.err, .int .i64 f.cver, .slice A2 f.mems.length c2, .slice A3 f.np c3] 31)) := hW
    have hS3 : (W.alloc (.cells #[.slice A4 b.length C4, .int .i64 cz, .int .i64 mz, .int .i64 pz, .int .i64 ct, .int .i64 mt, .int .i64 ver, .int .i64 cv, .int .i64 own, .int .i64 len, .int .i64 chd] 77)).drew.cell? ⟨w.heap.size, 0, none⟩ = some (.int .i64 f.zxid) ∧ (W.alloc (.cells #[.slice A4 b.length C4, .int .i64 cz, .int .i64 mz, .int .i64 pz, .int .i64 ct, .int .i64 mt, .int .i64 ver, .int .i64 cv, .int .i64 own, .int .i64 len, .int .i64 chd] 77)).drew.cell? ⟨w.heap.size, 5, none⟩ = some (.int .i64 f.time) ∧ (W.alloc (.cells #[.slice A4 b.length C4, .int .i64 cz, .int .i64 mz, .int .i64 pz, .int .i64 ct, .int .i64 mt, .int .i64 ver, .int .i64 cv, .int .i64 own, .int .i64 len, .int .i64 chd] 77)).drew.cell? ⟨w.heap.size, 9, none⟩ = some (.int .i64 f.version) := by
      have k : ∀ i, (W.alloc (.cells #[.slice A4 b.length C4, .int .i64 cz, .int .i64 mz, .int .i64 pz, .int .i64 ct, .int .i64 mt, .int .i64 ver, .int .i64 cv, .int .i64 own, .int .i64 len, .int .i64 chd] 77)).drew.cell? ⟨w.heap.size, i, none⟩ = W.cell? ⟨w.heap.size, i, none⟩ := fun i => (Chg.of_below (lay1 W (.cells #[.slice A4 b.length C4, .int .i64 cz, .int .i64 mz, .int .i64 pz, .int .i64 ct, .int .i64 mt, .int .i64 ver, .int .i64 cv, .int .i64 own, .int .i64 len, .int .i64 chd] 77)).drew).cell (a := ⟨w.heap.size, i, none⟩) hwl (fun e => e)
      exact ⟨(k 0).trans hd0, (k 5).trans hd5, (k 9).trans hd9⟩
    have hB3 : Below W.heap.size W (W.alloc (.cells #[.slice A4 b.length C4, .int .i64 cz, .int .i64 f.zxid, .int .i64 pz, .int .i64 ct, .int .i64 f.time, .int .i64 f.version, .int .i64 cv, .int .i64 own, .int .i64 len, .int .i64 chd] 77)).drew.drew := (lay1 _ _).drew.drew
    have hput := put_any (hTW.below hB3) f.path hp (hxW.keep (Chg.of_below hB3) (fun _ _ => id)) rfl hl ⟨cz, f.zxid, pz, ct, f.time, f.version, cv, own, len, chd⟩
    simp only [stA, bare] at hput
    have HC : Hid (Chg (fun k => k = m) w (W.alloc (.cells #[.slice A4 b.length C4, .int .i64 cz, .int .i64 f.zxid, .int .i64 pz, .int .i64 ct, .int .i64 f.time, .int .i64 f.version, .int .i64 cv, .int .i64 own, .int .i64 len, .int .i64 chd] 77)).drew.drew) := (Chg.of_below (hBW.trans (hB3.mono hBW.size))).weak fun _ _ e => e.elim
    rw [hW] at hS0 hS1 hS2 hS3 hput HC
    clear hB3
    have hne1 : ¬ w.heap.size + 1 = w.heap.size := by omega
    have hne2 : ¬ w.heap.size = w.heap.size + 1 := by omega
    clear hc0 hlk
    clear h hq hb1 hTW hxW hBW hx hW hqm hqn
    go_enter Tryz.func60, Tryz.ntmps60
    go_wp2_with fail
    go_region_held3 (fun w' => w'.cell? ⟨t, 0, none⟩ = some (.map (some m)) ∧ w'.cell? ⟨w.heap.size, 6, none⟩ = some (.string (mkS f.path)) ∧ (Instr.lookup 35 (.map (some m)) (.string (mkS f.path)) true).run Tryz.prog w' = .ok (.tuple #[(.agg #[.slice A4 b.length C4, .int .i64 cz, .int .i64 mz, .int .i64 pz, .int .i64 ct, .int .i64 mt, .int .i64 ver, .int .i64 cv, .int .i64 own, .int .i64 len, .int .i64 chd]), .bool true]) w')
      (first | exact hS0 | exact hS1 | exact hS2 | go_keep)
      (fail)
    all_goals
      clear hS0 hS1 hS2
      go_wp2_with fail
      go_region_held3 (fun w' => w'.cell? ⟨w.heap.size, 0, none⟩ = some (.int .i64 f.zxid) ∧ w'.cell? ⟨w.heap.size, 5, none⟩ = some (.int .i64 f.time) ∧ w'.cell? ⟨w.heap.size, 9, none⟩ = some (.int .i64 f.version))
        (first | exact hS3 | go_keep)
        (fail)
      go_wp2_with fail
      refine hput.mono ?_
      rintro e w4 ⟨rfl, v, h4, k4⟩
      have HF : Hid _ := And.intro h4 (HC.out.trans k4)
      clear hput h4 k4
      go_wp2_with fail
      go_end0
      exact ⟨rfl, v, HF.out⟩
end Go.Proofs.YtcdnfgibcochhaaGreatDoor
