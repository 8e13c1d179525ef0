/- Watches dropped; what a watch has missed; a watch set again. -/
import Derived.Test.YtkbmbnfpadllmaaDoorBeD
namespace Go.Proofs.YtkbmbnfpadllmaaDoor.We
set_option linter.unusedSimpArgs false
set_option linter.unusedVariables false
open Go.RowKit Go.MapKept
set_option linter.unusedVariables false
set_option linter.unusedSimpArgs false

/- Drop. -/
def dropL (cn : Int) (L : List Wa) : List Wa := L.filter fun x => !decide (x.cn = cn)
set_option maxRecDepth 100000 in
theorem drop_no {w : World} {v : Value} (h : NoT w v) (c : Value) : Calls Tryd.prog 13 #[v, c] w fun e w' => e = .returned (.tuple #[]) ∧ w' = w := by
  have hth := there_no h
  go_enter Tryd.func13, Tryd.ntmps13
  go_wp2_with fail
  refine hth.mono ?_
  rintro e w1 ⟨rfl, rfl⟩
  go_wp2_with fail
  refine bodyPost_ret (results_none rfl _ _ _) rfl ⟨rfl, rfl⟩
set_option maxRecDepth 100000 in
set_option maxHeartbeats 2000000 in
theorem drop_any {w : World} {t m : Nat} {L : List Wa} (h : Tx w t m L) (c : Int) :
    Calls Tryd.prog 13 #[.pointer (some ⟨t, 0, none⟩), .int .i64 c] w fun e w' => e = .returned (.tuple #[]) ∧ Tx w' t m (dropL c L) ∧ Chg (fun k => k = m) w w' := by
  have hth := there_any h.mapc
  have hmc := h.mapc
  have hmap := h.map
  have hltt := h.ltt
  have hltm := h.ltm
  have hne := h.ne
  have HX : Hid (Tx w t m L) := h
  clear h
  go_enter Tryd.func13, Tryd.ntmps13
  go_wp2_with fail
  refine hth.mono ?_
  rintro e w1 ⟨rfl, rfl⟩
  clear hth
  go_wp2_with (first
    | (at_range; refine wpList_rng rfl _ rfl rfl hmap ?_; intro w2 hr2 hc2 hs2)
    | fail)
  have HR : Hid (Ranges w2 m w1.heap.size L L) := hr2
  have HC2 : Hid (Chg Non w1 w2) := hc2
  clear hr2 hc2 hmap hmc
  go_frame
  go_loopw [] (fun wr => ∃ (left ns Lc : List Wa), Ranges wr m w1.heap.size Lc left ∧ Tk (fun x => decide (x.cn = c)) L Lc left ns ∧ w1.heap.size < wr.heap.size ∧ Chg (fun k => k = m) w1 wr) (fun wr => wr.rangeLeft m w1.heap.size)
  case atStart => exact ⟨L, [], L, HR.out, Tk.start HX.out.map.names, by omega, HC2.out.weak fun _ _ e => e.elim⟩
  case round =>
    obtain ⟨left, ns, Lc, hrg, htk, hsz, hch⟩ := hrel
    go_wp2_with (first
      | (at_next; refine wpList_nxt rfl _ rfl rfl hrg ?_ ?_)
      | fail)
    · intro hl0
      subst hl0
      obtain ⟨e1, e2⟩ := htk.fin
      have HF : Hid (Tx wr t m (dropL c L) ∧ Chg (fun k => k = m) w1 wr) := ⟨HX.out.to (by unfold dropL; rw [← e1]; exact hrg.map) hch (fun x hx => HX.out.good x (List.mem_filter.1 hx).1), hch⟩
      clear hrg htk hsz hch e1 e2
      go_wp2_with fail
      go_end0
      exact ⟨rfl, HF.out⟩
    · intro k1 k2 q w3 hl hq hrg3 hc3 hs3 hen
      obtain ⟨cn, so, qp⟩ := q
      simp only at hen
      have hw3 : w1.heap.size < w3.heap.size := by omega
      have hc3' : Chg (fun k => k = m) w1 w3 := hch.trans' hc3 (fun k hk e => by omega)
      obtain ⟨W, hW⟩ : ∃ W, W = w3.alloc (.cells #[.int .i64 cn, .int .u8 so, .string (mkS qp)] 69) := ⟨_, rfl⟩
      have hwW : Chg Non w3 W := by rw [hW]; exact Chg.alloc _ _ _
      have hcW : Chg (fun k => k = m) w1 W := hc3'.trans (hwW.weak fun _ _ e => e.elim)
      have hbW : W.heap[w3.heap.size]? = some (.cells #[.int .i64 cn, .int .u8 so, .string (mkS qp)] 69 (0, 0)) := by rw [hW]; exact heap_alloc_new _ _
      have d0 := cellAt hbW 0
      have d1 := cellAt hbW 1
      have d2 := cellAt hbW 2
      simp at d0 d1 d2
      have hRGW : Ranges W m w1.heap.size Lc (k1 ++ k2) := hrg3.keep hwW id id
      have hszW : w1.heap.size < W.heap.size := by have := hwW.size; omega
      have HM : Hid (wr.rangeLeft m w1.heap.size = (k1 ++ k2).length + 1) := by
        show _ = _
        rw [hrg.left_eq, hl]; simp; omega
      have HF : Hid (Ranges W m w1.heap.size Lc (k1 ++ k2) ∧ w1.heap.size < W.heap.size ∧ Chg (fun k => k = m) w1 W) := ⟨hRGW, hszW, hcW⟩
      have HTK : Hid (Tk (fun x => decide (x.cn = c)) L Lc (k1 ++ ⟨cn, so, qp⟩ :: k2) ns) := by rw [← hl]; exact htk
      have hmW : W.cell? ⟨t, 0, none⟩ = some (.map (some m)) := (hcW.cell (a := ⟨t, 0, none⟩) hltt hne).trans HX.out.mapc
      clear hrg hrg3 hc3 hs3 hwW hRGW hszW hc3' hcW hch htk hl
      go_upto_region 4 with fail
      rw [← hW]
      by_cases hp : cn = c
      · have HQ : Hid ((fun x : Wa => decide (x.cn = c)) ⟨cn, so, qp⟩ = true) := by show decide _ = true; simpa using hp
        have hbe : (cn == c) = true := by simpa using hp
        have hnq : (⟨cn, so, qp⟩ : Wa) ∉ k1 ++ k2 := by
          have := HTK.out.nd
          rw [List.nodup_append] at this
          intro e
          rcases List.mem_append.1 e with e | e
          · exact this.2.2 _ e _ (.head _) rfl
          · exact (List.nodup_cons.1 this.2.1).1 e
        obtain ⟨w5, hrun5, hR5, hc5, hs5⟩ := (HF.out.1.keep (Chg.drew Non W) id id).delete ⟨cn, so, qp⟩ hnq 0
        simp only [keyV] at hrun5
        have hW5 : Chg (fun k => k = m) W w5 := (Chg.drew _ W).trans hc5
        have hKm : ¬ w3.heap.size = m := by omega
        have up : ∀ {a : Addr} {x : Value}, W.cell? a = some x → ¬ a.block = m → w5.cell? a = some x := by
          intro a x hx hne
          exact (hc5.cell (a := a) (by obtain ⟨d, i, pt⟩ := a; rcases Nat.lt_or_ge d W.heap.size with e | e; exact e; simp [World.cell?, Array.getElem?_eq_none e] at hx) hne).trans hx
        have e1 := up hmW hne
        have e2 := up d0 hKm
        have e3 := up d1 hKm
        have e4 := up d2 hKm
        have HE : Hid (Ranges w5 m w1.heap.size (Lc.erase ⟨cn, so, qp⟩) (k1 ++ k2) ∧ Tk (fun x => decide (x.cn = c)) L (Lc.erase ⟨cn, so, qp⟩) (k1 ++ k2) (ns ++ [⟨cn, so, qp⟩]) ∧ w1.heap.size < w5.heap.size ∧ Chg (fun k => k = m) w1 w5) :=
          ⟨hR5, HTK.out.gone HQ.out, by have := hW5.size; have := HF.out.2.1; omega, HF.out.2.2.trans hW5⟩
        clear hW hp hnq hR5 hc5 hs5 hW5 up
        go_upto_region 5 with fail
        go_region_held3 (fun w' => w'.cell? ⟨t, 0, none⟩ = some (.map (some m)) ∧ w'.cell? ⟨w3.heap.size, 0, none⟩ = some (.int .i64 cn) ∧ w'.cell? ⟨w3.heap.size, 1, none⟩ = some (.int .u8 so) ∧ w'.cell? ⟨w3.heap.size, 2, none⟩ = some (.string (mkS qp)))
          (first | exact ⟨hmW, d0, d1, d2⟩ | exact ⟨e1, e2, e3, e4⟩ | go_keep)
          (fail)
        go_wp2_with fail
        go_roundw
        case rel => exact ⟨k1 ++ k2, ns ++ [⟨cn, so, qp⟩], Lc.erase ⟨cn, so, qp⟩, HE.out⟩
        case measure => rw [HE.out.1.left_eq, HM.out]; omega
      · have HQ : Hid ((fun x : Wa => decide (x.cn = c)) ⟨cn, so, qp⟩ = false) := by show decide _ = false; simpa using hp
        have hbe : (cn == c) = false := by simpa using hp
        clear hp hW
        go_wp2_with fail
        go_roundw
        case rel => exact ⟨k1 ++ k2, ns, Lc, HF.out.1, HTK.out.kept HQ.out, HF.out.2⟩
        case measure => rw [HF.out.1.left_eq, HM.out]; omega
end Go.Proofs.YtkbmbnfpadllmaaDoor.We
