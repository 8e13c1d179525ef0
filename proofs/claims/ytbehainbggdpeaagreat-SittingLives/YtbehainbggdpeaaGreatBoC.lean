/- The walk of Tick. -/
import Derived.Test.YtbehainbggdpeaaGreatBoB
import Derived.Test.YtbehainbggdpeaaGreatBoT
import Derived.Test.YtbehainbggdpeaaGreatShelf
import Derived.Deep.CutRange
import Derived.Deep.CutBlock
import Derived.Lib.SlKeysI
namespace Go.Proofs.YtbehainbggdpeaaGreat
set_option linter.unusedSimpArgs false
set_option linter.unusedVariables false
open Go.RowKit Go.MapKept
open Go.Sort (Holds putRow grow)
set_option linter.unusedVariables false
set_option linter.unusedSimpArgs false

theorem info2 : (Tryz.prog.info? 2).map (fun i => (i.zero, i.size, i.bytes)) = some (some (.int .i64 0), 1, 8) := by kernel_rfl
def iv (l : List Int) : List Value := l.map encZ
theorem iv_one (l : List Int) : ∀ u ∈ iv l, u.oneCell' = true := by
  intro u hu
  obtain ⟨y, _, rfl⟩ := List.mem_map.1 hu
  rfl
theorem heap_set {w : World} {g T : Nat} {cs : Array Value} {fr : Nat × Nat} (h : w.heap[g]? = some (.cells cs T fr)) (i : Nat) (v : Value) : (w.setCell ⟨g, i, none⟩ v).heap[g]? = some (.cells (cs.setIfInBounds i v) T fr) := by
  simp [World.setCell, Array.getElem?_modify, h]
theorem Bx.time {w : World} {b m : Nat} {now : Int} {S : List Fi} (h : Bx w b m now S) (n : Int) (hn : 0 ≤ n ∧ n ≤ late) : Bx (w.setCell ⟨b, 0, none⟩ (.int .i64 n)) b m n S := by
  obtain ⟨L, h1, h2⟩ := h.map
  refine ⟨?_, ⟨L, h1.keep (Chg.setCell (S := fun k => k = b) w ⟨b, 0, none⟩ _ rfl) (fun e => h.ne e.symm), h2⟩, h.up, h.nums, hn⟩
  have := heap_set h.cell 0 (.int .i64 n)
  simpa using this
theorem ifm {T : TypeId} {sz : Nat} {w : World} {base n : Nat} {v : Value} {xs : List Value} (h : w.ownsRow base T sz v n xs) : ∃ A C, v = .slice A n C := by
  rcases h.2 with ⟨rfl, rfl⟩ | ⟨g, cap, cur, rfl, _⟩
  · exact ⟨none, 0, rfl⟩
  · exact ⟨_, cap, rfl⟩
theorem iblk {T : TypeId} {sz : Nat} {w : World} {base : Nat} {v : Value} {n : Nat} {xs : List Value} (h : w.ownsRow base T sz v n xs) {k : Nat} (hk : v.ownBlock = some k) : ∃ cur, w.heap[k]? = some (.cells cur T (0, 0)) ∧ base ≤ k := by
  rcases h.2 with ⟨rfl, _⟩ | ⟨g, cap, cur, rfl, hb, hg, hr⟩
  · cases hk
  · cases hk; exact ⟨cur, hg, hb⟩
theorem cell_one (w : World) (u : Value) (T : TypeId) : ∀ j y, [u][j]? = some y → (w.alloc (.cells #[u] T)).cell? ((⟨w.heap.size, 0, none⟩ : Addr).add j) = some y := by
  intro j y hy
  rw [show (⟨w.heap.size, 0, none⟩ : Addr).add j = ⟨w.heap.size, j, none⟩ by simp only [Addr.add]; split <;> simp_all, cell_at (heap_alloc_new w _)]
  simpa using hy

theorem Bx.ticked {w w' : World} {b m : Nat} {now : Int} {S : List Fi} (h : Bx w b m now S) (hc : Chg (fun k => k = m) w w') {Lc : List Fv} (hm : MapIs w' m Lc) (hp : Lc.Perm (rest now S)) : Bx w' b m now (rest now S) :=
  ⟨by rw [hc.block b h.ltb h.ne]; exact h.cell, ⟨_, hm, hp⟩, asc_rest h.up, fun q hq => h.nums q (List.mem_filter.1 hq).1, h.nw⟩
theorem ne_iter {w : World} {m r base n : Nat} {T : TypeId} {v : Value} {xs : List Value} {L : List Fv} {left : List Int} (hg : Ranges w m r L left) (h : w.ownsRow base T 1 v n xs) : ∀ k, v.ownBlock = some k → k ≠ m ∧ k ≠ r := by
  intro k hk
  obtain ⟨cur, hcu, _⟩ := iblk h hk
  obtain ⟨es, cl, si, se, c0, h1, _, _, h4, _⟩ := hg
  constructor
  · intro e; rw [e, h1] at hcu; cases hcu
  · intro e; rw [e, h4] at hcu; cases hcu

set_option maxRecDepth 100000 in
theorem tick_no {w : World} {v : Value} (h : NoBook w v) (n : Value) : Calls Tryz.prog 19 #[v, n] w fun e w' => e = .returned (.slice none 0 0) ∧ w' = w := by
  have hth := there_no h
  go_enter Tryz.func19, Tryz.ntmps19
  go_wp2_with fail
  refine hth.mono ?_
  rintro e w1 ⟨rfl, rfl⟩
  go_wp2_with fail
  go_ret
  exact ⟨rfl, rfl⟩
set_option maxRecDepth 100000 in
set_option maxHeartbeats 2000000 in
theorem tick_any {w : World} {b m : Nat} {now : Int} {S : List Fi} (h : Bx w b m now S) (n : Int) (hlen : S.length ≤ 1000000) :
    Calls Tryz.prog 19 #[.pointer (some ⟨b, 0, none⟩), .int .i64 n] w fun e w' => ∃ A C, e = .returned (.slice A (told (tickN now n) S).length C) ∧ w'.ownsRow w.heap.size 2 1 (.slice A (told (tickN now n) S).length C) (told (tickN now n) S).length (iv (told (tickN now n) S)) ∧
      Bx w' b m (tickN now n) (rest (tickN now n) S) ∧ Chg (Own b m) w w' := by
  have hth := there_any h.mapc
  have hc0 := h.nowc
  obtain ⟨N, hN⟩ : ∃ N, tickN now n = N := ⟨_, rfl⟩
  rw [hN]
  have HN : Hid (tickN now n = N) := hN
  have HX : Hid (Bx w b m now S) := h
  have hnw := h.nw
  have hf0 : w.frozen? ⟨b, 0, none⟩ = false := frozen_at h.cell 0
  have HNW : Hid (0 ≤ N ∧ N ≤ late) := by
    show 0 ≤ N ∧ N ≤ late
    rw [← hN]; unfold tickN late at *; split <;> omega
  obtain ⟨i0, hi, hz0, hz1, hz2⟩ := info_parts info2
  clear h hN hnw
  go_enter Tryz.func19, Tryz.ntmps19
  go_wp2_with fail
  refine hth.mono ?_
  rintro e w1 ⟨rfl, rfl⟩
  clear hth
  go_upto_if 12 with fail
  go_cut [] from 13 to 21 (fun wx => Bx wx b m N S ∧ Chg (Own b m) w1 wx ∧ wx.heap.size = w1.heap.size)
  case first =>
    by_cases h1 : n ≤ 1152921504606846976
    · have hn2 := HN.out
      unfold tickN late at hn2
      rw [if_pos h1] at hn2
      go_wp2_with fail
      go_meet
      exact ⟨HX.out.time N HNW.out, Chg.setCell (S := Own b m) w1 ⟨b, 0, none⟩ _ (.inl rfl), by simp⟩
    · have hn2 := HN.out
      unfold tickN late at hn2
      rw [if_neg h1] at hn2
      go_wp2_with fail
      go_meet
      exact ⟨by rw [← hn2]; exact HX.out, Chg.refl _ _, rfl⟩
  case rest =>
  obtain ⟨hb1, hc1, hs1⟩ := hcut
  have hm1 := hb1.mapc
  obtain ⟨L, hL, hp⟩ := hb1.map
  have HLP : Hid (L.Perm S) := hp
  have HLN : Hid ((L.map fun p => p.nm).Nodup) := hb1.names hp
  have HLL : Hid (L.length ≤ 1000000) := by show _ ≤ _; rw [hp.length_eq]; exact hlen
  have HML : Hid (m < wc.heap.size ∧ b < wc.heap.size ∧ b ≠ m) := ⟨hb1.ltm, hb1.ltb, hb1.ne⟩
  have HB1 : Hid (Bx wc b m N S) := hb1
  have HC1 : Hid (Chg (Own b m) w1 wc ∧ wc.heap.size = w1.heap.size) := ⟨hc1, hs1⟩
  clear hb1 hc1 hs1 hp hlen hc0 hf0
  go_wp2_with (first
    | (at_range; refine wpList_rng rfl _ rfl rfl hL ?_; intro w2 hr2 hc2 hs2)
    | fail)
  have HR : Hid (Ranges w2 m wc.heap.size L (L.map fun p => p.nm)) := hr2
  have HC2 : Hid (Chg (fun k => k = m) wc w2) := hc2.weak fun k _ e => e.elim
  clear hr2 hc2 hs2 hL
  go_frame
  go_loopw [5] (fun v wr => ∃ (left ns : List Int) (Lc : List Fv), wr.ownsRow wc.heap.size 2 1 v ns.length (iv ns) ∧ Ranges wr m wc.heap.size Lc left ∧ Tkd N L Lc left ns ∧ Chg (fun k => k = m) wc wr) (fun _ wr => wr.rangeLeft m wc.heap.size)
  case atStart => exact ⟨_, [], L, World.ownsRow_nil _ _ _ _, HR.out, Tkd.start HLN.out, HC2.out⟩
  case round =>
    obtain ⟨left, ns, Lc, hown, hrg, htk, hch⟩ := hrel
    have hce0 : wr.cell? ⟨b, 0, none⟩ = some (.int .i64 N) := (hch.cell (a := ⟨b, 0, none⟩) HML.out.2.1 HML.out.2.2).trans HB1.out.nowc
    have hce1 : wr.cell? ⟨b, 1, none⟩ = some (.map (some m)) := (hch.cell (a := ⟨b, 1, none⟩) HML.out.2.1 HML.out.2.2).trans HB1.out.mapc
    go_wp2_with (first
      | (at_next; refine wpList_nxt rfl _ rfl rfl hrg ?_ ?_)
      | fail)
    · intro hl0
      subst hl0
      obtain ⟨hpr, hpt⟩ := htk.fin hrg.map.names HLP.out HB1.out.up
      have hB2 := HB1.out.ticked hch hrg.map hpr
      have hsz : wc.heap.size ≤ wr.heap.size := hch.size
      have HE : Hid (Bx wr b m N (rest N S) ∧ Chg (Own b m) w1 wr ∧ wc.heap.size ≤ wr.heap.size) := ⟨hB2, HC1.out.1.trans (hch.weak fun k _ e => .inr e), hsz⟩
      have HT : Hid (sortN ns = told N S) := by show sortN ns = told N S; rw [sortN_perm hpt, sortN_asc (told_asc HB1.out.up)]
      have HTL : Hid (ns.length = (told N S).length) := hpt.length_eq
      have hlen3 : ns.length ≤ 1000000 := by have := htk.told_len; have := HLL.out; omega
      clear hpr hpt hB2 hch hrg htk hce0 hce1
      rcases hown.2 with ⟨hnil, h0⟩ | ⟨g, cp0, cur, hv, hbase, hb, h1, h2, h3, h4⟩
      · have hns : ns = [] := List.length_eq_zero_iff.1 h0
        clear hown
        subst hnil
        subst hns
        go_wp2_with fail
        refine (Tryz.slices_Sort_i64_none none 0 _).mono ?_
        rintro e w5 ⟨rfl, rfl⟩
        go_wp2_with fail
        go_ret
        have hL0 : told N S = [] := List.length_eq_zero_iff.1 HTL.out.symm
        rw [hL0]
        exact ⟨none, 0, rfl, World.ownsRow_nil _ _ _ _, HE.out.1, HE.out.2.1⟩
      · have hsort := Tryz.slices_Sort_i64 g 0 cp0 ns wr (holds_of_block_i hb (by simpa [iv] using h4)) (heap_lt hb) (by omega)
        have HBK : Hid _ := hb
        have H1 : Hid (ns.length ≤ cp0) := h1
        have H2 : Hid (cp0 ≤ maxLen) := h2
        have H3 : Hid _ := h3
        have HBS : Hid (wc.heap.size ≤ g) := hbase
        clear hown hb h1 h2 h3 h4 hbase
        subst hv
        go_wp2_with fail
        refine hsort.mono ?_
        rintro e w5 ⟨rfl, n5, os5, hw5⟩
        have HW5 : Hid (w5 = grow (putRow encZ (Go.Sort.ahead wr n5) g 0 (ns.mergeSort fun x y => decide (x ≤ y)).toArray) os5) := hw5
        clear hsort hw5
        go_wp2_with fail
        go_ret
        have hc5 : Chg (fun k => some g = some k) wr w5 := by rw [HW5.out]; exact Chg.of_grown (grownBy_sorted_i _)
        have hgb : b ≠ g ∧ m ≠ g := by have := HML.out; have := HBS.out; omega
        refine ⟨some ⟨g, 0, none⟩, cp0, by rw [← HTL.out]; rfl, ?_, HE.out.1.keep hc5 (fun e => hgb.1 (by injection e with e; exact e.symm)) (fun e => hgb.2 (by injection e with e; exact e.symm)), ?_⟩
        · rw [← HTL.out, ← HT.out, HW5.out]
          exact ownsRow_sorted_i (by simp [sortN]) (by rw [← HC1.out.2]; exact HBS.out) HBK.out H1.out H2.out H3.out
        · exact HE.out.2.1.trans' hc5 (fun k hk e => by injection e with e; have := HBS.out; have := HC1.out.2; omega)
    · intro l1 l2 q w3 hl hlk hrg3 hc3 hs3 hen
      obtain ⟨nm, tm, en⟩ := q
      simp only at hl hen
      have hqm := (look_some hlk).1
      have hne := ne_iter hrg hown
      have hsz : wc.heap.size ≤ wr.heap.size := hch.size
      have hce0' : w3.cell? ⟨b, 0, none⟩ = some (.int .i64 N) := (hc3.cell (a := ⟨b, 0, none⟩) (by have := HML.out; show b < _; omega) (by have := HML.out; show ¬ b = _; omega)).trans hce0
      have hce1' : w3.cell? ⟨b, 1, none⟩ = some (.map (some m)) := (hc3.cell (a := ⟨b, 1, none⟩) (by have := HML.out; show b < _; omega) (by have := HML.out; show ¬ b = _; omega)).trans hce1
      have hlb3 : b < w3.heap.size := by have := HML.out; omega
      have hlb4 : ¬ b = w3.heap.size := by omega
      have hown3 : w3.ownsRow wc.heap.size 2 1 u5 ns.length (iv ns) := owns_keep hown hc3 (fun k hk e => (hne k hk).2 e)
      have HO : Hid (w3.ownsRow wc.heap.size 2 1 u5 ns.length (iv ns)) := hown3
      have HNE : Hid (∀ k, u5.ownBlock = some k → k ≠ m ∧ k ≠ wc.heap.size) := hne
      have HS : Hid (wc.heap.size ≤ w3.heap.size) := by rw [hs3]; exact hsz
      have HC3 : Hid (Chg (fun k => k = m) wc w3) := hch.trans' hc3 (fun k hk e => by omega)
      have HG3 : Hid (Ranges w3 m wc.heap.size Lc (l1 ++ l2)) := hrg3
      have HG : Hid (wr.rangeLeft m wc.heap.size = (l1 ++ l2).length + 1) := by show _ = _; rw [hrg.left_eq, hl]; simp; omega
      have HLcn : Hid ((Lc.map fun p => p.nm).Nodup) := hrg.map.names
      have HQ : Hid (⟨nm, tm, en⟩ ∈ Lc) := hqm
      have HTK : Hid (Tkd N L Lc left ns) := htk
      have HL : Hid (left = l1 ++ nm :: l2) := hl
      have HNL : Hid (ns.length + 1 ≤ 1000000) := by show _ ≤ _; have := htk.len; have := HLL.out; rw [hl] at *; simp at *; omega
      have HNN : Hid (nm ∉ l1 ++ l2) := by
        show nm ∉ l1 ++ l2
        have hnd := htk.ndl
        rw [hl, List.nodup_append] at hnd
        intro e
        rcases List.mem_append.1 e with e | e
        · exact hnd.2.2 _ e _ (.head _) rfl
        · exact (List.nodup_cons.1 hnd.2.1).1 e
      obtain ⟨A4, C4, hv4⟩ := ifm hown
      subst hv4
      clear hown hown3 hrg hrg3 hch hce0 hce1 hs3 hsz hc3 hne hlk hl hqm htk
      have p0 : (w3.alloc (.cells #[.int .i64 tm, .int .i64 en] 53)).cell? ⟨w3.heap.size, 1, none⟩ = some (.int .i64 en) := by simp
      by_cases he : en ≤ N
      · go_wp2_with fail
        go_quiet (fail)
        obtain ⟨W, hW⟩ : ∃ W, W = (w3.alloc (.cells #[.int .i64 tm, .int .i64 en] 53)).drewN nq := ⟨_, rfl⟩
        have hWs : W.heap.size = w3.heap.size + 1 := by rw [hW]; cases nq <;> simp [World.drewN]
        have hWc : Chg Non w3 W := by rw [hW]; exact (Chg.alloc _ _ _).trans (Chg.drewN _ _ _)
        have HGW : Hid (Ranges W m wc.heap.size Lc (l1 ++ l2)) := HG3.out.keep hWc id id
        have HOW : Hid (W.ownsRow wc.heap.size 2 1 (.slice A4 ns.length C4) ns.length (iv ns)) := owns_keep HO.out hWc (fun _ _ => id)
        have HCW : Hid (Chg (fun k => k = m) wc W) := HC3.out.trans (hWc.weak fun _ _ e => e.elim)
        have hca : W.cell? ⟨b, 1, none⟩ = some (.map (some m)) := (hWc.cell (a := ⟨b, 1, none⟩) hlb3 id).trans hce1'
        rw [← hW]
        clear hW hWc hce0' hce1' p0 hen
        go_wp2_with (first
          | (at_delete; refine wpList_delR rfl _ _ rfl nm HNN.out rfl rfl HGW.out ?_; intro w4 hm4 hc4 hs4; have hs4' : w4.heap.size = w3.heap.size + 1 := hs4.trans hWs; have HM4 : Hid (Ranges w4 m wc.heap.size (delL nm Lc) (l1 ++ l2)) := hm4; have HC4 : Hid (Chg (fun k => k = m) W w4) := hc4; have HO4 : Hid (w4.ownsRow wc.heap.size 2 1 (.slice A4 ns.length C4) ns.length (iv ns)) := owns_keep HOW.out hc4 (fun k hk e => (HNE.out k hk).1 e); clear hm4 hc4 hs4)
          | (at_builtin; refine wpList_append_own_at _ rfl (.tmp 44) (.tmp 46) 31 rfl wc.heap.size 2 i0 (.int .i64 0) 1 8 Tryz.underlying31 hi hz0 hz1 hz2 rfl (by decide) _ ns.length (iv ns) rfl (HO4.out.alloc _) ⟨w3.heap.size + 1, 0, none⟩ 1 1 [.int .i64 nm] rfl rfl (by have := cell_one w4 (.int .i64 nm) 2; rw [hs4'] at this; exact this) (iv_one [nm]) (by have := HNL.out; unfold maxLen; omega) (by have := HNL.out; omega) (by have := HS.out; simp; omega) ?_; intro v5 w5 ho5 hg5 hn5 hl5)
          | fail)
        have hgc : Chg (fun k => (Value.slice A4 ns.length C4).ownBlock = some k) (w4.alloc (.cells #[.int .i64 nm] 2)) w5 := Chg.of_grown hg5
        have hr5 : Ranges w5 m wc.heap.size (delL nm Lc) (l1 ++ l2) := (HM4.out.alloc _).keep hgc (fun e => (HNE.out _ e).1 rfl) (fun e => (HNE.out _ e).2 rfl)
        go_roundw
        case rel =>
          refine ⟨l1 ++ l2, ns ++ [nm], delL nm Lc, ?_, hr5, HTK.out.gone HL.out HQ.out HLcn.out he, ?_⟩
          · rw [List.length_append, iv, List.map_append]; exact ho5
          · refine (HCW.out.trans HC4.out).trans' ((Chg.alloc (fun k => (Value.slice A4 ns.length C4).ownBlock = some k) w4 _).trans hgc) ?_
            intro k hk e
            obtain ⟨_, _, hle⟩ := iblk HO.out e
            omega
        case measure =>
          rw [hr5.left_eq, HG.out]; omega
      · have he' : N < en := by omega
        go_wp2_with fail
        go_quiet (fail)
        obtain ⟨W, hW⟩ : ∃ W, W = (w3.alloc (.cells #[.int .i64 tm, .int .i64 en] 53)).drewN nq := ⟨_, rfl⟩
        have hWc : Chg Non w3 W := by rw [hW]; exact (Chg.alloc _ _ _).trans (Chg.drewN _ _ _)
        have HGW : Hid (Ranges W m wc.heap.size Lc (l1 ++ l2)) := HG3.out.keep hWc id id
        have HOW : Hid (W.ownsRow wc.heap.size 2 1 (.slice A4 ns.length C4) ns.length (iv ns)) := owns_keep HO.out hWc (fun _ _ => id)
        have HCW : Hid (Chg (fun k => k = m) wc W) := HC3.out.trans (hWc.weak fun _ _ e => e.elim)
        rw [← hW]
        clear hW hWc hce0' hce1' p0 hen
        go_wp2_with fail
        go_roundw
        case rel => exact ⟨l1 ++ l2, ns, Lc, HOW.out, HGW.out, HTK.out.kept HL.out HQ.out he', HCW.out⟩
        case measure => rw [HGW.out.left_eq, HG.out]; omega
end Go.Proofs.YtbehainbggdpeaaGreat
