/- Trees: List of a node that is there. -/
import Derived.Test.YteaomigmamnobaaGreatDoorTrR
import Derived.Test.YteaomigmamnobaaGreatDoorTrM
import Derived.Sort.OwnSorted
namespace Go.Proofs.YteaomigmamnobaaGreatDoor
set_option linter.unusedSimpArgs false
set_option linter.unusedVariables false
open Go.RowKit Go.MapKept
open Go.Sort (Holds putRow grow)
set_option linter.unusedVariables false
set_option linter.unusedSimpArgs false

def sortN (l : List (List UInt8)) : List (List UInt8) := l.mergeSort fun x y => decide (x ≤ y)
theorem le_total_bytes (a b : List UInt8) : (decide (a ≤ b) || decide (b ≤ a)) = true := by
  have := List.le_total a b
  simpa using this
theorem sortN_perm {a b : List (List UInt8)} (h : a.Perm b) : sortN a = sortN b := by
  have tr : ∀ (x y z : List UInt8), decide (x ≤ y) = true → decide (y ≤ z) = true → decide (x ≤ z) = true := by
    intro x y z h1 h2
    simp only [decide_eq_true_eq] at *
    exact List.le_trans h1 h2
  have tt : ∀ (x y : List UInt8), (decide (x ≤ y) || decide (y ≤ x)) = true := le_total_bytes
  refine List.Perm.eq_of_pairwise (le := fun x y => decide (x ≤ y) = true) ?_ (List.pairwise_mergeSort tr tt a) (List.pairwise_mergeSort tr tt b) (((List.mergeSort_perm a _).trans h).trans (List.mergeSort_perm b _).symm)
  intro x y _ _ h1 h2
  simp only [decide_eq_true_eq] at h1 h2
  exact List.le_antisymm h1 h2
theorem ttext_at {w : World} {b0 : Nat} {A : Option Addr} {C : Nat} {cs : List (List UInt8)} (h : w.ownsRow b0 9 1 (.slice A cs.length C) cs.length (cs.map encStr)) (k : Nat) (hk : k < cs.length) : ∃ g, A = some ⟨g, 0, none⟩ ∧ g < w.heap.size ∧ w.cell? ⟨g, k, none⟩ = some (.string (mkS (cs[k]'hk))) := by
  rcases h.2 with ⟨_, h0⟩ | ⟨g, cap, cur, hv, hb, hg, hr⟩
  · omega
  · cases hv
    refine ⟨g, rfl, theap_lt hg, ?_⟩
    rw [h.cellAt k (by omega)]
    simp [hk]
    rfl
set_option maxRecDepth 100000 in
set_option maxHeartbeats 20000000 in
theorem list_yes {w : World} {t m n : Nat} {L : List Fv} {K : List Si.Fv} (h : Tk w t m n L K) (hL : PA.Laid w) (hlen : L.length ≤ 1000000) (p : List UInt8) {q : Fi} {A : Option Addr} {C : Nat} (hq : look p L = some (q, .slice A q.b.length C)) :
    Calls Tryz.prog 22 #[.pointer (some ⟨t, 0, none⟩), .string (mkS p)] w fun e w' => ∃ (ns : List (List UInt8)) (A' : Option Addr) (C' : Nat), e = .returned (.tuple #[.slice A' ns.length C', .bool true]) ∧ ns = sortN (((L.map fun q => q.1.nm).filter (kid p)).map PA.lastS) ∧ w'.ownsRow w.heap.size 9 1 (.slice A' ns.length C') ns.length (ns.map encStr) ∧ Below w.heap.size w w' := by
  have hf := find_yes h p hq
  go_enter Tryz.func22, Tryz.ntmps22
  go_wp2_with fail
  refine hf.mono ?_
  rintro e w1 ⟨rfl, hb1⟩
  have HB1 : Hid (Below w.heap.size w w1) := hb1
  have hB2 : ∀ o, Below w.heap.size w (w1.alloc o) := fun o => hb1.trans ((lay1 _ _).mono hb1.size)
  have hch := fun o => children_any (h.below (hB2 o)) (hL.below (hB2 o)) hlen p
  have HB2 : Hid (∀ o, Below w.heap.size w (w1.alloc o)) := hB2
  have HLD : Hid (PA.Laid w) := hL
  have hfl : ((L.map fun q => q.1.nm).filter (kid p)).length ≤ 1000000 := by
    have := List.length_filter_le (kid p) (L.map fun q => q.1.nm)
    rw [List.length_map] at this
    omega
  generalize hFS : (L.map fun q => q.1.nm).filter (kid p) = FS at hch hfl ⊢
  have HFS : Hid ((L.map fun q => q.1.nm).filter (kid p) = FS) := hFS
  clear hf hb1 hB2 h hL hFS hq hlen
  go_wp2_with fail
  refine (hch _).mono ?_
  rintro e w2 ⟨cs, A5, C5, rfl, hpm, ho5, hb2⟩
  have HB3 : Hid (Below w.heap.size w w2) := (HB2.out _).trans (hb2.mono (HB2.out _).size)
  have HO5 : Hid (∃ b0, w.heap.size ≤ b0 ∧ w2.ownsRow b0 9 1 (.slice A5 cs.length C5) cs.length (cs.map encStr)) := ⟨_, (HB2.out _).size, ho5⟩
  have HPM : Hid (cs.Perm FS) := hpm
  have hcl : cs.length ≤ 1000000 := by rw [hpm.length_eq]; exact hfl
  clear hch HB2 HB1 hpm ho5 hb2 hfl
  go_wp2_with fail
  obtain ⟨i0, hi, hz0, hz1, hz2⟩ := info_parts tinfo9
  go_loopw [8, 23] (fun v c wr => ∃ k : Nat, k ≤ cs.length ∧ c = .int .i64 k ∧ wr.ownsRow w2.heap.size 9 1 v k (((cs.take k).map PA.lastS).map encStr) ∧ Below w2.heap.size w2 wr) (fun _ c _ => cs.length - (intOf c).toNat)
  case atStart => exact ⟨0, by omega, rfl, World.ownsRow_nil _ _ _ _, Below.refl _ _⟩
  case round =>
    obtain ⟨k, hk, rfl, hown, hB⟩ := hrel
    have HO : Hid (wr.ownsRow w2.heap.size 9 1 u8 k (((cs.take k).map PA.lastS).map encStr)) := hown
    have HB : Hid (Below w2.heap.size w2 wr) := hB
    obtain ⟨A4, C4, hv4⟩ := towns_formS hown
    subst hv4
    by_cases hlt : k < cs.length
    · obtain ⟨b0, hb0, ho5⟩ := HO5.out
      obtain ⟨g, rfl, hg, hcell⟩ := ttext_at ho5 k hlt
      have hc2 : wr.cell? ⟨g, k, none⟩ = some (.string (mkS (cs[k]'hlt))) := by rw [hB.cell (p := ⟨g, k, none⟩) hg]; exact hcell
      have hbase := PA.base_k (cs[k]'hlt) wr wr ⟨(HLD.out.below HB3.out).below hB, Below.refl _ _⟩
      have HX : Hid ((((cs.take k).map PA.lastS).map encStr) ++ [.string (mkS (PA.lastS (cs[k]'hlt)))] = (((cs.take (k + 1)).map PA.lastS).map encStr)) := by
        show _ = _
        rw [List.take_succ_eq_append_getElem hlt, List.map_append, List.map_append]
        rfl
      generalize (cs[k]'hlt) = x at hc2 hbase HX hcell
      clear ho5 hcell hown hB
      go_wp2_with fail
      refine hbase.mono ?_
      rintro e w5 ⟨rfl, hk5⟩
      have hb5 : Below wr.heap.size wr w5 := hk5.below
      have hs5 : w2.heap.size ≤ w5.heap.size := by have := hb5.size; have := HB.out.size; omega
      have HO6 : Hid (w5.ownsRow w2.heap.size 9 1 (.slice A4 k C4) k (((cs.take k).map PA.lastS).map encStr)) := towns_keep HO.out (Chg.of_below hb5) (fun _ _ => id)
      have HB6 : Hid (Below w2.heap.size w2 w5) := HB.out.trans (hb5.mono HB.out.size)
      clear hbase hk5 hb5 hc2
      go_wp2_with (first
        | (at_builtin; refine wpList_append_own_at _ rfl (.tmp 27) (.tmp 30) 51 rfl w2.heap.size 9 i0 (.string ⟨#[]⟩) 1 16 Tryz.underlying51 hi hz0 hz1 hz2 rfl (by decide) _ k (((cs.take k).map PA.lastS).map encStr) rfl (HO6.out.alloc _) ⟨w5.heap.size, 0, none⟩ 1 1 [.string (mkS (PA.lastS x))] rfl rfl (cell_one_new _ _ _) (tstr_one [PA.lastS x]) (by unfold maxLen; omega) (by omega) (by simp; omega) ?_; intro v6 w6 ho6 hg6 hn6 hl6)
        | fail)
      have hgc : Chg (fun j => Value.ownBlock (.slice A4 k C4) = some j) (w5.alloc (.cells #[.string (mkS (PA.lastS x))] 9)) w6 := Chg.of_grown hg6
      have hb6 : Below w2.heap.size w2 w6 := by
        refine (HB6.out.alloc hs5 _).trans (hgc.below (fun j hj => ?_) (by simp; omega))
        obtain ⟨_, _, hle⟩ := towns_block HO6.out hj
        exact hle
      have HB7 : Hid (Below w2.heap.size w2 w6) := hb6
      clear hgc hb6 hg6
      go_roundw
      case rel => exact ⟨k + 1, by omega, rfl, by rw [← HX.out]; exact ho6, HB7.out⟩
      case measure => simp [intOf]; omega
    · have hkk : k = cs.length := by omega
      subst hkk
      have hrow : wr.ownsRow w2.heap.size 9 1 (.slice A4 cs.length C4) cs.length ((cs.map PA.lastS).map encStr) := by have := HO.out; rw [List.take_length] at this; exact this
      have HR : Hid (sortN (FS.map PA.lastS) = sortN (cs.map PA.lastS)) := (sortN_perm (HPM.out.map PA.lastS)).symm
      have hnl : (cs.map PA.lastS).length = cs.length := List.length_map _
      have HSL : Hid ((sortN (cs.map PA.lastS)).length = cs.length) := by show _ = _; rw [sortN, List.length_mergeSort, hnl]
      generalize hNS : cs.map PA.lastS = ns at hrow HR hnl HSL
      clear hNS HO hown
      have HNL : Hid (ns.length = cs.length) := hnl
      rcases hrow.2 with ⟨hnil, h0⟩ | ⟨g, cap, cur, hv, hbase, hb, h1, h2, h3, h4⟩
      · have hc0 : cs = [] := List.length_eq_zero_iff.1 h0
        have hn0 : ns = [] := List.length_eq_zero_iff.1 (by omega)
        subst hc0 hn0
        cases hnil
        clear hrow
        go_wp2_with fail
        refine (Tryz.slices_Sort_string_none none 0 _).mono ?_
        rintro e w5 ⟨rfl, rfl⟩
        go_wp2_with fail
        go_ret2
        have hz : sortN (FS.map PA.lastS) = [] := by rw [HR.out]; simp [sortN]
        exact ⟨[], none, 0, rfl, by rw [HFS.out]; exact hz.symm, World.ownsRow_nil _ _ _ _, HB3.out.trans (HB.out.mono HB3.out.size)⟩
      · cases hv
        rw [← HNL.out] at h1 h4
        have hsort := Tryz.slices_Sort_string g 0 C4 ns wr (holds_of_block hb (by simpa using h4)) (theap_lt hb) (by omega)
        rw [HNL.out] at hsort
        have H1 : Hid _ := h1
        have H4 : Hid _ := h4
        have H2 : Hid _ := h2
        have H3 : Hid _ := h3
        have HBK : Hid _ := hb
        clear hrow h1 h4 h2 h3 hb hnl hcl
        go_wp2_with fail
        refine hsort.mono ?_
        rintro e w5 ⟨rfl, n5, os5, hw5⟩
        have HW5 : Hid (w5 = grow (putRow encStr (Go.Sort.ahead wr n5) g 0 (ns.mergeSort fun x y => decide (x ≤ y)).toArray) os5) := hw5
        clear hsort hw5
        go_wp2_with fail
        go_ret2
        have hln : (sortN ns).length = ns.length := by rw [HSL.out, HNL.out]
        refine ⟨sortN ns, some ⟨g, 0, none⟩, C4, by rw [hln, HNL.out]; rfl, by rw [HFS.out]; exact HR.out.symm, ?_, ?_⟩
        · rw [hln, HW5.out]
          exact ownsRow_sorted (by simp) (Nat.le_trans HB3.out.size hbase) HBK.out H1.out H2.out H3.out
        · rw [HW5.out]
          refine HB3.out.trans ?_
          exact (HB.out.trans ((Chg.of_grown (grownBy_sorted _)).below (fun j hj => by cases hj; exact hbase) HB.out.size)).mono HB3.out.size
end Go.Proofs.YteaomigmamnobaaGreatDoor
