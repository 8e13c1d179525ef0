/- The contracts of the library's functions at this dump: each an application of a proved contract, the program's own bodies compared by the kernel. Trees: List of a node that is there. Trees: the sittings by rising sessions, as mathematics and in memory; which of two goes first. The contracts of the library's functions at this dump: each an application of a proved contract, the program's own bodies compared by the kernel. Trees: Sittings: the sittings by rising sessions. -/
import Derived.Shelf.Small.Bits
import Derived.Shelf.Small.Strs
import Derived.Shelf.Strconv.Itoa0
import Derived.Shelf.LaysM
import Derived.Shelf.Strconv.Clone
import Derived.Shelf.Strings.Search1
import Derived.Shelf.Strings.Search2
import Derived.Shelf.Strings.Cut
import Derived.Shelf.Strings.Shaped
import Derived.Shelf.Sort.Plain
import Derived.Shelf.Strings.Prefix
import Derived.Shelf.Slices.In.SortNone
import Derived.Ground.SlbCloneProg
import Derived.Shelf.Bytes.SlClone
import Derived.Shelf.Bytes.SlEqualAll
import Derived.Shelf.Bytes.Small
import Derived.Test.YtcdnfgibcochhaaGreatDoorShelf
import Derived.Test.YtcdnfgibcochhaaGreatDoorTrMb
import Derived.Sort.OwnSorted
import Derived.Test.YtcdnfgibcochhaaGreatDoorTrB
import Derived.Deep.QuietTactic
import Derived.Shelf.SlSortCmp.NoneTotal
import Derived.Ground.SlgnProg
import Derived.Shelf.SlicesG.SearchI
import Derived.Ground.SlsfProg
import Derived.Shelf.SlSortCmp.InsertionK
import Derived.Shelf.SlSortCmp.SiftDownK
import Derived.Shelf.SlSortCmp.HeapSortK
import Derived.Shelf.SlSortCmp.MedianK
import Derived.Shelf.SlSortCmp.PivotK
import Derived.Shelf.SlSortCmp.ReverseRangeK
import Derived.Shelf.SlSortCmp.PartialInsertionK
import Derived.Shelf.SlSortCmp.PartitionEqualK
import Derived.Shelf.SlSortCmp.PartitionK
import Derived.Shelf.SlSortCmp.PdqK
import Derived.Shelf.SlSortCmp.WholeK
import Derived.Test.YtcdnfgibcochhaaGreatDoorProg
import Derived.Maps.RangeWalk
import Derived.Maps.AppendAt
namespace Go.Proofs
open Go.Shelf
open Go.RowKit Go.Lib in
def Tryz.lays190_ren : Go.Shelf.Ren := ⟨fun | 190 => 42 | 125 => 65 | 258 => 64 | 128 => 89 | 129 => 90 | 302 => 80 | 303 => 81 | 304 => 82 | 305 => 83 | 306 => 84 | 307 => 85 | 308 => 86 | 309 => 87 | 310 => 88 | 333 => 113 | 329 => 114 | 330 => 115 | 334 => 116 | 335 => 117 | 336 => 118 | 344 => 129 | n => n, fun | 31 => 51 | 9 => 9 | 3 => 3 | 46 => 106 | 0 => 0 | 51 => 129 | 53 => 131 | 4 => 4 | 183 => 122 | 182 => 121 | 131 => 126 | 5 => 5 | 218 => 151 | 222 => 155 | 228 => 164 | 229 => 165 | n => n, fun | n => n⟩
theorem Tryz.lays190 : Go.Proofs.Lays.n190 Tryz.prog Tryz.lays190_ren := {
  mixed := by kernel_rfl
  f125 := Tryz.func65.trans (congrArg some (by kernel_rfl))
  f128 := Tryz.func89.trans (congrArg some (by kernel_rfl))
  f129 := Tryz.func90.trans (congrArg some (by kernel_rfl))
  f190 := Tryz.func42.trans (congrArg some (by kernel_rfl))
  f258 := Tryz.func64.trans (congrArg some (by kernel_rfl))
  f302 := Tryz.func80.trans (congrArg some (by kernel_rfl))
  f303 := Tryz.func81.trans (congrArg some (by kernel_rfl))
  f304 := Tryz.func82.trans (congrArg some (by kernel_rfl))
  f305 := Tryz.func83.trans (congrArg some (by kernel_rfl))
  f306 := Tryz.func84.trans (congrArg some (by kernel_rfl))
  f307 := Tryz.func85.trans (congrArg some (by kernel_rfl))
  f308 := Tryz.func86.trans (congrArg some (by kernel_rfl))
  f309 := Tryz.func87.trans (congrArg some (by kernel_rfl))
  f310 := Tryz.func88.trans (congrArg some (by kernel_rfl))
  f329 := Tryz.func114.trans (congrArg some (by kernel_rfl))
  f330 := Tryz.func115.trans (congrArg some (by kernel_rfl))
  f333 := Tryz.func113.trans (congrArg some (by kernel_rfl))
  f334 := Tryz.func116.trans (congrArg some (by kernel_rfl))
  f335 := Tryz.func117.trans (congrArg some (by kernel_rfl))
  f336 := Tryz.func118.trans (congrArg some (by kernel_rfl))
  f344 := Tryz.func129.trans (congrArg some (by kernel_rfl))
  t0 := Tryz.underlying0
  a0 := Tryz.isAgg0
  z0 := Tryz.sizeOf0
  v0 := Tryz.zeroValue0
  t3 := Tryz.underlying3
  a3 := Tryz.isAgg3
  z3 := Tryz.sizeOf3
  v3 := Tryz.zeroValue3
  t4 := Tryz.underlying4
  a4 := Tryz.isAgg4
  z4 := Tryz.sizeOf4
  v4 := Tryz.zeroValue4
  t5 := Tryz.underlying5
  a5 := Tryz.isAgg5
  z5 := Tryz.sizeOf5
  v5 := Tryz.zeroValue5
  t9 := Tryz.underlying9
  a9 := Tryz.isAgg9
  z9 := Tryz.sizeOf9
  v9 := Tryz.zeroValue9
  t31 := Tryz.underlying51
  a31 := Tryz.isAgg51
  z31 := Tryz.sizeOf51
  v31 := Tryz.zeroValue51
  t46 := Tryz.underlying106
  a46 := Tryz.isAgg106
  z46 := Tryz.sizeOf106
  v46 := Tryz.zeroValue106
  t51 := Tryz.underlying129
  a51 := Tryz.isAgg129
  z51 := Tryz.sizeOf129
  v51 := Tryz.zeroValue129
  t53 := Tryz.underlying131
  a53 := Tryz.isAgg131
  z53 := Tryz.sizeOf131
  v53 := Tryz.zeroValue131
  t131 := Tryz.underlying126
  a131 := Tryz.isAgg126
  z131 := Tryz.sizeOf126
  v131 := Tryz.zeroValue126
  t182 := Tryz.underlying121
  a182 := Tryz.isAgg121
  z182 := Tryz.sizeOf121
  v182 := Tryz.zeroValue121
  t183 := Tryz.underlying122
  a183 := Tryz.isAgg122
  z183 := Tryz.sizeOf122
  v183 := Tryz.zeroValue122
  t218 := Tryz.underlying151
  a218 := Tryz.isAgg151
  z218 := Tryz.sizeOf151
  v218 := Tryz.zeroValue151
  t222 := Tryz.underlying155
  a222 := Tryz.isAgg155
  z222 := Tryz.sizeOf155
  v222 := Tryz.zeroValue155
  t228 := Tryz.underlying164
  a228 := Tryz.isAgg164
  z228 := Tryz.sizeOf164
  v228 := Tryz.zeroValue164
  t229 := Tryz.underlying165
  a229 := Tryz.isAgg165
  z229 := Tryz.sizeOf165
  v229 := Tryz.zeroValue165 }
open Go.Sort Go.RowKit in
theorem Tryz.slices_Sort_string (blk off cap : Nat) (ss : List (List UInt8)) (w : World) (hH : Holds encStr w blk off ss.toArray) (hblk : blk < w.heap.size) (hsz : ss.length < 4611686018427387904) :
    Calls Tryz.prog 42 #[.slice (some ⟨blk, off, none⟩) ss.length cap] w fun e w' =>
      e = .returned (.tuple #[]) ∧ ∃ n os, w' = grow (putRow encStr (Sort.ahead w n) blk off (ss.mergeSort fun x y => decide (x ≤ y)).toArray) os := Any.slices_Sort_string Tryz.lays190 blk off cap ss w hH hblk hsz
open Go.RowKit Go.Lib in
open Go.RowKit Go.Sort in
theorem Tryz.slices_Sort_string_none (p : Option Addr) (cap : Nat) (w : World) :
    Calls Tryz.prog 42 #[.slice p 0 cap] w fun e w' => e = .returned (.tuple #[]) ∧ w' = w := Any.slices_Sort_string_none Tryz.lays190 p cap w
end Go.Proofs

namespace Go.Proofs.YtcdnfgibcochhaaGreatDoor
set_option linter.unusedSimpArgs false
set_option linter.unusedVariables false
open Go.RowKit Go.MapKept
open Go.Sort (Holds putRow grow)
set_option linter.unusedVariables false
set_option linter.unusedSimpArgs false

def sortN (l : List (List UInt8)) : List (List UInt8) := l.mergeSort fun x y => decide (x ≤ y)
theorem le_total_bytes (a b : List UInt8) : (decide (a ≤ b) || decide (b ≤ a)) = true := by
  have := List.le_total a b
  simpa using this
theorem sortN_perm {a b : List (List UInt8)} (h : a.Perm b) : sortN a = sortN b := by
  have tr : ∀ (x y z : List UInt8), decide (x ≤ y) = true → decide (y ≤ z) = true → decide (x ≤ z) = true := by
    intro x y z h1 h2
    simp only [decide_eq_true_eq] at *
    exact List.le_trans h1 h2
  have tt : ∀ (x y : List UInt8), (decide (x ≤ y) || decide (y ≤ x)) = true := le_total_bytes
  refine List.Perm.eq_of_pairwise (le := fun x y => decide (x ≤ y) = true) ?_ (List.pairwise_mergeSort tr tt a) (List.pairwise_mergeSort tr tt b) (((List.mergeSort_perm a _).trans h).trans (List.mergeSort_perm b _).symm)
  intro x y _ _ h1 h2
  simp only [decide_eq_true_eq] at h1 h2
  exact List.le_antisymm h1 h2
theorem ttext_at {w : World} {b0 : Nat} {A : Option Addr} {C : Nat} {cs : List (List UInt8)} (h : w.ownsRow b0 9 1 (.slice A cs.length C) cs.length (cs.map encStr)) (k : Nat) (hk : k < cs.length) : ∃ g, A = some ⟨g, 0, none⟩ ∧ g < w.heap.size ∧ w.cell? ⟨g, k, none⟩ = some (.string (mkS (cs[k]'hk))) := by
  rcases h.2 with ⟨_, h0⟩ | ⟨g, cap, cur, hv, hb, hg, hr⟩
  · omega
  · cases hv
    refine ⟨g, rfl, theap_lt hg, ?_⟩
    rw [h.cellAt k (by omega)]
    simp [hk]
    rfl
set_option maxRecDepth 100000 in
set_option maxHeartbeats 20000000 in
theorem list_yes {w : World} {t m n : Nat} {L : List Fv} {K : List Si.Fv} (h : Tk w t m n L K) (hL : PA.Laid w) (hlen : L.length ≤ 1000000) (p : List UInt8) {q : Fi} {A : Option Addr} {C : Nat} (hq : look p L = some (q, .slice A q.b.length C)) :
    Calls Tryz.prog 22 #[.pointer (some ⟨t, 0, none⟩), .string (mkS p)] w fun e w' => ∃ (ns : List (List UInt8)) (A' : Option Addr) (C' : Nat), e = .returned (.tuple #[.slice A' ns.length C', .bool true]) ∧ ns = sortN (((L.map fun q => q.1.nm).filter (kid p)).map PA.lastS) ∧ w'.ownsRow w.heap.size 9 1 (.slice A' ns.length C') ns.length (ns.map encStr) ∧ Below w.heap.size w w' := by
  have hf := find_yes h p hq
  go_enter Tryz.func22, Tryz.ntmps22
  go_wp2_with fail
  refine hf.mono ?_
  rintro e w1 ⟨rfl, hb1⟩
  have HB1 : Hid (Below w.heap.size w w1) := hb1
  have hB2 : ∀ o, Below w.heap.size w (w1.alloc o) := fun o => hb1.trans ((lay1 _ _).mono hb1.size)
  have hch := fun o => children_any (h.below (hB2 o)) (hL.below (hB2 o)) hlen p
  have HB2 : Hid (∀ o, Below w.heap.size w (w1.alloc o)) := hB2
  have HLD : Hid (PA.Laid w) := hL
  have hfl : ((L.map fun q => q.1.nm).filter (kid p)).length ≤ 1000000 := by
    have := List.length_filter_le (kid p) (L.map fun q => q.1.nm)
    rw [List.length_map] at this
    omega
  generalize hFS : (L.map fun q => q.1.nm).filter (kid p) = FS at hch hfl ⊢
  have HFS : Hid ((L.map fun q => q.1.nm).filter (kid p) = FS) := hFS
  clear hf hb1 hB2 h hL hFS hq hlen
  go_wp2_with fail
  refine (hch _).mono ?_
  rintro e w2 ⟨cs, A5, C5, rfl, hpm, ho5, hb2⟩
  have HB3 : Hid (Below w.heap.size w w2) := (HB2.out _).trans (hb2.mono (HB2.out _).size)
  have HO5 : Hid (∃ b0, w.heap.size ≤ b0 ∧ w2.ownsRow b0 9 1 (.slice A5 cs.length C5) cs.length (cs.map encStr)) := ⟨_, (HB2.out _).size, ho5⟩
  have HPM : Hid (cs.Perm FS) := hpm
  have hcl : cs.length ≤ 1000000 := by rw [hpm.length_eq]; exact hfl
  clear hch HB2 HB1 hpm ho5 hb2 hfl
  go_wp2_with fail
  obtain ⟨i0, hi, hz0, hz1, hz2⟩ := info_parts tinfo9
  go_loopw [8, 23] (fun v c wr => ∃ k : Nat, k ≤ cs.length ∧ c = .int .i64 k ∧ wr.ownsRow w2.heap.size 9 1 v k (((cs.take k).map PA.lastS).map encStr) ∧ Below w2.heap.size w2 wr) (fun _ c _ => cs.length - (intOf c).toNat)
  case atStart => exact ⟨0, by omega, rfl, World.ownsRow_nil _ _ _ _, Below.refl _ _⟩
  case round =>
    obtain ⟨k, hk, rfl, hown, hB⟩ := hrel
    have HO : Hid (wr.ownsRow w2.heap.size 9 1 u8 k (((cs.take k).map PA.lastS).map encStr)) := hown
    have HB : Hid (Below w2.heap.size w2 wr) := hB
    obtain ⟨A4, C4, hv4⟩ := towns_formS hown
    subst hv4
    by_cases hlt : k < cs.length
    · obtain ⟨b0, hb0, ho5⟩ := HO5.out
      obtain ⟨g, rfl, hg, hcell⟩ := ttext_at ho5 k hlt
      have hc2 : wr.cell? ⟨g, k, none⟩ = some (.string (mkS (cs[k]'hlt))) := by rw [hB.cell (p := ⟨g, k, none⟩) hg]; exact hcell
      have hbase := PA.base_k (cs[k]'hlt) wr wr ⟨(HLD.out.below HB3.out).below hB, Below.refl _ _⟩
      have HX : Hid ((((cs.take k).map PA.lastS).map encStr) ++ [.string (mkS (PA.lastS (cs[k]'hlt)))] = (((cs.take (k + 1)).map PA.lastS).map encStr)) := by
        show _ = _
        rw [List.take_succ_eq_append_getElem hlt, List.map_append, List.map_append]
        rfl
      generalize (cs[k]'hlt) = x at hc2 hbase HX hcell
      clear ho5 hcell hown hB
      go_wp2_with fail
      refine hbase.mono ?_
      rintro e w5 ⟨rfl, hk5⟩
      have hb5 : Below wr.heap.size wr w5 := hk5.below
      have hs5 : w2.heap.size ≤ w5.heap.size := by have := hb5.size; have := HB.out.size; omega
      have HO6 : Hid (w5.ownsRow w2.heap.size 9 1 (.slice A4 k C4) k (((cs.take k).map PA.lastS).map encStr)) := towns_keep HO.out (Chg.of_below hb5) (fun _ _ => id)
      have HB6 : Hid (Below w2.heap.size w2 w5) := HB.out.trans (hb5.mono HB.out.size)
      clear hbase hk5 hb5 hc2
      go_wp2_with (first
        | (at_builtin; refine wpList_append_own_at _ rfl (.tmp 27) (.tmp 30) 51 rfl w2.heap.size 9 i0 (.string ⟨#[]⟩) 1 16 Tryz.underlying51 hi hz0 hz1 hz2 rfl (by decide) _ k (((cs.take k).map PA.lastS).map encStr) rfl (HO6.out.alloc _) ⟨w5.heap.size, 0, none⟩ 1 1 [.string (mkS (PA.lastS x))] rfl rfl (cell_one_new _ _ _) (tstr_one [PA.lastS x]) (by unfold maxLen; omega) (by omega) (by simp; omega) ?_; intro v6 w6 ho6 hg6 hn6 hl6)
        | fail)
      have hgc : Chg (fun j => Value.ownBlock (.slice A4 k C4) = some j) (w5.alloc (.cells #[.string (mkS (PA.lastS x))] 9)) w6 := Chg.of_grown hg6
      have hb6 : Below w2.heap.size w2 w6 := by
        refine (HB6.out.alloc hs5 _).trans (hgc.below (fun j hj => ?_) (by simp; omega))
        obtain ⟨_, _, hle⟩ := towns_block HO6.out hj
        exact hle
      have HB7 : Hid (Below w2.heap.size w2 w6) := hb6
      clear hgc hb6 hg6
      go_roundw
      case rel => exact ⟨k + 1, by omega, rfl, by rw [← HX.out]; exact ho6, HB7.out⟩
      case measure => simp [intOf]; omega
    · have hkk : k = cs.length := by omega
      subst hkk
      have hrow : wr.ownsRow w2.heap.size 9 1 (.slice A4 cs.length C4) cs.length ((cs.map PA.lastS).map encStr) := by have := HO.out; rw [List.take_length] at this; exact this
      have HR : Hid (sortN (FS.map PA.lastS) = sortN (cs.map PA.lastS)) := (sortN_perm (HPM.out.map PA.lastS)).symm
      have hnl : (cs.map PA.lastS).length = cs.length := List.length_map _
      have HSL : Hid ((sortN (cs.map PA.lastS)).length = cs.length) := by show _ = _; rw [sortN, List.length_mergeSort, hnl]
      generalize hNS : cs.map PA.lastS = ns at hrow HR hnl HSL
      clear hNS HO hown
      have HNL : Hid (ns.length = cs.length) := hnl
      rcases hrow.2 with ⟨hnil, h0⟩ | ⟨g, cap, cur, hv, hbase, hb, h1, h2, h3, h4⟩
      · have hc0 : cs = [] := List.length_eq_zero_iff.1 h0
        have hn0 : ns = [] := List.length_eq_zero_iff.1 (by omega)
        subst hc0 hn0
        cases hnil
        clear hrow
        go_wp2_with fail
        refine (Tryz.slices_Sort_string_none none 0 _).mono ?_
        rintro e w5 ⟨rfl, rfl⟩
        go_wp2_with fail
        go_ret2
        have hz : sortN (FS.map PA.lastS) = [] := by rw [HR.out]; simp [sortN]
        exact ⟨[], none, 0, rfl, by rw [HFS.out]; exact hz.symm, World.ownsRow_nil _ _ _ _, HB3.out.trans (HB.out.mono HB3.out.size)⟩
      · cases hv
        rw [← HNL.out] at h1 h4
        have hsort := Tryz.slices_Sort_string g 0 C4 ns wr (holds_of_block hb (by simpa using h4)) (theap_lt hb) (by omega)
        rw [HNL.out] at hsort
        have H1 : Hid _ := h1
        have H4 : Hid _ := h4
        have H2 : Hid _ := h2
        have H3 : Hid _ := h3
        have HBK : Hid _ := hb
        clear hrow h1 h4 h2 h3 hb hnl hcl
        go_wp2_with fail
        refine hsort.mono ?_
        rintro e w5 ⟨rfl, n5, os5, hw5⟩
        have HW5 : Hid (w5 = grow (putRow encStr (Go.Sort.ahead wr n5) g 0 (ns.mergeSort fun x y => decide (x ≤ y)).toArray) os5) := hw5
        clear hsort hw5
        go_wp2_with fail
        go_ret2
        have hln : (sortN ns).length = ns.length := by rw [HSL.out, HNL.out]
        refine ⟨sortN ns, some ⟨g, 0, none⟩, C4, by rw [hln, HNL.out]; rfl, by rw [HFS.out]; exact HR.out.symm, ?_, ?_⟩
        · rw [hln, HW5.out]
          exact ownsRow_sorted (by simp) (Nat.le_trans HB3.out.size hbase) HBK.out H1.out H2.out H3.out
        · rw [HW5.out]
          refine HB3.out.trans ?_
          exact (HB.out.trans ((Chg.of_grown (grownBy_sorted _)).below (fun j hj => by cases hj; exact hbase) HB.out.size)).mono HB3.out.size
end Go.Proofs.YtcdnfgibcochhaaGreatDoor

namespace Go.Proofs.YtcdnfgibcochhaaGreatDoor.Si
set_option linter.unusedVariables false
open Go.RowKit Go.MapKept
set_option linter.unusedVariables false

/- The cells of the sitting of a session. -/
def encS (L : List Fv) (k : Int) : List Value := match look k L with
  | some q => [.int .i64 k, .int .i64 q.1.tmo, .int .i64 q.1.turn]
  | none => [.int .i64 k, .int .i64 0, .int .i64 0]
theorem encS_len (L : List Fv) (k : Int) : (encS L k).length = 3 := by unfold encS; split <;> rfl
theorem encS_one (L : List Fv) (k : Int) : ∀ u ∈ encS L k, u.oneCell' = true := by
  intro u hu
  unfold encS at hu
  split at hu <;> simp at hu <;> rcases hu with rfl | rfl | rfl <;> rfl
theorem encS_at {L : List Fv} {p : Fv} (h : look p.1.nm L = some p) : encS L p.1.nm = [.int .i64 p.1.nm, .int .i64 p.1.tmo, .int .i64 p.1.turn] := by unfold encS; rw [h]
def cfS (x y : Int) : Int := if x < y then -1 else if y < x then 1 else 0
theorem cfS_neg (x y : Int) : cfS x y < 0 ↔ x < y := by unfold cfS; split <;> (try split) <;> omega
theorem lt_S (x y : Int) : Go.Proofs.ltOf cfS x y = decide (x < y) := by
  unfold Go.Proofs.ltOf
  simp [cfS_neg]
theorem swoS : Go.Sort.SWO (Go.Proofs.ltOf cfS) where
  irrefl x := by rw [lt_S]; exact decide_eq_false (by omega)
  trans x y z h1 h2 := by
    rw [lt_S] at *
    simp only [decide_eq_true_eq] at *
    omega
  ntrans x y z h1 h2 := by
    rw [lt_S] at *
    simp only [decide_eq_false_iff_not] at *
    omega
theorem totS (x y : Int) (h1 : Go.Proofs.ltOf cfS x y = false) (h2 : Go.Proofs.ltOf cfS y x = false) : x = y := by
  rw [lt_S] at *
  simp only [decide_eq_false_iff_not] at *
  omega
def sortS (l : List Int) : List Int := l.mergeSort fun x y => !(Go.Proofs.ltOf cfS) y x
theorem sortS_perm {a b : List Int} (h : a.Perm b) : sortS a = sortS b := by
  have tr : ∀ (x y z : Int), (!(Go.Proofs.ltOf cfS) y x) = true → (!(Go.Proofs.ltOf cfS) z y) = true → (!(Go.Proofs.ltOf cfS) z x) = true := by
    intro x y z h1 h2
    simp only [lt_S, Bool.not_eq_true', decide_eq_false_iff_not] at *
    omega
  have tt : ∀ (x y : Int), ((!(Go.Proofs.ltOf cfS) y x) || (!(Go.Proofs.ltOf cfS) x y)) = true := by
    intro x y
    simp only [lt_S, Bool.or_eq_true, Bool.not_eq_true', decide_eq_false_iff_not]
    omega
  refine List.Perm.eq_of_pairwise (le := fun x y => (!(Go.Proofs.ltOf cfS) y x) = true) ?_ (List.pairwise_mergeSort tr tt a) (List.pairwise_mergeSort tr tt b) (((List.mergeSort_perm a _).trans h).trans (List.mergeSort_perm b _).symm)
  intro x y _ _ h1 h2
  simp only [lt_S, Bool.not_eq_true', decide_eq_false_iff_not] at h1 h2
  omega
set_option maxRecDepth 100000 in
theorem isNaN64_any (x : Int) (w : World) : Calls Tryz.prog 99 #[.int .i64 x] w fun e w' => e = .returned (.bool false) ∧ w' = w := by
  have hb : (x != x) = false := by simp
  go_enter Tryz.func99, Tryz.ntmps99
  go_wp2_with fail
  go_ret
  exact ⟨rfl, rfl⟩
set_option maxRecDepth 100000 in
theorem cmp64_r (x y r : Int) (h : (x < y ∧ r = -1) ∨ (y < x ∧ r = 1) ∨ (x = y ∧ r = 0)) (w : World) : Calls Tryz.prog 67 #[.int .i64 x, .int .i64 y] w fun e w' => e = .returned (.int .i64 r) ∧ w' = w := by
  have h1 := isNaN64_any x
  have h2 := isNaN64_any y
  rcases h with ⟨hc, rfl⟩ | ⟨hc, rfl⟩ | ⟨hc, rfl⟩
  · go_enter Tryz.func67, Tryz.ntmps67
    go_wp2_with fail
    refine (h1 _).mono ?_
    rintro e w1 ⟨rfl, rfl⟩
    go_wp2_with fail
    refine (h2 _).mono ?_
    rintro e w1 ⟨rfl, rfl⟩
    go_wp2_with fail
    go_ret
    exact ⟨rfl, rfl⟩
  · have hc' : ¬ x < y := by omega
    go_enter Tryz.func67, Tryz.ntmps67
    go_wp2_with fail
    refine (h1 _).mono ?_
    rintro e w1 ⟨rfl, rfl⟩
    go_wp2_with fail
    refine (h2 _).mono ?_
    rintro e w1 ⟨rfl, rfl⟩
    go_wp2_with fail
    go_ret
    exact ⟨rfl, rfl⟩
  · have hc1 : ¬ x < y := by omega
    have hc2 : ¬ y < x := by omega
    clear hc
    go_enter Tryz.func67, Tryz.ntmps67
    go_wp2_with fail
    refine (h1 _).mono ?_
    rintro e w1 ⟨rfl, rfl⟩
    go_wp2_with fail
    refine (h2 _).mono ?_
    rintro e w1 ⟨rfl, rfl⟩
    go_wp2_with fail
    go_ret
    exact ⟨rfl, rfl⟩
theorem cmp64_any (x y : Int) (w : World) : Calls Tryz.prog 67 #[.int .i64 x, .int .i64 y] w fun e w' => e = .returned (.int .i64 (cfS x y)) ∧ w' = w := by
  refine cmp64_r x y (cfS x y) ?_ w
  unfold cfS
  split
  · exact .inl ⟨by assumption, rfl⟩
  · split
    · exact .inr (.inl ⟨by assumption, rfl⟩)
    · exact .inr (.inr ⟨by omega, rfl⟩)
theorem grow_two (w : World) (a b : Obj) : (w.alloc a).alloc b = Go.Sort.grow (w.drewN 0) #[a, b] := by
  rw [Go.Sort.alloc_eq_grow, Go.Sort.alloc_eq_grow, Go.Sort.grow_grow]
  rfl
set_option maxRecDepth 100000 in
theorem cmpS_any (x x1 x2 y y1 y2 : Int) (w : World) : Calls Tryz.prog 44 #[.agg #[.int .i64 x, .int .i64 x1, .int .i64 x2], .agg #[.int .i64 y, .int .i64 y1, .int .i64 y2]] w fun e w' => e = .returned (.int .i64 (cfS x y)) ∧ ∃ q os', w' = Go.Sort.grow (w.drewN q) os' := by
  go_enter Tryz.func44, Tryz.ntmps44
  go_wp2_with fail
  refine (cmp64_any x y _).mono ?_
  rintro e w1 ⟨rfl, rfl⟩
  go_wp2_with fail
  go_ret
  exact ⟨rfl, 0, _, grow_two _ _ _⟩
theorem cmpLaysS (L : List Fv) (blk off size : Nat) (w : World) : Go.Proofs.CmpLays Tryz.prog 44 #[] (encS L) 3 cfS blk off size w := by
  intro _ _ _ _ x y
  have hx : ∃ x1 x2, encS L x = [.int .i64 x, .int .i64 x1, .int .i64 x2] := by unfold encS; split <;> exact ⟨_, _, rfl⟩
  have hy : ∃ y1 y2, encS L y = [.int .i64 y, .int .i64 y1, .int .i64 y2] := by unfold encS; split <;> exact ⟨_, _, rfl⟩
  obtain ⟨x1, x2, ex⟩ := hx
  obtain ⟨y1, y2, ey⟩ := hy
  rw [ex, ey]
  exact cmpS_any x x1 x2 y y1 y2 _
end Go.Proofs.YtcdnfgibcochhaaGreatDoor.Si

namespace Go.Proofs
open Go.Shelf
def Tryz.laysSlF06_f43_ren : Go.Shelf.Ren := ⟨fun | 6 => 43 | 15 => 65 | 14 => 66 | 28 => 89 | 29 => 90 | 20 => 91 | 21 => 92 | 22 => 93 | 23 => 94 | 24 => 95 | 25 => 96 | 26 => 97 | 27 => 98 | 46 => 119 | 47 => 114 | 48 => 115 | 49 => 120 | 50 => 121 | 57 => 130 | n => n, fun | 22 => 54 | 24 => 57 | 25 => 87 | 3 => 3 | 39 => 106 | 0 => 0 | 53 => 129 | 55 => 131 | 4 => 4 | 46 => 122 | 45 => 121 | 50 => 126 | 5 => 5 | 9 => 9 | 66 => 151 | 70 => 155 | 76 => 164 | 77 => 165 | n => n, fun | n => n⟩
theorem Tryz.laysSlF06_f43 : Go.Proofs.SlLaysF0.n6 Tryz.prog Tryz.laysSlF06_f43_ren := {
  mixed := by kernel_rfl
  f6 := ⟨Tryz.f43.name, by decide, Tryz.func43.trans (congrArg some (by kernel_rfl))⟩
  f14 := ⟨Tryz.f66.name, by decide, Tryz.func66.trans (congrArg some (by kernel_rfl))⟩
  f15 := Tryz.func65.trans (congrArg some (by kernel_rfl))
  f20 := ⟨Tryz.f91.name, by decide, Tryz.func91.trans (congrArg some (by kernel_rfl))⟩
  f21 := ⟨Tryz.f92.name, by decide, Tryz.func92.trans (congrArg some (by kernel_rfl))⟩
  f22 := ⟨Tryz.f93.name, by decide, Tryz.func93.trans (congrArg some (by kernel_rfl))⟩
  f23 := ⟨Tryz.f94.name, by decide, Tryz.func94.trans (congrArg some (by kernel_rfl))⟩
  f24 := ⟨Tryz.f95.name, by decide, Tryz.func95.trans (congrArg some (by kernel_rfl))⟩
  f25 := ⟨Tryz.f96.name, by decide, Tryz.func96.trans (congrArg some (by kernel_rfl))⟩
  f26 := ⟨Tryz.f97.name, by decide, Tryz.func97.trans (congrArg some (by kernel_rfl))⟩
  f27 := ⟨Tryz.f98.name, by decide, Tryz.func98.trans (congrArg some (by kernel_rfl))⟩
  f28 := Tryz.func89.trans (congrArg some (by kernel_rfl))
  f29 := Tryz.func90.trans (congrArg some (by kernel_rfl))
  f46 := ⟨Tryz.f119.name, by decide, Tryz.func119.trans (congrArg some (by kernel_rfl))⟩
  f47 := Tryz.func114.trans (congrArg some (by kernel_rfl))
  f48 := Tryz.func115.trans (congrArg some (by kernel_rfl))
  f49 := ⟨Tryz.f120.name, by decide, Tryz.func120.trans (congrArg some (by kernel_rfl))⟩
  f50 := ⟨Tryz.f121.name, by decide, Tryz.func121.trans (congrArg some (by kernel_rfl))⟩
  f57 := ⟨Tryz.f130.name, by decide, Tryz.func130.trans (congrArg some (by kernel_rfl))⟩
  t0 := Tryz.underlying0
  a0 := Tryz.isAgg0
  z0 := Tryz.sizeOf0
  v0 := Tryz.zeroValue0
  t3 := Tryz.underlying3
  a3 := Tryz.isAgg3
  z3 := Tryz.sizeOf3
  v3 := Tryz.zeroValue3
  t4 := Tryz.underlying4
  a4 := Tryz.isAgg4
  z4 := Tryz.sizeOf4
  v4 := Tryz.zeroValue4
  t5 := Tryz.underlying5
  a5 := Tryz.isAgg5
  z5 := Tryz.sizeOf5
  v5 := Tryz.zeroValue5
  t9 := Tryz.underlying9
  a9 := Tryz.isAgg9
  z9 := Tryz.sizeOf9
  v9 := Tryz.zeroValue9
  t22 := Tryz.underlying54
  a22 := Tryz.isAgg54
  z22 := Tryz.sizeOf54
  v22 := Tryz.zeroValue54
  t25 := Tryz.underlying87
  a25 := Tryz.isAgg87
  z25 := Tryz.sizeOf87
  v25 := Tryz.zeroValue87
  t39 := Tryz.underlying106
  a39 := Tryz.isAgg106
  z39 := Tryz.sizeOf106
  v39 := Tryz.zeroValue106
  t45 := Tryz.underlying121
  a45 := Tryz.isAgg121
  z45 := Tryz.sizeOf121
  v45 := Tryz.zeroValue121
  t46 := Tryz.underlying122
  a46 := Tryz.isAgg122
  z46 := Tryz.sizeOf122
  v46 := Tryz.zeroValue122
  t50 := Tryz.underlying126
  a50 := Tryz.isAgg126
  z50 := Tryz.sizeOf126
  v50 := Tryz.zeroValue126
  t53 := Tryz.underlying129
  a53 := Tryz.isAgg129
  z53 := Tryz.sizeOf129
  v53 := Tryz.zeroValue129
  t55 := Tryz.underlying131
  a55 := Tryz.isAgg131
  z55 := Tryz.sizeOf131
  v55 := Tryz.zeroValue131
  t66 := Tryz.underlying151
  a66 := Tryz.isAgg151
  z66 := Tryz.sizeOf151
  v66 := Tryz.zeroValue151
  t70 := Tryz.underlying155
  a70 := Tryz.isAgg155
  z70 := Tryz.sizeOf155
  v70 := Tryz.zeroValue155
  t76 := Tryz.underlying164
  a76 := Tryz.isAgg164
  z76 := Tryz.sizeOf164
  v76 := Tryz.zeroValue164
  t77 := Tryz.underlying165
  a77 := Tryz.isAgg165
  z77 := Tryz.sizeOf165
  v77 := Tryz.zeroValue165 }
def Tryz.laysSlF06_f51_ren : Go.Shelf.Ren := ⟨fun | 6 => 51 | 15 => 65 | 14 => 72 | 28 => 89 | 29 => 90 | 20 => 102 | 21 => 103 | 22 => 104 | 23 => 105 | 24 => 106 | 25 => 107 | 26 => 108 | 27 => 109 | 46 => 124 | 47 => 114 | 48 => 115 | 49 => 125 | 50 => 126 | 57 => 132 | n => n, fun | 22 => 58 | 24 => 47 | 25 => 95 | 3 => 3 | 39 => 106 | 0 => 0 | 53 => 129 | 55 => 131 | 4 => 4 | 46 => 122 | 45 => 121 | 50 => 126 | 5 => 5 | 9 => 9 | 66 => 151 | 70 => 155 | 76 => 164 | 77 => 165 | n => n, fun | n => n⟩
theorem Tryz.laysSlF06_f51 : Go.Proofs.SlLaysF0.n6 Tryz.prog Tryz.laysSlF06_f51_ren := {
  mixed := by kernel_rfl
  f6 := ⟨Tryz.f51.name, by decide, Tryz.func51.trans (congrArg some (by kernel_rfl))⟩
  f14 := ⟨Tryz.f72.name, by decide, Tryz.func72.trans (congrArg some (by kernel_rfl))⟩
  f15 := Tryz.func65.trans (congrArg some (by kernel_rfl))
  f20 := ⟨Tryz.f102.name, by decide, Tryz.func102.trans (congrArg some (by kernel_rfl))⟩
  f21 := ⟨Tryz.f103.name, by decide, Tryz.func103.trans (congrArg some (by kernel_rfl))⟩
  f22 := ⟨Tryz.f104.name, by decide, Tryz.func104.trans (congrArg some (by kernel_rfl))⟩
  f23 := ⟨Tryz.f105.name, by decide, Tryz.func105.trans (congrArg some (by kernel_rfl))⟩
  f24 := ⟨Tryz.f106.name, by decide, Tryz.func106.trans (congrArg some (by kernel_rfl))⟩
  f25 := ⟨Tryz.f107.name, by decide, Tryz.func107.trans (congrArg some (by kernel_rfl))⟩
  f26 := ⟨Tryz.f108.name, by decide, Tryz.func108.trans (congrArg some (by kernel_rfl))⟩
  f27 := ⟨Tryz.f109.name, by decide, Tryz.func109.trans (congrArg some (by kernel_rfl))⟩
  f28 := Tryz.func89.trans (congrArg some (by kernel_rfl))
  f29 := Tryz.func90.trans (congrArg some (by kernel_rfl))
  f46 := ⟨Tryz.f124.name, by decide, Tryz.func124.trans (congrArg some (by kernel_rfl))⟩
  f47 := Tryz.func114.trans (congrArg some (by kernel_rfl))
  f48 := Tryz.func115.trans (congrArg some (by kernel_rfl))
  f49 := ⟨Tryz.f125.name, by decide, Tryz.func125.trans (congrArg some (by kernel_rfl))⟩
  f50 := ⟨Tryz.f126.name, by decide, Tryz.func126.trans (congrArg some (by kernel_rfl))⟩
  f57 := ⟨Tryz.f132.name, by decide, Tryz.func132.trans (congrArg some (by kernel_rfl))⟩
  t0 := Tryz.underlying0
  a0 := Tryz.isAgg0
  z0 := Tryz.sizeOf0
  v0 := Tryz.zeroValue0
  t3 := Tryz.underlying3
  a3 := Tryz.isAgg3
  z3 := Tryz.sizeOf3
  v3 := Tryz.zeroValue3
  t4 := Tryz.underlying4
  a4 := Tryz.isAgg4
  z4 := Tryz.sizeOf4
  v4 := Tryz.zeroValue4
  t5 := Tryz.underlying5
  a5 := Tryz.isAgg5
  z5 := Tryz.sizeOf5
  v5 := Tryz.zeroValue5
  t9 := Tryz.underlying9
  a9 := Tryz.isAgg9
  z9 := Tryz.sizeOf9
  v9 := Tryz.zeroValue9
  t22 := Tryz.underlying58
  a22 := Tryz.isAgg58
  z22 := Tryz.sizeOf58
  v22 := Tryz.zeroValue58
  t25 := Tryz.underlying95
  a25 := Tryz.isAgg95
  z25 := Tryz.sizeOf95
  v25 := Tryz.zeroValue95
  t39 := Tryz.underlying106
  a39 := Tryz.isAgg106
  z39 := Tryz.sizeOf106
  v39 := Tryz.zeroValue106
  t45 := Tryz.underlying121
  a45 := Tryz.isAgg121
  z45 := Tryz.sizeOf121
  v45 := Tryz.zeroValue121
  t46 := Tryz.underlying122
  a46 := Tryz.isAgg122
  z46 := Tryz.sizeOf122
  v46 := Tryz.zeroValue122
  t50 := Tryz.underlying126
  a50 := Tryz.isAgg126
  z50 := Tryz.sizeOf126
  v50 := Tryz.zeroValue126
  t53 := Tryz.underlying129
  a53 := Tryz.isAgg129
  z53 := Tryz.sizeOf129
  v53 := Tryz.zeroValue129
  t55 := Tryz.underlying131
  a55 := Tryz.isAgg131
  z55 := Tryz.sizeOf131
  v55 := Tryz.zeroValue131
  t66 := Tryz.underlying151
  a66 := Tryz.isAgg151
  z66 := Tryz.sizeOf151
  v66 := Tryz.zeroValue151
  t70 := Tryz.underlying155
  a70 := Tryz.isAgg155
  z70 := Tryz.sizeOf155
  v70 := Tryz.zeroValue155
  t76 := Tryz.underlying164
  a76 := Tryz.isAgg164
  z76 := Tryz.sizeOf164
  v76 := Tryz.zeroValue164
  t77 := Tryz.underlying165
  a77 := Tryz.isAgg165
  z77 := Tryz.sizeOf165
  v77 := Tryz.zeroValue165 }
open Go.RowKit Go.Lib Go.Sort in
theorem Tryz.slices_SortFunc_none_f43 {α : Type} [Inhabited α] (p : Option Addr) (cap : Nat) (fv : Value) (w : World) :
    Calls Tryz.prog 43 #[.slice p 0 cap, fv] w fun e w' => e = .returned (.tuple #[]) ∧ w' = w := AnyF.slices_SortFunc_none Tryz.laysSlF06_f43 p cap fv w
open Go.RowKit Go.Lib Go.Sort in
theorem Tryz.slices_SortFunc_none_f51 {α : Type} [Inhabited α] (p : Option Addr) (cap : Nat) (fv : Value) (w : World) :
    Calls Tryz.prog 51 #[.slice p 0 cap, fv] w fun e w' => e = .returned (.tuple #[]) ∧ w' = w := AnyF.slices_SortFunc_none Tryz.laysSlF06_f51 p cap fv w
open Go.RowKit Go.Lib Go.Sort in
theorem Tryz.slices_SortFunc_total_f43 {α : Type} [Inhabited α] (k : Nat) (aE : ∀ w, (isAgg 57).run Tryz.prog w = .ok true w) (zE : ∀ w, (Go.sizeOf 57).run Tryz.prog w = .ok k w) (enc : α → List Value) (hk : ∀ x, (enc x).length = k) (h1 : ∀ x, ∀ v ∈ enc x, v.oneCell' = true) (cf : α → α → Int) (hO : SWO (ltOf cf)) (g : Nat) (cb : Array Value) (blk off cap : Nat) (d : Array α) (w : World) (eg : ∀ args w, (callFunc g args).run Tryz.prog w = .ok (.enter g args) w) (hcmp : CmpLays Tryz.prog g cb enc k cf blk off d.size w) (hH : HoldsK enc k w blk off d) (hblk : blk < w.heap.size) (hsz : d.size < 4611686018427387904) (hT : ∀ x y, (ltOf cf) x y = false → (ltOf cf) y x = false → x = y) :
    Calls Tryz.prog 43 #[.slice (some ⟨blk, off, none⟩) d.size cap, .func (.func g) #[] cb] w fun e w' =>
      e = .returned (.tuple #[]) ∧ ∃ n os, w' = sortWorldK enc k w blk off n (d.toList.mergeSort fun x y => !(ltOf cf) y x).toArray os := AnyQ.slices_SortFunc_total Tryz.laysSlF06_f43 k aE zE enc hk h1 cf hO g cb blk off cap d w eg hcmp hH hblk hsz hT
open Go.RowKit Go.Lib Go.Sort in
theorem Tryz.slices_SortFunc_total_f51 {α : Type} [Inhabited α] (k : Nat) (aE : ∀ w, (isAgg 47).run Tryz.prog w = .ok true w) (zE : ∀ w, (Go.sizeOf 47).run Tryz.prog w = .ok k w) (enc : α → List Value) (hk : ∀ x, (enc x).length = k) (h1 : ∀ x, ∀ v ∈ enc x, v.oneCell' = true) (cf : α → α → Int) (hO : SWO (ltOf cf)) (g : Nat) (cb : Array Value) (blk off cap : Nat) (d : Array α) (w : World) (eg : ∀ args w, (callFunc g args).run Tryz.prog w = .ok (.enter g args) w) (hcmp : CmpLays Tryz.prog g cb enc k cf blk off d.size w) (hH : HoldsK enc k w blk off d) (hblk : blk < w.heap.size) (hsz : d.size < 4611686018427387904) (hT : ∀ x y, (ltOf cf) x y = false → (ltOf cf) y x = false → x = y) :
    Calls Tryz.prog 51 #[.slice (some ⟨blk, off, none⟩) d.size cap, .func (.func g) #[] cb] w fun e w' =>
      e = .returned (.tuple #[]) ∧ ∃ n os, w' = sortWorldK enc k w blk off n (d.toList.mergeSort fun x y => !(ltOf cf) y x).toArray os := AnyQ.slices_SortFunc_total Tryz.laysSlF06_f51 k aE zE enc hk h1 cf hO g cb blk off cap d w eg hcmp hH hblk hsz hT
end Go.Proofs

namespace Go.Proofs.YtcdnfgibcochhaaGreatDoor.Si
set_option linter.unusedSimpArgs false
set_option linter.unusedVariables false
open Go.RowKit Go.MapKept
open Go.Sort (Holds putRow grow)
set_option linter.unusedVariables false
set_option linter.unusedSimpArgs false

section
variable {α : Type} [Inhabited α]
theorem heap_put {w : World} {g n : Nat} {cur : Array Value} {e : TypeId} {fr : Nat × Nat} (enc : α → Value) (d : Array α) (hb : w.heap[g]? = some (.cells cur e fr)) :
    (putRow enc (Go.Sort.ahead w n) g 0 d).heap[g]? = some (.cells (Go.Sort.putCells enc 0 d cur) e fr) := by
  simp [putRow, Go.Sort.mapBlock, Go.Sort.ahead, Array.getElem?_modify, hb, Go.Sort.onCells]
theorem chg_put {w : World} {g n : Nat} (enc : α → Value) (d : Array α) : Chg (fun k => k = g) w (putRow enc (Go.Sort.ahead w n) g 0 d) := by
  refine ⟨rfl, rfl, rfl, by simp, fun k hk hne => ?_⟩
  have : g ≠ k := fun e => hne e.symm
  simp [putRow, Go.Sort.mapBlock, Go.Sort.ahead, Array.getElem?_modify, this]
theorem take_put (enc : α → Value) (cur : Array Value) (ts : List α) (M : Nat) (h : ts.length ≤ cur.size) (hM : M ≤ ts.length) : (Go.Sort.putCells enc 0 ts.toArray cur).toList.take M = (ts.take M).map enc := by
  apply List.ext_getElem?
  intro j
  by_cases hj : j < M
  · rw [List.getElem?_take_of_lt hj, Array.getElem?_toList]
    have h1 : j < ts.length := by omega
    simp [Go.Sort.putCells, h1, hj, show j < cur.size by omega]
  · rw [List.getElem?_take_eq_none (by omega), List.getElem?_eq_none (by simp; omega)]
theorem holds_block {w : World} {g : Nat} {cur : Array Value} {e : TypeId} (enc : α → Value) {ss : List α} (hb : w.heap[g]? = some (.cells cur e (0, 0))) (ht : cur.toList.take ss.length = ss.map enc) : Holds enc w g 0 ss.toArray := by
  intro j hj
  have hj' : j < ss.length := by simpa using hj
  refine ⟨?_, by simp [World.frozen?, hb]⟩
  have h1 : (cur.toList.take ss.length)[j]? = (ss.map enc)[j]? := by rw [ht]
  rw [List.getElem?_take_of_lt hj'] at h1
  simp only [World.cell?, hb, Nat.zero_add]
  simp only [Option.isSome_none, Bool.false_eq_true, if_false]
  rw [← Array.getElem?_toList, h1]
  simp [hj']
omit [Inhabited α] in
theorem flat_len (enc : α → List Value) (k : Nat) (hk : ∀ x, (enc x).length = k) : ∀ ns : List α, (ns.flatMap enc).length = ns.length * k
  | [] => by simp
  | x :: ns => by rw [List.flatMap_cons, List.length_append, hk, flat_len enc k hk ns, List.length_cons, Nat.add_mul, Nat.one_mul, Nat.add_comm]
theorem flat_at (enc : α → List Value) (k : Nat) (hk : ∀ x, (enc x).length = k) (h0 : 0 < k) : ∀ (ns : List α) (t : Nat), t < ns.length * k → (ns.flatMap enc)[t]? = some ((enc (ns.toArray)[t / k]!)[t % k]!)
  | [], t, h => by simp at h
  | x :: ns, t, h => by
    rw [List.length_cons, Nat.add_mul, Nat.one_mul] at h
    rw [List.flatMap_cons]
    by_cases ht : t < k
    · have e : (x :: ns).toArray[0]! = x := by simp
      rw [List.getElem?_append_left (by rw [hk]; exact ht), Nat.div_eq_of_lt ht, Nat.mod_eq_of_lt ht, e, getElem!_pos _ _ (by rw [hk]; exact ht), List.getElem?_eq_getElem (by rw [hk]; exact ht)]
    · have e1 : t / k = (t - k) / k + 1 := Nat.div_eq_sub_div h0 (by omega)
      have e2 : t % k = (t - k) % k := Nat.mod_eq_sub_mod (by omega)
      have hlt : (t - k) / k < ns.length := (Nat.div_lt_iff_lt_mul h0).2 (by omega)
      have e3 : (x :: ns).toArray[(t - k) / k + 1]! = ns.toArray[(t - k) / k]! := by
        rw [getElem!_pos _ _ (by simpa using hlt), getElem!_pos _ _ (by simpa using hlt)]
        simp
      rw [List.getElem?_append_right (by rw [hk]; omega), hk, flat_at enc k hk h0 ns (t - k) (by omega), e1, e2, e3]
theorem flat_gen (enc : α → List Value) (k : Nat) (hk : ∀ x, (enc x).length = k) (h0 : 0 < k) (ns : List α) : (Go.Sort.flatK enc k ns.toArray).toList = ns.flatMap enc := by
  have hs : (Go.Sort.flatK enc k ns.toArray).size = ns.length * k := by simp
  apply List.ext_getElem?
  intro t
  by_cases ht : t < ns.length * k
  · have e1 := Go.Sort.get_flatK enc k ns.toArray t (by simpa using ht)
    rw [getElem!_pos _ t (by rw [hs]; exact ht)] at e1
    rw [Array.getElem?_toList, Array.getElem?_eq_getElem (by rw [hs]; exact ht), e1, flat_at enc k hk h0 ns t ht]
  · rw [Array.getElem?_toList, Array.getElem?_eq_none (by rw [hs]; omega), List.getElem?_eq_none (by rw [flat_len enc k hk]; omega)]
theorem sorted_gen (enc : α → List Value) (k : Nat) (hk : ∀ x, (enc x).length = k) (h0 : 0 < k) {T : TypeId} {w w' : World} {base g cap N : Nat} {os : Array Obj} {cur : Array Value} {ss : List α} {n : Nat} (hN : ss.length = N) (hbase : base ≤ g) (hb : w.heap[g]? = some (.cells cur T (0, 0))) (h1 : N ≤ cap) (h2 : cap ≤ maxLen) (h3 : cur.size = cap * k)
    (hw : w' = Go.Proofs.sortWorldK enc k w g 0 n ss.toArray os) :
    w'.ownsRow base T k (.slice (some ⟨g, 0, none⟩) N cap) N (ss.flatMap enc) ∧ Chg (fun i => i = g) w w' := by
  subst hN
  have hfl := flat_gen enc k hk h0 ss
  have hfs := flat_len enc k hk ss
  have hg : g < w.heap.size := theap_lt hb
  have hwp : w' = grow (putRow id (Go.Sort.ahead w n) g 0 (ss.flatMap enc).toArray) os := by
    rw [hw]; unfold Go.Proofs.sortWorldK Go.Sort.putRowK
    rw [← hfl]
  have hsz : g < (putRow id (Go.Sort.ahead w n) g 0 (ss.flatMap enc).toArray).heap.size := by simpa using hg
  have hle : (ss.flatMap enc).length ≤ cur.size := by rw [hfs, h3]; exact Nat.mul_le_mul_right k h1
  refine ⟨⟨hfs, .inr ⟨g, cap, _, rfl, hbase, by rw [hwp, Go.Sort.heap_grow_old _ _ hsz]; exact heap_put id _ hb, h1, h2, by simp [Go.Sort.putCells, h3], ?_⟩⟩, ?_⟩
  · rw [take_put id cur _ _ hle (by omega), List.map_id, List.take_of_length_le (by omega)]
  · rw [hwp]
    have c1 : Chg (fun k => k = g) w (putRow id (Go.Sort.ahead w n) g 0 (ss.flatMap enc).toArray) := chg_put id _
    refine c1.trans ⟨rfl, rfl, rfl, by simp, fun k hk _ => by rw [Go.Sort.heap_grow_old _ _ hk]⟩
theorem holds_gen (enc : α → List Value) (k : Nat) (hk : ∀ x, (enc x).length = k) (h0 : 0 < k) {T : TypeId} {w : World} {g : Nat} {cur : Array Value} {ns : List α} (hb : w.heap[g]? = some (.cells cur T (0, 0))) (h4 : cur.toList.take (ns.length * k) = ns.flatMap enc) : Go.Sort.HoldsK enc k w g 0 ns.toArray := by
  unfold Go.Sort.HoldsK
  have e1 : Go.Sort.flatK enc k ns.toArray = (ns.flatMap enc).toArray := by
    apply Array.toList_inj.1
    rw [flat_gen enc k hk h0]
  rw [e1]
  refine holds_block id hb ?_
  rw [List.map_id, flat_len enc k hk]
  exact h4
end
theorem infoS : (Tryz.prog.info? 57).map (fun i => (i.zero, i.size, i.bytes)) = some (some (.agg #[.int .i64 0, .int .i64 0, .int .i64 0]), 3, 24) := by kernel_rfl
theorem sform {T : TypeId} {w : World} {base n : Nat} {v : Value} {xs : List Value} (h : w.ownsRow base T 3 v n xs) : ∃ A C, v = .slice A n C := by
  rcases h.2 with ⟨rfl, rfl⟩ | ⟨g, cap, cur, rfl, _⟩
  · exact ⟨none, 0, rfl⟩
  · exact ⟨_, cap, rfl⟩
theorem sblock {T : TypeId} {w : World} {base : Nat} {v : Value} {n : Nat} {xs : List Value} (h : w.ownsRow base T 3 v n xs) {k : Nat} (hk : v.ownBlock = some k) : ∃ cur, w.heap[k]? = some (.cells cur T (0, 0)) ∧ base ≤ k := by
  rcases h.2 with ⟨rfl, _⟩ | ⟨g, cap, cur, rfl, hb, hg, hr⟩
  · cases hk
  · cases hk; exact ⟨cur, hg, hb⟩
theorem cell_three_new (w : World) (u v x : Value) (T : TypeId) : ∀ j y, [u, v, x][j]? = some y → (w.alloc (.cells #[u, v, x] T)).cell? ((⟨w.heap.size, 0, none⟩ : Addr).add j) = some y := by
  intro j y hy
  rw [show (⟨w.heap.size, 0, none⟩ : Addr).add j = ⟨w.heap.size, j, none⟩ by simp only [Addr.add]; split <;> simp_all, cell_at (heap_alloc_new w _)]
  simpa using hy
set_option maxRecDepth 100000 in
set_option maxHeartbeats 8000000 in
theorem sittings_any {w : World} {t m n : Nat} {L : List Go.Proofs.YtcdnfgibcochhaaGreatDoor.Fv} {K : List Fv} (h : Tk w t m n L K) (hlen : K.length ≤ 1000000) :
    Calls Tryz.prog 18 #[.pointer (some ⟨t, 0, none⟩)] w fun e w' => ∃ A C, e = .returned (.slice A K.length C) ∧ w'.ownsRow w.heap.size 57 3 (.slice A K.length C) K.length ((sortS (K.map fun p => p.1.nm)).flatMap (encS K)) ∧ Below w.heap.size w w' := by
  have hc0 := cell_at h.cell 0
  have hc1 := cell_at h.cell 1
  simp at hc0 hc1
  have hm := h.seats
  have hth := there_yes hc0
  obtain ⟨i0, hi, hz0, hz1, hz2⟩ := info_parts infoS
  have HMM : Hid (MapIs w n K) := hm
  go_enter Tryz.func18, Tryz.ntmps18
  go_wp2_with fail
  refine hth.mono ?_
  rintro e w1 ⟨rfl, hw1⟩
  obtain rfl : w = w1 := hw1.symm
  go_wp2_with (first
    | (at_range; refine wpList_rng rfl _ rfl rfl hm ?_; intro w2 hr2 hc2 hs2)
    | fail)
  go_frame
  have HR : Hid (Ranges w2 n w.heap.size K (K.map fun p => p.1.nm)) := hr2
  have HB2 : Hid (Below w.heap.size w w2) := hc2.below (fun _ e => e.elim) (Nat.le_refl _)
  have HML : Hid (n < w.heap.size) := hm.lt
  have HLL : Hid ((K.map fun p => p.1.nm).length = K.length) := by unfold Hid; simp
  clear hr2 hc2 hs2 hm h hth hc0 hc1
  go_loopw [3] (fun v wr => ∃ (left ns : List Int), wr.ownsRow w.heap.size 57 3 v ns.length (ns.flatMap (encS K)) ∧ (ns ++ left).Perm (K.map fun p => p.1.nm) ∧ Ranges wr n w.heap.size K left ∧ Below w.heap.size w wr) (fun _ wr => wr.rangeLeft n w.heap.size)
  case atStart => exact ⟨_, [], World.ownsRow_nil _ _ _ _, List.Perm.refl _, HR.out, HB2.out⟩
  case round =>
    obtain ⟨left, ns, hown, hperm, hrg, hB⟩ := hrel
    go_wp2_with (first
      | (at_next; refine wpList_nxt rfl _ rfl rfl hrg ?_ ?_)
      | fail)
    · intro hl0
      subst hl0
      rw [List.append_nil] at hperm
      have HPM : Hid (ns.Perm (K.map fun p => p.1.nm)) := hperm
      have hlen3 : ns.length ≤ 1000000 := by have := hperm.length_eq; have := HLL.out; omega
      have HNL : Hid (ns.length = K.length) := by have := hperm.length_eq; have := HLL.out; show _ = _; omega
      have HSS : Hid (sortS (K.map fun p => p.1.nm) = sortS ns) := (sortS_perm hperm).symm
      clear hperm hlen hrg
      rcases hown.2 with ⟨hnil, h0⟩ | ⟨g, cp0, cur, hv, hbase, hb, h1, h2, h3, h4⟩
      · have hns : ns = [] := List.length_eq_zero_iff.1 h0
        clear hown
        subst hnil
        subst hns
        have HB : Hid (Below w.heap.size w wr) := hB
        clear hB
        go_wp2_with fail
        refine (Tryz.slices_SortFunc_none_f43 (α := Nat) none 0 _ _).mono ?_
        rintro e w5 ⟨rfl, rfl⟩
        go_wp2_with fail
        go_ret
        have hK0 : K = [] := List.length_eq_zero_iff.1 (by have := HNL.out; simp at this; omega)
        subst hK0
        exact ⟨none, 0, rfl, by simp [sortS]; exact World.ownsRow_nil _ _ _ _, HB.out⟩
      · have eg : ∀ args w, (callFunc 44 args).run Tryz.prog w = .ok (.enter 44 args) w := enters_of Tryz.func44 (by kernel_rfl) rfl
        have hHold := holds_gen (encS K) 3 (encS_len K) (by omega) hb h4
        have hsort := Tryz.slices_SortFunc_total_f43 3 Tryz.isAgg57 Tryz.sizeOf57 (encS K) (encS_len K) (encS_one K) cfS swoS 44 #[] g 0 cp0 ns.toArray wr eg (cmpLaysS K g 0 _ wr) hHold (theap_lt hb) (by simp; omega) totS
        simp only [List.size_toArray] at hsort
        have HB : Hid (Below w.heap.size w wr) := hB
        have HBK : Hid _ := hb
        have H1 : Hid (ns.length ≤ cp0) := h1
        have H2 : Hid (cp0 ≤ maxLen) := h2
        have H3 : Hid _ := h3
        have HBS : Hid (w.heap.size ≤ g) := hbase
        clear hown hHold hB hb h1 h2 h3 h4 hbase
        subst hv
        go_wp2_with fail
        refine hsort.mono ?_
        rintro e w5 ⟨rfl, n5, os5, hw5⟩
        obtain ⟨ho5, hc5⟩ := sorted_gen (encS K) 3 (encS_len K) (by omega) (ss := sortS ns) (N := ns.length) (by simp [sortS]) HBS.out HBK.out H1.out H2.out H3.out hw5
        have HB5 : Hid (Below w.heap.size w w5) := HB.out.trans (hc5.below (fun k hk => by rw [hk]; exact HBS.out) HB.out.size)
        have HO5 : Hid _ := ho5
        clear hsort hw5 ho5 hc5
        go_wp2_with fail
        go_ret
        refine ⟨some ⟨g, 0, none⟩, cp0, by rw [← HNL.out]; rfl, ?_, HB5.out⟩
        rw [HSS.out, ← HNL.out]
        exact HO5.out
    · intro l1 l2 q u w3 hl hlk hrg3 hc3 hs3 hen
      have hlen2 : ns.length + 1 ≤ 1000000 := by
        have := hperm.length_eq
        have h2 := HLL.out
        rw [hl] at this
        simp at this h2
        omega
      have HEN : Hid (encS K q.nm = [.int .i64 q.nm, .int .i64 q.tmo, .int .i64 q.turn]) := encS_at (p := (q, u)) hlk
      have hne : ∀ k, (u3 : Value).ownBlock = some k → k ≠ w.heap.size := by
        intro k hk e
        obtain ⟨cur, hcu, _⟩ := sblock hown hk
        obtain ⟨es, cl, si, se, c0, _, _, _, h4, _⟩ := hrg
        rw [e, h4] at hcu; cases hcu
      have hown3 : w3.ownsRow w.heap.size 57 3 u3 ns.length (ns.flatMap (encS K)) := towns_keep hown hc3 (fun k hk e => hne k hk e)
      have HO : Hid (w3.ownsRow w.heap.size 57 3 u3 ns.length (ns.flatMap (encS K))) := hown3
      have hs3' : w.heap.size ≤ w3.heap.size := by rw [hs3]; exact hB.size
      have HNE : Hid (∀ k, (u3 : Value).ownBlock = some k → k ≠ w.heap.size) := hne
      have HG3 : Hid (Ranges w3 n w.heap.size K (l1 ++ l2)) := hrg3
      have HG : Hid (Ranges wr n w.heap.size K left) := hrg
      have HL : Hid (left = l1 ++ q.nm :: l2) := hl
      have HPM : Hid ((ns ++ left).Perm (K.map fun p => p.1.nm)) := hperm
      have HB3 : Hid (Below w.heap.size w w3) := hB.trans (hc3.below (fun k e => by omega) hB.size)
      obtain ⟨A4, C4, hv4⟩ := sform hown
      subst hv4
      obtain ⟨a0, a1, a2, hpv⟩ : ∃ a0 a1 a2 : Int, q.nm = a0 ∧ q.tmo = a1 ∧ q.turn = a2 := ⟨_, _, _, rfl, rfl, rfl⟩
      have HPV : Hid (q.nm = a0 ∧ q.tmo = a1 ∧ q.turn = a2) := hpv
      have hval : valOf (q, u) = .agg #[.int .i64 a0, .int .i64 a1, .int .i64 a2] := by unfold valOf; rw [hpv.1, hpv.2.1, hpv.2.2]
      rw [hval, hpv.1] at hen ⊢
      clear hown hown3 hs3 hne hrg3 hrg hl hperm hB hc3 hlk hpv hval
      go_wp2_with (first
        | (at_builtin; refine wpList_append_own_at _ rfl (.tmp 18) (.tmp 20) 54 rfl w.heap.size 57 i0 (.agg #[.int .i64 0, .int .i64 0, .int .i64 0]) 3 24 Tryz.underlying54 hi hz0 hz1 hz2 rfl (by decide) _ ns.length (ns.flatMap (encS K)) rfl ((HO.out.alloc _).alloc _) ⟨w3.heap.size + 1, 0, none⟩ 1 1 [.int .i64 a0, .int .i64 a1, .int .i64 a2] rfl rfl (by have := cell_three_new (w3.alloc (.cells #[.int .i64 a0, .int .i64 a1, .int .i64 a2] 57)) (.int .i64 a0) (.int .i64 a1) (.int .i64 a2) 57; simpa using this) (by intro u hu; simp at hu; rcases hu with rfl | rfl | rfl <;> rfl) (by unfold maxLen; omega) (by omega) (by simp; omega) ?_; intro v5 w5 ho5 hg5 hn5 hl5)
        | fail)
      have hgc : Chg (fun k => (Value.slice A4 ns.length C4).ownBlock = some k) ((w3.alloc (.cells #[.int .i64 a0, .int .i64 a1, .int .i64 a2] 57)).alloc (.cells #[.int .i64 a0, .int .i64 a1, .int .i64 a2] 57)) w5 := Chg.of_grown hg5
      have hr5 : Ranges w5 n w.heap.size K (l1 ++ l2) := by
        refine ((HG3.out.alloc _).alloc _).keep hgc ?_ ?_
        · intro e
          obtain ⟨_, _, hle⟩ := sblock HO.out e
          have := HML.out; omega
        · intro e; exact HNE.out _ e rfl
      go_roundw
      case rel =>
        refine ⟨l1 ++ l2, ns ++ [a0], ?_, ?_, hr5, ?_⟩
        · rw [List.length_append, List.flatMap_append]
          have e3 : encS K a0 = [.int .i64 a0, .int .i64 a1, .int .i64 a2] := by have := HEN.out; rw [HPV.out.1, HPV.out.2.1, HPV.out.2.2] at this; exact this
          simp only [List.flatMap_cons, List.flatMap_nil, List.append_nil, e3]
          exact ho5
        · have hp := HPM.out
          rw [HL.out, HPV.out.1] at hp
          have : ((ns ++ [a0]) ++ (l1 ++ l2)).Perm (ns ++ (l1 ++ a0 :: l2)) := by
            rw [List.append_assoc]
            refine List.Perm.append_left ns ?_
            exact (List.perm_middle (a := a0) (l₁ := l1) (l₂ := l2)).symm
          exact this.trans hp
        · refine ((HB3.out.alloc hs3' _).alloc (by simp; omega) _).trans (hgc.below (fun k hk => ?_) (by simp; omega))
          obtain ⟨_, _, hle⟩ := sblock HO.out hk
          exact hle
      case measure =>
        rw [hr5.left_eq, HG.out.left_eq, HL.out]; simp
end Go.Proofs.YtcdnfgibcochhaaGreatDoor.Si
