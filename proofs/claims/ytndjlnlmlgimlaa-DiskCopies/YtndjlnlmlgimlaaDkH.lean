/- The walk of List. -/
import Derived.Test.YtndjlnlmlgimlaaDkD
import Derived.Test.YtndjlnlmlgimlaaShelf
import Derived.Sort.OwnSorted
namespace Go.Proofs.Ytndjlnlmlgimlaa
open Go.RowKit Go.MapKept
open Go.Sort (Holds putRow grow)

theorem info9 : (Try.prog.info? 9).map (fun i => (i.zero, i.size, i.bytes)) = some (some (.string ⟨#[]⟩), 1, 16) := by kernel_rfl
/- Names as they rise. -/
def sortN (l : List (List UInt8)) : List (List UInt8) := l.mergeSort fun x y => decide (x ≤ y)
theorem str_one (l : List (List UInt8)) : ∀ u ∈ l.map encStr, u.oneCell' = true := by
  intro u hu
  obtain ⟨y, _, rfl⟩ := List.mem_map.1 hu
  rfl
theorem owns_formS {w : World} {base n : Nat} {v : Value} {xs : List Value} (h : w.ownsRow base 9 1 v n xs) : ∃ A C, v = .slice A n C := by
  rcases h.2 with ⟨rfl, rfl⟩ | ⟨g, cap, cur, rfl, _⟩
  · exact ⟨none, 0, rfl⟩
  · exact ⟨_, cap, rfl⟩
theorem owns_blockS {w : World} {base : Nat} {v : Value} {n : Nat} {xs : List Value} (h : w.ownsRow base 9 1 v n xs) {k : Nat} (hk : blk v = some k) : ∃ cur, w.heap[k]? = some (.cells cur 9 (0, 0)) ∧ base ≤ k := by
  rcases h.2 with ⟨rfl, _⟩ | ⟨g, cap, cur, rfl, hb, hg, hr⟩
  · cases hk
  · cases hk; exact ⟨cur, hg, hb⟩
theorem le_total_bytes (a b : List UInt8) : (decide (a ≤ b) || decide (b ≤ a)) = true := by
  have := List.le_total a b
  simpa using this
theorem sortN_perm {a b : List (List UInt8)} (h : a.Perm b) : sortN a = sortN b := by
  have tr : ∀ (x y z : List UInt8), decide (x ≤ y) = true → decide (y ≤ z) = true → decide (x ≤ z) = true := by
    intro x y z h1 h2
    simp only [decide_eq_true_eq] at *
    exact List.le_trans h1 h2
  have tt : ∀ (x y : List UInt8), (decide (x ≤ y) || decide (y ≤ x)) = true := le_total_bytes
  refine List.Perm.eq_of_pairwise (le := fun x y => decide (x ≤ y) = true) ?_ (List.pairwise_mergeSort tr tt a) (List.pairwise_mergeSort tr tt b) (((List.mergeSort_perm a _).trans h).trans (List.mergeSort_perm b _).symm)
  intro x y _ _ h1 h2
  simp only [decide_eq_true_eq] at h1 h2
  exact List.le_antisymm h1 h2

set_option maxRecDepth 100000 in
theorem list_any {w : World} {base d m : Nat} {room : Int} {L : List Fv} (h : Dk w base d m room L) (hlen : L.length ≤ 1000000) :
    Calls Try.prog 30 #[.pointer (some ⟨d, 0, none⟩)] w fun e w' => ∃ A C, e = .returned (.slice A L.length C) ∧ w'.ownsRow w.heap.size 9 1 (.slice A L.length C) L.length ((sortN (L.map fun p => p.1.nm)).map encStr) ∧ Below w.heap.size w w' := by
  have hc0 := cell_at h.cell 0
  simp at hc0
  have hm := h.map
  obtain ⟨i0, hi, hz0, hz1, hz2⟩ := info_parts info9
  go_enter Try.func30, Try.ntmps30
  go_wp2_with fail
  refine (there_any hc0).mono ?_
  rintro e w1 ⟨rfl, rfl⟩
  go_wp2_with (first
    | (at_range; refine wpList_rng rfl _ rfl rfl hm ?_; intro w2 hr2 hc2 hs2)
    | fail)
  go_frame
  have HR : Hid (Ranges w2 m w1.heap.size L (L.map fun p => p.1.nm)) := hr2
  have HB2 : Hid (Below w1.heap.size w1 w2) := hc2.below (fun _ e => e.elim) (Nat.le_refl _)
  have HD : Hid (Dk w1 base d m room L) := h
  have HML : Hid (m < w1.heap.size) := hm.lt
  clear hr2 hc2 hs2 hm h
  go_loopw [3] (fun v wr => ∃ (left ns : List (List UInt8)), wr.ownsRow w1.heap.size 9 1 v ns.length (ns.map encStr) ∧ (ns ++ left).Perm (L.map fun p => p.1.nm) ∧ Ranges wr m w1.heap.size L left ∧ Below w1.heap.size w1 wr) (fun _ wr => wr.rangeLeft m w1.heap.size)
  case atStart => exact ⟨_, [], World.ownsRow_nil _ _ _ _, List.Perm.refl _, HR.out, HB2.out⟩
  case round =>
    obtain ⟨left, ns, hown, hperm, hrg, hB⟩ := hrel
    go_wp2_with (first
      | (at_next; refine wpList_nxt rfl _ rfl rfl hrg HD.out.form ?_ ?_)
      | fail)
    · intro hl0
      subst hl0
      rw [List.append_nil] at hperm
      have HP : Hid (ns.Perm (L.map fun p => p.1.nm)) := hperm
      have HL : Hid (ns.length = L.length) := by have := hperm.length_eq; simpa [Hid] using this
      have hlen3 : ns.length ≤ 1000000 := by have := HL.out; omega
      have HO : Hid (wr.ownsRow w1.heap.size 9 1 u3 ns.length (ns.map encStr)) := hown
      clear hperm hlen
      rcases hown.2 with ⟨hnil, h0⟩ | ⟨g, cap, cur, hv, hbase, hb, h1, h2, h3, h4⟩
      · have hns : ns = [] := List.length_eq_zero_iff.1 h0
        clear hown
        subst hnil
        subst hns
        go_wp2_with fail
        refine (Try.slices_Sort_string_none none 0 _).mono ?_
        rintro e w5 ⟨rfl, rfl⟩
        go_wp2_with fail
        go_ret
        have hL0 : L.length = 0 := HL.out.symm
        have hLn : L = [] := List.length_eq_zero_iff.1 hL0
        subst hLn
        refine ⟨none, 0, rfl, ?_, hB⟩
        have : sortN (([] : List Fv).map fun p => p.1.nm) = [] := by simp [sortN]
        rw [this]
        exact World.ownsRow_nil _ _ _ _
      · have hsort := Try.slices_Sort_string g 0 cap ns wr (holds_of_block hb (by simpa using h4)) (heap_lt hb) (by omega)
        clear hown
        subst hv
        go_wp2_with fail
        refine hsort.mono ?_
        rintro e w5 ⟨rfl, n5, os5, hw5⟩
        have HW5 : Hid (w5 = grow (putRow encStr (Go.Sort.ahead wr n5) g 0 (ns.mergeSort fun x y => decide (x ≤ y)).toArray) os5) := hw5
        clear hsort hw5
        go_wp2_with fail
        go_ret
        refine ⟨some ⟨g, 0, none⟩, cap, by rw [← HL.out]; rfl, ?_, ?_⟩
        · rw [← HL.out, HW5.out]
          have hs : sortN (L.map fun p => p.1.nm) = ns.mergeSort fun x y => decide (x ≤ y) := (sortN_perm HP.out).symm
          rw [hs]
          exact ownsRow_sorted (by simp) hbase hb h1 h2 h3
        · rw [HW5.out]
          exact hB.trans ((Chg.of_grown (grownBy_sorted _)).below (fun k hk => by cases hk; exact hbase) hB.size)
    · intro l1 l2 f A C w3 hl hlk hrg3 hc3 hs3 hen
      have hlen2 : ns.length + 1 ≤ 1000000 := by
        have := hperm.length_eq
        rw [hl] at this
        simp at this
        omega
      have hne : ∀ k, blk u3 = some k → k ≠ w1.heap.size := by
        intro k hk e
        obtain ⟨cur, hcu, _⟩ := owns_blockS hown hk
        obtain ⟨es, cl, si, se, c0, _, _, _, h4, _⟩ := hrg
        rw [e, h4] at hcu; cases hcu
      have hown3 : w3.ownsRow w1.heap.size 9 1 u3 ns.length (ns.map encStr) := by
        refine ⟨hown.1, ?_⟩
        rcases hown.2 with h | ⟨g, cap, cur, rfl, hb, hg, hr⟩
        · exact .inl h
        · exact .inr ⟨g, cap, cur, rfl, hb, by rw [hc3.block g (heap_lt hg) (fun e => hne g rfl e)]; exact hg, hr⟩
      have HO : Hid (w3.ownsRow w1.heap.size 9 1 u3 ns.length (ns.map encStr)) := hown3
      have hs3' : w1.heap.size ≤ w3.heap.size := by rw [hs3]; exact hB.size
      have HS3 : Hid (w3.heap.size = wr.heap.size) := hs3
      have HNE : Hid (∀ k, blk u3 = some k → k ≠ w1.heap.size) := hne
      obtain ⟨A4, C4, hv4⟩ := owns_formS hown
      subst hv4
      clear hown hown3 hs3 hne
      go_wp2_with (first
        | (at_builtin; refine wpList_append_own_at _ rfl (.tmp 17) (.tmp 19) 53 rfl w1.heap.size 9 i0 (.string ⟨#[]⟩) 1 16 Try.underlying53 hi hz0 hz1 hz2 rfl (by decide) _ ns.length (ns.map encStr) rfl (HO.out.alloc _) ⟨w3.heap.size, 0, none⟩ 1 1 [.string (mkS f.nm)] rfl rfl (cell_one_new _ _ _) (str_one [f.nm]) (by unfold maxLen; omega) (by omega) (by simp; omega) ?_; intro v5 w5 ho5 hg5 hn5 hl5)
        | fail)
      go_roundw
      case rel =>
        have hgc : Chg (fun k => blk (.slice A4 ns.length C4) = some k) (w3.alloc (.cells #[.string (mkS f.nm)] 9)) w5 := Chg.of_grown hg5
        refine ⟨l1 ++ l2, ns ++ [f.nm], ?_, ?_, ?_, ?_⟩
        · rw [List.length_append, List.map_append]; exact ho5
        · have : ((ns ++ [f.nm]) ++ (l1 ++ l2)).Perm (ns ++ (l1 ++ f.nm :: l2)) := by
            rw [List.append_assoc]
            refine List.Perm.append_left ns ?_
            exact (List.perm_middle (a := f.nm) (l₁ := l1) (l₂ := l2)).symm
          rw [hl] at hperm
          exact this.trans hperm
        · refine (hrg3.alloc _).keep hgc ?_ ?_
          · intro e
            obtain ⟨_, _, hle⟩ := owns_blockS HO.out e
            have := HML.out; omega
          · intro e; exact HNE.out _ e rfl
        · have hB3 : Below w1.heap.size w1 w3 := hB.trans (hc3.below (fun k e => by omega) hB.size)
          refine (hB3.alloc hs3' _).trans (hgc.below (fun k hk => ?_) (by simp; omega))
          obtain ⟨_, _, hle⟩ := owns_blockS HO.out hk
          exact hle
      case measure =>
        have hgc : Chg (fun k => blk (.slice A4 ns.length C4) = some k) (w3.alloc (.cells #[.string (mkS f.nm)] 9)) w5 := Chg.of_grown hg5
        have hr5 : Ranges w5 m w1.heap.size L (l1 ++ l2) := by
          refine (hrg3.alloc _).keep hgc ?_ ?_
          · intro e
            obtain ⟨_, _, hle⟩ := owns_blockS HO.out e
            have := HML.out; omega
          · intro e; exact HNE.out _ e rfl
        rw [hr5.left_eq, hrg.left_eq, hl]; simp
end Go.Proofs.Ytndjlnlmlgimlaa
