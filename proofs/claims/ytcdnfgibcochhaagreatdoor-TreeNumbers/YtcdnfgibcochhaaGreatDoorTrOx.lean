/- Trees: Owned, exactly. -/
import Derived.Test.YtcdnfgibcochhaaGreatDoorTrWb
namespace Go.Proofs.YtcdnfgibcochhaaGreatDoor
set_option linter.unusedSimpArgs false
set_option linter.unusedVariables false
set_option linter.unusedSimpArgs false
set_option linter.unusedVariables false
open Go.RowKit Go.MapKept
open Go.Sort (Holds putRow grow)

/- What is gathered while all are looked at. -/
structure OwnIn (N : List Fi) (s : Int) (seen ns : List (List UInt8)) : Prop where
  i : ∀ q ∈ N, q.nm ∈ seen → q.st.own = s → q.nm ∈ ns
  o : ∀ x ∈ ns, ∃ q ∈ N, q.nm = x ∧ q.st.own = s
  sub : ns.Sublist seen
def OwnIs (N : List Fi) (s : Int) (ns : List (List UInt8)) : Prop := (∀ x, x ∈ ns ↔ ∃ q ∈ N, q.nm = x ∧ q.st.own = s) ∧ ns.Nodup
theorem OwnIn.all {N : List Fi} {s : Int} {seen ns names : List (List UInt8)} (h : OwnIn N s seen ns) (hp : seen.Perm names) (hn : names = N.map (·.nm)) (hnd : names.Nodup) : OwnIs N s ns := by
  refine ⟨fun x => ⟨h.o x, ?_⟩, h.sub.nodup (hp.nodup_iff.2 hnd)⟩
  rintro ⟨q, hq, rfl, ho⟩
  exact h.i q hq (hp.mem_iff.2 (by rw [hn]; exact List.mem_map.2 ⟨q, hq, rfl⟩)) ho
theorem OwnIs.sort {N : List Fi} {s : Int} {ns : List (List UInt8)} (h : OwnIs N s ns) : OwnIs N s (sortN ns) :=
  ⟨fun x => ((List.mergeSort_perm ns _).mem_iff).trans (h.1 x), (List.mergeSort_perm ns _).nodup_iff.2 h.2⟩
set_option maxRecDepth 100000 in
set_option maxHeartbeats 8000000 in
theorem owned_is {w : World} {t m n : Nat} {L : List Fv} {K : List Si.Fv} (h : Tk w t m n L K) (hlen : L.length ≤ 1000000) (s : Int) (hs : 1 ≤ s) :
    Calls Tryz.prog 16 #[.pointer (some ⟨t, 0, none⟩), .int .i64 s] w fun e w' => ∃ (ns : List (List UInt8)) (A : Option Addr) (C : Nat), e = .returned (.slice A ns.length C) ∧ OwnIs (L.map Prod.fst) s ns ∧ w'.ownsRow w.heap.size 9 1 (.slice A ns.length C) ns.length (ns.map encStr) ∧ ns.length ≤ L.length ∧ Below w.heap.size w w' := by
  have hc0 : w.cell? ⟨t, 0, none⟩ = some (.map (some m)) := cell_at h.cell 0
  have hm := h.nodes
  have hth := there_yes hc0
  obtain ⟨i0, hi, hz0, hz1, hz2⟩ := info_parts tinfo9
  have HML : Hid (m < w.heap.size) := hm.lt
  have HD : Hid (Tk w t m n L K) := h
  have HLL : Hid ((L.map fun p => p.1.nm).length = L.length) := by unfold Hid; simp
  have hs1 : ¬ s < 1 := by omega
  clear h
  go_enter Tryz.func16, Tryz.ntmps16
  go_wp2_with fail
  refine hth.mono ?_
  rintro e w1 ⟨rfl, hw1⟩
  obtain rfl : w = w1 := hw1.symm
  clear hth
  go_wp2_with (first
    | (at_range; refine wpList_rng rfl _ rfl rfl hm ?_; intro w2 hr2 hc2 hs2)
    | fail)
  go_frame
  have HR : Hid (Ranges w2 m w.heap.size L (L.map fun p => p.1.nm)) := hr2
  have HB2 : Hid (Below w.heap.size w w2) := hc2.below (fun _ e => e.elim) (Nat.le_refl _)
  clear hr2 hc2 hs2 hm hc0 hs1
  go_loopw [5] (fun v wr => ∃ (left seen ns : List (List UInt8)), wr.ownsRow w.heap.size 9 1 v ns.length (ns.map encStr) ∧ ns.length ≤ seen.length ∧ OwnIn (L.map Prod.fst) s seen ns ∧ (seen ++ left).Perm (L.map fun p => p.1.nm) ∧ Ranges wr m w.heap.size L left ∧ Below w.heap.size w wr) (fun _ wr => wr.rangeLeft m w.heap.size)
  case atStart => exact ⟨_, [], [], World.ownsRow_nil _ _ _ _, Nat.le_refl _, ⟨fun q _ h => (nomatch h), fun x h => (nomatch h), List.Sublist.slnil⟩, List.Perm.refl _, HR.out, HB2.out⟩
  case round =>
    obtain ⟨left, seen, ns, hown, hns, hin, hperm, hrg, hB⟩ := hrel
    go_wp2_with (first
      | (at_next; refine wpList_nxt rfl _ rfl rfl hrg (tform HD.out) ?_ ?_)
      | fail)
    · intro hl0
      subst hl0
      rw [List.append_nil] at hperm
      have hnl : ns.length ≤ L.length := by have h1 := hperm.length_eq; have h2 := HLL.out; omega
      have HIN : Hid (OwnIs (L.map Prod.fst) s ns) := hin.all hperm (by rw [List.map_map]; rfl) HD.out.nodes.names
      have HB : Hid (Below w.heap.size w wr) := hB
      have HNL : Hid (ns.length ≤ L.length) := hnl
      have hcl : ns.length ≤ 1000000 := by omega
      clear hns hin hperm hrg hB hnl hlen
      rcases hown.2 with ⟨hnil, h0⟩ | ⟨g, cap, cur, hv, hbase, hb, h1, h2, h3, h4⟩
      · have hn0 : ns = [] := List.length_eq_zero_iff.1 h0
        subst hnil
        subst hn0
        clear hown
        go_wp2_with fail
        refine (Tryz.slices_Sort_string_none none 0 _).mono ?_
        rintro e w5 ⟨rfl, rfl⟩
        go_wp2_with fail
        go_ret
        exact ⟨[], none, 0, rfl, HIN.out, World.ownsRow_nil _ _ _ _, HNL.out, HB.out⟩
      · subst hv
        have hsort := Tryz.slices_Sort_string g 0 cap ns wr (holds_of_block hb (by simpa using h4)) (theap_lt hb) (by omega)
        have H1 : Hid _ := h1
        have H2 : Hid _ := h2
        have H3 : Hid _ := h3
        have HBK : Hid _ := hb
        have HBS : Hid (w.heap.size ≤ g) := hbase
        clear hown h1 h4 h2 h3 hb hcl hbase
        go_wp2_with fail
        refine hsort.mono ?_
        rintro e w5 ⟨rfl, n5, os5, hw5⟩
        have HW5 : Hid (w5 = grow (putRow encStr (Go.Sort.ahead wr n5) g 0 (ns.mergeSort fun x y => decide (x ≤ y)).toArray) os5) := hw5
        clear hsort hw5
        go_wp2_with fail
        go_ret
        have hln : (sortN ns).length = ns.length := by rw [sortN, List.length_mergeSort]
        refine ⟨sortN ns, some ⟨g, 0, none⟩, cap, by rw [hln]; rfl, HIN.out.sort, ?_, by rw [hln]; exact HNL.out, ?_⟩
        · rw [hln, HW5.out]
          exact ownsRow_sorted (by simp) HBS.out HBK.out H1.out H2.out H3.out
        · rw [HW5.out]
          exact HB.out.trans ((Chg.of_grown (grownBy_sorted _)).below (fun j hj => by cases hj; exact HBS.out) HB.out.size)
    · intro l1 l2 f A C w3 hl hlk hrg3 hc3 hs3 hen
      have hlen2 : ns.length + 1 ≤ 1000000 := by
        have h1 := hperm.length_eq
        have h2 := HLL.out
        rw [hl] at h1
        simp at h1 h2
        omega
      have hne : ∀ k, (u5 : Value).ownBlock = some k → k ≠ w.heap.size := by
        intro k hk e
        obtain ⟨cur, hcu, _⟩ := towns_block hown hk
        obtain ⟨es, cl, si, se, c0, _, _, _, h4, _⟩ := hrg
        rw [e, h4] at hcu; cases hcu
      have HNE : Hid (∀ k, (u5 : Value).ownBlock = some k → k ≠ w.heap.size) := hne
      have HO : Hid (w3.ownsRow w.heap.size 9 1 u5 ns.length (ns.map encStr)) := towns_keep hown hc3 (fun k hk e => hne k hk e)
      have hB3 : Below w.heap.size w w3 := hB.trans (hc3.below (fun k e => by omega) hB.size)
      have HB3 : Hid (Below w.heap.size w w3) := hB3
      have HNS : Hid (ns.length ≤ seen.length) := hns
      have HIN : Hid (OwnIn (L.map Prod.fst) s seen ns) := hin
      have HFL : Hid (f ∈ L.map Prod.fst) := List.mem_map.2 ⟨_, (look_some hlk).1, rfl⟩
      have HP : Hid ((seen ++ left).Perm (L.map fun p => p.1.nm)) := hperm
      have HL : Hid (left = l1 ++ f.nm :: l2) := hl
      have HR1 : Hid (Ranges wr m w.heap.size L left) := hrg
      have HR3 : Hid (Ranges w3 m w.heap.size L (l1 ++ l2)) := hrg3
      have HLF : Hid (∀ q ∈ L.map Prod.fst, q.nm = f.nm → q = f) := by
        intro q hq hqn
        have hnn : nam (L.map Prod.fst) := by
          have := HD.out.nodes.names
          unfold nam
          rw [List.map_map]; exact this
        have h1 := look_in hnn hq
        have h2 : lookF f.nm (L.map Prod.fst) = some f := by rw [← look_F, hlk]; rfl
        rw [hqn, h2] at h1
        exact (Option.some.inj h1).symm
      obtain ⟨A4, C4, hv4⟩ := nform hown
      subst hv4
      have hval : valOf (f, .slice A f.b.length C) = .agg (nodeA f A C) := rfl
      rw [hval] at hen ⊢
      have hs3' : w.heap.size ≤ w3.heap.size := hB3.size
      clear hown hns hin hperm hrg hB hl hlk hrg3 hc3 hs3 hne hB3 hval
      by_cases hown2 : f.st.own = s
      · have HOW : Hid (f.st.own = s) := hown2
        have hbe : (f.st.own == s) = true := by rw [hown2]; simp
        clear hown2
        go_wp2_with (first
          | (at_builtin; refine wpList_append_own_at _ rfl (.tmp 30) (.tmp 32) 51 rfl w.heap.size 9 i0 (.string ⟨#[]⟩) 1 16 Tryz.underlying51 hi hz0 hz1 hz2 rfl (by decide) _ ns.length (ns.map encStr) rfl ((HO.out.alloc _).alloc _) ⟨w3.heap.size + 1, 0, none⟩ 1 1 [.string (mkS f.nm)] rfl rfl (by have := cell_one_new (w3.alloc (.cells (nodeA f A C) 77)) (.string (mkS f.nm)) 9; simpa using this) (tstr_one [f.nm]) (by unfold maxLen; omega) (by omega) (by simp; omega) ?_; intro v6 w6 ho6 hg6 hn6 hl6)
          | fail)
        have hgc : Chg (fun k => (Value.slice A4 ns.length C4).ownBlock = some k) ((w3.alloc (.cells (nodeA f A C) 77)).alloc (.cells #[.string (mkS f.nm)] 9)) w6 := Chg.of_grown hg6
        have hr6 : Ranges w6 m w.heap.size L (l1 ++ l2) := by
          refine ((HR3.out.alloc _).alloc _).keep hgc ?_ ?_
          · intro e
            obtain ⟨_, _, hle⟩ := nblock HO.out e
            have := HML.out; omega
          · intro e; exact HNE.out _ e rfl
        have hb6 : Below w.heap.size w w6 := by
          refine ((HB3.out.alloc hs3' _).alloc (by simp; omega) _).trans (hgc.below (fun k hk => ?_) (by simp; omega))
          obtain ⟨_, _, hle⟩ := nblock HO.out hk
          exact hle
        have HR6 : Hid (Ranges w6 m w.heap.size L (l1 ++ l2)) := hr6
        have HB6 : Hid (Below w.heap.size w w6) := hb6
        have HO6 : Hid (w6.ownsRow w.heap.size 9 1 v6 (ns ++ [f.nm]).length ((ns ++ [f.nm]).map encStr)) := by
          unfold Hid
          rw [List.length_append, List.map_append]; exact ho6
        clear hr6 hb6 hgc hg6 ho6
        go_roundw
        case rel =>
          refine ⟨l1 ++ l2, seen ++ [f.nm], ns ++ [f.nm], HO6.out, by have := HNS.out; simp; omega, ?_, tperm (HL.out ▸ HP.out), HR6.out, HB6.out⟩
          refine ⟨fun q hq hqs ho => ?_, fun x hx => ?_, HIN.out.sub.append (List.Sublist.refl _)⟩
          · rcases List.mem_append.1 hqs with h | h
            · exact List.mem_append_left _ (HIN.out.i q hq h ho)
            · exact List.mem_append_right _ h
          · rcases List.mem_append.1 hx with h | h
            · exact HIN.out.o x h
            · rw [List.mem_singleton] at h
              exact ⟨f, HFL.out, h.symm, HOW.out⟩
        case measure => rw [HR6.out.left_eq, HR1.out.left_eq, HL.out]; simp
      · have HOW : Hid (f.st.own ≠ s) := hown2
        have hbe : (f.st.own == s) = false := by simpa using hown2
        clear hown2
        go_wp2_with fail
        have HR6 : Hid (Ranges (w3.alloc (.cells (nodeA f A C) 77)) m w.heap.size L (l1 ++ l2)) := HR3.out.alloc _
        have HB6 : Hid (Below w.heap.size w (w3.alloc (.cells (nodeA f A C) 77))) := HB3.out.alloc hs3' _
        have HO6 : Hid ((w3.alloc (.cells (nodeA f A C) 77)).ownsRow w.heap.size 9 1 (.slice A4 ns.length C4) ns.length (ns.map encStr)) := HO.out.alloc _
        go_roundw
        case rel =>
          refine ⟨l1 ++ l2, seen ++ [f.nm], ns, HO6.out, by have := HNS.out; simp; omega, ?_, tperm (HL.out ▸ HP.out), HR6.out, HB6.out⟩
          refine ⟨fun q hq hqs ho => ?_, HIN.out.o, HIN.out.sub.trans (List.sublist_append_left _ _)⟩
          rcases List.mem_append.1 hqs with h | h
          · exact HIN.out.i q hq h ho
          · rw [List.mem_singleton] at h
            rw [HLF.out q hq h] at ho
            exact absurd ho HOW.out
        case measure => rw [HR6.out.left_eq, HR1.out.left_eq, HL.out]; simp
end Go.Proofs.YtcdnfgibcochhaaGreatDoor
