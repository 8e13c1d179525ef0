/- Trees: a node's children. -/
import Derived.Test.YteaomigmamnobaaGreatDoorTrG
import Derived.Maps.RangeWalk
import Derived.Maps.AppendAt
namespace Go.Proofs.YteaomigmamnobaaGreatDoor
set_option linter.unusedSimpArgs false
set_option linter.unusedVariables false
open Go.RowKit Go.MapKept
set_option linter.unusedVariables false
set_option linter.unusedSimpArgs false

/- A path's children among some. -/
def kid (p c : List UInt8) : Bool := p.isPrefixOf c && decide (PA.parentS c = p)
theorem tperm {seen l1 l2 : List (List UInt8)} {x : List UInt8} {R : List (List UInt8)} (h : (seen ++ (l1 ++ x :: l2)).Perm R) : ((seen ++ [x]) ++ (l1 ++ l2)).Perm R := by
  have : ((seen ++ [x]) ++ (l1 ++ l2)).Perm (seen ++ (l1 ++ x :: l2)) := by
    rw [List.append_assoc]
    refine List.Perm.append_left seen ?_
    exact (List.perm_middle (a := x) (l₁ := l1) (l₂ := l2)).symm
  exact this.trans h
theorem tinfo9 : (Tryz.prog.info? 9).map (fun i => (i.zero, i.size, i.bytes)) = some (some (.string ⟨#[]⟩), 1, 16) := by kernel_rfl
theorem tstr_one (l : List (List UInt8)) : ∀ u ∈ l.map encStr, u.oneCell' = true := by
  intro u hu
  obtain ⟨y, _, rfl⟩ := List.mem_map.1 hu
  rfl
theorem towns_formS {w : World} {base n : Nat} {v : Value} {xs : List Value} (h : w.ownsRow base 9 1 v n xs) : ∃ A C, v = .slice A n C := by
  rcases h.2 with ⟨rfl, rfl⟩ | ⟨g, cap, cur, rfl, _⟩
  · exact ⟨none, 0, rfl⟩
  · exact ⟨_, cap, rfl⟩
theorem tform {w : World} {t m n : Nat} {L : List Fv} {K : List Si.Fv} (h : Tk w t m n L K) : ∀ p ∈ L, ∃ A C, p.2 = .slice A p.1.b.length C := by
  intro p hp
  rcases (h.bs p hp).2 with ⟨h1, h2⟩ | ⟨g, cap, cur, h1, _⟩
  · exact ⟨none, 0, by rw [h1, h2]⟩
  · exact ⟨_, cap, h1⟩
set_option maxRecDepth 100000 in
set_option maxHeartbeats 2000000 in
theorem children_any {w : World} {t m n : Nat} {L : List Fv} {K : List Si.Fv} (h : Tk w t m n L K) (hL : PA.Laid w) (hlen : L.length ≤ 1000000) (p : List UInt8) :
    Calls Tryz.prog 41 #[.pointer (some ⟨t, 0, none⟩), .string (mkS p)] w fun e w' => ∃ (ns : List (List UInt8)) (A : Option Addr) (C : Nat), e = .returned (.slice A ns.length C) ∧ ns.Perm ((L.map fun q => q.1.nm).filter (kid p)) ∧ w'.ownsRow w.heap.size 9 1 (.slice A ns.length C) ns.length (ns.map encStr) ∧ Below w.heap.size w w' := by
  have hc0 := cell_at h.cell 0
  simp at hc0
  have hm := h.nodes
  obtain ⟨i0, hi, hz0, hz1, hz2⟩ := info_parts tinfo9
  go_enter Tryz.func41, Tryz.ntmps41
  go_wp2_with (first
    | (at_range; refine wpList_rng rfl _ rfl rfl hm ?_; intro w2 hr2 hc2 hs2)
    | fail)
  go_frame
  have HR : Hid (Ranges w2 m w.heap.size L (L.map fun p => p.1.nm)) := hr2
  have HB2 : Hid (Below w.heap.size w w2) := hc2.below (fun _ e => e.elim) (Nat.le_refl _)
  have HD : Hid (Tk w t m n L K) := h
  have HML : Hid (m < w.heap.size) := hm.lt
  have HLD : Hid (PA.Laid w) := hL
  clear hr2 hc2 hs2 hm h hL
  go_loopw [5] (fun v wr => ∃ (left seen ns : List (List UInt8)), wr.ownsRow w.heap.size 9 1 v ns.length (ns.map encStr) ∧ ns = seen.filter (kid p) ∧ (seen ++ left).Perm (L.map fun p => p.1.nm) ∧ Ranges wr m w.heap.size L left ∧ Below w.heap.size w wr) (fun _ wr => wr.rangeLeft m w.heap.size)
  case atStart => exact ⟨_, [], [], World.ownsRow_nil _ _ _ _, rfl, List.Perm.refl _, HR.out, HB2.out⟩
  case round =>
    obtain ⟨left, seen, ns, hown, hns, hperm, hrg, hB⟩ := hrel
    obtain ⟨A4, C4, hv4⟩ := towns_formS hown
    subst hv4
    have hlen2 : ns.length + left.length ≤ 1000000 := by
      have h1 := hperm.length_eq
      have h2 : ns.length ≤ seen.length := by rw [hns]; exact List.length_filter_le _ _
      rw [List.length_append, List.length_map] at h1
      omega
    have HLEN : Hid (ns.length + left.length ≤ 1000000) := hlen2
    have HN : Hid (ns = seen.filter (kid p)) := hns
    have HP : Hid ((seen ++ left).Perm (L.map fun p => p.1.nm)) := hperm
    have HB : Hid (Below w.heap.size w wr) := hB
    have HO : Hid (wr.ownsRow w.heap.size 9 1 (.slice A4 ns.length C4) ns.length (ns.map encStr)) := hown
    clear hns hperm hB hown hlen2 hlen
    go_wp2_with (first
      | (at_next; refine wpList_nxt rfl _ rfl rfl hrg (tform HD.out) ?_ ?_)
      | fail)
    · intro hl0
      subst hl0
      go_wp2_with fail
      go_ret
      refine ⟨ns, A4, C4, rfl, ?_, HO.out, HB.out⟩
      have := HP.out
      rw [List.append_nil] at this
      rw [HN.out]
      exact this.filter _
    · intro l1 l2 f A C w3 hl hlk hrg3 hc3 hs3 hen
      have hs3' : w.heap.size ≤ w3.heap.size := by rw [hs3]; exact HB.out.size
      have hB3 : Below w.heap.size w w3 := HB.out.trans (hc3.below (fun k e => by omega) HB.out.size)
      have hne : ∀ k, Value.ownBlock (.slice A4 ns.length C4) = some k → k ≠ w.heap.size := by
        intro k hk e
        obtain ⟨cur, hcu, _⟩ := towns_block HO.out hk
        obtain ⟨es, cl, si, se, c0, _, _, _, h4, _⟩ := hrg
        rw [e, h4] at hcu; cases hcu
      have HNE : Hid (∀ k, Value.ownBlock (.slice A4 ns.length C4) = some k → k ≠ w.heap.size) := hne
      have HO3 : Hid (w3.ownsRow w.heap.size 9 1 (.slice A4 ns.length C4) ns.length (ns.map encStr)) := towns_keep HO.out hc3 hne
      have HB3 : Hid (Below w.heap.size w w3) := hB3
      have HR3 : Hid (Ranges w3 m w.heap.size L (l1 ++ l2)) := hrg3
      have HR1 : Hid (Ranges wr m w.heap.size L left) := hrg
      have HS3 : Hid (w.heap.size ≤ w3.heap.size) := hs3'
      have HL3 : Hid (left = l1 ++ f.nm :: l2) := hl
      have hpre := Tryz.strings_HasPrefix (mkS f.nm) (mkS p) w3
      have hpar := PA.parent_k f.nm w3 w3 ⟨HLD.out.from HLD.out.gt hB3 |> fun x => x, Below.refl _ _⟩
      have hq1 : Lib.hasPrefix (mkS f.nm).data.toList (mkS p).data.toList = p.isPrefixOf f.nm := by rw [Lib.hasPrefix]; rfl
      rw [hq1] at hpre
      clear hq1 hrg hrg3 hs3' hB3 hc3 hs3 hl hlk hne HD
      cases hpf : p.isPrefixOf f.nm with
      | false =>
        rw [hpf] at hpre
        go_wp2_with fail
        refine hpre.mono ?_
        rintro e w4 ⟨rfl, rfl⟩
        clear hpre hpar
        go_wp2_with fail
        go_roundw
        case rel =>
          refine ⟨l1 ++ l2, seen ++ [f.nm], ns, HO3.out, ?_, ?_, HR3.out, HB3.out⟩
          · rw [List.filter_append, HN.out]
            simp [kid, hpf]
          · exact tperm (HL3.out ▸ HP.out)
        case measure => rw [HR3.out.left_eq, HR1.out.left_eq, HL3.out]; simp
      | true =>
        rw [hpf] at hpre
        by_cases hpe : PA.parentS f.nm = p
        · have hbe : ((mkS (PA.parentS f.nm)).toList == (mkS p).toList) = true := by rw [hpe]; simp
          have hlen3 : ns.length + 1 ≤ 1000000 := by
            have h1 := HLEN.out
            rw [HL3.out] at h1
            simp at h1
            omega
          have hkd : kid p f.nm = true := by simp [kid, hpf, hpe]
          have HKD : Hid (kid p f.nm = true) := hkd
          clear hkd hpf hpe
          go_wp2_with fail
          refine hpre.mono ?_
          rintro e w4 ⟨rfl, rfl⟩
          clear hpre
          go_wp2_with fail
          refine hpar.mono ?_
          rintro e w5 ⟨rfl, hk5⟩
          have HK5 : Hid (Below w4.heap.size w4 w5) := hk5.below
          clear hpar hk5
          have hs5 : w.heap.size ≤ w5.heap.size := by have := HK5.out.size; have := HS3.out; omega
          have HO5 : Hid (w5.ownsRow w.heap.size 9 1 (.slice A4 ns.length C4) ns.length (ns.map encStr)) := towns_keep HO3.out (Chg.of_below HK5.out) (fun _ _ => id)
          have HR5 : Hid (Ranges w5 m w.heap.size L (l1 ++ l2)) := HR3.out.keep (Chg.of_below HK5.out) id id
          have HB5 : Hid (Below w.heap.size w w5) := HB3.out.trans (HK5.out.mono HS3.out)
          clear HO3 HR3 HB3 HK5 HS3
          go_wp2_with (first
            | (at_builtin; refine wpList_append_own_at _ rfl (.tmp 25) (.tmp 27) 51 rfl w.heap.size 9 i0 (.string ⟨#[]⟩) 1 16 Tryz.underlying51 hi hz0 hz1 hz2 rfl (by decide) _ ns.length (ns.map encStr) rfl (HO5.out.alloc _) ⟨w5.heap.size, 0, none⟩ 1 1 [.string (mkS f.nm)] rfl rfl (cell_one_new _ _ _) (tstr_one [f.nm]) (by unfold maxLen; omega) (by omega) (by simp; omega) ?_; intro v6 w6 ho6 hg6 hn6 hl6)
            | fail)
          have hgc : Chg (fun k => Value.ownBlock (.slice A4 ns.length C4) = some k) (w5.alloc (.cells #[.string (mkS f.nm)] 9)) w6 := Chg.of_grown hg6
          have hr6 : Ranges w6 m w.heap.size L (l1 ++ l2) := by
            refine (HR5.out.alloc _).keep hgc ?_ ?_
            · intro e
              obtain ⟨_, _, hle⟩ := towns_block HO5.out e
              have := HML.out; omega
            · intro e; exact HNE.out _ e rfl
          have hb6 : Below w.heap.size w w6 := by
            refine (HB5.out.alloc hs5 _).trans (hgc.below (fun k hk => ?_) (by simp; omega))
            obtain ⟨_, _, hle⟩ := towns_block HO5.out hk
            exact hle
          have HR6 : Hid (Ranges w6 m w.heap.size L (l1 ++ l2)) := hr6
          have HB6 : Hid (Below w.heap.size w w6) := hb6
          have HO6 := ho6
          clear hr6 hb6 hgc hg6
          go_roundw
          case rel =>
            refine ⟨l1 ++ l2, seen ++ [f.nm], ns ++ [f.nm], ?_, ?_, tperm (HL3.out ▸ HP.out), HR6.out, HB6.out⟩
            · rw [List.length_append, List.map_append]; exact ho6
            · rw [List.filter_append, ← HN.out]
              simp [HKD.out]
          case measure => rw [HR6.out.left_eq, HR1.out.left_eq, HL3.out]; simp
        · have hbe : ((mkS (PA.parentS f.nm)).toList == (mkS p).toList) = false := by rw [PA.mkS_toList, PA.mkS_toList]; simpa using hpe
          have hkd : kid p f.nm = false := by simp [kid, hpe]
          have HKD : Hid (kid p f.nm = false) := hkd
          clear hkd hpf hpe
          go_wp2_with fail
          refine hpre.mono ?_
          rintro e w4 ⟨rfl, rfl⟩
          clear hpre
          go_wp2_with fail
          refine hpar.mono ?_
          rintro e w5 ⟨rfl, hk5⟩
          have HK5 : Hid (Below w4.heap.size w4 w5) := hk5.below
          clear hpar hk5
          have HO5 : Hid (w5.ownsRow w.heap.size 9 1 (.slice A4 ns.length C4) ns.length (ns.map encStr)) := towns_keep HO3.out (Chg.of_below HK5.out) (fun _ _ => id)
          have HR5 : Hid (Ranges w5 m w.heap.size L (l1 ++ l2)) := HR3.out.keep (Chg.of_below HK5.out) id id
          have HB5 : Hid (Below w.heap.size w w5) := HB3.out.trans (HK5.out.mono HS3.out)
          clear HO3 HR3 HB3 HK5 HS3
          go_wp2_with fail
          go_roundw
          case rel =>
            refine ⟨l1 ++ l2, seen ++ [f.nm], ns, HO5.out, ?_, tperm (HL3.out ▸ HP.out), HR5.out, HB5.out⟩
            rw [List.filter_append, HN.out]
            simp [HKD.out]
          case measure => rw [HR5.out.left_eq, HR1.out.left_eq, HL3.out]; simp
end Go.Proofs.YteaomigmamnobaaGreatDoor
