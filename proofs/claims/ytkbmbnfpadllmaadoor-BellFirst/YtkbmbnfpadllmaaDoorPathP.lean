/- The walks of package path's Parent and Base, for every text. -/
import Derived.Test.YtkbmbnfpadllmaaDoorPathW
import Derived.Test.YtkbmbnfpadllmaaDoorShelf2
namespace Go.Proofs.YtkbmbnfpadllmaaDoor.PA
open Go.RowKit Go.Shelf
attribute [local go_sem] Oper.semAt_some

theorem check_k (p : List UInt8) (b : Bool) (hb : right p = b) (w0 w : World) (hk : Kept w0 w) :
    Calls Tryd.prog 12 #[.string (mkS p)] w fun e w' => e = .returned (.bool b) ∧ Kept w0 w' := by
  refine (check_any p w hk.laid).mono ?_
  rintro e w' ⟨rfl, hB⟩
  exact ⟨by rw [hb], hk.go hB⟩
theorem clone_k (t : List UInt8) (ht : t.length ≤ 200) (w0 w : World) (hk : Kept w0 w) :
    Calls Tryd.prog 30 #[.string (mkS t)] w fun e w' => e = .returned (.string (mkS t)) ∧ Kept w0 w' := by
  have h := Tryd.stringslite_Clone (mkS t) w (by rw [mkS_size]; omega)
  have hg : ∀ w', Below w.heap.size w w' → Kept w0 w' := fun w' h => hk.go h
  go_enter Tryd.func30, Tryd.ntmps30
  go_wp2_with (go_at_call 42; refine h.mono ?_; rintro e w' ⟨rfl, hB⟩)
  go_ret
  exact ⟨rfl, hg _ (by assumption)⟩

theorem lastS_len {p : List UInt8} : (lastS p).length ≤ 200 := by
  by_cases h : lastS p = []
  · rw [h]; simp
  · obtain ⟨l, x, hr, hp, _, _, hx⟩ := lastS_ne h
    have := right_len hr
    rw [hp] at this
    rw [hx]; simp at this; omega

set_option maxRecDepth 100000 in
set_option maxHeartbeats 2000000 in
theorem last_k (p : List UInt8) (w0 w : World) (hk : Kept w0 w) :
    Calls Tryd.prog 48 #[.string (mkS p)] w fun e w' => e = .returned (.string (mkS (lastS p))) ∧ Kept w0 w' := by
  cases hr : right p with
  | false =>
    have hf := lastS_not hr
    go_enter Tryd.func48, Tryd.ntmps48
    go_wp2_with (go_at_call 12; refine (check_k p false hr w0 _ (by assumption)).mono ?_; rintro e w' ⟨rfl, hk'⟩)
    go_ret
    exact ⟨by rw [hf]; rfl, by assumption⟩
  | true =>
    have hl := right_len hr
    have hh' : p.head? = some 47 := by simp [right] at hr; exact hr.2.1
    have hc := check_any p w hk.laid
    rw [hr] at hc
    refine (callsIn_wide (n := 3)).1 ?_
    refine callsIn_of_wp_marks Tryd.func48 rfl trivial ?_ rfl
    simp only [Tryd.ntmps48, List.size_toArray, List.length_cons, List.length_nil, Nat.reduceAdd, Nat.reduceSub, Array.replicate_succ, Array.replicate_zero, List.push_toArray, List.append_toArray, List.nil_append, List.cons_append]
    gi_wp2_with fail
    refine ⟨trivial, ?_⟩
    gi_at_call 12
    refine (callsIn_wide.2 hc).mono ?_
    rintro e w1 ⟨rfl, hB1⟩
    have hL1 : Laid w1 := hk.laid.below hB1
    clear hc
    gi_wp2_with (refine ⟨trivial, ?_⟩; gi_at_call 26; refine (callsIn_wide.2 (parts_any _ _)).mono ?_; rintro e w' ⟨rfl, rfl⟩)
    obtain ⟨W0, hW0⟩ : ∃ W0, (w1.alloc (.cells #[.string ⟨#[]⟩] 9)).alloc (.cells #[.string (mkS p)] 9) = W0 := ⟨_, rfl⟩
    have hc1 : W0.cell? ⟨w1.heap.size, 0, none⟩ = some (.string ⟨#[]⟩) := by rw [← hW0]; exact cell_alloc_l _ (newCell w1 _ _).1
    have hf1 : W0.frozen? ⟨w1.heap.size, 0, none⟩ = false := by rw [← hW0]; exact frozen_alloc_l _ (newCell w1 _ _).1 (newCell w1 _ _).2
    have hc2 : W0.cell? ⟨w1.heap.size + 1, 0, none⟩ = some (.string (mkS p)) := by rw [← hW0]; have := (newCell (w1.alloc (.cells #[.string ⟨#[]⟩] 9)) (.string (mkS p)) 9).1; rwa [World.size_alloc] at this
    have hB0 : Below w1.heap.size w1 W0 := by rw [← hW0]; exact (newBelow w1 _).alloc (by simp) _
    have hs0 : W0.heap.size = w1.heap.size + 2 := by rw [← hW0]; simp
    have hw0 := hL1.gt
    rw [hW0]
    refine wpIn_rangeFunc_ownF (n := 3) rfl (by omega) (gf := 40) (lb := #[.pointer (some ⟨w1.heap.size + 1, 0, none⟩)]) rfl trivial (enters_of Tryd.func40 (by kernel_rfl) rfl)
      (parts1_stops _ (w1.heap.size + 1) w1.heap.size p hl hh' W0 (hL1.below hB0) (by omega) hw0 hc2) belowK_t (belowK_b (by omega)) (Below.refl _ _) (fun _ => rfl)
      (fun pre W => (W.cell? ⟨w1.heap.size, 0, none⟩ = some (.string (mkS (pre.getLastD []))) ∧ W.frozen? ⟨w1.heap.size, 0, none⟩ = false) ∧ Below w1.heap.size w1 W)
      (fun _ _ _ => False)
      ?hI ?hIx ?h0
      (fun x => { tmps := #[.string (mkS p), undef, .string ⟨#[]⟩, .pointer (some ⟨w1.heap.size, 0, none⟩), .string (mkS x), .string (mkS p), .bool true, .bool false, .string (mkS p), .func (.func 40) #[] #[.pointer (some ⟨w1.heap.size + 1, 0, none⟩)], .string (mkS x), undef, undef], defers := [] }) ?assign ?body ?done ?stop
    case hI => exact OwnFrom.and (Own.from (fun s A B row hs hg hr => ⟨cell_kept hs.1 hg hr, (frozen_kept hs.1 hg hr).trans hs.2⟩) _) (ownFrom_below (Nat.le_refl _) (by omega))
    case hIx => exact fun _ _ _ _ _ hs _ _ => hs
    case h0 => exact ⟨⟨hc1, hf1⟩, hB0⟩
    case assign =>
      intro l x W K hK
      gi_wp2
      exact hK
    case body =>
      rintro l pre x W ⟨⟨hc, hf⟩, hB⟩ _
      gi_wp2
      exact ⟨KeepsOthers.setCell _ _ _, (Below.refl w1.heap.size W).setCell (p := ⟨w1.heap.size, 0, none⟩) (Nat.le_refl _) _, ⟨by rw [World.cell?_setCell_same' _ _ _ (by rw [hc]; rfl)]; simp, by rw [World.frozen?_setCell]; exact hf⟩, hB.setCell (p := ⟨w1.heap.size, 0, none⟩) (Nat.le_refl _) _⟩
    case done =>
      rintro D ys W hD rfl ⟨⟨hc, _⟩, hB⟩ hK
      have hz : lastS p = (parts p).getLastD [] := by rw [lastS, if_pos hr]
      rw [← hz] at hc
      clear hz
      gi_wp2
      refine ⟨by simp, .inl ⟨_, _, rfl, run_takeDeferred hK, ?_⟩⟩
      exact ⟨_, results_tmp rfl _ _ _, rfl, (hk.go hB1).go (hB.trans (belowK_b (w := w1) (Nat.le_refl _) W D _ _ (by omega) hK rfl rfl))⟩
    case stop =>
      rintro D c pre W _ _ h _
      exact h.elim

set_option maxRecDepth 100000 in
theorem parent_k (p : List UInt8) (w0 w : World) (hk : Kept w0 w) :
    Calls Tryd.prog 36 #[.string (mkS p)] w fun e w' => e = .returned (.string (mkS (parentS p))) ∧ Kept w0 w' := by
  by_cases hz : lastS p = []
  · have hf : parentS p = [] := by rw [parentS, if_pos hz]
    rw [hf]
    have hq : (mkS (lastS p)).toList.isEmpty = true := by rw [mkS_toList, hz]; rfl
    clear hf hz
    go_enter Tryd.func36, Tryd.ntmps36
    go_wp2_with fail
    refine (last_k p w0 _ hk).mono ?_
    rintro e w1 ⟨rfl, hk1⟩
    go_wp2
    go_ret
    exact ⟨rfl, hk1⟩
  · obtain ⟨l, h1, h2, h3⟩ := head_cut hz
    have hpl : p.length ≤ 200 := by obtain ⟨_, _, hr, _⟩ := lastS_ne hz; exact right_len hr
    have hq : (mkS (lastS p)).toList.isEmpty = false := by rw [mkS_toList]; simp [hz]
    have hs1 := mkS_size p
    have hs2 := mkS_size (lastS p)
    have hll := @lastS_len p
    have hex : (mkS p).extract 0 (p.length - (lastS p).length - 1) = mkS (glue l) := by rw [mkS_extract, ← h1]; simp
    have hgl : (glue l).length ≤ 200 := by rw [← h1]; simp; omega
    rw [h2]
    clear h1 h2
    by_cases hg : glue l = []
    · rw [if_pos hg]
      have hq2 : (mkS (glue l)).toList.isEmpty = true := by rw [mkS_toList, hg]; rfl
      clear hg hz
      go_enter Tryd.func36, Tryd.ntmps36
      go_wp2_with fail
      refine (last_k p w0 _ hk).mono ?_
      rintro e w1 ⟨rfl, hk1⟩
      go_wp2
      go_ret
      exact ⟨rfl, hk1⟩
    · rw [if_neg hg]
      have hq2 : (mkS (glue l)).toList.isEmpty = false := by rw [mkS_toList]; simp [hg]
      clear hg hz
      go_enter Tryd.func36, Tryd.ntmps36
      go_wp2_with fail
      refine (last_k p w0 _ hk).mono ?_
      rintro e w1 ⟨rfl, hk1⟩
      go_wp2_with fail
      refine (clone_k (glue l) hgl w0 _ hk1).mono ?_
      rintro e w2 ⟨rfl, hk2⟩
      go_wp2
      go_ret
      exact ⟨rfl, hk2⟩

end Go.Proofs.YtkbmbnfpadllmaaDoor.PA
