/- The document's book: touching, adding. -/
import Derived.Test.YtbehainbggdpeaaGreatBoS
namespace Go.Proofs.YtbehainbggdpeaaGreat
set_option linter.unusedSimpArgs false
set_option linter.unusedVariables false
open Go.RowKit Go.MapKept
set_option linter.unusedVariables false
set_option linter.unusedSimpArgs false

theorem cel_set2 : ∀ (S : List Fi) (j : Nat) (p : Fi) (h : j < S.length), p.nm = (S[j]'h).nm → p.tmo = (S[j]'h).tmo → (S.set j p).flatMap cel = (S.flatMap cel).set (j * 3 + 2) (.int .i64 p.en)
  | [], _, _, h, _, _ => by simp at h
  | q :: S, 0, p, _, hn, ht => by
    simp only [List.getElem_cons_zero] at hn ht
    simp [cel, hn, ht]
  | q :: S, j + 1, p, h, hn, ht => by
    have ih := cel_set2 S j p (by simpa using h) (by simpa using hn) (by simpa using ht)
    rw [List.set_cons_succ, List.flatMap_cons, List.flatMap_cons, ih]
    rw [List.set_append_right _ _ (by simp [cel]; omega)]
    congr 2
    simp [cel]; omega
theorem owns_set {T : TypeId} {sz : Nat} {w : World} {base g n cap : Nat} {xs : List Value} (h : w.ownsRow base T sz (.slice (some ⟨g, 0, none⟩) n cap) n xs) (i : Nat) (u : Value) : (w.setCell ⟨g, i, none⟩ u).ownsRow base T sz (.slice (some ⟨g, 0, none⟩) n cap) n (xs.set i u) := by
  refine ⟨by rw [List.length_set]; exact h.1, ?_⟩
  rcases h.2 with ⟨hv, _⟩ | ⟨g', cap', cur, hv, hb, hg, h1, h2, h3, h4⟩
  · cases hv
  · injection hv with e1 _ e3
    injection e1 with e1
    injection e1 with e1
    subst e1 e3
    refine .inr ⟨g, cap, cur.setIfInBounds i u, rfl, hb, heap_set hg i u, h1, h2, by simp [h3], ?_⟩
    rw [Array.toList_setIfInBounds, List.take_set, h4]
theorem cell_set_ne {w : World} {g i k : Nat} {u x : Value} (h : w.cell? ⟨g, k, none⟩ = some x) (hne : k ≠ i) : (w.setCell ⟨g, i, none⟩ u).cell? ⟨g, k, none⟩ = some x := by
  simp only [World.cell?, World.setCell, Array.getElem?_modify] at h ⊢
  simp only [Option.isSome_none, Bool.false_eq_true, if_false] at h ⊢
  cases e : w.heap[g]? with
  | none => rw [e] at h; simp at h
  | some o =>
    rw [e] at h
    simp only [if_true, Option.map_some] at h ⊢
    cases o <;> simp_all [Array.getElem?_setIfInBounds]
    intro hh; omega
theorem del_ins {S : List Fi} (hs : asc S) (p : Fi) : insS p (delL p.nm S) = insS p S := by
  induction S with
  | nil => rfl
  | cons q S ih =>
    have ht := hs.tail
    have hx := (List.pairwise_cons.1 hs).1
    unfold delL
    by_cases h1 : q.nm = p.nm
    · rw [if_pos h1]
      have e1 : insS p (q :: S) = p :: S := by unfold insS; rw [if_neg (by omega), if_pos h1.symm]
      rw [e1]
      cases S with
      | nil => rfl
      | cons x S =>
        have := hx x (.head _)
        unfold insS; rw [if_pos (by omega)]
    · rw [if_neg h1]
      by_cases h2 : p.nm < q.nm
      · have e1 : delL p.nm S = S := by
          have hn : ∀ x ∈ S, x.nm ≠ p.nm := fun x hx' => by have := hx x hx'; omega
          clear ih hs ht hx
          induction S with
          | nil => rfl
          | cons x S ih => unfold delL; rw [if_neg (hn x (.head _)), ih (fun y hy => hn y (.tail _ hy))]
        rw [e1]
      · have e1 : ∀ L, insS p (q :: L) = q :: insS p L := fun L => by
          conv => lhs; unfold insS
          rw [if_neg h2, if_neg (fun e => h1 e.symm)]
        rw [e1, e1, ih ht]
theorem ins_split (p : Fi) : ∀ {S : List Fi} (j : Nat), j ≤ S.length → (∀ i (h : i < S.length), i < j → (S[i]'h).nm < p.nm) → (∀ h : j < S.length, p.nm < (S[j]'h).nm) → insS p S = S.take j ++ p :: S.drop j
  | [], j, h, _, _ => by simp [insS]
  | q :: S, 0, _, _, h2 => by
    have := h2 (by simp)
    unfold insS; rw [if_pos (by simpa using this)]; rfl
  | q :: S, j + 1, h, h1, h2 => by
    have h0 := h1 0 (by simp) (by omega)
    simp only [List.getElem_cons_zero] at h0
    unfold insS
    rw [if_neg (by omega), if_neg (by omega), ins_split p j (by simpa using h) (fun i hi hij => by have := h1 (i + 1) (by simpa using hi) (by omega); simpa only [List.getElem_cons_succ] using this) (fun hj => by have := h2 (by simpa using hj); simpa only [List.getElem_cons_succ] using this)]
    rfl

set_option maxRecDepth 100000 in
set_option maxHeartbeats 2000000 in
theorem rtouch_any {w : World} {base r : Nat} {now : Int} {v : Value} {S : List Fi} (hb : base ≤ w.heap.size) (h : Rk w base r now v S) (hL : S.length ≤ 999999) (hs : asc S) (hr : ∀ p ∈ S, 1 ≤ p.tmo ∧ p.tmo ≤ 1000) (hn : 0 ≤ now ∧ now ≤ late) (k : Int) :
    Calls Tryz.prog 16 #[.pointer (some ⟨r, 0, none⟩), .int .i64 k] w fun e w' => e = .returned (.bool (look k S).isSome) ∧ Rn base r v w w' now (touchS now k S) := by
  have hf := rfind_any h (by omega) k
  have HH : Hid (Rk w base r now v S) := h
  cases hp : plF k S with
  | none =>
    obtain ⟨h1, h2⟩ := plF_none hp
    rw [show plI k S = -1 by unfold plI; rw [hp]] at hf
    rw [show touchS now k S = S by unfold touchS; rw [h1], h1]
    clear h h1 h2 hp hs hr hn
    go_enter Tryz.func16, Tryz.ntmps16
    go_wp2_with fail
    refine hf.mono ?_
    rintro e w1 ⟨rfl, hw1⟩
    obtain rfl : w = w1 := hw1.symm
    clear hf hw1
    go_wp2_with fail
    go_ret
    exact ⟨rfl, Rn.refl HH.out⟩
  | some j =>
    obtain ⟨hj, h2, h3, h4⟩ := plF_some hp
    rw [show plI k S = (j : Int) by unfold plI; rw [hp]] at hf
    have hS' : touchS now k S = S.set j ⟨(S[j]'hj).nm, (S[j]'hj).tmo, rup (now + (S[j]'hj).tmo)⟩ := by
      unfold touchS
      rw [h3]
      show insS (hear now k (S[j]'hj).tmo) S = _
      rw [ins_at hs hj (p := hear now k (S[j]'hj).tmo) h2.symm]
      unfold hear; rw [h2]
    rw [hS', h3]
    obtain ⟨A1, C1, rfl⟩ := h.form
    have hD : Rk w.drew base r now (.slice A1 S.length C1) S := h.keep (Chg.drew Non w) (fun _ _ => id)
    obtain ⟨g, rfl, y0, y1, y2⟩ := hD.at rfl j hj
    have hrg := hr _ (List.getElem_mem hj)
    obtain ⟨t, ht⟩ : ∃ t, (S[j]'hj).tmo = t := ⟨_, rfl⟩
    rw [ht] at y1 hrg
    have hend := rend_any (w := w.drew) hD.head.1 t hn hrg
    obtain ⟨E, hE⟩ : ∃ E, rup (now + t) = E := ⟨_, rfl⟩
    rw [hE] at hend
    have hc1 := hD.head.2
    have hrow := h.row
    have hgr : g ≠ r := h.ne (by rfl)
    have hgl := (h.lt g (.inr rfl)).2
    have hfz : w.drew.frozen? ⟨g, j * 3 + 2, none⟩ = false := by
      rcases hD.row.2 with ⟨hv, _⟩ | ⟨g', cap', cur, hv, _, hg, _⟩
      · cases hv
      · injection hv with e1 _ e3
        injection e1 with e1
        injection e1 with e1
        subst e1
        exact frozen_at hg _
    obtain ⟨NL, hNL⟩ : ∃ NL, S.length = NL := ⟨_, rfl⟩
    obtain ⟨w3, hw3⟩ : ∃ w3, w3 = w.drew.setCell ⟨g, j * 3 + 2, none⟩ (.int .i64 E) := ⟨_, rfl⟩
    have HFIN : Hid (Rn base r (.slice (some ⟨g, 0, none⟩) S.length C1) w w3 now (S.set j ⟨(S[j]'hj).nm, (S[j]'hj).tmo, rup (now + (S[j]'hj).tmo)⟩)) := by
      have c3 : Chg (fun i => i = g) w w3 := by rw [hw3]; exact (Chg.drew _ w).trans (Chg.setCell w.drew ⟨g, j * 3 + 2, none⟩ _ rfl)
      refine ⟨.slice (some ⟨g, 0, none⟩) S.length C1, ⟨by rw [c3.block r (heap_lt h.cell) (fun e => hgr e.symm)]; exact h.cell, ?_, h.low⟩, c3.weak (fun i _ e => .inr (by rw [e]; rfl)), fun i hi => .inl hi⟩
      have := owns_set hD.row (j * 3 + 2) (.int .i64 E)
      rw [← hw3] at this
      rw [cel_set2 S j ⟨(S[j]'hj).nm, (S[j]'hj).tmo, rup (now + (S[j]'hj).tmo)⟩ hj rfl rfl, List.length_set]
      show w3.ownsRow base 55 3 _ S.length ((S.flatMap cel).set (j * 3 + 2) (.int .i64 (rup (now + (S[j]'hj).tmo))))
      rw [ht, hE]
      exact this
    rw [hNL] at hc1
    rw [hNL] at HFIN ⊢
    have x1 : w3.cell? ⟨r, 1, none⟩ = some (.slice (some ⟨g, 0, none⟩) NL C1) := by
      rw [hw3]; exact ((Chg.setCell (S := fun i => i = g) w.drew ⟨g, j * 3 + 2, none⟩ (.int .i64 E) rfl).cell (a := ⟨r, 1, none⟩) (heap_lt hD.cell) (fun e => hgr e.symm)).trans hc1
    have x2 : w3.cell? ⟨g, j * 3 + 1, none⟩ = some (.int .i64 t) := by rw [hw3]; exact cell_set_ne y1 (by omega)
    have HW3 : Hid (w3 = w.drew.setCell ⟨g, j * 3 + 2, none⟩ (.int .i64 E)) := hw3
    rw [hw3] at x1 x2
    have i1 : (j : Int) < (NL : Int) := by omega
    have i2 : (0 : Int) ≤ (j : Int) := by omega
    have i3 : ¬ (j : Int) < 0 := by omega
    obtain ⟨z, hz⟩ : ∃ z, (S[j]'hj).en = z := ⟨_, rfl⟩
    rw [hz] at y2
    clear h h2 h3 h4 hp hs hr hn hS' hD y0 hz hrg ht hE hrow hNL hw3
    go_enter Tryz.func16, Tryz.ntmps16
    go_wp2_with fail
    refine hf.mono ?_
    rintro e w1 ⟨rfl, hw1⟩
    obtain rfl : w = w1 := hw1.symm
    clear hf hw1
    go_wp2_with fail
    go_region_held3 (fun w' => w'.cell? ⟨r, 1, none⟩ = some (.slice (some ⟨g, 0, none⟩) NL C1) ∧ w'.cell? ⟨g, j * 3 + 1, none⟩ = some (.int .i64 t))
      (first | exact ⟨hc1, y1⟩ | exact ⟨x1, x2⟩ | go_keep)
      ((go_at_call 27; refine hend.mono ?_; rintro e wz ⟨rfl, hz⟩; obtain rfl : w.drew = wz := hz.symm))
    go_wp2_with fail
    go_ret
    exact ⟨rfl, by have := HFIN.out; rw [HW3.out] at this; exact this⟩
end Go.Proofs.YtbehainbggdpeaaGreat
