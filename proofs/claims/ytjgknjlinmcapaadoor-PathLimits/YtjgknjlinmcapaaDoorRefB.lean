/- The walks of the document's own answers on what stands over a path, its last part, what is joined, and being under. -/
import Derived.Test.YtjgknjlinmcapaaDoorRefA
namespace Go.Proofs.YtjgknjlinmcapaaDoor
open Go.RowKit Go.Shelf

theorem join_glue (a : List UInt8) (l : List (List UInt8)) : 47 :: Lib.join (a :: l) [47] = glue (a :: l) := by
  unfold Lib.join
  induction l generalizing a with
  | nil => simp [glue]
  | cons b l ih =>
    rw [glue_cons, ← ih b]
    simp [List.intercalate, List.intersperse]
theorem join_path (l : List (List UInt8)) : 47 :: Lib.join l [47] = pathOf l := by
  cases l with
  | nil => rfl
  | cons a l => rw [join_glue, pathOf, if_neg (by simp)]

theorem glue_count (l : List (List UInt8)) : l.length ≤ (glue l).length := by
  induction l with
  | nil => simp
  | cons a l ih => rw [glue_cons]; simp; omega
theorem pathOf_count (l : List (List UInt8)) : l.length ≤ (pathOf l).length := by
  by_cases h : l = []
  · rw [h]; simp
  · rw [pathOf, if_neg h]; exact glue_count l
/- A right path that is not the root: its parts, the last one apart. -/
theorem parts_snoc {p : List UInt8} (hr : right p = true) (hp : p ≠ [47]) : ∃ l x, parts p = l ++ [x] ∧ lastS p = x ∧ parentS p = pathOf l ∧ l.length ≤ 200 ∧ (pathOf l).length ≤ 200 := by
  have hne := parts_ne hr hp
  have hll := right_len hr
  obtain ⟨l, x, hlx⟩ : ∃ l x, parts p = l ++ [x] := by
    rcases List.eq_nil_or_concat (parts p) with e | ⟨l, x, e⟩
    · exact absurd e hne
    · exact ⟨l, x, by simpa using e⟩
  have hx : lastS p = x := by rw [lastS, if_pos hr, hlx]; simp
  have hxp : isPart x = true := List.all_eq_true.1 (right_parts hr) x (by rw [hlx]; simp)
  have h1 := right_eq hr
  rw [pathOf, if_neg hne, hlx, glue_append, glue_one] at h1
  have h2 : (pathOf l).length ≤ 200 := by
    by_cases e : l = []
    · rw [e]; decide
    · rw [pathOf, if_neg e]
      rw [h1] at hll
      simp at hll; omega
  exact ⟨l, x, hlx, hx, by rw [parentS, if_neg (by rw [hx]; exact isPart_ne hxp), hlx, List.dropLast_concat], Nat.le_trans (pathOf_count l) h2, h2⟩

/- The path of a row of texts in memory, the first n of a block. -/
set_option maxRecDepth 100000 in
theorem refPath_k (l : List (List UInt8)) (b c : Nat) (hc : l.length ≤ c) (hlen : (pathOf l).length ≤ 2000) (w0 w : World) (hk : Kept w0 w)
    (hcells : ∀ (j : Nat) (hj : j < l.length), w.cell? ⟨b, j, none⟩ = some (.string (mkS (l[j]'hj)))) :
    Calls Tryd.prog 31 #[.slice (some ⟨b, 0, none⟩) l.length c] w fun e w' => e = .returned (.string (mkS (pathOf l))) ∧ Kept w0 w' := by
  have hp := join_path l
  have hjl : (Lib.join l [47]).length ≤ 2000 := by rw [← hp] at hlen; simp at hlen; omega
  have hj : Calls Tryd.prog 48 #[.slice (some ⟨b, 0, none⟩) l.length c, .string ⟨#[47]⟩] w fun e w' => e = .returned (.string (mkS (Lib.join l [47]))) ∧ Kept w0 w' := by
    by_cases hl : l = []
    · subst hl
      refine (Tryd.strings_Join_none _ c ⟨#[47]⟩ w).mono ?_
      rintro e w' ⟨rfl, rfl⟩
      exact ⟨rfl, hk⟩
    · have hb : b < w.heap.size := by
        have := hcells 0 (List.length_pos_iff.2 hl)
        exact cell_lt this
      have e1 : (l.map mkS).map (fun x : ByteArray => x.data.toList) = l := by
        rw [List.map_map]
        conv => rhs; rw [← List.map_id l]
        exact List.map_congr_left (fun x _ => mkS_list x)
      have h := Tryd.strings_Join b 0 c (l.map mkS) ⟨#[47]⟩ w (by
        intro j x hx
        rw [List.getElem?_map] at hx
        obtain ⟨y, hy, rfl⟩ := Option.map_eq_some_iff.1 hx
        obtain ⟨hj, rfl⟩ := List.getElem?_eq_some_iff.1 hy
        rw [Nat.zero_add]
        exact hcells j hj) hb (by rw [List.length_map]; have := pathOf_count l; omega) (by rw [List.length_map]; exact hc) (by rw [e1]; exact Nat.le_trans hjl (by decide))
      rw [List.length_map, e1] at h
      refine h.mono ?_
      rintro e w' ⟨rfl, hB⟩
      exact ⟨rfl, hk.go hB⟩
  have hu : ¬ 9223372036854775807 < 1 + (mkS (Lib.join l [47])).size := by rw [mkS_size]; omega
  have hcat : ByteArray.mk #[47] ++ mkS (Lib.join l [47]) = mkS (pathOf l) := by rw [← hp]; exact mkS_append [47] _
  clear hp hcells
  go_enter Tryd.func31, Tryd.ntmps31
  go_wp2_with fail
  refine hj.mono ?_
  rintro e w1 ⟨rfl, hk1⟩
  go_wp2
  go_ret
  exact ⟨by first | rfl | (rw [← hcat]; rfl), hk1⟩

set_option maxRecDepth 100000 in
theorem refBase_k (p : List UInt8) (w0 w : World) (hk : Kept w0 w) :
    Calls Tryd.prog 15 #[.string (mkS p)] w fun e w' => e = .returned (.string (mkS (lastS p))) ∧ Kept w0 w' := by
  cases hr : right p with
  | false =>
    have h := refParts_no p hr w0 w hk
    rw [lastS_not hr]
    go_enter Tryd.func15, Tryd.ntmps15
    go_wp2_with fail
    refine h.mono ?_
    rintro e w1 ⟨rfl, hk1⟩
    go_wp2
    go_ret
    exact ⟨rfl, hk1⟩
  | true =>
    by_cases hp : p = [47]
    · have h := refParts_root p hp w0 w hk
      have hf : lastS p = [] := by rw [hp]; exact lastS_root
      rw [hf]
      clear hp hf
      go_enter Tryd.func15, Tryd.ntmps15
      go_wp2_with fail
      refine h.mono ?_
      rintro e w1 ⟨rfl, hk1⟩
      go_wp2
      go_ret
      exact ⟨rfl, hk1⟩
    · have h := refParts_yes p hr hp w0 w hk
      obtain ⟨l, x, hlx, hx, hpar, hln, hpl⟩ := parts_snoc hr hp
      rw [hx]
      rw [hlx] at h
      have hL : (l ++ [x]).length = l.length + 1 := by simp
      rw [hL] at h
      clear hlx hx hL hpar
      go_enter Tryd.func15, Tryd.ntmps15
      go_wp2_with fail
      refine h.mono ?_
      rintro e w1 ⟨b, rfl, hb, hbs, hk1⟩
      have hc : w1.cell? ⟨b, l.length, none⟩ = some (.string (mkS x)) := by
        have := row_cell hb l.length (by simp)
        simpa using this
      clear h
      go_wp2
      go_ret
      exact ⟨rfl, hk1⟩

set_option maxRecDepth 100000 in
theorem refParent_k (p : List UInt8) (w0 w : World) (hk : Kept w0 w) :
    Calls Tryd.prog 13 #[.string (mkS p)] w fun e w' => e = .returned (.string (mkS (parentS p))) ∧ Kept w0 w' := by
  cases hr : right p with
  | false =>
    have h := refParts_no p hr w0 w hk
    have hf : parentS p = [] := by rw [parentS, if_pos (lastS_not hr)]
    rw [hf]
    clear hf
    go_enter Tryd.func13, Tryd.ntmps13
    go_wp2_with fail
    refine h.mono ?_
    rintro e w1 ⟨rfl, hk1⟩
    go_wp2
    go_ret
    exact ⟨rfl, hk1⟩
  | true =>
    by_cases hp : p = [47]
    · have h := refParts_root p hp w0 w hk
      have hf : parentS p = [] := by rw [hp]; decide
      rw [hf]
      clear hp hf
      go_enter Tryd.func13, Tryd.ntmps13
      go_wp2_with fail
      refine h.mono ?_
      rintro e w1 ⟨rfl, hk1⟩
      go_wp2
      go_ret
      exact ⟨rfl, hk1⟩
    · have h := refParts_yes p hr hp w0 w hk
      obtain ⟨l, x, hlx, hx, hpar, hln, hpl⟩ := parts_snoc hr hp
      rw [hpar]
      rw [hlx] at h
      have hL : (l ++ [x]).length = l.length + 1 := by simp
      rw [hL] at h
      clear hlx hx hL hpar
      go_enter Tryd.func13, Tryd.ntmps13
      go_wp2_with fail
      refine h.mono ?_
      rintro e w1 ⟨b, rfl, hb, hbs, hk1⟩
      have hc : ∀ (j : Nat) (hj : j < l.length), w1.cell? ⟨b, j, none⟩ = some (.string (mkS (l[j]'hj))) := fun j hj => by
        have := row_cell hb j (by simp; omega)
        rwa [List.getElem_append_left hj] at this
      clear h
      go_wp2_with fail
      refine (refPath_k l b (l.length + 1) (by omega) (by omega) w0 _ hk1 hc).mono ?_
      rintro e w2 ⟨rfl, hk2⟩
      go_wp2
      go_ret
      exact ⟨rfl, hk2⟩

theorem prefix_at {a b : List (List UInt8)} (hl : a.length ≤ b.length) (h : ∀ j (hj : j < a.length), a[j]'hj = b[j]'(by omega)) : a <+: b := by
  rw [List.prefix_iff_eq_take]
  apply List.ext_getElem
  · simp; omega
  · intro i h1 h2
    rw [List.getElem_take]; exact h i h1
theorem refParts_any (p : List UInt8) (v : Bool) (hv : right p = v) (w0 w : World) (hk : Kept w0 w) :
    Calls Tryd.prog 28 #[.string (mkS p)] w fun e w' => ∃ x, e = .returned (.tuple #[x, .bool v]) ∧ Kept w0 w' := by
  cases v with
  | false =>
    refine (refParts_no p hv w0 w hk).mono ?_
    rintro e w' ⟨rfl, hk'⟩
    exact ⟨_, rfl, hk'⟩
  | true =>
    by_cases hp : p = [47]
    · refine (refParts_root p hp w0 w hk).mono ?_
      rintro e w' ⟨rfl, hk'⟩
      exact ⟨_, rfl, hk'⟩
    · refine (refParts_yes p hv hp w0 w hk).mono ?_
      rintro e w' ⟨b, rfl, _, _, hk'⟩
      exact ⟨_, rfl, hk'⟩
set_option maxRecDepth 100000 in
theorem refUnder_no (a b : List UInt8) (va vb : Bool) (ha : right a = va) (hb : right b = vb) (h : va = false ∨ (va = true ∧ vb = false)) (w0 w : World) (hk : Kept w0 w) :
    Calls Tryd.prog 19 #[.string (mkS a), .string (mkS b)] w fun e w' => e = .returned (.bool false) ∧ Kept w0 w' := by
  have h1 := refParts_any a va ha w0 w hk
  have h2 := fun w hk => refParts_any b vb hb w0 w hk
  rcases h with rfl | ⟨rfl, rfl⟩
  · go_enter Tryd.func19, Tryd.ntmps19
    go_wp2_with fail
    refine h1.mono ?_
    rintro e w1 ⟨x, rfl, hk1⟩
    go_wp2_with fail
    refine (h2 _ hk1).mono ?_
    rintro e w2 ⟨y, rfl, hk2⟩
    go_wp2
    go_ret
    exact ⟨rfl, hk2⟩
  · go_enter Tryd.func19, Tryd.ntmps19
    go_wp2_with fail
    refine h1.mono ?_
    rintro e w1 ⟨x, rfl, hk1⟩
    go_wp2_with fail
    refine (h2 _ hk1).mono ?_
    rintro e w2 ⟨y, rfl, hk2⟩
    go_wp2
    go_ret
    exact ⟨rfl, hk2⟩
set_option maxRecDepth 100000 in
theorem refUnder_root (a b : List UInt8) (ha : a = [47]) (hb : right b = true) (w0 w : World) (hk : Kept w0 w) :
    Calls Tryd.prog 19 #[.string (mkS a), .string (mkS b)] w fun e w' => e = .returned (.bool true) ∧ Kept w0 w' := by
  have h1 := refParts_root a ha w0 w hk
  by_cases hp : b = [47]
  · have h2 := fun w hk => refParts_root b hp w0 w hk
    clear ha hp
    go_enter Tryd.func19, Tryd.ntmps19
    go_wp2_with fail
    refine h1.mono ?_
    rintro e w1 ⟨rfl, hk1⟩
    go_wp2_with fail
    refine (h2 _ hk1).mono ?_
    rintro e w2 ⟨rfl, hk2⟩
    go_wp2
    refine wp_loop_rounds 1 ?_
    rw [rounds_succ]
    go_wp2
    go_ret
    exact ⟨rfl, hk2⟩
  · have h2 := fun w hk => refParts_yes b hb hp w0 w hk
    have hlb : (parts b).length ≤ 200 := by
      have := pathOf_count (parts b)
      rw [← right_eq hb] at this
      exact Nat.le_trans this (right_len hb)
    clear ha
    generalize parts b = lb at h2 hlb
    go_enter Tryd.func19, Tryd.ntmps19
    go_wp2_with fail
    refine h1.mono ?_
    rintro e w1 ⟨rfl, hk1⟩
    go_wp2_with fail
    refine (h2 _ hk1).mono ?_
    rintro e w2 ⟨y, rfl, hy, hys, hk2⟩
    go_wp2
    refine wp_loop_rounds 1 ?_
    rw [rounds_succ]
    go_wp2
    go_ret
    exact ⟨rfl, hk2⟩
set_option maxRecDepth 100000 in
set_option maxHeartbeats 2000000 in
theorem refUnder_rows (a b : List UInt8) (ha : right a = true) (hb : right b = true) (hpa : a ≠ [47]) (hpb : b ≠ [47]) (v : Bool) (hv : (parts a).isPrefixOf (parts b) = v) (w0 w : World) (hk : Kept w0 w) :
    Calls Tryd.prog 19 #[.string (mkS a), .string (mkS b)] w fun e w' => e = .returned (.bool v) ∧ Kept w0 w' := by
  have h1 := refParts_yes a ha hpa w0 w hk
  have h2 := fun w => refParts_yes b hb hpb w w
  have hla : (parts a).length ≤ 200 := by
    have := pathOf_count (parts a)
    rw [← right_eq ha] at this
    exact Nat.le_trans this (right_len ha)
  have hlb : (parts b).length ≤ 200 := by
    have := pathOf_count (parts b)
    rw [← right_eq hb] at this
    exact Nat.le_trans this (right_len hb)
  generalize parts a = la at h1 hla hv
  generalize parts b = lb at h2 hlb hv
  by_cases hle : la.length ≤ lb.length
  · have t1 : ¬ ((lb.length : Nat) : Int) < (la.length : Nat) := by omega
    go_enter Tryd.func19, Tryd.ntmps19
    go_wp2_with fail
    refine h1.mono ?_
    rintro e w1 ⟨x, rfl, hx, hxs, hk1⟩
    go_wp2_with fail
    refine (h2 _ ⟨hk1.laid, Below.refl _ _⟩).mono ?_
    rintro e w2 ⟨y, rfl, hy, hys, hk2'⟩
    have hk2 : Kept w0 w2 := hk1.go hk2'.below
    have hx2 : w2.heap[x]? = some (.cells (rowOf la) 9) := by rw [hk2'.below.block x (Array.getElem?_eq_some_iff.1 hx).1]; exact hx
    clear h1 h2 hk2' hx
    go_wp2
    go_loopw [9] (fun i wr => ∃ pos : Nat, i = .int .i64 pos ∧ pos ≤ la.length ∧ (∀ j (hj : j < la.length), j < pos → la[j]'hj = lb[j]'(by omega)) ∧ wr.heap[x]? = some (.cells (rowOf la) 9) ∧ wr.heap[y]? = some (.cells (rowOf lb) 9) ∧ Kept w0 wr) (fun i _ => la.length - (intOf i).toNat)
    case atStart => exact ⟨0, rfl, by omega, fun j _ h => by omega, hx2, hy, hk2⟩
    case round =>
      obtain ⟨pos, rfl, hpl, hok, hxr, hyr, hkr⟩ := hrel
      by_cases hpos : pos < la.length
      · have c1 := row_cell hxr pos hpos
        have c2 := row_cell hyr pos (by omega)
        obtain ⟨s1, hs1⟩ : ∃ s, s = la[pos]'hpos := ⟨_, rfl⟩
        obtain ⟨s2, hs2⟩ : ∃ s, s = lb[pos]'(by omega) := ⟨_, rfl⟩
        rw [← hs1] at c1
        rw [← hs2] at c2
        by_cases hne : s1 = s2
        · have q : ((mkS s1).toList == (mkS s2).toList) = true := by rw [hne]; simp
          have hok' : ∀ j (hj : j < la.length), j < pos + 1 → la[j]'hj = lb[j]'(by omega) := fun j hj hlt => by
            rcases Nat.lt_succ_iff_lt_or_eq.1 hlt with e | e
            · exact hok j hj e
            · subst e; rw [← hs1, ← hs2, hne]
          clear hs1 hs2 hne hok
          go_wp2
          go_region
          all_goals go_wp2
          all_goals exact ⟨⟨pos + 1, by simp, by omega, hok', hxr, hyr, hkr.go (below_drewN (Below.refl _ _) 1)⟩, by simp [intOf]; omega⟩
        · have q : ((mkS s1).toList == (mkS s2).toList) = false := by rw [mkS_toList, mkS_toList]; simp [hne]
          have hvf : v = false := by
            rw [← hv, ← Bool.not_eq_true, List.isPrefixOf_iff_prefix]
            intro g
            have := g.getElem hpos
            rw [← hs1, ← hs2] at this
            exact hne this
          clear hv hs1 hs2
          subst hvf
          go_wp2
          go_region
          all_goals go_wp2
          all_goals go_ret
          all_goals exact ⟨rfl, hkr.go (below_drewN (Below.refl _ _) 1)⟩
      · have hvt : v = true := by
          rw [← hv, List.isPrefixOf_iff_prefix]
          exact prefix_at hle (fun j hj => hok j hj (by omega))
        clear hv
        subst hvt
        go_wp2
        go_ret
        exact ⟨rfl, hkr⟩
  · have hvf : v = false := by
      rw [← hv, ← Bool.not_eq_true, List.isPrefixOf_iff_prefix]
      intro g
      exact hle g.length_le
    clear hv
    subst hvf
    have t1 : ((lb.length : Nat) : Int) < (la.length : Nat) := by omega
    go_enter Tryd.func19, Tryd.ntmps19
    go_wp2_with fail
    refine h1.mono ?_
    rintro e w1 ⟨x, rfl, hx, hxs, hk1⟩
    go_wp2_with fail
    refine (h2 _ ⟨hk1.laid, Below.refl _ _⟩).mono ?_
    rintro e w2 ⟨y, rfl, hy, hys, hk2'⟩
    have hk2 : Kept w0 w2 := hk1.go hk2'.below
    clear h1 h2 hk2' hx
    go_wp2
    go_ret
    exact ⟨rfl, hk2⟩
set_option maxRecDepth 100000 in
theorem refUnder_out (a b : List UInt8) (ha : right a = true) (hb : b = [47]) (hpa : a ≠ [47]) (w0 w : World) (hk : Kept w0 w) :
    Calls Tryd.prog 19 #[.string (mkS a), .string (mkS b)] w fun e w' => e = .returned (.bool false) ∧ Kept w0 w' := by
  have h1 := refParts_yes a ha hpa w0 w hk
  have h2 := fun w hk => refParts_root b hb w0 w hk
  have hne : 0 < (parts a).length := List.length_pos_iff.2 (parts_ne ha hpa)
  have hla : (parts a).length ≤ 200 := by
    have := pathOf_count (parts a)
    rw [← right_eq ha] at this
    exact Nat.le_trans this (right_len ha)
  clear hb
  generalize parts a = la at h1 hla hne
  have t1 : (0 : Int) < (la.length : Nat) := by omega
  go_enter Tryd.func19, Tryd.ntmps19
  go_wp2_with fail
  refine h1.mono ?_
  rintro e w1 ⟨x, rfl, hx, hxs, hk1⟩
  go_wp2_with fail
  refine (h2 _ hk1).mono ?_
  rintro e w2 ⟨rfl, hk2⟩
  clear h1 h2
  go_wp2
  go_ret
  exact ⟨rfl, hk2⟩
theorem refUnder_k (a b : List UInt8) (w0 w : World) (hk : Kept w0 w) :
    Calls Tryd.prog 19 #[.string (mkS a), .string (mkS b)] w fun e w' => e = .returned (.bool (underS a b)) ∧ Kept w0 w' := by
  cases ha : right a with
  | false =>
    rw [show underS a b = false by simp [underS, ha]]
    exact refUnder_no a b _ _ ha rfl (.inl rfl) w0 w hk
  | true =>
    cases hb : right b with
    | false =>
      rw [show underS a b = false by simp [underS, hb]]
      exact refUnder_no a b _ _ ha hb (.inr ⟨rfl, rfl⟩) w0 w hk
    | true =>
      have hu : underS a b = (parts a).isPrefixOf (parts b) := by simp [underS, ha, hb]
      by_cases ea : a = [47]
      · rw [hu, show parts a = [] by rw [ea]; rfl, show List.isPrefixOf [] (parts b) = true from rfl]
        exact refUnder_root a b ea hb w0 w hk
      · by_cases eb : b = [47]
        · have hf : underS a b = false := by
            rw [hu, show parts b = [] by rw [eb]; rfl, ← Bool.not_eq_true, List.isPrefixOf_iff_prefix]
            intro g
            exact parts_ne ha ea (List.prefix_nil.1 g)
          rw [hf]
          exact refUnder_out a b ha eb ea w0 w hk
        · rw [hu]
          exact refUnder_rows a b ha hb ea eb _ rfl w0 w hk
end Go.Proofs.YtjgknjlinmcapaaDoor
