/- The walk of the document's own answer on what is joined. -/
import Derived.Test.YtjgknjlinmcapaaDoorRefB
import Derived.Laws.AppendOwn
namespace Go.Proofs.YtjgknjlinmcapaaDoor
open Go.RowKit Go.Shelf

set_option maxRecDepth 100000 in
theorem refJoin_no (p n : List UInt8) (hn : n.length ≤ 500) (vp vn : Bool) (hp : right p = vp) (hv : isPart n = vn) (h : vp = false ∨ (vp = true ∧ vn = false)) (w0 w : World) (hk : Kept w0 w) :
    Calls Tryd.prog 17 #[.string (mkS p), .string (mkS n)] w fun e w' => e = .returned (.string (mkS [])) ∧ Kept w0 w' := by
  have h1 := refParts_any p vp hp w0 w hk
  have h2 := fun w => refPart_any n (by omega) vn hv w
  rcases h with rfl | ⟨rfl, rfl⟩
  · go_enter Tryd.func17, Tryd.ntmps17
    go_wp2_with fail
    refine h1.mono ?_
    rintro e w1 ⟨x, rfl, hk1⟩
    go_wp2
    go_ret
    exact ⟨rfl, hk1⟩
  · go_enter Tryd.func17, Tryd.ntmps17
    go_wp2_with fail
    refine h1.mono ?_
    rintro e w1 ⟨x, rfl, hk1⟩
    go_wp2_with fail
    refine (h2 _).mono ?_
    rintro e w2 ⟨rfl, rfl⟩
    go_wp2
    go_ret
    exact ⟨rfl, hk1⟩
theorem info9 : (Tryd.prog.info? 9).map (fun i => (i.zero, i.size, i.bytes)) = some (some (.string ByteArray.empty), 1, 16) := by kernel_rfl
theorem row_of_owns {w : World} {base k : Nat} {v : Value} {xs : List Value} (l : List (List UInt8)) (h : w.ownsRow base 9 1 v k xs) (hx : xs = l.map fun t => Value.string (mkS t)) (hne : l ≠ []) :
    ∃ g cap, v = .slice (some ⟨g, 0, none⟩) l.length cap ∧ l.length ≤ cap ∧ ∀ (j : Nat) (hj : j < l.length), w.cell? ⟨g, j, none⟩ = some (.string (mkS (l[j]'hj))) := by
  obtain ⟨h1, h2⟩ := h
  have hk : k = l.length := by
    have := congrArg List.length hx
    rw [h1, List.length_map] at this
    omega
  subst hk
  rcases h2 with ⟨_, h0⟩ | ⟨g, cap, cur, rfl, _, hg, hc, _, hsz, ht⟩
  · exact absurd (List.length_eq_zero_iff.1 h0) hne
  · refine ⟨g, cap, rfl, hc, fun j hj => ?_⟩
    have e : cur.toList[j]? = some (.string (mkS (l[j]'hj))) := by
      have h3 : (cur.toList.take (l.length * 1))[j]? = some (.string (mkS (l[j]'hj))) := by
        rw [ht, hx, List.getElem?_map, List.getElem?_eq_getElem hj]; rfl
      rw [List.getElem?_take] at h3
      split at h3
      · exact h3
      · cases h3
    simp only [World.cell?, hg]
    simpa using e
theorem cell_one (w : World) (x : Value) : ∀ (j : Nat) (u : Value), [x][j]? = some u → (w.alloc (.cells #[x] 9)).cell? ((⟨w.heap.size, 0, none⟩ : Addr).add j) = some u := by
  intro j u h
  cases j with
  | zero => simp at h; subst h; exact (newCell w x 9).1
  | succ j => simp at h
theorem cell_two (w : World) (x : Value) : ∀ (j : Nat) (u : Value), [x][j]? = some u → ((w.alloc (.cells #[] 9)).alloc (.cells #[x] 9)).cell? ((⟨w.heap.size + 1, 0, none⟩ : Addr).add j) = some u := by
  have := cell_one (w.alloc (.cells #[] 9)) x
  rwa [World.size_alloc] at this
theorem owns_empty (w : World) : (w.alloc (.cells #[] 9)).ownsRow w.heap.size 9 1 (.slice (some ⟨w.heap.size, 0, none⟩) 0 0) 0 [] :=
  ⟨rfl, .inr ⟨w.heap.size, 0, #[], rfl, Nat.le_refl _, World.alloc_heap_new w _, Nat.le_refl _, by decide, rfl, rfl⟩⟩
theorem src_cells {w : World} {b : Nat} {l : List (List UInt8)} (hb : w.heap[b]? = some (.cells (rowOf l) 9)) : ∀ (j : Nat) (u : Value), (l.map fun t => Value.string (mkS t))[j]? = some u → (w.alloc (.cells #[] 9)).cell? ((⟨b, 0, none⟩ : Addr).add j) = some u := by
  intro j u hu
  rw [List.getElem?_map] at hu
  obtain ⟨y, hy, rfl⟩ := Option.map_eq_some_iff.1 hu
  obtain ⟨hjl, rfl⟩ := List.getElem?_eq_some_iff.1 hy
  have := cell_alloc_l (.cells #[] 9) (row_cell hb j hjl)
  rw [show (⟨b, 0, none⟩ : Addr).add j = ⟨b, j, none⟩ by simp only [Addr.add]; split <;> simp_all]
  exact this
theorem one_cells (l : List (List UInt8)) : ∀ u ∈ (l.map fun t => Value.string (mkS t)), u.oneCell' = true := by
  intro u hu
  obtain ⟨y, _, rfl⟩ := List.mem_map.1 hu
  rfl
theorem num_fits {l : List (List UInt8)} (hl : l.length ≤ 200) : 0 + l.length ≤ maxLen := by
  have : 1000 ≤ maxLen := by decide
  omega
theorem kept_row {w0 w w3 : World} {o : Obj} {g : Nat} (hk : Kept w0 w) (hg : w.heap.size ≤ g) (hgrow : (w.alloc o).grownBy w3 (some g)) : Kept w0 w3 :=
  hk.go ((newBelow w o).grown hgrow (by simp) (fun k e => by cases e; exact hg))
theorem kept_row2 {w0 w w3 : World} {o o' : Obj} {g : Nat} (hk : Kept w0 w) (hg : w.heap.size ≤ g) (hgrow : ((w.alloc o).alloc o').grownBy w3 (some g)) : Kept w0 w3 :=
  hk.go (((newBelow w o).alloc (by simp) o').grown hgrow (by simp; omega) (fun k e => by cases e; exact hg))
structure Own1 (w1 : World) (l : List (List UInt8)) (w : World) (g cap : Nat) : Prop where
  owns : w.ownsRow w1.heap.size 9 1 (.slice (some ⟨g, 0, none⟩) l.length cap) l.length (l.map fun t => Value.string (mkS t))
  below : Below w1.heap.size w1 w
  base : w1.heap.size ≤ g
theorem owns_base {w : World} {base n c g : Nat} {xs : List Value} (h : w.ownsRow base 9 1 (.slice (some ⟨g, 0, none⟩) n c) n xs) : base ≤ g := by
  rcases h.2 with ⟨h, _⟩ | ⟨g', _, _, h, hb, _⟩
  · cases h
  · cases h; exact hb
theorem own_first {w1 w3 : World} {l : List (List UInt8)} {v : Value} (hne : l ≠ []) (h : w3.ownsRow w1.heap.size 9 1 v (0 + l.length) ([] ++ l.map fun t => Value.string (mkS t)))
    (hg : (w1.alloc (.cells #[] 9)).grownBy w3 (some w1.heap.size)) : ∃ g cap, v = .slice (some ⟨g, 0, none⟩) l.length cap ∧ Own1 w1 l w3 g cap := by
  rw [Nat.zero_add, List.nil_append] at h
  obtain ⟨g, cap, rfl, _, _⟩ := row_of_owns l h rfl hne
  exact ⟨g, cap, rfl, h, (newBelow w1 _).grown hg (by simp) (fun k e => by cases e; exact Nat.le_refl _), owns_base h⟩
theorem own_second {w0 w1 w3 w4 : World} {l : List (List UInt8)} {n : List UInt8} {v : Value} {g cap : Nat} {o : Obj} (hk : Kept w0 w1) (ho : Own1 w1 l w3 g cap)
    (h : w4.ownsRow w1.heap.size 9 1 v (l.length + 1) ((l.map fun t => Value.string (mkS t)) ++ [.string (mkS n)]))
    (hg : (w3.alloc o).grownBy w4 (some g)) :
    Kept w0 w4 ∧ ∃ g' cap', v = .slice (some ⟨g', 0, none⟩) (l ++ [n]).length cap' ∧ (l ++ [n]).length ≤ cap' ∧ ∀ (j : Nat) (hj : j < (l ++ [n]).length), w4.cell? ⟨g', j, none⟩ = some (.string (mkS ((l ++ [n])[j]'hj))) :=
  ⟨hk.go ((ho.below.alloc ho.below.size o).grown hg (by have := ho.below.size; simp; omega) (fun k e => by cases e; exact ho.base)), row_of_owns (l ++ [n]) h (by simp) (by simp)⟩
theorem own_root {w0 w1 w4 : World} {n : List UInt8} {v : Value} {o : Obj} (hk : Kept w0 w1)
    (h : w4.ownsRow w1.heap.size 9 1 v (0 + 1) ([] ++ [.string (mkS n)])) (hg : ((w1.alloc (.cells #[] 9)).alloc o).grownBy w4 (some w1.heap.size)) :
    Kept w0 w4 ∧ ∃ g' cap', v = .slice (some ⟨g', 0, none⟩) [n].length cap' ∧ [n].length ≤ cap' ∧ ∀ (j : Nat) (hj : j < [n].length), w4.cell? ⟨g', j, none⟩ = some (.string (mkS ([n][j]'hj))) :=
  ⟨kept_row2 hk (Nat.le_refl _) hg, row_of_owns [n] h rfl (by simp)⟩
theorem one_one (n : List UInt8) : ∀ u ∈ [Value.string (mkS n)], u.oneCell' = true := by
  intro u hu
  rw [List.mem_singleton] at hu
  subst hu
  rfl
theorem num_fits1 {l : List (List UInt8)} (hl : l.length ≤ 200) : l.length + 1 ≤ maxLen := by
  have : 1000 ≤ maxLen := by decide
  omega

set_option maxRecDepth 100000 in
set_option maxHeartbeats 2000000 in
theorem refJoin_root (p n : List UInt8) (hp : p = [47]) (hn : n.length ≤ 500) (hv : isPart n = true) (v : Bool) (hr : right (pathOf [n]) = v) (w0 w : World) (hk : Kept w0 w) :
    Calls Tryd.prog 17 #[.string (mkS p), .string (mkS n)] w fun e w' => e = .returned (.string (mkS (if v = true then pathOf [n] else []))) ∧ Kept w0 w' := by
  have h1 := refParts_root p hp w0 w hk
  have h2 := fun w => refPart_any n (by omega) true hv w
  have hlen : (pathOf [n]).length ≤ 2000 := by rw [pathOf, if_neg (by simp), glue_one]; simp; omega
  obtain ⟨i0, hi, hz0, hz1, hz2⟩ := info_parts info9
  clear hp
  go_enter Tryd.func17, Tryd.ntmps17
  go_wp2_with fail
  refine h1.mono ?_
  rintro e w1 ⟨rfl, hk1⟩
  go_wp2_with fail
  refine (h2 _).mono ?_
  rintro e w2 ⟨rfl, rfl⟩
  clear h1
  go_wp2_with (at_builtin; refine wpList_append_own _ rfl (.tmp 22) (.tmp 24) 32 rfl w2.heap.size 9 i0 (.string ByteArray.empty) 1 16 Tryd.underlying32 hi hz0 hz1 hz2 rfl (by decide) (.slice (some ⟨w2.heap.size, 0, none⟩) 0 0) 0 [] rfl ((owns_empty w2).alloc _) ⟨w2.heap.size + 1, 0, none⟩ 1 1 [.string (mkS n)] rfl rfl (cell_two w2 _) (one_one n) (by decide) (by decide) (by simp; omega) ?_; intro v4 w4 hown4 hgrow4 _; obtain ⟨hk4, g', cap', rfl, hcap, hcl⟩ := own_root hk1 hown4 hgrow4; clear hown4 hgrow4)
  refine (refPath_k [n] g' cap' (by simpa using hcap) hlen w0 w4 hk4 hcl).mono ?_
  clear hcl
  rintro e w5 ⟨rfl, hk5⟩
  cases v with
  | false =>
    go_wp2_with fail
    refine (refCheck_k _ _ hr w0 _ hk5).mono ?_
    rintro e w6 ⟨rfl, hk6⟩
    go_wp2
    go_ret
    exact ⟨rfl, hk6⟩
  | true =>
    go_wp2_with fail
    refine (refCheck_k _ _ hr w0 _ hk5).mono ?_
    rintro e w6 ⟨rfl, hk6⟩
    go_wp2
    go_ret
    exact ⟨rfl, hk6⟩
set_option maxRecDepth 100000 in
set_option maxHeartbeats 2000000 in
theorem refJoin_row (p n : List UInt8) (hr : right p = true) (hp : p ≠ [47]) (hn : n.length ≤ 500) (hv : isPart n = true) (v : Bool) (hj : right (pathOf (parts p ++ [n])) = v) (w0 w : World) (hk : Kept w0 w) :
    Calls Tryd.prog 17 #[.string (mkS p), .string (mkS n)] w fun e w' => e = .returned (.string (mkS (if v = true then pathOf (parts p ++ [n]) else []))) ∧ Kept w0 w' := by
  have h1 := refParts_yes p hr hp w0 w hk
  have h2 := fun w => refPart_any n (by omega) true hv w
  have hl : (parts p).length ≤ 200 := by
    have := pathOf_count (parts p)
    rw [← right_eq hr] at this
    exact Nat.le_trans this (right_len hr)
  have hlen : (pathOf (parts p ++ [n])).length ≤ 2000 := by
    have h3 := right_eq hr
    have h4 := right_len hr
    rw [pathOf, if_neg (parts_ne hr hp)] at h3
    rw [pathOf, if_neg (by simp), glue_append, ← h3, glue_one]
    simp; omega
  have hlne := parts_ne hr hp
  generalize parts p = l at h1 hl hlen hj hlne
  obtain ⟨i0, hi, hz0, hz1, hz2⟩ := info_parts info9
  go_enter Tryd.func17, Tryd.ntmps17
  go_wp2_with fail
  refine h1.mono ?_
  rintro e w1 ⟨b, rfl, hb, hbs, hk1⟩
  clear h1
  go_wp2_with fail
  refine (h2 _).mono ?_
  rintro e w2 ⟨rfl, rfl⟩
  go_wp2_with (first
    | (at_builtin; refine wpList_append_own _ rfl (.tmp 20) (.tmp 21) 32 rfl w2.heap.size 9 i0 (.string ByteArray.empty) 1 16 Tryd.underlying32 hi hz0 hz1 hz2 rfl (by decide) (.slice (some ⟨w2.heap.size, 0, none⟩) 0 0) 0 [] rfl (owns_empty w2) ⟨b, 0, none⟩ l.length l.length (l.map fun t => Value.string (mkS t)) rfl (by simp) (src_cells hb) (one_cells l) (num_fits hl) (by omega) (by simp) ?_; intro v3 w3 hown3 hgrow3 _; obtain ⟨g, cap, rfl, ho1⟩ := own_first hlne hown3 hgrow3; clear hown3 hgrow3)
    | (at_builtin; refine wpList_append_own _ rfl (.tmp 22) (.tmp 24) 32 rfl w2.heap.size 9 i0 (.string ByteArray.empty) 1 16 Tryd.underlying32 hi hz0 hz1 hz2 rfl (by decide) (.slice (some ⟨g, 0, none⟩) l.length cap) l.length (l.map fun t => Value.string (mkS t)) rfl (ho1.owns.alloc _) ⟨_, 0, none⟩ 1 1 [.string (mkS n)] rfl rfl (cell_one _ _) (one_one n) (num_fits1 hl) (by omega) (by have := ho1.below.size; simp; omega) ?_; intro v4 w4 hown4 hgrow4 _; obtain ⟨hk4, g', cap', rfl, hcap, hcl⟩ := own_second hk1 ho1 hown4 hgrow4; clear hown4 hgrow4))
  have hP := refPath_k (l ++ [n]) g' cap' (by simpa using hcap) hlen w0 w4 hk4 hcl
  simp only [List.length_append, List.length_cons, List.length_nil, Nat.zero_add] at hP
  refine hP.mono ?_
  clear hcl hP
  rintro e w5 ⟨rfl, hk5⟩
  cases v with
  | false =>
    go_wp2_with fail
    refine (refCheck_k _ _ hj w0 _ hk5).mono ?_
    rintro e w6 ⟨rfl, hk6⟩
    go_wp2
    go_ret
    exact ⟨rfl, hk6⟩
  | true =>
    go_wp2_with fail
    refine (refCheck_k _ _ hj w0 _ hk5).mono ?_
    rintro e w6 ⟨rfl, hk6⟩
    go_wp2
    go_ret
    exact ⟨rfl, hk6⟩

theorem refJoin_k (p n : List UInt8) (hn : n.length ≤ 500) (w0 w : World) (hk : Kept w0 w) :
    Calls Tryd.prog 17 #[.string (mkS p), .string (mkS n)] w fun e w' => e = .returned (.string (mkS (joinS p n))) ∧ Kept w0 w' := by
  cases hp : right p with
  | false =>
    rw [show joinS p n = [] by simp [joinS, hp]]
    exact refJoin_no p n hn _ _ hp rfl (.inl rfl) w0 w hk
  | true =>
    cases hv : isPart n with
    | false =>
      rw [show joinS p n = [] by simp [joinS, hv]]
      exact refJoin_no p n hn _ _ hp hv (.inr ⟨rfl, rfl⟩) w0 w hk
    | true =>
      have hf : joinS p n = if right (pathOf (parts p ++ [n])) = true then pathOf (parts p ++ [n]) else [] := by
        unfold joinS
        simp [hp, hv]
      rw [hf]
      by_cases e : p = [47]
      · have h0 : parts p ++ [n] = [n] := by rw [e]; rfl
        rw [h0]
        exact refJoin_root p n e hn hv _ rfl w0 w hk
      · exact refJoin_row p n hp e hn hv _ rfl w0 w hk
end Go.Proofs.YtjgknjlinmcapaaDoor
