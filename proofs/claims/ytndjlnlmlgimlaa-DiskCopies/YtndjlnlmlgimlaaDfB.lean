/- The document's disk: making one, names, finding, sums, lists, reading. -/
import Derived.Test.YtndjlnlmlgimlaaDfA
namespace Go.Proofs.Ytndjlnlmlgimlaa
open Go.RowKit Go.MapKept

theorem below1 (w : World) (o : Obj) : Below w.heap.size w (w.alloc o) := (Below.refl _ _).alloc (Nat.le_refl _) o
set_option maxRecDepth 100000 in
theorem rnew_any (room : Int) (hr : -9223372036854775808 ≤ room ∧ room < 9223372036854775808) (w : World) : Calls Try.prog 6 #[.int .i64 room] w fun e w' => ∃ r, e = .returned (.pointer (some ⟨r, 0, none⟩)) ∧ Rk w' w.heap.size r (max room 0) (.slice none 0 0) [] ∧ Below w.heap.size w w' := by
  go_enter Try.func6, Try.ntmps6
  go_wp2_with (first | (at_builtin; refine wpList_bmax rfl _ _ rfl room 0 rfl rfl ?_) | fail)
  go_ret
  exact ⟨w.heap.size, rfl, ⟨heap_alloc_new w _, World.ownsRow_nil _ _ _ _, by simp, by simp, by omega, Nat.le_refl _⟩, below1 _ _⟩
set_option maxRecDepth 100000 in
theorem rfind_any {w : World} {base r : Nat} {room : Int} {v : Value} {L : List Fv} (h : Rk w base r room v L) (hL : L.length ≤ 1000000) (k : List UInt8) :
    Calls Try.prog 35 #[.pointer (some ⟨r, 0, none⟩), .string (mkS k)] w fun e w' => e = .returned (.int .i64 (plI k (L.map Prod.fst))) ∧ w' = w := by
  obtain ⟨A, C, rfl⟩ := owns_formN h.row
  have hc0 := h.head.2
  have HR : Hid (Rk w base r room (.slice A L.length C) L) := h
  obtain ⟨N, hN⟩ : ∃ N, N = L.length := ⟨_, rfl⟩
  have HN : Hid (N = L.length) := hN
  rw [← hN] at hc0 hL
  clear h hN
  go_enter Try.func35, Try.ntmps35
  go_wp2_with fail
  go_loopw [5] (fun i wr => ∃ (j : Nat), j ≤ N ∧ i = .int .i64 j ∧ plF k (L.map Prod.fst) = (plF k ((L.map Prod.fst).drop j)).map (· + j) ∧ wr = w) (fun i _ => N - (intOf i).toNat)
  case atStart => exact ⟨0, Nat.zero_le _, rfl, by simp, rfl⟩
  case round =>
    obtain ⟨j, hj, rfl, hP, rfl⟩ := hrel
    by_cases hlt : j < N
    · have hj' : j < L.length := by have := HN.out; omega
      obtain ⟨g, hA, y0, y1, y2⟩ := HR.out.at j hj'
      have hbt := plF_drop k (L.map Prod.fst) j (by simpa using hj')
      simp only [List.getElem_map] at hbt
      obtain ⟨x, hx⟩ : ∃ x : List UInt8, x = (L[j]'hj').1.nm := ⟨_, rfl⟩
      rw [← hx] at y0 hbt
      rw [hbt] at hP
      clear hx hbt y1 y2
      subst hA
      by_cases he : x = k
      · have HP : Hid (plF k (L.map Prod.fst) = some j) := by rw [if_pos he] at hP; unfold Hid; simpa using hP
        clear hP
        subst he
        go_wp2_with fail
        go_ret
        exact ⟨by simp [plI, HP.out], rfl⟩
      · have HP : Hid (plF k (L.map Prod.fst) = (plF k ((L.map Prod.fst).drop (j + 1))).map (· + (j + 1))) := by
          rw [if_neg he] at hP
          rw [Hid, hP, Option.map_map]
          congr 1
          funext i
          simp; omega
        clear hP
        have hb : ((mkS x).toList == (mkS k).toList) = false := by
          simp only [ByteArray.toList_eq]
          simpa [mkS] using he
        go_wp2_with fail
        go_roundw
        case rel => exact ⟨j + 1, by omega, by go_num, HP.out, trivial⟩
        case measure => simp [intOf]; omega
    · have HP : Hid (plF k (L.map Prod.fst) = none) := by
        rw [Hid, hP, List.drop_eq_nil_of_le (by have := HN.out; simp; omega)]; rfl
      clear hP
      go_wp2_with fail
      go_ret
      exact ⟨by simp [plI, HP.out], rfl⟩
theorem used_take (L : List Fv) (j : Nat) (hj : j < L.length) : used ((L.take (j + 1)).map Prod.fst) = used ((L.take j).map Prod.fst) + (L[j]'hj).1.b.length := by
  have ha : ∀ (F : List Fi) (f : Fi), used (F ++ [f]) = used F + f.b.length := by
    intro F f
    induction F with
    | nil => simp [used]
    | cons q F ih => simp [used, ih]; omega
  rw [List.take_succ_eq_append_getElem hj, List.map_append]
  exact ha _ _
theorem used_le : ∀ (F : List Fi), (∀ f ∈ F, f.b.length ≤ 4194304) → used F ≤ 4194304 * F.length
  | [], _ => by simp [used]
  | q :: F, h => by
    have h1 := h q (.head _)
    have h2 := used_le F fun f hf => h f (.tail _ hf)
    simp only [used, List.length_cons]
    omega
set_option maxRecDepth 100000 in
theorem rused_any {w : World} {base r : Nat} {room : Int} {v : Value} {L : List Fv} (h : Rk w base r room v L) (hL : L.length ≤ 1000000) :
    Calls Try.prog 32 #[.pointer (some ⟨r, 0, none⟩)] w fun e w' => e = .returned (.int .i64 (used (L.map Prod.fst) : Nat)) ∧ w' = w := by
  obtain ⟨A, C, rfl⟩ := owns_formN h.row
  have hc0 := h.head.2
  have HR : Hid (Rk w base r room (.slice A L.length C) L) := h
  obtain ⟨N, hN⟩ : ∃ N, N = L.length := ⟨_, rfl⟩
  have HN : Hid (N = L.length) := hN
  rw [← hN] at hc0 hL
  clear h hN
  go_enter Try.func32, Try.ntmps32
  go_wp2_with fail
  go_loopw [3, 4] (fun c i wr => ∃ (j : Nat), j ≤ N ∧ i = .int .i64 j ∧ c = .int .i64 (used ((L.take j).map Prod.fst) : Nat) ∧ wr = w) (fun _ i _ => N - (intOf i).toNat)
  case atStart => exact ⟨0, Nat.zero_le _, rfl, rfl, rfl⟩
  case round =>
    obtain ⟨j, hj, rfl, rfl, rfl⟩ := hrel
    by_cases hlt : j < N
    · have hj' : j < L.length := by have := HN.out; omega
      obtain ⟨g, hA, y0, y1, y2⟩ := HR.out.at j hj'
      obtain ⟨A3, C3, hv3⟩ := owns_formN (HR.out.bs _ (List.getElem_mem hj'))
      have hfit := (HR.out.fits _ (List.getElem_mem hj')).2
      have hus := used_take L j hj'
      have hle := used_le ((L.take j).map Prod.fst) (fun f hf => by
        obtain ⟨p, hp, rfl⟩ := List.mem_map.1 hf
        exact (HR.out.fits p (List.mem_of_mem_take hp)).2)
      rw [List.length_map, List.length_take] at hle
      rw [hv3] at y1
      obtain ⟨m, hm⟩ : ∃ m, m = (L[j]'hj').1.b.length := ⟨_, rfl⟩
      rw [← hm] at y1 hfit hus
      have HU : Hid (used ((L.take (j + 1)).map Prod.fst) = used ((L.take j).map Prod.fst) + m) := hus
      clear hus hm hv3 y0 y2
      obtain ⟨u, hu⟩ : ∃ u, u = used ((L.take j).map Prod.fst) := ⟨_, rfl⟩
      rw [← hu] at hle ⊢
      have HUU : Hid (u = used ((L.take j).map Prod.fst)) := hu
      clear hu
      have hsum : u + m ≤ 4194304 * 1000001 := by
        have : min j L.length ≤ 1000000 := by have := HN.out; omega
        have : u ≤ 4194304 * min j L.length := hle
        omega
      clear hle
      subst hA
      go_wp2_with fail
      go_roundw
      case rel => exact ⟨j + 1, by omega, by go_num, by rw [HU.out, ← HUU.out]; go_num, trivial⟩
      case measure => simp [intOf]; omega
    · go_wp2_with fail
      go_ret
      have e : L.take j = L := List.take_of_length_le (by have := HN.out; omega)
      rw [e]
      exact ⟨rfl, rfl⟩
set_option maxRecDepth 100000 in
theorem rlist_any {w : World} {base r : Nat} {room : Int} {v : Value} {L : List Fv} (h : Rk w base r room v L) (hL : L.length ≤ 1000000) :
    Calls Try.prog 28 #[.pointer (some ⟨r, 0, none⟩)] w fun e w' => ∃ A C, e = .returned (.slice A L.length C) ∧ w'.ownsRow w.heap.size 9 1 (.slice A L.length C) L.length ((L.map fun p => p.1.nm).map fun x => Value.string (mkS x)) ∧ Below w.heap.size w w' := by
  obtain ⟨A, C, rfl⟩ := owns_formN h.row
  have hc0 := h.head.2
  have HR : Hid (Rk w base r room (.slice A L.length C) L) := h
  obtain ⟨N, hN⟩ : ∃ N, N = L.length := ⟨_, rfl⟩
  have HN : Hid (N = L.length) := hN
  rw [← hN] at hc0 hL
  clear h hN
  go_enter Try.func28, Try.ntmps28
  go_wp2_with fail
  obtain ⟨i0, hi, hz0, hz1, hz2⟩ := info_parts info9
  go_loopw [3, 4] (fun o i wr => ∃ (j : Nat) (ns : List (List UInt8)), j ≤ N ∧ i = .int .i64 j ∧ ns = (L.take j).map (fun p => p.1.nm) ∧ wr.ownsRow w.heap.size 9 1 o ns.length (ns.map encStr) ∧ Below w.heap.size w wr) (fun _ i _ => N - (intOf i).toNat)
  case atStart => exact ⟨0, [], Nat.zero_le _, rfl, rfl, World.ownsRow_nil _ _ _ _, Below.refl _ _⟩
  case round =>
    obtain ⟨j, ns, hj, rfl, hns, ho, hB⟩ := hrel
    have HRr := HR.out.below hB
    have hc1 := HRr.head.2
    rw [← HN.out] at hc1
    obtain ⟨A2, C2, hv2⟩ := owns_formS ho
    subst hv2
    have hnl : ns.length ≤ 1000000 := by rw [hns, List.length_map, List.length_take]; omega
    by_cases hlt : j < N
    · have hj' : j < L.length := by have := HN.out; omega
      obtain ⟨g, hA, y0, y1, y2⟩ := HRr.at j hj'
      have HT : Hid ((L.take (j + 1)).map (fun p => p.1.nm) = ns ++ [(L[j]'hj').1.nm]) := by
        rw [Hid, List.take_succ_eq_append_getElem hj', List.map_append, ← hns]; rfl
      have HO : Hid (wr.ownsRow w.heap.size 9 1 (.slice A2 ns.length C2) ns.length (ns.map encStr)) := ho
      have HB : Hid (Below w.heap.size w wr) := hB
      obtain ⟨x, hx⟩ : ∃ x : List UInt8, x = (L[j]'hj').1.nm := ⟨_, rfl⟩
      rw [← hx] at y0 HT
      clear hx ho hB HRr hns y1 y2 hc0
      subst hA
      go_wp2_with (first
        | (at_builtin; refine wpList_append_own_at _ rfl _ _ 53 rfl w.heap.size 9 i0 (.string ⟨#[]⟩) 1 16 Try.underlying53 hi hz0 hz1 hz2 rfl (by decide) _ ns.length (ns.map encStr) rfl (HO.out.alloc _) ⟨wr.heap.size, 0, none⟩ 1 1 [.string (mkS x)] rfl rfl (cell_one_new _ _ _) (str_one [x]) (by unfold maxLen; omega) (by omega) (by simp; have := HB.out.size; omega) ?_; intro v5 w5 ho5 hg5 hn5 hl5)
        | fail)
      go_roundw
      case rel =>
        have hgc : Chg (fun k => blk (.slice A2 ns.length C2) = some k) (wr.alloc (.cells #[.string (mkS x)] 9)) w5 := Chg.of_grown hg5
        refine ⟨j + 1, ns ++ [x], by omega, by go_num, HT.out.symm, by rw [List.length_append, List.map_append]; exact ho5, ?_⟩
        refine (HB.out.alloc HB.out.size _).trans (hgc.below (fun k hk => ?_) (by simp; have := HB.out.size; omega))
        obtain ⟨_, _, hle⟩ := owns_blockS HO.out hk
        exact hle
      case measure => simp [intOf]; omega
    · have e : L.take j = L := List.take_of_length_le (by have := HN.out; omega)
      rw [e] at hns
      have HNS : Hid (ns = L.map fun p => p.1.nm) := hns
      have HO : Hid (wr.ownsRow w.heap.size 9 1 (.slice A2 ns.length C2) ns.length (ns.map encStr)) := ho
      have HB : Hid (Below w.heap.size w wr) := hB
      clear hns ho hB HRr e hc0
      go_wp2_with fail
      go_ret
      have hl : ns.length = L.length := by rw [HNS.out, List.length_map]
      refine ⟨A2, C2, by rw [← hl]; rfl, ?_, HB.out⟩
      rw [← hl, ← HNS.out]
      exact HO.out
end Go.Proofs.Ytndjlnlmlgimlaa
