/- The walk of Links. -/
import Derived.Test.YtjclegiohhbkpaaNtH
namespace Go.Proofs.Ytjclegiohhbkpaa
open Go.RowKit Go.MapKept
open Go.Sort (Holds putRow grow)

theorem info56 : (Try.prog.info? 56).map (fun i => (i.zero, i.size, i.bytes)) = some (some (.agg #[.int .i64 0, .int .i64 0]), 2, 16) := by kernel_rfl
theorem flat_list (ns : List (Int × Int)) : (Go.Sort.flatK encK 2 ns.toArray).toList = ns.flatMap encK := by
  apply List.ext_getElem?
  intro t
  have hlen : (ns.flatMap encK).length = ns.length * 2 := by
    induction ns with
    | nil => rfl
    | cons x ns ih => simp only [List.flatMap_cons, List.length_append, ih, List.length_cons, encK, List.length_nil]; omega
  by_cases ht : t < ns.length * 2
  · have e1 : (Go.Sort.flatK encK 2 ns.toArray)[t]! = (encK (ns.toArray)[t / 2]!)[t % 2]! := Go.Sort.get_flatK encK 2 ns.toArray t (by simpa using ht)
    have hs : t < (Go.Sort.flatK encK 2 ns.toArray).size := by simp; omega
    rw [getElem!_pos _ t hs] at e1
    rw [Array.getElem?_toList, Array.getElem?_eq_getElem hs, e1]
    have key : ∀ (l : List (Int × Int)) (t : Nat), t < l.length * 2 → (l.flatMap encK)[t]? = some ((encK (l.toArray)[t / 2]!)[t % 2]!) := by
      intro l
      induction l with
      | nil => intro t h; simp at h
      | cons x l ih =>
        intro t h
        rw [List.flatMap_cons]
        match t, h with
        | 0, _ => rfl
        | 1, _ => rfl
        | t + 2, h =>
          have h' : t < l.length * 2 := by simp at h; omega
          have := ih t h'
          rw [List.getElem?_append_right (by simp [encK])]
          simp only [encK, List.length_cons, List.length_nil, Nat.zero_add, Nat.add_sub_cancel]
          simp only [encK] at this
          rw [this]
          have d1 : (t + 2) / 2 = t / 2 + 1 := by omega
          have d2 : (t + 2) % 2 = t % 2 := by omega
          rw [d1, d2]
          have hlt : t / 2 < l.length := by omega
          congr 2
          all_goals
            rw [getElem!_pos _ _ (by simpa using hlt), getElem!_pos _ _ (by simp; omega)]
            simp
    exact (key ns t ht).symm
  · rw [Array.getElem?_toList, Array.getElem?_eq_none (by simp; omega), List.getElem?_eq_none (by omega)]
theorem encK_one (l : List (Int × Int)) : ∀ u ∈ l.flatMap encK, u.oneCell' = true := by
  intro u hu
  obtain ⟨x, _, hx⟩ := List.mem_flatMap.1 hu
  simp [encK] at hx
  rcases hx with rfl | rfl <;> rfl
theorem owns_form2 {T : TypeId} {w : World} {base n : Nat} {v : Value} {xs : List Value} (h : w.ownsRow base T 2 v n xs) : ∃ A C, v = .slice A n C := by
  rcases h.2 with ⟨rfl, rfl⟩ | ⟨g, cap, cur, rfl, _⟩
  · exact ⟨none, 0, rfl⟩
  · exact ⟨_, cap, rfl⟩
theorem owns_block2 {T : TypeId} {w : World} {base : Nat} {v : Value} {n : Nat} {xs : List Value} (h : w.ownsRow base T 2 v n xs) {k : Nat} (hk : blk v = some k) : ∃ cur, w.heap[k]? = some (.cells cur T (0, 0)) ∧ base ≤ k := by
  rcases h.2 with ⟨rfl, _⟩ | ⟨g, cap, cur, rfl, hb, hg, hr⟩
  · cases hk
  · cases hk; exact ⟨cur, hg, hb⟩
theorem cell_two_new (w : World) (u v : Value) (T : TypeId) : ∀ j x, [u, v][j]? = some x → (w.alloc (.cells #[u, v] T)).cell? ((⟨w.heap.size, 0, none⟩ : Addr).add j) = some x := by
  intro j x hx
  rw [show (⟨w.heap.size, 0, none⟩ : Addr).add j = ⟨w.heap.size, j, none⟩ by simp only [Addr.add]; split <;> simp_all, cell_at (heap_alloc_new w _)]
  simpa using hx
/- A row of links, sorted. -/
theorem sorted_row {w w' : World} {base g cap N : Nat} {os : Array Obj} {cur : Array Value} {ns : List (Int × Int)} {n : Nat} (hN : ns.length = N) (hbase : base ≤ g) (hb : w.heap[g]? = some (.cells cur 56 (0, 0))) (h1 : ns.length ≤ cap) (h2 : cap ≤ maxLen) (h3 : cur.size = cap * 2)
    (hw : w' = Go.Proofs.sortWorldK encK 2 w g 0 n (sortK ns).toArray os) :
    w'.ownsRow base 56 2 (.slice (some ⟨g, 0, none⟩) N cap) N ((sortK ns).flatMap encK) ∧ Chg (fun k => k = g) w w' := by
  subst hN
  have hlen : (sortK ns).length = ns.length := by simp [sortK]
  have hfl : (Go.Sort.flatK encK 2 (sortK ns).toArray).toList = (sortK ns).flatMap encK := flat_list _
  have hfs : ((sortK ns).flatMap encK).length = ns.length * 2 := by rw [← hfl]; simp [hlen]
  have hg : g < w.heap.size := heap_lt hb
  have hwp : w' = grow (putRow id (Go.Sort.ahead w n) g 0 ((sortK ns).flatMap encK).toArray) os := by
    rw [hw]; unfold Go.Proofs.sortWorldK Go.Sort.putRowK
    rw [← hfl]
  have hsz : g < (putRow id (Go.Sort.ahead w n) g 0 ((sortK ns).flatMap encK).toArray).heap.size := by simpa using hg
  refine ⟨⟨hfs, .inr ⟨g, cap, _, rfl, hbase, by rw [hwp, Go.Sort.heap_grow_old _ _ hsz]; exact heap_put id _ hb, h1, h2, by simp [Go.Sort.putCells, h3], ?_⟩⟩, ?_⟩
  · rw [take_put id cur _ _ (by rw [hfs, h3]; omega) (by omega), List.map_id, List.take_of_length_le (by omega)]
  · rw [hwp]
    have c1 : Chg (fun k => k = g) w (putRow id (Go.Sort.ahead w n) g 0 ((sortK ns).flatMap encK).toArray) := chg_put id _
    refine c1.trans ⟨rfl, rfl, rfl, by simp, fun k hk _ => by rw [Go.Sort.heap_grow_old _ _ hk]⟩

set_option maxRecDepth 100000 in
theorem links_no {w : World} {v : Value} (h : NoNet w v) : Calls Try.prog 12 #[v] w fun e w' => e = .returned (.slice none 0 0) ∧ Below w.heap.size w w' := by
  go_enter Try.func12, Try.ntmps12
  go_wp2_with fail
  refine (there_no h).mono ?_
  rintro e w1 ⟨rfl, rfl⟩
  go_wp2_with fail
  go_ret
  exact ⟨rfl, Below.refl _ _⟩
theorem fit_keys {w : World} {base n m : Nat} {L : List Bg} (h : Nk w base n m L) {l : List Pk} (hf : Fit L l) (k : Int × Int) : k ∈ L.map (fun p => p.k) ↔ bagOf l k ≠ [] := by
  constructor
  · intro hk
    obtain ⟨p, hp, rfl⟩ := List.mem_map.1 hk
    have := hf.at (look_mem h.map.names hp)
    rw [← this]
    have := (h.fits p hp).1
    intro e
    rw [List.map_eq_nil_iff] at e
    simp [e] at this
  · intro hk
    cases hq : look k L with
    | none => exact absurd (hf.none hq) hk
    | some q => exact List.mem_map.2 ⟨q, (look_some hq).1, (look_some hq).2⟩
set_option maxRecDepth 100000 in
theorem links_nk {w : World} {base n m : Nat} {L : List Bg} (h : Nk w base n m L) {l : List Pk} (hf : Fit L l) (hlen : L.length ≤ 1000000) :
    Calls Try.prog 12 #[.pointer (some ⟨n, 0, none⟩)] w fun e w' => ∃ A C, e = .returned (.slice A (linksOf l).length C) ∧ w'.ownsRow w.heap.size 56 2 (.slice A (linksOf l).length C) (linksOf l).length ((linksOf l).flatMap encK) ∧ Below w.heap.size w w' := by
  have hc0 := cell_at h.cell 0
  simp at hc0
  have hm := h.map
  obtain ⟨i0, hi, hz0, hz1, hz2⟩ := info_parts info56
  have HKY : Hid (∀ ns : List (Int × Int), ns.Perm (L.map fun p => p.k) → sortK ns = linksOf l ∧ ns.length = (linksOf l).length) := by
    intro ns hp
    have hnd : ns.Nodup := hp.symm.nodup h.map.names
    have := sortK_links hnd (p := l) (fun k => by rw [hp.mem_iff]; exact fit_keys h hf k)
    exact ⟨this, by rw [← this]; simp [sortK]⟩
  go_enter Try.func12, Try.ntmps12
  go_wp2_with fail
  refine (there_any hc0).mono ?_
  rintro e w1 ⟨rfl, rfl⟩
  go_wp2_with (first
    | (at_range; refine wpList_rng rfl _ rfl rfl hm ?_; intro w2 hr2 hc2 hs2)
    | fail)
  go_frame
  have HR : Hid (Ranges w2 m w1.heap.size L (L.map fun p => p.k)) := hr2
  have HB2 : Hid (Below w1.heap.size w1 w2) := hc2.below (fun _ e => e.elim) (Nat.le_refl _)
  have HML : Hid (m < w1.heap.size) := hm.lt
  have HLL : Hid ((L.map fun p => p.k).length = L.length) := by unfold Hid; simp
  clear hr2 hc2 hs2 hm h hf
  go_loopw [3] (fun v wr => ∃ (left ns : List (Int × Int)), wr.ownsRow w1.heap.size 56 2 v ns.length (ns.flatMap encK) ∧ (ns ++ left).Perm (L.map fun p => p.k) ∧ Ranges wr m w1.heap.size L left ∧ Below w1.heap.size w1 wr) (fun _ wr => wr.rangeLeft m w1.heap.size)
  case atStart => exact ⟨_, [], World.ownsRow_nil _ _ _ _, List.Perm.refl _, HR.out, HB2.out⟩
  case round =>
    obtain ⟨left, ns, hown, hperm, hrg, hB⟩ := hrel
    go_wp2_with (first
      | (at_next; refine wpList_nxt rfl _ rfl rfl hrg ?_ ?_)
      | fail)
    · intro hl0
      subst hl0
      rw [List.append_nil] at hperm
      obtain ⟨hso, hnl⟩ := HKY.out ns hperm
      have HSO : Hid (sortK ns = linksOf l) := hso
      have hlen3 : ns.length ≤ 1000000 := by have := hperm.length_eq; have := HLL.out; omega
      have HNL : Hid (ns.length = (linksOf l).length) := hnl
      clear hperm hlen hnl hso
      rcases hown.2 with ⟨hnil, h0⟩ | ⟨g, cap, cur, hv, hbase, hb, h1, h2, h3, h4⟩
      · have hns : ns = [] := List.length_eq_zero_iff.1 h0
        clear hown
        subst hnil
        subst hns
        go_wp2_with fail
        refine (Try.slices_SortFunc_none (α := Nat) none 0 _ _).mono ?_
        rintro e w5 ⟨rfl, rfl⟩
        go_wp2_with fail
        go_ret
        have hl : linksOf l = [] := by rw [← HSO.out]; simp [sortK]
        rw [hl]
        exact ⟨none, 0, rfl, World.ownsRow_nil _ _ _ _, hB⟩
      · have eg : ∀ args w, (callFunc 31 args).run Try.prog w = .ok (.enter 31 args) w := enters_of Try.func31 (by kernel_rfl) rfl
        have hHold : Go.Sort.HoldsK encK 2 wr g 0 ns.toArray := by
          unfold Go.Sort.HoldsK
          have e1 : Go.Sort.flatK encK 2 ns.toArray = (ns.flatMap encK).toArray := by
            apply Array.toList_inj.1
            rw [flat_list]
          rw [e1]
          refine holds_block id hb ?_
          have hl2 : (ns.flatMap encK).length = ns.length * 2 := by rw [← flat_list]; simp
          rw [List.map_id, hl2]
          exact h4
        have hsort := Try.slices_SortFunc_total 2 Try.isAgg56 Try.sizeOf56 encK (fun _ => rfl) (fun x v hv => by simp [encK] at hv; rcases hv with rfl | rfl <;> rfl) cfK swoK 31 #[] g 0 cap ns.toArray wr eg (cmpLays g 0 _ wr) hHold (heap_lt hb) (by simp; omega) totK
        simp only [List.size_toArray] at hsort
        clear hown hHold
        subst hv
        go_wp2_with fail
        refine hsort.mono ?_
        rintro e w5 ⟨rfl, n5, os5, hw5⟩
        obtain ⟨ho5, hc5⟩ := sorted_row HNL.out hbase hb h1 h2 h3 hw5
        clear hsort hw5
        have hB5 := hB.trans (hc5.below (fun k hk => by rw [hk]; exact hbase) hB.size)
        rw [HSO.out] at ho5
        have HO5 : Hid (w5.ownsRow w1.heap.size 56 2 (.slice (some ⟨g, 0, none⟩) (linksOf l).length cap) (linksOf l).length ((linksOf l).flatMap encK)) := ho5
        clear ho5 hc5
        go_wp2_with fail
        go_ret
        exact ⟨some ⟨g, 0, none⟩, cap, by rw [← HNL.out]; rfl, HO5.out, hB5⟩
    · intro l1 l2 k1 k2 v w3 hl hrg3 hc3 hs3 hen
      have hlen2 : ns.length + 1 ≤ 1000000 := by
        have := hperm.length_eq
        have h2 := HLL.out
        rw [hl] at this
        simp at this h2
        omega
      have hne : ∀ k, blk u3 = some k → k ≠ w1.heap.size := by
        intro k hk e
        obtain ⟨cur, hcu, _⟩ := owns_block2 hown hk
        obtain ⟨es, cl, si, se, c0, _, _, _, h4, _⟩ := hrg
        rw [e, h4] at hcu; cases hcu
      have hown3 : w3.ownsRow w1.heap.size 56 2 u3 ns.length (ns.flatMap encK) := by
        refine ⟨hown.1, ?_⟩
        rcases hown.2 with h | ⟨g, cap, cur, rfl, hb, hg, hr⟩
        · exact .inl h
        · exact .inr ⟨g, cap, cur, rfl, hb, by rw [hc3.block g (heap_lt hg) (fun e => hne g rfl e)]; exact hg, hr⟩
      have HO : Hid (w3.ownsRow w1.heap.size 56 2 u3 ns.length (ns.flatMap encK)) := hown3
      have hs3' : w1.heap.size ≤ w3.heap.size := by rw [hs3]; exact hB.size
      have HNE : Hid (∀ k, blk u3 = some k → k ≠ w1.heap.size) := hne
      obtain ⟨A4, C4, hv4⟩ := owns_form2 hown
      subst hv4
      clear hown hown3 hs3 hne
      go_wp2_with (first
        | (at_builtin; refine wpList_append_own_at _ rfl (.tmp 17) (.tmp 19) 33 rfl w1.heap.size 56 i0 (.agg #[.int .i64 0, .int .i64 0]) 2 16 Try.underlying33 hi hz0 hz1 hz2 rfl (by decide) _ ns.length (ns.flatMap encK) rfl ((HO.out.alloc _).alloc _) ⟨w3.heap.size + 1, 0, none⟩ 1 1 [.int .i64 k1, .int .i64 k2] rfl rfl (by have := cell_two_new (w3.alloc (.cells #[.int .i64 k1, .int .i64 k2] 56)) (.int .i64 k1) (.int .i64 k2) 56; simpa using this) (encK_one [(k1, k2)]) (by unfold maxLen; omega) (by omega) (by simp; omega) ?_; intro v5 w5 ho5 hg5 hn5 hl5)
        | fail)
      go_roundw
      case rel =>
        have hgc : Chg (fun k => blk (.slice A4 ns.length C4) = some k) ((w3.alloc (.cells #[.int .i64 k1, .int .i64 k2] 56)).alloc (.cells #[.int .i64 k1, .int .i64 k2] 56)) w5 := Chg.of_grown hg5
        refine ⟨l1 ++ l2, ns ++ [(k1, k2)], ?_, ?_, ?_, ?_⟩
        · rw [List.length_append, List.flatMap_append]; exact ho5
        · have : ((ns ++ [(k1, k2)]) ++ (l1 ++ l2)).Perm (ns ++ (l1 ++ (k1, k2) :: l2)) := by
            rw [List.append_assoc]
            refine List.Perm.append_left ns ?_
            exact (List.perm_middle (a := (k1, k2)) (l₁ := l1) (l₂ := l2)).symm
          rw [hl] at hperm
          exact this.trans hperm
        · refine ((hrg3.alloc _).alloc _).keep hgc ?_ ?_
          · intro e
            obtain ⟨_, _, hle⟩ := owns_block2 HO.out e
            have := HML.out; omega
          · intro e; exact HNE.out _ e rfl
        · have hB3 : Below w1.heap.size w1 w3 := hB.trans (hc3.below (fun k e => by omega) hB.size)
          refine ((hB3.alloc hs3' _).alloc (by simp; omega) _).trans (hgc.below (fun k hk => ?_) (by simp; omega))
          obtain ⟨_, _, hle⟩ := owns_block2 HO.out hk
          exact hle
      case measure =>
        have hgc : Chg (fun k => blk (.slice A4 ns.length C4) = some k) ((w3.alloc (.cells #[.int .i64 k1, .int .i64 k2] 56)).alloc (.cells #[.int .i64 k1, .int .i64 k2] 56)) w5 := Chg.of_grown hg5
        have hr5 : Ranges w5 m w1.heap.size L (l1 ++ l2) := by
          refine ((hrg3.alloc _).alloc _).keep hgc ?_ ?_
          · intro e
            obtain ⟨_, _, hle⟩ := owns_block2 HO.out e
            have := HML.out; omega
          · intro e; exact HNE.out _ e rfl
        rw [hr5.left_eq, hrg.left_eq, hl]; simp
theorem keys_len {w : World} {base n m : Nat} {L : List Bg} (h : Nk w base n m L) {l : List Pk} (hf : Fit L l) : L.length ≤ l.length := by
  have hs := sortK_links h.map.names (p := l) (fun k => fit_keys h hf k)
  have h1 : (sortK (L.map fun p => p.k)).length = L.length := by simp [sortK]
  rw [← h1, hs]
  exact links_len l
theorem links_any {w : World} {n : Nat} {l : List Pk} {T : Nat → Prop} (h : Nx w n l T) (hl : l.length ≤ 1000000) :
    Calls Try.prog 12 #[.pointer (some ⟨n, 0, none⟩)] w fun e w' => ∃ A C, e = .returned (.slice A (linksOf l).length C) ∧ w'.ownsRow w.heap.size 56 2 (.slice A (linksOf l).length C) (linksOf l).length ((linksOf l).flatMap encK) ∧ Below w.heap.size w w' := by
  obtain ⟨base, m, L, h1, h2, h3, h4, h5⟩ := h
  exact links_nk h2 h3 (by have := keys_len h2 h3; omega)
end Go.Proofs.Ytjclegiohhbkpaa
