/- Trees: Sittings: the sittings by rising sessions. -/
import Derived.Test.YteaomigmamnobaaGreatDoorTrY
import Derived.Test.YteaomigmamnobaaGreatDoorTrM
import Derived.Test.YteaomigmamnobaaGreatDoorTrO
import Derived.Test.YteaomigmamnobaaGreatDoorShelf3
import Derived.Maps.RangeWalk
import Derived.Maps.AppendAt
namespace Go.Proofs.YteaomigmamnobaaGreatDoor.Si
set_option linter.unusedSimpArgs false
set_option linter.unusedVariables false
open Go.RowKit Go.MapKept
open Go.Sort (Holds putRow grow)
set_option linter.unusedVariables false
set_option linter.unusedSimpArgs false

section
variable {α : Type} [Inhabited α]
theorem heap_put {w : World} {g n : Nat} {cur : Array Value} {e : TypeId} {fr : Nat × Nat} (enc : α → Value) (d : Array α) (hb : w.heap[g]? = some (.cells cur e fr)) :
    (putRow enc (Go.Sort.ahead w n) g 0 d).heap[g]? = some (.cells (Go.Sort.putCells enc 0 d cur) e fr) := by
  simp [putRow, Go.Sort.mapBlock, Go.Sort.ahead, Array.getElem?_modify, hb, Go.Sort.onCells]
theorem chg_put {w : World} {g n : Nat} (enc : α → Value) (d : Array α) : Chg (fun k => k = g) w (putRow enc (Go.Sort.ahead w n) g 0 d) := by
  refine ⟨rfl, rfl, rfl, by simp, fun k hk hne => ?_⟩
  have : g ≠ k := fun e => hne e.symm
  simp [putRow, Go.Sort.mapBlock, Go.Sort.ahead, Array.getElem?_modify, this]
theorem take_put (enc : α → Value) (cur : Array Value) (ts : List α) (M : Nat) (h : ts.length ≤ cur.size) (hM : M ≤ ts.length) : (Go.Sort.putCells enc 0 ts.toArray cur).toList.take M = (ts.take M).map enc := by
  apply List.ext_getElem?
  intro j
  by_cases hj : j < M
  · rw [List.getElem?_take_of_lt hj, Array.getElem?_toList]
    have h1 : j < ts.length := by omega
    simp [Go.Sort.putCells, h1, hj, show j < cur.size by omega]
  · rw [List.getElem?_take_eq_none (by omega), List.getElem?_eq_none (by simp; omega)]
theorem holds_block {w : World} {g : Nat} {cur : Array Value} {e : TypeId} (enc : α → Value) {ss : List α} (hb : w.heap[g]? = some (.cells cur e (0, 0))) (ht : cur.toList.take ss.length = ss.map enc) : Holds enc w g 0 ss.toArray := by
  intro j hj
  have hj' : j < ss.length := by simpa using hj
  refine ⟨?_, by simp [World.frozen?, hb]⟩
  have h1 : (cur.toList.take ss.length)[j]? = (ss.map enc)[j]? := by rw [ht]
  rw [List.getElem?_take_of_lt hj'] at h1
  simp only [World.cell?, hb, Nat.zero_add]
  simp only [Option.isSome_none, Bool.false_eq_true, if_false]
  rw [← Array.getElem?_toList, h1]
  simp [hj']
omit [Inhabited α] in
theorem flat_len (enc : α → List Value) (k : Nat) (hk : ∀ x, (enc x).length = k) : ∀ ns : List α, (ns.flatMap enc).length = ns.length * k
  | [] => by simp
  | x :: ns => by rw [List.flatMap_cons, List.length_append, hk, flat_len enc k hk ns, List.length_cons, Nat.add_mul, Nat.one_mul, Nat.add_comm]
theorem flat_at (enc : α → List Value) (k : Nat) (hk : ∀ x, (enc x).length = k) (h0 : 0 < k) : ∀ (ns : List α) (t : Nat), t < ns.length * k → (ns.flatMap enc)[t]? = some ((enc (ns.toArray)[t / k]!)[t % k]!)
  | [], t, h => by simp at h
  | x :: ns, t, h => by
    rw [List.length_cons, Nat.add_mul, Nat.one_mul] at h
    rw [List.flatMap_cons]
    by_cases ht : t < k
    · have e : (x :: ns).toArray[0]! = x := by simp
      rw [List.getElem?_append_left (by rw [hk]; exact ht), Nat.div_eq_of_lt ht, Nat.mod_eq_of_lt ht, e, getElem!_pos _ _ (by rw [hk]; exact ht), List.getElem?_eq_getElem (by rw [hk]; exact ht)]
    · have e1 : t / k = (t - k) / k + 1 := Nat.div_eq_sub_div h0 (by omega)
      have e2 : t % k = (t - k) % k := Nat.mod_eq_sub_mod (by omega)
      have hlt : (t - k) / k < ns.length := (Nat.div_lt_iff_lt_mul h0).2 (by omega)
      have e3 : (x :: ns).toArray[(t - k) / k + 1]! = ns.toArray[(t - k) / k]! := by
        rw [getElem!_pos _ _ (by simpa using hlt), getElem!_pos _ _ (by simpa using hlt)]
        simp
      rw [List.getElem?_append_right (by rw [hk]; omega), hk, flat_at enc k hk h0 ns (t - k) (by omega), e1, e2, e3]
theorem flat_gen (enc : α → List Value) (k : Nat) (hk : ∀ x, (enc x).length = k) (h0 : 0 < k) (ns : List α) : (Go.Sort.flatK enc k ns.toArray).toList = ns.flatMap enc := by
  have hs : (Go.Sort.flatK enc k ns.toArray).size = ns.length * k := by simp
  apply List.ext_getElem?
  intro t
  by_cases ht : t < ns.length * k
  · have e1 := Go.Sort.get_flatK enc k ns.toArray t (by simpa using ht)
    rw [getElem!_pos _ t (by rw [hs]; exact ht)] at e1
    rw [Array.getElem?_toList, Array.getElem?_eq_getElem (by rw [hs]; exact ht), e1, flat_at enc k hk h0 ns t ht]
  · rw [Array.getElem?_toList, Array.getElem?_eq_none (by rw [hs]; omega), List.getElem?_eq_none (by rw [flat_len enc k hk]; omega)]
theorem sorted_gen (enc : α → List Value) (k : Nat) (hk : ∀ x, (enc x).length = k) (h0 : 0 < k) {T : TypeId} {w w' : World} {base g cap N : Nat} {os : Array Obj} {cur : Array Value} {ss : List α} {n : Nat} (hN : ss.length = N) (hbase : base ≤ g) (hb : w.heap[g]? = some (.cells cur T (0, 0))) (h1 : N ≤ cap) (h2 : cap ≤ maxLen) (h3 : cur.size = cap * k)
    (hw : w' = Go.Proofs.sortWorldK enc k w g 0 n ss.toArray os) :
    w'.ownsRow base T k (.slice (some ⟨g, 0, none⟩) N cap) N (ss.flatMap enc) ∧ Chg (fun i => i = g) w w' := by
  subst hN
  have hfl := flat_gen enc k hk h0 ss
  have hfs := flat_len enc k hk ss
  have hg : g < w.heap.size := theap_lt hb
  have hwp : w' = grow (putRow id (Go.Sort.ahead w n) g 0 (ss.flatMap enc).toArray) os := by
    rw [hw]; unfold Go.Proofs.sortWorldK Go.Sort.putRowK
    rw [← hfl]
  have hsz : g < (putRow id (Go.Sort.ahead w n) g 0 (ss.flatMap enc).toArray).heap.size := by simpa using hg
  have hle : (ss.flatMap enc).length ≤ cur.size := by rw [hfs, h3]; exact Nat.mul_le_mul_right k h1
  refine ⟨⟨hfs, .inr ⟨g, cap, _, rfl, hbase, by rw [hwp, Go.Sort.heap_grow_old _ _ hsz]; exact heap_put id _ hb, h1, h2, by simp [Go.Sort.putCells, h3], ?_⟩⟩, ?_⟩
  · rw [take_put id cur _ _ hle (by omega), List.map_id, List.take_of_length_le (by omega)]
  · rw [hwp]
    have c1 : Chg (fun k => k = g) w (putRow id (Go.Sort.ahead w n) g 0 (ss.flatMap enc).toArray) := chg_put id _
    refine c1.trans ⟨rfl, rfl, rfl, by simp, fun k hk _ => by rw [Go.Sort.heap_grow_old _ _ hk]⟩
theorem holds_gen (enc : α → List Value) (k : Nat) (hk : ∀ x, (enc x).length = k) (h0 : 0 < k) {T : TypeId} {w : World} {g : Nat} {cur : Array Value} {ns : List α} (hb : w.heap[g]? = some (.cells cur T (0, 0))) (h4 : cur.toList.take (ns.length * k) = ns.flatMap enc) : Go.Sort.HoldsK enc k w g 0 ns.toArray := by
  unfold Go.Sort.HoldsK
  have e1 : Go.Sort.flatK enc k ns.toArray = (ns.flatMap enc).toArray := by
    apply Array.toList_inj.1
    rw [flat_gen enc k hk h0]
  rw [e1]
  refine holds_block id hb ?_
  rw [List.map_id, flat_len enc k hk]
  exact h4
end
theorem infoS : (Tryz.prog.info? 57).map (fun i => (i.zero, i.size, i.bytes)) = some (some (.agg #[.int .i64 0, .int .i64 0, .int .i64 0]), 3, 24) := by kernel_rfl
theorem sform {T : TypeId} {w : World} {base n : Nat} {v : Value} {xs : List Value} (h : w.ownsRow base T 3 v n xs) : ∃ A C, v = .slice A n C := by
  rcases h.2 with ⟨rfl, rfl⟩ | ⟨g, cap, cur, rfl, _⟩
  · exact ⟨none, 0, rfl⟩
  · exact ⟨_, cap, rfl⟩
theorem sblock {T : TypeId} {w : World} {base : Nat} {v : Value} {n : Nat} {xs : List Value} (h : w.ownsRow base T 3 v n xs) {k : Nat} (hk : v.ownBlock = some k) : ∃ cur, w.heap[k]? = some (.cells cur T (0, 0)) ∧ base ≤ k := by
  rcases h.2 with ⟨rfl, _⟩ | ⟨g, cap, cur, rfl, hb, hg, hr⟩
  · cases hk
  · cases hk; exact ⟨cur, hg, hb⟩
theorem cell_three_new (w : World) (u v x : Value) (T : TypeId) : ∀ j y, [u, v, x][j]? = some y → (w.alloc (.cells #[u, v, x] T)).cell? ((⟨w.heap.size, 0, none⟩ : Addr).add j) = some y := by
  intro j y hy
  rw [show (⟨w.heap.size, 0, none⟩ : Addr).add j = ⟨w.heap.size, j, none⟩ by simp only [Addr.add]; split <;> simp_all, cell_at (heap_alloc_new w _)]
  simpa using hy
set_option maxRecDepth 100000 in
set_option maxHeartbeats 8000000 in
theorem sittings_any {w : World} {t m n : Nat} {L : List Go.Proofs.YteaomigmamnobaaGreatDoor.Fv} {K : List Fv} (h : Tk w t m n L K) (hlen : K.length ≤ 1000000) :
    Calls Tryz.prog 18 #[.pointer (some ⟨t, 0, none⟩)] w fun e w' => ∃ A C, e = .returned (.slice A K.length C) ∧ w'.ownsRow w.heap.size 57 3 (.slice A K.length C) K.length ((sortS (K.map fun p => p.1.nm)).flatMap (encS K)) ∧ Below w.heap.size w w' := by
  have hc0 := cell_at h.cell 0
  have hc1 := cell_at h.cell 1
  simp at hc0 hc1
  have hm := h.seats
  have hth := there_yes hc0
  obtain ⟨i0, hi, hz0, hz1, hz2⟩ := info_parts infoS
  have HMM : Hid (MapIs w n K) := hm
  go_enter Tryz.func18, Tryz.ntmps18
  go_wp2_with fail
  refine hth.mono ?_
  rintro e w1 ⟨rfl, hw1⟩
  obtain rfl : w = w1 := hw1.symm
  go_wp2_with (first
    | (at_range; refine wpList_rng rfl _ rfl rfl hm ?_; intro w2 hr2 hc2 hs2)
    | fail)
  go_frame
  have HR : Hid (Ranges w2 n w.heap.size K (K.map fun p => p.1.nm)) := hr2
  have HB2 : Hid (Below w.heap.size w w2) := hc2.below (fun _ e => e.elim) (Nat.le_refl _)
  have HML : Hid (n < w.heap.size) := hm.lt
  have HLL : Hid ((K.map fun p => p.1.nm).length = K.length) := by unfold Hid; simp
  clear hr2 hc2 hs2 hm h hth hc0 hc1
  go_loopw [3] (fun v wr => ∃ (left ns : List Int), wr.ownsRow w.heap.size 57 3 v ns.length (ns.flatMap (encS K)) ∧ (ns ++ left).Perm (K.map fun p => p.1.nm) ∧ Ranges wr n w.heap.size K left ∧ Below w.heap.size w wr) (fun _ wr => wr.rangeLeft n w.heap.size)
  case atStart => exact ⟨_, [], World.ownsRow_nil _ _ _ _, List.Perm.refl _, HR.out, HB2.out⟩
  case round =>
    obtain ⟨left, ns, hown, hperm, hrg, hB⟩ := hrel
    go_wp2_with (first
      | (at_next; refine wpList_nxt rfl _ rfl rfl hrg ?_ ?_)
      | fail)
    · intro hl0
      subst hl0
      rw [List.append_nil] at hperm
      have HPM : Hid (ns.Perm (K.map fun p => p.1.nm)) := hperm
      have hlen3 : ns.length ≤ 1000000 := by have := hperm.length_eq; have := HLL.out; omega
      have HNL : Hid (ns.length = K.length) := by have := hperm.length_eq; have := HLL.out; show _ = _; omega
      have HSS : Hid (sortS (K.map fun p => p.1.nm) = sortS ns) := (sortS_perm hperm).symm
      clear hperm hlen hrg
      rcases hown.2 with ⟨hnil, h0⟩ | ⟨g, cp0, cur, hv, hbase, hb, h1, h2, h3, h4⟩
      · have hns : ns = [] := List.length_eq_zero_iff.1 h0
        clear hown
        subst hnil
        subst hns
        have HB : Hid (Below w.heap.size w wr) := hB
        clear hB
        go_wp2_with fail
        refine (Tryz.slices_SortFunc_none_f43 (α := Nat) none 0 _ _).mono ?_
        rintro e w5 ⟨rfl, rfl⟩
        go_wp2_with fail
        go_ret
        have hK0 : K = [] := List.length_eq_zero_iff.1 (by have := HNL.out; simp at this; omega)
        subst hK0
        exact ⟨none, 0, rfl, by simp [sortS]; exact World.ownsRow_nil _ _ _ _, HB.out⟩
      · have eg : ∀ args w, (callFunc 44 args).run Tryz.prog w = .ok (.enter 44 args) w := enters_of Tryz.func44 (by kernel_rfl) rfl
        have hHold := holds_gen (encS K) 3 (encS_len K) (by omega) hb h4
        have hsort := Tryz.slices_SortFunc_total_f43 3 Tryz.isAgg57 Tryz.sizeOf57 (encS K) (encS_len K) (encS_one K) cfS swoS 44 #[] g 0 cp0 ns.toArray wr eg (cmpLaysS K g 0 _ wr) hHold (theap_lt hb) (by simp; omega) totS
        simp only [List.size_toArray] at hsort
        have HB : Hid (Below w.heap.size w wr) := hB
        have HBK : Hid _ := hb
        have H1 : Hid (ns.length ≤ cp0) := h1
        have H2 : Hid (cp0 ≤ maxLen) := h2
        have H3 : Hid _ := h3
        have HBS : Hid (w.heap.size ≤ g) := hbase
        clear hown hHold hB hb h1 h2 h3 h4 hbase
        subst hv
        go_wp2_with fail
        refine hsort.mono ?_
        rintro e w5 ⟨rfl, n5, os5, hw5⟩
        obtain ⟨ho5, hc5⟩ := sorted_gen (encS K) 3 (encS_len K) (by omega) (ss := sortS ns) (N := ns.length) (by simp [sortS]) HBS.out HBK.out H1.out H2.out H3.out hw5
        have HB5 : Hid (Below w.heap.size w w5) := HB.out.trans (hc5.below (fun k hk => by rw [hk]; exact HBS.out) HB.out.size)
        have HO5 : Hid _ := ho5
        clear hsort hw5 ho5 hc5
        go_wp2_with fail
        go_ret
        refine ⟨some ⟨g, 0, none⟩, cp0, by rw [← HNL.out]; rfl, ?_, HB5.out⟩
        rw [HSS.out, ← HNL.out]
        exact HO5.out
    · intro l1 l2 q u w3 hl hlk hrg3 hc3 hs3 hen
      have hlen2 : ns.length + 1 ≤ 1000000 := by
        have := hperm.length_eq
        have h2 := HLL.out
        rw [hl] at this
        simp at this h2
        omega
      have HEN : Hid (encS K q.nm = [.int .i64 q.nm, .int .i64 q.tmo, .int .i64 q.turn]) := encS_at (p := (q, u)) hlk
      have hne : ∀ k, (u3 : Value).ownBlock = some k → k ≠ w.heap.size := by
        intro k hk e
        obtain ⟨cur, hcu, _⟩ := sblock hown hk
        obtain ⟨es, cl, si, se, c0, _, _, _, h4, _⟩ := hrg
        rw [e, h4] at hcu; cases hcu
      have hown3 : w3.ownsRow w.heap.size 57 3 u3 ns.length (ns.flatMap (encS K)) := towns_keep hown hc3 (fun k hk e => hne k hk e)
      have HO : Hid (w3.ownsRow w.heap.size 57 3 u3 ns.length (ns.flatMap (encS K))) := hown3
      have hs3' : w.heap.size ≤ w3.heap.size := by rw [hs3]; exact hB.size
      have HNE : Hid (∀ k, (u3 : Value).ownBlock = some k → k ≠ w.heap.size) := hne
      have HG3 : Hid (Ranges w3 n w.heap.size K (l1 ++ l2)) := hrg3
      have HG : Hid (Ranges wr n w.heap.size K left) := hrg
      have HL : Hid (left = l1 ++ q.nm :: l2) := hl
      have HPM : Hid ((ns ++ left).Perm (K.map fun p => p.1.nm)) := hperm
      have HB3 : Hid (Below w.heap.size w w3) := hB.trans (hc3.below (fun k e => by omega) hB.size)
      obtain ⟨A4, C4, hv4⟩ := sform hown
      subst hv4
      obtain ⟨a0, a1, a2, hpv⟩ : ∃ a0 a1 a2 : Int, q.nm = a0 ∧ q.tmo = a1 ∧ q.turn = a2 := ⟨_, _, _, rfl, rfl, rfl⟩
      have HPV : Hid (q.nm = a0 ∧ q.tmo = a1 ∧ q.turn = a2) := hpv
      have hval : valOf (q, u) = .agg #[.int .i64 a0, .int .i64 a1, .int .i64 a2] := by unfold valOf; rw [hpv.1, hpv.2.1, hpv.2.2]
      rw [hval, hpv.1] at hen ⊢
      clear hown hown3 hs3 hne hrg3 hrg hl hperm hB hc3 hlk hpv hval
      go_wp2_with (first
        | (at_builtin; refine wpList_append_own_at _ rfl (.tmp 18) (.tmp 20) 54 rfl w.heap.size 57 i0 (.agg #[.int .i64 0, .int .i64 0, .int .i64 0]) 3 24 Tryz.underlying54 hi hz0 hz1 hz2 rfl (by decide) _ ns.length (ns.flatMap (encS K)) rfl ((HO.out.alloc _).alloc _) ⟨w3.heap.size + 1, 0, none⟩ 1 1 [.int .i64 a0, .int .i64 a1, .int .i64 a2] rfl rfl (by have := cell_three_new (w3.alloc (.cells #[.int .i64 a0, .int .i64 a1, .int .i64 a2] 57)) (.int .i64 a0) (.int .i64 a1) (.int .i64 a2) 57; simpa using this) (by intro u hu; simp at hu; rcases hu with rfl | rfl | rfl <;> rfl) (by unfold maxLen; omega) (by omega) (by simp; omega) ?_; intro v5 w5 ho5 hg5 hn5 hl5)
        | fail)
      have hgc : Chg (fun k => (Value.slice A4 ns.length C4).ownBlock = some k) ((w3.alloc (.cells #[.int .i64 a0, .int .i64 a1, .int .i64 a2] 57)).alloc (.cells #[.int .i64 a0, .int .i64 a1, .int .i64 a2] 57)) w5 := Chg.of_grown hg5
      have hr5 : Ranges w5 n w.heap.size K (l1 ++ l2) := by
        refine ((HG3.out.alloc _).alloc _).keep hgc ?_ ?_
        · intro e
          obtain ⟨_, _, hle⟩ := sblock HO.out e
          have := HML.out; omega
        · intro e; exact HNE.out _ e rfl
      go_roundw
      case rel =>
        refine ⟨l1 ++ l2, ns ++ [a0], ?_, ?_, hr5, ?_⟩
        · rw [List.length_append, List.flatMap_append]
          have e3 : encS K a0 = [.int .i64 a0, .int .i64 a1, .int .i64 a2] := by have := HEN.out; rw [HPV.out.1, HPV.out.2.1, HPV.out.2.2] at this; exact this
          simp only [List.flatMap_cons, List.flatMap_nil, List.append_nil, e3]
          exact ho5
        · have hp := HPM.out
          rw [HL.out, HPV.out.1] at hp
          have : ((ns ++ [a0]) ++ (l1 ++ l2)).Perm (ns ++ (l1 ++ a0 :: l2)) := by
            rw [List.append_assoc]
            refine List.Perm.append_left ns ?_
            exact (List.perm_middle (a := a0) (l₁ := l1) (l₂ := l2)).symm
          exact this.trans hp
        · refine ((HB3.out.alloc hs3' _).alloc (by simp; omega) _).trans (hgc.below (fun k hk => ?_) (by simp; omega))
          obtain ⟨_, _, hle⟩ := sblock HO.out hk
          exact hle
      case measure =>
        rw [hr5.left_eq, HG.out.left_eq, HL.out]; simp
end Go.Proofs.YteaomigmamnobaaGreatDoor.Si
