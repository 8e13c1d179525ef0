/- Trees: the node of a path among some. Rows of texts: parts of one, and what is put behind one of one's own. Trees: the paths of all nodes of some lists, rising. -/
import Derived.Test.YtcdnfgibcochhaaGreatDoorTrLb
import Derived.Test.YtcdnfgibcochhaaGreatDoorTrAa
import Derived.Shelf.Slices.In.SortNone
import Derived.Test.YtcdnfgibcochhaaGreatDoorTrGa
import Derived.Deep.CutRange
import Derived.Deep.CutBlock
namespace Go.Proofs.YtcdnfgibcochhaaGreatDoor
set_option linter.unusedSimpArgs false
set_option linter.unusedVariables false
set_option linter.unusedSimpArgs false
set_option linter.unusedVariables false
open Go.RowKit Go.MapKept

theorem mkS_eqb (a b : List UInt8) : ((mkS a).toList == (mkS b).toList) = decide (a = b) := by
  rw [PA.mkS_toList, PA.mkS_toList]
  by_cases h : a = b
  · subst h; simp
  · rw [decide_eq_false h]; simpa using h
theorem rng_new {w : World} (x : Al) (T : TypeId) : NCells (w.alloc (.cells (alA x) T)) w.heap.size 0 x := ncells_new (heap_alloc_new w _)
/- Among no two of one path: the one of that path. -/
def atF (l : List Al) (p : List UInt8) : Option Al := l.find? fun x => decide (x.q.nm = p)
set_option maxRecDepth 100000 in
set_option maxHeartbeats 8000000 in
theorem at_any {w : World} {A : Option Addr} {Q : List Al} {C : Nat} (h : RowN w A Q C) (p : List UInt8) (hlen : Q.length ≤ 4611686018427387904) :
    Calls Tryz.prog 28 #[.slice A Q.length C, .string (mkS p)] w fun e w' => Below w.heap.size w w' ∧ match atF Q p with
      | some x => e = .returned (.tuple #[.agg (alA x), .bool true])
      | none => e = .returned (.tuple #[.agg zeroA.toArray, .bool false]) := by
  have HH : Hid (RowN w A Q C) := h
  have HLEN : Hid (Q.length ≤ 4611686018427387904) := hlen
  obtain ⟨R, hR⟩ : ∃ R, R = atF Q p := ⟨_, rfl⟩
  rw [← hR]
  have HRR : Hid (R = atF Q p) := hR
  clear hR
  obtain ⟨wz, hwz⟩ : ∃ wz, wz = w.alloc (.cells zeroA.toArray 47) := ⟨_, rfl⟩
  have HZ0 : Hid (wz.heap[w.heap.size]? = some (.cells zeroA.toArray 47 (0, 0))) := by rw [hwz]; exact heap_alloc_new w _
  have HBZ : Hid (Below w.heap.size w wz) := by rw [hwz]; exact lay1 w _
  have HZS : Hid (w.heap.size < wz.heap.size) := by rw [hwz]; unfold Hid; simp
  have HWZ : Hid (wz = w.alloc (.cells zeroA.toArray 47)) := hwz
  clear h hwz
  go_enter Tryz.func28, Tryz.ntmps28
  go_upto_region 1 with fail
  rw [show w.alloc _ = wz from HWZ.out.symm]
  go_wp2_with fail
  have hth : wz.there w.heap.size 0 12 := there_of (cs := zeroA) HZ0.out
  have HTH : Hid (wz.there w.heap.size 0 12) := hth
  clear hth
  go_loopg [6] Q.length (fun g v6 wr => ∃ k : Nat, k ≤ Q.length ∧ g = Q.length - k ∧ v6 = .int .i64 (k : Int) ∧ (∀ i (hi : i < Q.length), i < k → (Q[i]'hi).q.nm ≠ p) ∧ wr = wz)
  case atStart => exact ⟨0, Nat.zero_le _, rfl, rfl, fun i _ hi => absurd hi (Nat.not_lt_zero i), rfl⟩
  case round =>
    obtain ⟨k, hk, hg, rfl, hno, rfl⟩ := hrel
    have HG : Hid (gk = Q.length - k) := hg
    have HNO : Hid (∀ i (hi : i < Q.length), i < k → (Q[i]'hi).q.nm ≠ p) := hno
    clear hg hno
    by_cases hlt : k < Q.length
    case neg =>
      have hF : atF Q p = none := by
        unfold atF
        rw [List.find?_eq_none]
        intro x hx
        obtain ⟨i, hi, rfl⟩ := List.getElem_of_mem hx
        simpa using HNO.out i hi (by omega)
      obtain rfl : R = none := HRR.out.trans hF
      obtain ⟨w2, hw2⟩ : ∃ w2, w2 = wr.setCells w.heap.size 0 [.string ⟨#[]⟩, .slice none 0 0, .int .i64 0, .int .i64 0, .int .i64 0, .int .i64 0, .int .i64 0, .int .i64 0, .int .i64 0, .int .i64 0, .int .i64 0, .int .i64 0] := ⟨_, rfl⟩
      have HW2 : Hid (w2 = wr.setCells w.heap.size 0 [.string ⟨#[]⟩, .slice none 0 0, .int .i64 0, .int .i64 0, .int .i64 0, .int .i64 0, .int .i64 0, .int .i64 0, .int .i64 0, .int .i64 0, .int .i64 0, .int .i64 0]) := hw2
      have HON : Hid ((#[.string ⟨#[]⟩, .slice none 0 0, .int .i64 0, .int .i64 0, .int .i64 0, .int .i64 0, .int .i64 0, .int .i64 0, .int .i64 0, .int .i64 0, .int .i64 0, .int .i64 0] : Array Value).all (·.oneCell') = true) := oneA
      clear hw2 hF
      go_wp2_with (first | (refine wpList_store_mid rfl 47 (.tmp 4) (.tmp 24) rfl w.heap.size 0 #[.string ⟨#[]⟩, .slice none 0 0, .int .i64 0, .int .i64 0, .int .i64 0, .int .i64 0, .int .i64 0, .int .i64 0, .int .i64 0, .int .i64 0, .int .i64 0, .int .i64 0] rfl rfl HTH.out infoN12s HON.out ?_; rw [← HW2.out]) | fail)
      refine bodyPost_ret (results_row2 _ _ _ Tryz.results28 w.heap.size rfl (.bool false) rfl zeroA _ ?_ Tryz.underlying47 rfl (by kernel_rfl)) rfl ⟨?_, rfl⟩
      · rw [HW2.out]; exact World.rangeAt_setCells_same _ _ _ zeroA HTH.out
      · rw [HW2.out]; exact below_cells (Nat.le_refl _) _ _ _ HBZ.out
    case pos =>
    obtain ⟨b, o, rfl, hb1, _, hc⟩ := HH.out.at k hlt
    have hx := ((ncells hc).below HBZ.out hb1)
    obtain ⟨x, hxx⟩ : ∃ x, x = Q[k]'hlt := ⟨_, rfl⟩
    rw [← hxx] at hx
    have HXX : Hid (x = Q[k]'hlt) := hxx
    have heq := mkS_eqb x.q.nm p
    have i0 : ¬ (k : Int) < 0 := by omega
    have i1 : (k : Int) < (Q.length : Int) := by omega
    have i2 : (0 : Int) ≤ (k : Int) := by omega
    have i3 : (k : Int).toNat = k := by omega
    obtain ⟨z0, z1, z2, z3, z4, z5, z6, z7, z8, z9, z10, z11⟩ := hx
    clear hc hxx hb1
    by_cases hp : x.q.nm = p
    · rw [decide_eq_true hp] at heq
      have hF : atF Q p = some x := by
        unfold atF
        rw [List.find?_eq_some_iff_getElem]
        refine ⟨by simpa using hp, k, hlt, HXX.out.symm, fun j hj => ?_⟩
        simpa using HNO.out j (by omega) hj
      obtain rfl : R = some x := HRR.out.trans hF
      clear hF hp
      obtain ⟨w2, hw2⟩ : ∃ w2, w2 = wr.setCells w.heap.size 0 [.string (mkS x.q.nm), .slice x.A x.q.b.length x.C, .int .i64 x.q.st.cz, .int .i64 x.q.st.mz, .int .i64 x.q.st.pz, .int .i64 x.q.st.ct, .int .i64 x.q.st.mt, .int .i64 x.q.st.ver, .int .i64 x.q.st.cv, .int .i64 x.q.st.own, .int .i64 x.q.st.len, .int .i64 x.q.st.chd] := ⟨_, rfl⟩
      have HW2 : Hid (w2 = wr.setCells w.heap.size 0 [.string (mkS x.q.nm), .slice x.A x.q.b.length x.C, .int .i64 x.q.st.cz, .int .i64 x.q.st.mz, .int .i64 x.q.st.pz, .int .i64 x.q.st.ct, .int .i64 x.q.st.mt, .int .i64 x.q.st.ver, .int .i64 x.q.st.cv, .int .i64 x.q.st.own, .int .i64 x.q.st.len, .int .i64 x.q.st.chd]) := hw2
      have HON : Hid ((#[.string (mkS x.q.nm), .slice x.A x.q.b.length x.C, .int .i64 x.q.st.cz, .int .i64 x.q.st.mz, .int .i64 x.q.st.pz, .int .i64 x.q.st.ct, .int .i64 x.q.st.mt, .int .i64 x.q.st.ver, .int .i64 x.q.st.cv, .int .i64 x.q.st.own, .int .i64 x.q.st.len, .int .i64 x.q.st.chd] : Array Value).all (·.oneCell') = true) := all_oneCell_toArray (alV_one x)
      clear hw2
      go_wp2_with (first | (refine wpList_store_mid rfl 47 (.tmp 4) (.tmp 23) rfl w.heap.size 0 #[.string (mkS x.q.nm), .slice x.A x.q.b.length x.C, .int .i64 x.q.st.cz, .int .i64 x.q.st.mz, .int .i64 x.q.st.pz, .int .i64 x.q.st.ct, .int .i64 x.q.st.mt, .int .i64 x.q.st.ver, .int .i64 x.q.st.cv, .int .i64 x.q.st.own, .int .i64 x.q.st.len, .int .i64 x.q.st.chd] rfl rfl HTH.out infoN12s HON.out ?_; rw [← HW2.out]) | fail)
      refine bodyPost_ret (results_row2 _ _ _ Tryz.results28 w.heap.size rfl (.bool true) rfl [.string (mkS x.q.nm), .slice x.A x.q.b.length x.C, .int .i64 x.q.st.cz, .int .i64 x.q.st.mz, .int .i64 x.q.st.pz, .int .i64 x.q.st.ct, .int .i64 x.q.st.mt, .int .i64 x.q.st.ver, .int .i64 x.q.st.cv, .int .i64 x.q.st.own, .int .i64 x.q.st.len, .int .i64 x.q.st.chd] _ ?_ Tryz.underlying47 rfl (by kernel_rfl)) rfl ⟨?_, rfl⟩
      · rw [HW2.out]; exact World.rangeAt_setCells_same _ _ _ [.string (mkS x.q.nm), .slice x.A x.q.b.length x.C, .int .i64 x.q.st.cz, .int .i64 x.q.st.mz, .int .i64 x.q.st.pz, .int .i64 x.q.st.ct, .int .i64 x.q.st.mt, .int .i64 x.q.st.ver, .int .i64 x.q.st.cv, .int .i64 x.q.st.own, .int .i64 x.q.st.len, .int .i64 x.q.st.chd] HTH.out
      · rw [HW2.out]; exact below_cells (Nat.le_refl _) _ _ _ HBZ.out
    · rw [decide_eq_false hp] at heq
      have HP : Hid (x.q.nm ≠ p) := hp
      clear hp
      go_wp2_with fail
      go_roundg (Q.length - (k + 1))
      case measure => have := HG.out; omega
      case rel =>
        refine ⟨k + 1, by omega, rfl, by go_num, fun i hi hik => ?_, rfl⟩
        rcases Nat.lt_or_ge i k with h | h
        · exact HNO.out i hi h
        · have : i = k := by omega
          subst this
          have h2 := HP.out
          rwa [HXX.out] at h2
end Go.Proofs.YtcdnfgibcochhaaGreatDoor

namespace Go.Proofs.YtcdnfgibcochhaaGreatDoor
set_option linter.unusedSimpArgs false
set_option linter.unusedVariables false
set_option linter.unusedSimpArgs false
set_option linter.unusedVariables false
open Go.RowKit Go.MapKept

def celT (p : List UInt8) : List Value := [encStr p]
theorem celT_map : ∀ L : List (List UInt8), L.flatMap celT = L.map encStr
  | [] => rfl
  | p :: L => by rw [List.flatMap_cons, celT_map L]; rfl
theorem celT_len (L : List (List UInt8)) : (L.flatMap celT).length = L.length * 1 := by rw [celT_map, List.length_map, Nat.mul_one]
theorem celT_one (L : List (List UInt8)) : ∀ u ∈ L.flatMap celT, u.oneCell' = true := by rw [celT_map]; exact tstr_one L
theorem celT_take (L : List (List UInt8)) (d t : Nat) (u : Value) (h : ((L.take d).flatMap celT)[t]? = some u) : (L.flatMap celT)[t]? = some u := by
  have : L.flatMap celT = (L.take d).flatMap celT ++ (L.drop d).flatMap celT := by rw [← List.flatMap_append, List.take_append_drop]
  rw [this, List.getElem?_append_left (List.getElem?_eq_some_iff.1 h).1, h]
theorem celT_drop (L : List (List UInt8)) (d t : Nat) (u : Value) (h : ((L.drop d).flatMap celT)[t]? = some u) : (L.flatMap celT)[d * 1 + t]? = some u := by
  by_cases hd : d ≤ L.length
  · have : L.flatMap celT = (L.take d).flatMap celT ++ (L.drop d).flatMap celT := by rw [← List.flatMap_append, List.take_append_drop]
    have hl : ((L.take d).flatMap celT).length = d * 1 := by rw [celT_len, List.length_take]; omega
    rw [this, List.getElem?_append_right (by omega), hl, ← h]
    congr 1; omega
  · rw [List.drop_eq_nil_of_le (by omega)] at h; simp at h

/- The slice v holds the seats M. -/
def Tx (w : World) (v : Value) (M : List (List UInt8)) : Prop :=
  (v = .slice none 0 0 ∧ M = []) ∨ (∃ ad c, v = .slice (some ad) 0 c ∧ M = []) ∨ (0 < M.length ∧ ∃ b o c, v = .slice (some ⟨b, o, none⟩) M.length c ∧ M.length ≤ c ∧ b < w.heap.size ∧ ∀ t u, (M.flatMap celT)[t]? = some u → w.cell? ⟨b, o + t, none⟩ = some u)
theorem Tx.keep {S : Nat → Prop} {w w' : World} {v : Value} {M : List (List UInt8)} (h : Tx w v M) (hc : Chg S w w') (hn : ∀ k, bk v = some k → ¬ S k) : Tx w' v M := by
  rcases h with h | h | ⟨h0, b, o, c, rfl, h1, h2, h3⟩
  · exact .inl h
  · exact .inr (.inl h)
  · refine .inr (.inr ⟨h0, b, o, c, rfl, h1, hc.lt_of h2, fun t u hu => ?_⟩)
    rw [hc.cell (a := ⟨b, o + t, none⟩) h2 (hn b (bk_pos h0))]
    exact h3 t u hu
theorem addT_at (g i : Nat) : (⟨g, 0, none⟩ : Addr).add i = ⟨g, i, none⟩ := by simp only [Addr.add]; split <;> simp_all
theorem rowT_cells {w : World} {base n : Nat} {g C : Nat} {S : List (List UInt8)} (h : w.ownsRow base 9 1 (.slice (some ⟨g, 0, none⟩) n C) n (S.flatMap celT)) : n = S.length ∧ S.length ≤ C ∧ C ≤ maxLen ∧ g < w.heap.size ∧ base ≤ g ∧ ∀ t u, (S.flatMap celT)[t]? = some u → w.cell? ⟨g, t, none⟩ = some u := by
  have hn : n = S.length := by have := h.1; rw [celT_len] at this; omega
  rcases h.2 with ⟨hv, _⟩ | ⟨g', cap', cur', hv', hbs, hg, hc', hm', _⟩
  · cases hv
  · injection hv' with e1 _ e3
    injection e1 with e1
    injection e1 with e1
    subst e1 e3
    refine ⟨hn, by omega, hm', theap_lt hg, hbs, fun t u hu => ?_⟩
    have := h.cells (g := g) rfl t u hu
    rw [addT_at] at this
    exact this
theorem infoTx : (Tryz.prog.info? 9).map (fun i => (i.zero, i.size, i.bytes)) = some (some (.string ⟨#[]⟩), 1, 16) := by kernel_rfl
theorem sizeS1 (w : World) : (sizeOf 9).run Tryz.prog w = .ok 1 w := by kernel_rfl
/- The first seats of a row, and those from one on. -/
theorem partT_to {w : World} {base n : Nat} {v : Value} {S : List (List UInt8)} (h : w.ownsRow base 9 1 v n (S.flatMap celT)) (j : Nat) (hj : j ≤ S.length) :
    ∃ y, (∀ w', (Instr.sliceAt 51 v none (some (.int .i64 (j : Int))) none).run Tryz.prog w' = .ok y w') ∧ Tx w y (S.take j) := by
  have hu := Tryz.underlying51
  obtain ⟨A, C, rfl⟩ := nform h
  cases A with
  | none =>
    rcases h.2 with ⟨hv, hn⟩ | ⟨g', cap', cur', hv', _⟩
    · injection hv with _ _ e3
      subst e3
      have hS : S = [] := by have := h.1; rw [celT_len] at this; exact List.length_eq_zero_iff.1 (by omega)
      subst hS
      obtain rfl : j = 0 := by simpa using hj
      refine ⟨.slice none 0 0, fun w' => ?_, .inl ⟨rfl, by simp⟩⟩
      simp [Instr.sliceAt, Instr.slice, Instr.sliceBounds, Instr.sliceBound, asIntOf, run_underlying hu, sizeS1, Result.andThen, hn]
    · cases hv'
  | some ad =>
    rcases h.2 with ⟨hv, _⟩ | ⟨g', cap', cur', hv', _⟩
    · cases hv
    · injection hv' with e1 _ e3
      injection e1 with e1
      subst e1 e3
      obtain ⟨hn, hSC, hCm, hg, hb, hcl⟩ := rowT_cells h
      have hjC : j ≤ C := by omega
      refine ⟨.slice (some ⟨g', 0, none⟩) j C, fun w' => ?_, ?_⟩
      · simp [Instr.sliceAt, Instr.slice, Instr.sliceBounds, Instr.sliceBound, asIntOf, run_underlying hu, sizeS1, Result.andThen, hjC, Addr.add]
      · have hl : (S.take j).length = j := by rw [List.length_take]; omega
        by_cases h0 : 0 < j
        · refine .inr (.inr ⟨by omega, g', 0, C, by rw [hl], by omega, hg, fun t u hu => ?_⟩)
          rw [Nat.zero_add]
          exact hcl t u (celT_take S j t u hu)
        · obtain rfl : j = 0 := by omega
          exact .inr (.inl ⟨_, _, rfl, by simp⟩)
theorem partT_from {w : World} {base n : Nat} {v : Value} {S : List (List UInt8)} (h : w.ownsRow base 9 1 v n (S.flatMap celT)) (j : Nat) (hj : j ≤ S.length) :
    ∃ y, (∀ w', (Instr.sliceAt 51 v (some (.int .i64 (j : Int))) none none).run Tryz.prog w' = .ok y w') ∧ Tx w y (S.drop j) := by
  have hu := Tryz.underlying51
  obtain ⟨A, C, rfl⟩ := nform h
  cases A with
  | none =>
    rcases h.2 with ⟨hv, hn⟩ | ⟨g', cap', cur', hv', _⟩
    · injection hv with _ _ e3
      subst e3
      have hS : S = [] := by have := h.1; rw [celT_len] at this; exact List.length_eq_zero_iff.1 (by omega)
      subst hS
      obtain rfl : j = 0 := by simpa using hj
      refine ⟨.slice none 0 0, fun w' => ?_, .inl ⟨rfl, by simp⟩⟩
      subst hn
      simp [Instr.sliceAt, Instr.slice, Instr.sliceBounds, Instr.sliceBound, asIntOf, run_underlying hu, sizeS1, Result.andThen]
    · cases hv'
  | some ad =>
    rcases h.2 with ⟨hv, _⟩ | ⟨g', cap', cur', hv', _⟩
    · cases hv
    · injection hv' with e1 _ e3
      injection e1 with e1
      subst e1 e3
      obtain ⟨hn, hSC, hCm, hg, hb, hcl⟩ := rowT_cells h
      subst hn
      have hjC : j ≤ C := by omega
      refine ⟨.slice (some (if C = j then ⟨g', 0, none⟩ else ⟨g', j * 1, none⟩)) (S.length - j) (C - j), fun w' => ?_, ?_⟩
      · by_cases hC : C = j
        · subst hC
          have hSC2 : S.length = C := by omega
          simp [Instr.sliceAt, Instr.slice, Instr.sliceBounds, Instr.sliceBound, asIntOf, run_underlying hu, sizeS1, Result.andThen, hj]
        · simp [Instr.sliceAt, Instr.slice, Instr.sliceBounds, Instr.sliceBound, asIntOf, run_underlying hu, sizeS1, Result.andThen, hj, hC, Addr.add]
          omega
      · have hl : (S.drop j).length = S.length - j := List.length_drop
        by_cases h0 : j < S.length
        · rw [if_neg (by omega)]
          refine .inr (.inr ⟨by omega, g', j * 1, C - j, by rw [hl], by omega, hg, fun t u hu => ?_⟩)
          exact hcl (j * 1 + t) u (celT_drop S j t u hu)
        · have e0 : S.length - j = 0 := by omega
          rw [e0]
          exact .inr (.inl ⟨_, _, rfl, List.drop_eq_nil_of_le (by omega)⟩)
/- Seats behind a row of one's own. -/
theorem app_texts {w : World} {base : Nat} {v : Value} {S : List (List UInt8)} (ty : TypeId) (hown : w.ownsRow base 9 1 v S.length (S.flatMap celT)) {x : Value} {M : List (List UInt8)} (hx : Tx w x M)
    (hb : base ≤ w.heap.size) (hn : S.length + M.length ≤ 1000000) :
    ∃ v' w', (Builtin.append_ #[51, 51] ty #[v, x]).run Tryz.prog w = .ok v' w' ∧ w'.ownsRow base 9 1 v' (S ++ M).length ((S ++ M).flatMap celT) ∧ w.grownBy w' (v.ownBlock) ∧ (v'.ownBlock = v.ownBlock ∨ v'.ownBlock = some w.heap.size) := by
  obtain ⟨i0, hi, hz0, hz1, hz2⟩ := info_parts infoTx
  rcases hx with ⟨rfl, rfl⟩ | ⟨ad, c, rfl, rfl⟩ | ⟨h0, b, o, c, rfl, h1, h2, h3⟩
  · refine ⟨v, w, run_append_owned_none (P := Tryz.prog) w base 51 ty 9 i0 1 Tryz.underlying51 hi v S.length (S.flatMap celT) hown, ?_, ⟨rfl, rfl, rfl, Nat.le_refl _, fun _ _ _ => rfl⟩, .inl rfl⟩
    rw [List.append_nil]; exact hown
  · obtain ⟨v', w', hr, ho, hg, hn0, hl⟩ := run_append_own_at (P := Tryz.prog) w base 51 ty 9 i0 (.string ⟨#[]⟩) 1 16 Tryz.underlying51 hi hz0 hz1 hz2 rfl (by decide) v S.length (S.flatMap celT) hown ad 0 c [] rfl (fun j u hu => by simp at hu) (by simp)
      (by unfold maxLen; omega) (by omega) hb
    refine ⟨v', w', hr, ?_, hg, hl⟩
    simpa using ho
  · obtain ⟨v', w', hr, ho, hg, hn0, hl⟩ := run_append_own_at (P := Tryz.prog) w base 51 ty 9 i0 (.string ⟨#[]⟩) 1 16 Tryz.underlying51 hi hz0 hz1 hz2 rfl (by decide) v S.length (S.flatMap celT) hown ⟨b, o, none⟩ M.length c (M.flatMap celT) (celT_len M)
      (fun j u hu => by rw [show (⟨b, o, none⟩ : Addr).add j = ⟨b, o + j, none⟩ by simp only [Addr.add]; split <;> simp_all]; exact h3 j u hu) (celT_one M) (by unfold maxLen; omega) (by omega) hb
    refine ⟨v', w', hr, ?_, hg, hl⟩
    rw [List.length_append, List.flatMap_append]; exact ho
theorem wpList_appT {w : World} {ops : Array Oper} {rest : List Oper} {o : Oper} {a : Act} {Q : Exit → Act → World → Prop} (hgd : o.guard = none) (s x : Operand)
    (ho : o.op = .call { callee := .builtin .append, args := #[s, x], argTypes := #[51, 51] })
    {base : Nat} (v xv : Value) {S M : List (List UInt8)} (N : Nat) (hN : N = S.length + M.length) (hs : a.eval s = v) (hxe : a.eval x = xv) (hown : w.ownsRow base 9 1 v S.length (S.flatMap celT)) (hx : Tx w xv M)
    (hb : base ≤ w.heap.size) (hn : N ≤ 1000000)
    (h : ∀ A C w', w'.ownsRow base 9 1 (.slice A N C) (S ++ M).length ((S ++ M).flatMap celT) → w.grownBy w' (v.ownBlock) → ((Value.slice A N C).ownBlock = v.ownBlock ∨ (Value.slice A N C).ownBlock = some w.heap.size) → wpList Tryz.prog ops Q rest (a.put o.dst (.slice A N C)) w') :
    wpList Tryz.prog ops Q (o :: rest) a w := by
  refine wpList_plain hgd fun K hK => ?_
  obtain ⟨v', w', hr, h2, h3, h4⟩ := app_texts o.type hown hx hb (by omega)
  unfold Oper.wp execOp
  simp only [ho, resolve, invoke, builtin, Sem.run_bind, Sem.run_pure, Result.andThen_ok, List.map_toArray, List.map_cons, List.map_nil, hs, hxe, hr]
  obtain ⟨A, C, rfl⟩ := nform h2
  have e : (S ++ M).length = N := by rw [List.length_append, hN]
  have h2' := h2
  rw [e] at h4
  have h2'' : w'.ownsRow base 9 1 (.slice A N C) (S ++ M).length ((S ++ M).flatMap celT) := by rw [← e]; exact h2
  rw [e]
  exact hK _ _ (h A C w' h2'' h3 h4)


end Go.Proofs.YtcdnfgibcochhaaGreatDoor

namespace Go.Proofs.YtcdnfgibcochhaaGreatDoor
set_option linter.unusedSimpArgs false
set_option linter.unusedVariables false
set_option linter.unusedSimpArgs false
set_option linter.unusedVariables false
open Go.RowKit Go.MapKept

theorem bless_eq : ∀ (x y : List UInt8), Op.bytesLess x y = decide (x < y)
  | [], [] => by simp [Op.bytesLess]
  | _ :: _, [] => by simp [Op.bytesLess]
  | [], _ :: _ => by simp [Op.bytesLess]
  | a :: x, b :: y => by
    rw [Op.bytesLess, bless_eq x y, Bool.eq_iff_iff]
    simp [List.cons_lt_cons_iff]
def insP (p : List UInt8) : List (List UInt8) → List (List UInt8)
  | [] => [p]
  | x :: l => if x < p then x :: insP p l else if x = p then x :: l else p :: x :: l
theorem insP_at (p : List UInt8) : ∀ (l : List (List UInt8)) (j : Nat), j ≤ l.length → (∀ i (h : i < l.length), i < j → l[i]'h < p) → (∀ h : j < l.length, ¬ l[j]'h < p) → insP p l = (if h : j < l.length then (if l[j]'h = p then l else l.take j ++ p :: l.drop j) else l.take j ++ p :: l.drop j)
  | [], j, hj, _, _ => by
    have : j = 0 := by simpa using hj
    subst this; rfl
  | x :: l, 0, _, _, h2 => by
    have := h2 (by simp)
    simp only [List.getElem_cons_zero] at this
    unfold insP
    rw [if_neg this]
    simp
  | x :: l, j + 1, hj, h1, h2 => by
    have h0 := h1 0 (by simp) (by omega)
    simp only [List.getElem_cons_zero] at h0
    unfold insP
    rw [if_pos h0]
    have ih := insP_at p l j (by simpa using hj) (fun i h hi => by have := h1 (i + 1) (by simpa using h) (by omega); simpa using this) (fun h => by have := h2 (by simpa using h); simpa using this)
    rw [ih]
    by_cases hl : j < l.length
    · rw [dif_pos hl, dif_pos (by simpa using hl)]
      simp only [List.getElem_cons_succ]
      split
      · rfl
      · simp
    · rw [dif_neg hl, dif_neg (by simpa using hl)]
      simp
theorem insP_len (p : List UInt8) : ∀ l : List (List UInt8), (insP p l).length ≤ l.length + 1
  | [] => by simp [insP]
  | x :: l => by
    unfold insP
    have := insP_len p l
    split
    · simp; omega
    · split <;> simp
theorem insP_mem (p : List UInt8) {y : List UInt8} : ∀ {l : List (List UInt8)}, y ∈ insP p l ↔ y = p ∨ y ∈ l
  | [] => by simp [insP]
  | x :: l => by
    unfold insP
    split
    · rw [List.mem_cons, insP_mem p, List.mem_cons]
      constructor
      · rintro (h | h | h)
        · exact .inr (.inl h)
        · exact .inl h
        · exact .inr (.inr h)
      · rintro (h | h | h)
        · exact .inr (.inl h)
        · exact .inl h
        · exact .inr (.inr h)
    · split
      · next h =>
        constructor
        · exact .inr
        · rintro (h' | h')
          · rw [h', ← h]; exact .head _
          · exact h'
      · rw [List.mem_cons]
theorem insP_up (p : List UInt8) : ∀ {l : List (List UInt8)}, l.Pairwise (fun x y => x < y) → (insP p l).Pairwise fun x y => x < y
  | [], _ => by simp [insP]
  | x :: l, h => by
    obtain ⟨h1, h2⟩ := List.pairwise_cons.1 h
    unfold insP
    split
    · next hx =>
      refine List.pairwise_cons.2 ⟨fun y hy => ?_, insP_up p h2⟩
      rcases (insP_mem p).1 hy with rfl | hy
      · exact hx
      · exact h1 y hy
    · next hx =>
      split
      · exact h
      · next hxp =>
        have hpx : p < x := by
          apply Decidable.byContradiction
          intro h'
          exact hxp (pnlt_anti hx h')
        refine List.pairwise_cons.2 ⟨fun y hy => ?_, h⟩
        rcases List.mem_cons.1 hy with rfl | hy
        · exact hpx
        · exact plt_trans hpx (h1 y hy)
def addP (out ps : List (List UInt8)) : List (List UInt8) := ps.foldl (fun o p => insP p o) out
def pathsF (L : List (List (List UInt8))) : List (List UInt8) := L.foldl addP []
theorem addP_take (out ps : List (List UInt8)) (k : Nat) (hk : k < ps.length) : addP out (ps.take (k + 1)) = insP (ps[k]'hk) (addP out (ps.take k)) := by
  unfold addP
  rw [run_take _ _ hk, List.foldl_append]; rfl
theorem pathsF_take (L : List (List (List UInt8))) (k : Nat) (hk : k < L.length) : pathsF (L.take (k + 1)) = addP (pathsF (L.take k)) (L[k]'hk) := by
  unfold pathsF
  rw [run_take _ _ hk, List.foldl_append]; rfl
theorem addP_up : ∀ (ps : List (List UInt8)) {out : List (List UInt8)}, out.Pairwise (fun x y => x < y) → (addP out ps).Pairwise fun x y => x < y
  | [], _, h => h
  | p :: ps, _, h => addP_up ps (insP_up p h)
theorem pathsF_fold_up : ∀ (L : List (List (List UInt8))) {out : List (List UInt8)}, out.Pairwise (fun x y => x < y) → (L.foldl addP out).Pairwise fun x y => x < y
  | [], _, h => h
  | p :: L, _, h => pathsF_fold_up L (addP_up p h)
theorem pathsF_up (L : List (List (List UInt8))) : (pathsF L).Pairwise fun x y => x < y := pathsF_fold_up L .nil
theorem addP_mem {y : List UInt8} : ∀ (ps : List (List UInt8)) {out : List (List UInt8)}, y ∈ addP out ps ↔ y ∈ ps ∨ y ∈ out
  | [], _ => by simp [addP]
  | p :: ps, out => by
    show y ∈ addP (insP p out) ps ↔ _
    rw [addP_mem ps, insP_mem, List.mem_cons]
    constructor
    · rintro (h | h | h)
      · exact .inl (.inr h)
      · exact .inl (.inl h)
      · exact .inr h
    · rintro ((h | h) | h)
      · exact .inr (.inl h)
      · exact .inl h
      · exact .inr (.inr h)
theorem pathsF_fold_mem {y : List UInt8} : ∀ (L : List (List (List UInt8))) {out : List (List UInt8)}, y ∈ L.foldl addP out ↔ (∃ l ∈ L, y ∈ l) ∨ y ∈ out
  | [], _ => by simp
  | p :: L, out => by
    rw [List.foldl_cons, pathsF_fold_mem L, addP_mem]
    constructor
    · rintro (⟨l, h, h'⟩ | h | h)
      · exact .inl ⟨l, .tail _ h, h'⟩
      · exact .inl ⟨p, .head _, h⟩
      · exact .inr h
    · rintro (⟨l, h, h'⟩ | h)
      · rcases List.mem_cons.1 h with rfl | h
        · exact .inr (.inl h')
        · exact .inl ⟨l, h, h'⟩
      · exact .inr (.inr h)
theorem pathsF_mem {L : List (List (List UInt8))} {y : List UInt8} : y ∈ pathsF L ↔ ∃ l ∈ L, y ∈ l := by
  unfold pathsF; rw [pathsF_fold_mem]; simp
/- A row of nodes as a slice says it; rows of such. -/
structure Sl where
  Q : List Al
  A : Option Addr
  C : Nat
abbrev slV (s : Sl) : Value := .slice s.A s.Q.length s.C
def SRow (w : World) (A : Option Addr) (L : List Sl) (C : Nat) : Prop :=
  (L = [] ∨ ∃ b o, A = some ⟨b, o, none⟩ ∧ b < w.heap.size ∧ L.length ≤ C ∧ ∀ (i : Nat) (h : i < L.length), w.cell? ⟨b, o + i, none⟩ = some (slV (L[i]'h))) ∧ ∀ s ∈ L, RowN w s.A s.Q s.C
theorem SRow.below {w w' : World} {A : Option Addr} {L : List Sl} {C : Nat} (h : SRow w A L C) (hB : Below w.heap.size w w') : SRow w' A L C := by
  refine ⟨?_, fun s hs => (h.2 s hs).below hB⟩
  rcases h.1 with h | ⟨b, o, h1, h2, h3, h4⟩
  · exact .inl h
  · exact .inr ⟨b, o, h1, Nat.lt_of_lt_of_le h2 hB.size, h3, fun i hi => by rw [hB.cell (p := ⟨b, o + i, none⟩) h2]; exact h4 i hi⟩
theorem SRow.at {w : World} {A : Option Addr} {L : List Sl} {C : Nat} (h : SRow w A L C) (i : Nat) (hi : i < L.length) : ∃ b o, A = some ⟨b, o, none⟩ ∧ b < w.heap.size ∧ L.length ≤ C ∧ w.cell? ⟨b, o + i, none⟩ = some (slV (L[i]'hi)) ∧ RowN w (L[i]'hi).A (L[i]'hi).Q (L[i]'hi).C := by
  rcases h.1 with h' | ⟨b, o, h1, h2, h3, h4⟩
  · subst h'; simp at hi
  · exact ⟨b, o, h1, h2, h3, h4 i hi, h.2 _ (List.getElem_mem hi)⟩
theorem Tx.one (w : World) (p : List UInt8) (T : TypeId) : Tx (w.alloc (.cells #[encStr p] T)) (.slice (some ⟨w.heap.size, 0, none⟩) 1 1) [p] := by
  refine .inr (.inr ⟨by simp, w.heap.size, 0, 1, rfl, by simp, by simp, fun t u hu => ?_⟩)
  rw [cell_at (heap_alloc_new w _), celT_map] at *
  simpa using hu
theorem nbase {w : World} {base base' n sz : Nat} {T : TypeId} {v : Value} {xs : List Value} (h : w.ownsRow base T sz v n xs) (hb : base' ≤ base) : w.ownsRow base' T sz v n xs := by
  refine ⟨h.1, ?_⟩
  rcases h.2 with h | ⟨g, cap, cur, h1, h2, h3⟩
  · exact .inl h
  · exact .inr ⟨g, cap, cur, h1, Nat.le_trans hb h2, h3⟩
def nms (s : Sl) : List (List UInt8) := s.Q.map (·.q.nm)
set_option maxRecDepth 100000 in
set_option maxHeartbeats 8000000 in
theorem paths_any {w : World} {A : Option Addr} {L : List Sl} {C : Nat} (hS : SRow w A L C) (B : Nat) (hLB : ∀ s ∈ L, s.Q.length ≤ B) (hB9 : L.length * B ≤ 900000) (hL : L.length ≤ 1000000) (hB : B ≤ 900000) :
    Calls Tryz.prog 27 #[.slice A L.length C] w fun e w' => ∃ (A' : Option Addr) (C' : Nat), e = .returned (.slice A' (pathsF (L.map nms)).length C') ∧ w'.ownsRow w.heap.size 9 1 (.slice A' (pathsF (L.map nms)).length C') (pathsF (L.map nms)).length ((pathsF (L.map nms)).flatMap celT) ∧ Below w.heap.size w w' := by
  obtain ⟨R, hR⟩ : ∃ R, R = pathsF (L.map nms) := ⟨_, rfl⟩
  rw [← hR]
  have HRR : Hid (R = pathsF (L.map nms)) := hR
  have HS : Hid (SRow w A L C) := hS
  have HLB : Hid (∀ s ∈ L, s.Q.length ≤ B) := hLB
  have HB9 : Hid (L.length * B ≤ 900000) := hB9
  clear hR hS hLB hB9
  go_enter Tryz.func27, Tryz.ntmps27
  go_wp2_with fail
  go_loopg [3, 4] L.length (fun g v3 v4 wr => ∃ (i : Nat) (ns : List (List UInt8)) (A' : Option Addr) (C' : Nat), i ≤ L.length ∧ g = L.length - i ∧ v4 = .int .i64 (i : Int) ∧ v3 = .slice A' ns.length C' ∧ ns = pathsF ((L.map nms).take i) ∧ ns.length ≤ i * B ∧ wr.ownsRow w.heap.size 9 1 (.slice A' ns.length C') ns.length (ns.flatMap celT) ∧ Below w.heap.size w wr)
  case atStart => exact ⟨0, [], none, 0, Nat.zero_le _, rfl, rfl, rfl, rfl, by simp, World.ownsRow_nil _ _ _ _, Below.refl _ _⟩
  case round =>
    obtain ⟨i, ns, A', C', hi, hg, rfl, rfl, hns, hnl, hO, hBe⟩ := hrel
    have HG : Hid (gk = L.length - i) := hg
    have HNS : Hid (ns = pathsF ((L.map nms).take i)) := hns
    have HNL : Hid (ns.length ≤ i * B) := hnl
    have HO : Hid (wr.ownsRow w.heap.size 9 1 (.slice A' ns.length C') ns.length (ns.flatMap celT)) := hO
    have HBE : Hid (Below w.heap.size w wr) := hBe
    clear hg hns hnl hO hBe
    by_cases hlt : i < L.length
    case neg =>
      have hie : i = L.length := by omega
      have HRE : Hid (ns = R) := by
        unfold Hid
        rw [HRR.out, HNS.out, hie, List.take_of_length_le (by simp)]
      clear hie
      go_wp2_with fail
      go_ret
      rw [← HRE.out]
      exact ⟨A', C', rfl, HO.out, HBE.out⟩
    case pos =>
    obtain ⟨b, o, rfl, hb, hC, hcell, hrow⟩ := HS.out.at i hlt
    have hBi := HLB.out _ (List.getElem_mem hlt)
    have hnx : pathsF ((L.map nms).take (i + 1)) = addP (pathsF ((L.map nms).take i)) (nms (L[i]'hlt)) := by
      rw [pathsF_take _ i (by simpa using hlt)]; simp
    obtain ⟨s, hs⟩ : ∃ s, s = L[i]'hlt := ⟨_, rfl⟩
    rw [← hs] at hcell hrow hBi hnx
    have HNX : Hid (pathsF ((L.map nms).take (i + 1)) = addP (pathsF ((L.map nms).take i)) (nms s)) := hnx
    have HBI : Hid (s.Q.length ≤ B) := hBi
    have hsq : s.Q.length ≤ 900000 := by omega
    have HROW : Hid (RowN w s.A s.Q s.C) := hrow
    have HCELL : Hid (w.cell? ⟨b, o + i, none⟩ = some (slV s) ∧ b < w.heap.size) := ⟨hcell, hb⟩
    have i0 : ¬ (i : Int) < 0 := by omega
    have i1 : (i : Int) < (L.length : Int) := by omega
    have i2 : (0 : Int) ≤ (i : Int) := by omega
    have i3 : (i : Int).toNat = i := by omega
    have HOLD : Hid (ns.length + B ≤ 900000) := by
      have h1 := HNL.out
      have h2 := HB9.out
      have h3 : (i + 1) * B ≤ L.length * B := Nat.mul_le_mul_right B hlt
      rw [Nat.add_mul, Nat.one_mul] at h3
      show _ ≤ _
      omega
    clear hcell hrow hBi hnx hs hb
    obtain ⟨wA, hwA⟩ : ∃ x, x = wr := ⟨_, rfl⟩
    subst hwA
    go_wp2_with fail
    obtain ⟨gA, hgA⟩ : ∃ gA, gA = gk := ⟨_, rfl⟩
    go_loopg [3, 5] s.Q.length (fun g v3 v5 wr => ∃ (k : Nat) (ms : List (List UInt8)) (A2 : Option Addr) (C2 : Nat), k ≤ s.Q.length ∧ g = s.Q.length - k ∧ v5 = .int .i64 (k : Int) ∧ v3 = .slice A2 ms.length C2 ∧ ms = addP ns ((nms s).take k) ∧ ms.length ≤ ns.length + k ∧ wr.ownsRow w.heap.size 9 1 (.slice A2 ms.length C2) ms.length (ms.flatMap celT) ∧ Below w.heap.size w wr)
    case atStart => exact ⟨0, ns, A', C', Nat.zero_le _, rfl, rfl, rfl, rfl, Nat.le_refl _, HO.out, HBE.out⟩
    case round =>
      obtain ⟨k, ms, A2, C2, hk, hg, rfl, rfl, hms, hml, hO2, hBe2⟩ := hrel
      have HG2 : Hid (gk = s.Q.length - k) := hg
      have HMS : Hid (ms = addP ns ((nms s).take k)) := hms
      have HML : Hid (ms.length ≤ ns.length + k) := hml
      have HO2 : Hid (wr.ownsRow w.heap.size 9 1 (.slice A2 ms.length C2) ms.length (ms.flatMap celT)) := hO2
      have HBE2 : Hid (Below w.heap.size w wr) := hBe2
      have hcw : wr.cell? ⟨b, o + i, none⟩ = some (.slice s.A s.Q.length s.C) := (hBe2.cell (p := ⟨b, o + i, none⟩) HCELL.out.2).trans HCELL.out.1
      clear hg hms hml hO2 hBe2
      by_cases hkl : k < s.Q.length
      case neg =>
        have hke : k = s.Q.length := by omega
        have HFIN : Hid (ms = pathsF ((L.map nms).take (i + 1)) ∧ ms.length ≤ (i + 1) * B) := by
          refine ⟨?_, ?_⟩
          · rw [HNX.out, ← HNS.out, HMS.out, hke, List.take_of_length_le (by simp [nms])]
          · have h1 := HNL.out
            have h2 := HML.out
            have h3 := HBI.out
            rw [Nat.add_mul, Nat.one_mul]
            omega
        clear hke
        go_wp2_with fail
        go_roundg (L.length - (i + 1))
        case measure => have := HG.out; omega
        case rel => exact ⟨i + 1, ms, A2, C2, by omega, rfl, by go_num, rfl, HFIN.out.1, HFIN.out.2, HO2.out, HBE2.out⟩
      case pos =>
      obtain ⟨b2, o2, hb2e, hb2, _, hc2⟩ := HROW.out.at k hkl
      have hx := ((ncells hc2).below HBE2.out hb2).c0
      have hnk : (nms s)[k]'(by simpa [nms] using hkl) = (s.Q[k]'hkl).q.nm := by simp [nms]
      have hadd : addP ns ((nms s).take (k + 1)) = insP (s.Q[k]'hkl).q.nm (addP ns ((nms s).take k)) := by
        rw [addP_take ns (nms s) k (by simpa [nms] using hkl), hnk]
      rw [hb2e] at hcw
      generalize (s.Q[k]'hkl).q.nm = p at hx hadd
      have HADD : Hid (addP ns ((nms s).take (k + 1)) = insP p (addP ns ((nms s).take k))) := hadd
      have j0 : ¬ (k : Int) < 0 := by omega
      have j1 : (k : Int) < (s.Q.length : Int) := by omega
      have j2 : (0 : Int) ≤ (k : Int) := by omega
      have j3 : (k : Int).toNat = k := by omega
      have HMB : Hid (ms.length + 1 ≤ 1000000) := by
        have h1 := HOLD.out
        have h2 := HML.out
        have h3 := HBI.out
        show _ ≤ _
        omega
      have hml1 : ms.length + 1 ≤ 1000000 := HMB.out
      clear hc2 hnk hadd hb2 hb2e
      obtain ⟨wB, hwB⟩ : ∃ x, x = wr := ⟨_, rfl⟩
      subst hwB
      go_upto_block 4 with fail
      clear hx hcw
      go_cut [7] from 32 to 45 (fun v7 wx => wB = wx ∧ ∃ j : Nat, j ≤ ms.length ∧ v7 = .int .i64 (j : Int) ∧ (∀ i (h : i < ms.length), i < j → ms[i]'h < p) ∧ ∀ h : j < ms.length, ¬ ms[j]'h < p)
      case first =>
        go_wp2_with fail
        go_loopg [7] ms.length (fun g v7 wx => wB = wx ∧ ∃ j : Nat, j ≤ ms.length ∧ g = ms.length - j ∧ v7 = .int .i64 (j : Int) ∧ ∀ i (h : i < ms.length), i < j → ms[i]'h < p)
        case atStart => exact ⟨rfl, 0, Nat.zero_le _, rfl, rfl, fun i h hi => absurd hi (Nat.not_lt_zero i)⟩
        case round =>
          obtain ⟨rfl, j, hj, hg3, rfl, hle⟩ := hrel
          have HG3 : Hid (gk = ms.length - j) := hg3
          have HLE : Hid (∀ i (h : i < ms.length), i < j → ms[i]'h < p) := hle
          clear hg3 hle
          by_cases hjl : j < ms.length
          case neg =>
            have l1 : ¬ (j : Int) < (ms.length : Int) := by omega
            go_wp2_with fail
            go_meet
            exact ⟨rfl, j, hj, rfl, HLE.out, fun h => absurd h hjl⟩
          case pos =>
          obtain ⟨g, hAe, hcl⟩ : ∃ g, A2 = some ⟨g, 0, none⟩ ∧ wB.cell? ⟨g, j, none⟩ = some (.string (mkS (ms[j]'hjl))) := by
            have hO := HO2.out
            rcases hO.2 with ⟨hv, h0⟩ | ⟨g, cap, cur, hv, _⟩
            · omega
            · injection hv with e1 _ e3
              subst e1 e3
              obtain ⟨_, _, _, _, _, hcl⟩ := rowT_cells hO
              refine ⟨g, rfl, hcl j _ ?_⟩
              rw [celT_map, List.getElem?_map, List.getElem?_eq_getElem hjl]; rfl
          subst hAe
          have l1 : (j : Int) < (ms.length : Int) := by omega
          have l2 : ¬ (j : Int) < 0 := by omega
          have l3 : (0 : Int) ≤ (j : Int) := by omega
          have l4 : (j : Int).toNat = j := by omega
          have hlf : Op.bytesLess (mkS (ms[j]'hjl)).toList (mkS p).toList = decide (ms[j]'hjl < p) := by rw [PA.mkS_toList, PA.mkS_toList]; exact bless_eq _ _
          obtain ⟨x, hxj⟩ : ∃ x, x = ms[j]'hjl := ⟨_, rfl⟩
          rw [← hxj] at hcl hlf
          have HXJ : Hid (x = ms[j]'hjl) := hxj
          clear hxj
          by_cases hxp : x < p
          · rw [decide_eq_true hxp] at hlf
            have HXP : Hid (x < p) := hxp
            clear hxp
            go_wp2_with fail
            go_roundg (ms.length - (j + 1))
            case measure => have := HG3.out; omega
            case rel =>
              refine ⟨rfl, j + 1, by omega, rfl, by go_num, fun i h hi => ?_⟩
              rcases Nat.lt_or_ge i j with h' | h'
              · exact HLE.out i h h'
              · have : i = j := by omega
                subst this
                have := HXP.out
                rwa [HXJ.out] at this
          · rw [decide_eq_false hxp] at hlf
            have HXP : Hid (¬ x < p) := hxp
            clear hxp
            go_wp2_with fail
            go_meet
            exact ⟨rfl, j, hj, rfl, HLE.out, fun h => by have := HXP.out; rwa [HXJ.out] at this⟩
      case rest =>
      obtain ⟨rfl, j, hj, rfl, hle, hnlt⟩ := hcut
      have hins := insP_at p ms j hj hle hnlt
      clear hle hnlt
      obtain ⟨y1, hy1, hx1⟩ := partT_to HO2.out j hj
      obtain ⟨y2, hy2, hx2⟩ := partT_from HO2.out j hj
      have HNXT : Hid (addP ns ((nms s).take (k + 1)) = insP p ms) := by
        show _ = _
        rw [HADD.out, HMS.out]
      by_cases hjl : j < ms.length
      case pos =>
        rw [dif_pos hjl] at hins
        obtain ⟨g, hAe, hcl⟩ : ∃ g, A2 = some ⟨g, 0, none⟩ ∧ wB.cell? ⟨g, j, none⟩ = some (.string (mkS (ms[j]'hjl))) := by
          have hO := HO2.out
          rcases hO.2 with ⟨hv, h0⟩ | ⟨g, cap, cur, hv, _⟩
          · omega
          · injection hv with e1 _ e3
            subst e1 e3
            obtain ⟨_, _, _, _, _, hcl⟩ := rowT_cells hO
            refine ⟨g, rfl, hcl j _ ?_⟩
            rw [celT_map, List.getElem?_map, List.getElem?_eq_getElem hjl]; rfl
        subst hAe
        have l1 : (j : Int) < (ms.length : Int) := by omega
        have l2 : ¬ (j : Int) < 0 := by omega
        have l3 : (0 : Int) ≤ (j : Int) := by omega
        have l4 : (j : Int).toNat = j := by omega
        have heq := mkS_eqb (ms[j]'hjl) p
        generalize ms[j]'hjl = x at hcl heq hins
        by_cases hxp : x = p
        · rw [decide_eq_true hxp] at heq
          rw [if_pos hxp] at hins
          have HIN : Hid (insP p ms = ms) := hins
          clear hxp hins hy1 hy2 hx1 hx2
          have HMF : Hid (ms = addP ns ((nms s).take (k + 1)) ∧ ms.length ≤ ns.length + (k + 1)) := by
            refine ⟨by rw [HNXT.out, HIN.out], ?_⟩
            have := HML.out
            omega
          go_wp2_with fail
          go_roundg (s.Q.length - (k + 1))
          case measure => have := HG2.out; omega
          case rel => exact ⟨k + 1, ms, some ⟨g, 0, none⟩, C2, by omega, rfl, by go_num, rfl, HMF.out.1, HMF.out.2, HO2.out, HBE2.out⟩
        · rw [decide_eq_false hxp] at heq
          rw [if_neg hxp] at hins
          have HIN : Hid (insP p ms = ms.take j ++ p :: ms.drop j) := hins
          clear hxp
          have hsB : wB.heap.size ≤ wB.heap.size := Nat.le_refl _
          have hsw : w.heap.size ≤ wB.heap.size := HBE2.out.size
          have HX1 : Hid (Tx wB y1 (ms.take j)) := hx1
          have HX2 : Hid (Tx wB y2 (ms.drop j)) := hx2
          have HTK : Hid ((ms.take j).length = j ∧ (ms.drop j).length = ms.length - j) := ⟨by rw [List.length_take]; omega, List.length_drop⟩
          clear hx1 hx2 hins
          go_wp2_with (first
            | (at_builtin; refine wpList_appT (S := []) (base := wB.heap.size) rfl (.tmp 58) (.tmp 61) rfl (.slice none 0 0) y1 j (by rw [HTK.out.1]; simp) rfl rfl (World.ownsRow_nil _ _ _ _) HX1.out hsB (by omega) ?_
               intro A5 C5 w5 ho5 hg5 hl5
               rw [List.nil_append] at ho5
               have hb5 : Below wB.heap.size wB w5 := (Chg.of_grown hg5).below (fun k hk => by cases hk) hsB
               have HO5 : Hid ((w5.alloc (.cells #[encStr p] 9)).ownsRow wB.heap.size 9 1 (.slice A5 j C5) (ms.take j).length ((ms.take j).flatMap celT)) := ho5.alloc _
               have HB5 : Hid (Below wB.heap.size wB (w5.alloc (.cells #[encStr p] 9))) := hb5.alloc hb5.size _
               clear ho5 hg5 hl5 hb5)
            | (at_builtin; refine wpList_appT (base := wB.heap.size) rfl (.tmp 63) (.tmp 65) rfl (.slice A5 j C5) (.slice (some ⟨w5.heap.size, 0, none⟩) 1 1) (M := [p]) (j + 1) (by rw [HTK.out.1]; rfl) rfl rfl HO5.out (Tx.one w5 p 9) HB5.out.size (by omega) ?_
               intro A6 C6 w6 ho6 hg6 hl6
               have HB6 : Hid (Below wB.heap.size wB w6) := HB5.out.trans ((Chg.of_grown hg6).below (fun k hk => (nblock HO5.out hk).choose_spec.2) HB5.out.size)
               have HO6 : Hid _ := ho6
               clear ho6 hg6 hl6)
            | (at_builtin; refine wpList_appT (base := wB.heap.size) rfl (.tmp 67) (.tmp 70) rfl (.slice A6 (j + 1) C6) y2 (ms.length + 1) (by rw [List.length_append, HTK.out.1, HTK.out.2]; simp; omega) rfl rfl HO6.out (HX2.out.keep (Chg.of_below HB6.out) (fun _ _ => id)) HB6.out.size (by omega) ?_
               intro A7 C7 w7 ho7 hg7 hl7
               have HB7 : Hid (Below wB.heap.size wB w7) := HB6.out.trans ((Chg.of_grown hg7).below (fun k hk => (nblock HO6.out hk).choose_spec.2) HB6.out.size)
               have HO7 : Hid _ := ho7
               clear ho7 hg7 hl7)
            | fail)
          obtain ⟨M2, hM2⟩ : ∃ M2, M2 = insP p ms := ⟨_, rfl⟩
          have HM2 : Hid (M2 = insP p ms ∧ M2.length = ms.length + 1) := by
            refine ⟨hM2, ?_⟩
            rw [hM2, HIN.out, List.length_append, List.length_cons, HTK.out.1, HTK.out.2]
            omega
          have HO8 : Hid (w7.ownsRow w.heap.size 9 1 (.slice A7 M2.length C7) M2.length (M2.flatMap celT)) := by
            have h := HO7.out
            have e : (ms.take j ++ [p]) ++ ms.drop j = M2 := by rw [hM2, HIN.out]; simp
            rw [e] at h
            have h2 := nbase h hsw
            unfold Hid
            rw [HM2.out.2] at h2 ⊢
            exact h2
          have hlen2 : ms.length + 1 = M2.length := HM2.out.2.symm
          rw [hlen2]
          have HMF : Hid (M2 = addP ns ((nms s).take (k + 1)) ∧ M2.length ≤ ns.length + (k + 1)) := by
            refine ⟨by rw [HNXT.out, HM2.out.1], ?_⟩
            rw [HM2.out.2]
            have := HML.out
            omega
          clear hM2 hlen2 hy1 hy2
          go_roundg (s.Q.length - (k + 1))
          case measure => have := HG2.out; omega
          case rel => exact ⟨k + 1, M2, A7, C7, by omega, rfl, by go_num, rfl, HMF.out.1, HMF.out.2, HO8.out, HBE2.out.trans (HB7.out.mono HBE2.out.size)⟩
      case neg =>
          rw [dif_neg hjl] at hins
          have HIN : Hid (insP p ms = ms.take j ++ p :: ms.drop j) := hins
          have l1 : ¬ (j : Int) < (ms.length : Int) := by omega
          have hsB : wB.heap.size ≤ wB.heap.size := Nat.le_refl _
          have hsw : w.heap.size ≤ wB.heap.size := HBE2.out.size
          have HX1 : Hid (Tx wB y1 (ms.take j)) := hx1
          have HX2 : Hid (Tx wB y2 (ms.drop j)) := hx2
          have HTK : Hid ((ms.take j).length = j ∧ (ms.drop j).length = ms.length - j) := ⟨by rw [List.length_take]; omega, List.length_drop⟩
          clear hx1 hx2 hins
          go_wp2_with (first
            | (at_builtin; refine wpList_appT (S := []) (base := wB.heap.size) rfl (.tmp 58) (.tmp 61) rfl (.slice none 0 0) y1 j (by rw [HTK.out.1]; simp) rfl rfl (World.ownsRow_nil _ _ _ _) HX1.out hsB (by omega) ?_
               intro A5 C5 w5 ho5 hg5 hl5
               rw [List.nil_append] at ho5
               have hb5 : Below wB.heap.size wB w5 := (Chg.of_grown hg5).below (fun k hk => by cases hk) hsB
               have HO5 : Hid ((w5.alloc (.cells #[encStr p] 9)).ownsRow wB.heap.size 9 1 (.slice A5 j C5) (ms.take j).length ((ms.take j).flatMap celT)) := ho5.alloc _
               have HB5 : Hid (Below wB.heap.size wB (w5.alloc (.cells #[encStr p] 9))) := hb5.alloc hb5.size _
               clear ho5 hg5 hl5 hb5)
            | (at_builtin; refine wpList_appT (base := wB.heap.size) rfl (.tmp 63) (.tmp 65) rfl (.slice A5 j C5) (.slice (some ⟨w5.heap.size, 0, none⟩) 1 1) (M := [p]) (j + 1) (by rw [HTK.out.1]; rfl) rfl rfl HO5.out (Tx.one w5 p 9) HB5.out.size (by omega) ?_
               intro A6 C6 w6 ho6 hg6 hl6
               have HB6 : Hid (Below wB.heap.size wB w6) := HB5.out.trans ((Chg.of_grown hg6).below (fun k hk => (nblock HO5.out hk).choose_spec.2) HB5.out.size)
               have HO6 : Hid _ := ho6
               clear ho6 hg6 hl6)
            | (at_builtin; refine wpList_appT (base := wB.heap.size) rfl (.tmp 67) (.tmp 70) rfl (.slice A6 (j + 1) C6) y2 (ms.length + 1) (by rw [List.length_append, HTK.out.1, HTK.out.2]; simp; omega) rfl rfl HO6.out (HX2.out.keep (Chg.of_below HB6.out) (fun _ _ => id)) HB6.out.size (by omega) ?_
               intro A7 C7 w7 ho7 hg7 hl7
               have HB7 : Hid (Below wB.heap.size wB w7) := HB6.out.trans ((Chg.of_grown hg7).below (fun k hk => (nblock HO6.out hk).choose_spec.2) HB6.out.size)
               have HO7 : Hid _ := ho7
               clear ho7 hg7 hl7)
            | fail)
          obtain ⟨M2, hM2⟩ : ∃ M2, M2 = insP p ms := ⟨_, rfl⟩
          have HM2 : Hid (M2 = insP p ms ∧ M2.length = ms.length + 1) := by
            refine ⟨hM2, ?_⟩
            rw [hM2, HIN.out, List.length_append, List.length_cons, HTK.out.1, HTK.out.2]
            omega
          have HO8 : Hid (w7.ownsRow w.heap.size 9 1 (.slice A7 M2.length C7) M2.length (M2.flatMap celT)) := by
            have h := HO7.out
            have e : (ms.take j ++ [p]) ++ ms.drop j = M2 := by rw [hM2, HIN.out]; simp
            rw [e] at h
            have h2 := nbase h hsw
            unfold Hid
            rw [HM2.out.2] at h2 ⊢
            exact h2
          have hlen2 : ms.length + 1 = M2.length := HM2.out.2.symm
          rw [hlen2]
          have HMF : Hid (M2 = addP ns ((nms s).take (k + 1)) ∧ M2.length ≤ ns.length + (k + 1)) := by
            refine ⟨by rw [HNXT.out, HM2.out.1], ?_⟩
            rw [HM2.out.2]
            have := HML.out
            omega
          clear hM2 hlen2 hy1 hy2
          go_roundg (s.Q.length - (k + 1))
          case measure => have := HG2.out; omega
          case rel => exact ⟨k + 1, M2, A7, C7, by omega, rfl, by go_num, rfl, HMF.out.1, HMF.out.2, HO8.out, HBE2.out.trans (HB7.out.mono HBE2.out.size)⟩
end Go.Proofs.YtcdnfgibcochhaaGreatDoor
