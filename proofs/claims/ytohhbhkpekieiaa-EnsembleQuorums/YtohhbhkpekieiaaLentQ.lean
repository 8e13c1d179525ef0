/- Contracts of beadlekit's functions on configs that are lent. -/
import Derived.Test.YtohhbhkpekieiaaChecksWalk
import Derived.Test.YtohhbhkpekieiaaAllE
import Derived.Test.YtohhbhkpekieiaaLentN
namespace Go.Proofs.Ytohhbhkpekieiaa
open Go.RowKit Go.Sort

def evs : List (Int × Value) → List Value
  | [] => []
  | p :: r => .int .i64 p.1 :: p.2 :: evs r
theorem evs_len : ∀ l, (evs l).length = l.length * 2
  | [] => rfl
  | p :: r => by simp only [evs, List.length_cons, evs_len r]; omega
theorem evs_app : ∀ a b, evs (a ++ b) = evs a ++ evs b
  | [], _ => rfl
  | p :: r, b => by simp only [List.cons_append, evs, evs_app r b]
theorem evs_at : ∀ (l : List (Int × Value)) (j : Nat) (h : j < l.length), (evs l)[j * 2]? = some (.int .i64 (l[j]'h).1) ∧ (evs l)[j * 2 + 1]? = some (l[j]'h).2
  | [], _, h => by simp at h
  | p :: r, 0, _ => ⟨rfl, rfl⟩
  | p :: r, j + 1, h => by
    have := evs_at r j (by simpa using h)
    rw [show (j + 1) * 2 = j * 2 + 1 + 1 by omega]
    simpa [evs] using this
theorem evs_one : ∀ l, (∀ p ∈ l, Value.oneCell' p.2 = true) → ∀ u ∈ evs l, u.oneCell' = true
  | [], _, u, h => by simp [evs] at h
  | p :: r, hl, u, h => by
    simp only [evs, List.mem_cons] at h
    rcases h with rfl | rfl | h
    · rfl
    · exact hl p List.mem_cons_self
    · exact evs_one r (fun q hq => hl q (List.mem_cons_of_mem _ hq)) u h
theorem two_new (w : World) (x0 x1 : Value) (t : TypeId) : ∀ j u, [x0, x1][j]? = some u → (w.alloc (.cells #[x0, x1] t)).cell? ((⟨w.heap.size, 0, none⟩ : Addr).add j) = some u := by
  intro j u hj
  rw [addP, cell_at (heap_alloc_new w _)]
  simp only [Nat.zero_add]
  rw [List.getElem?_toArray]
  exact hj
def marksE (k : Nat) : List (Int × Value) := (List.range k).map fun (i : Nat) => (8000024 + (i : Int), .slice none 0 0)
theorem marksE_len (k : Nat) : (marksE k).length = k := by simp [marksE]
theorem marksE_succ (k : Nat) : marksE (k + 1) = marksE k ++ [(8000024 + (k : Int), .slice none 0 0)] := by simp [marksE, List.range_succ]
theorem marksE_map (l : List (Int × Value)) (k : Nat) : evs (l ++ marksE k) ++ [.int .i64 (8000024 + (k : Int)), .slice none 0 0] = evs (l ++ marksE (k + 1)) := by
  rw [marksE_succ, ← List.append_assoc, evs_app (l ++ marksE k)]; rfl
set_option maxRecDepth 100000 in
theorem markE_any (i : Int) (w : World) (hi : 0 ≤ i) (hi' : i < 1000000000000) :
    Calls Try.prog 36 #[.int .i64 1, .int .i64 i] w fun e w' => e = .returned (.agg #[.int .i64 (8000024 + i), .slice none 0 0]) ∧ Below w.heap.size w w' := by
  go_enter Try.func36, Try.ntmps36
  go_wp2_with ((go_at_call 37; refine (mark1 i _ hi hi').mono ?_; rintro e w' ⟨rfl, rfl⟩))
  refine bodyPost_ret (v := .agg #[.int .i64 (8000024 + i), .slice none 0 0]) (by simp [results, Try.results36, go_sem]) rfl ⟨rfl, (Below.refl _ _).alloc (Nat.le_refl _) _⟩

/- Of configs: each one's cells in the row, and its members as they were lent, all of it behind block g. -/
def EachL (w : World) (g : Nat) (cs : List Cfg) (ps : List (Int × Value)) : Prop :=
  ∀ j (h : j < cs.length) (hp : j < ps.length), ∃ q, q ≠ g ∧ (ps[j]'hp) = ((cs[j]'h).1, .slice (some ⟨q, 0, none⟩) (cs[j]'h).2.length ((cs[j]'h).2.length + 12)) ∧ LentM w q (cs[j]'h).2
theorem EachL.keep {w w' : World} {g : Nat} {cs : List Cfg} {ps : List (Int × Value)} (h : EachL w g cs ps) (hc : Chg (fun k => k = g) w w') : EachL w' g cs ps := by
  intro j hj hp
  obtain ⟨q, h1, h2, h3⟩ := h j hj hp
  refine ⟨q, h1, h2, ?_⟩
  unfold LentM at *
  rw [hc.block q (heap_lt h3) h1]; exact h3
theorem EachL.snoc {w : World} {g q : Nat} {cs : List Cfg} {ps : List (Int × Value)} (h : EachL w g cs ps) (hk : ps.length < cs.length) (hq : q ≠ g) (hL : LentM w q (cs[ps.length]'hk).2) :
    EachL w g cs (ps ++ [((cs[ps.length]'hk).1, .slice (some ⟨q, 0, none⟩) (cs[ps.length]'hk).2.length ((cs[ps.length]'hk).2.length + 12))]) := by
  intro j hj hp
  by_cases hlt : j < ps.length
  · rw [List.getElem_append_left hlt]; exact h j hj hlt
  · have : j = ps.length := by simp at hp; omega
    subst this
    rw [List.getElem_append_right (Nat.le_refl _)]
    simp only [Nat.sub_self, List.getElem_cons_zero]
    exact ⟨q, hq, rfl, hL⟩
def LentQ (w : World) (g : Nat) (cs : List Cfg) : Prop := ∃ ps, ps.length = cs.length ∧ w.heap[g]? = some (.cells (evs (ps ++ marksE 12)).toArray 25 (0, 0)) ∧ EachL w g cs ps
theorem LentQ.below {w w' : World} {g : Nat} {cs : List Cfg} (h : LentQ w g cs) (hb : Below w.heap.size w w') : LentQ w' g cs := by
  obtain ⟨ps, h1, h2, h3⟩ := h
  exact ⟨ps, h1, by rw [hb.block g (heap_lt h2)]; exact h2, h3.keep ((Chg.of_below hb).weak fun _ _ h => h.elim)⟩
theorem LentQ.at' {w : World} {g : Nat} {cs : List Cfg} (h : LentQ w g cs) (j : Nat) (hj : j < cs.length) : ∃ q, w.cell? ⟨g, j * 2, none⟩ = some (.int .i64 (cs[j]'hj).1) ∧ w.cell? ⟨g, j * 2 + 1, none⟩ = some (.slice (some ⟨q, 0, none⟩) (cs[j]'hj).2.length ((cs[j]'hj).2.length + 12)) ∧ LentM w q (cs[j]'hj).2 := by
  obtain ⟨ps, h1, h2, h3⟩ := h
  obtain ⟨q, _, h5, h6⟩ := h3 j hj (by omega)
  obtain ⟨e0, e1⟩ := evs_at (ps ++ marksE 12) j (by rw [List.length_append]; omega)
  rw [List.getElem_append_left (by omega), h5] at e0 e1
  exact ⟨q, by rw [cell_at h2, List.getElem?_toArray]; exact e0, by rw [cell_at h2, List.getElem?_toArray]; exact e1, h6⟩
theorem LentQ.mark {w : World} {g : Nat} {cs : List Cfg} (h : LentQ w g cs) (j : Nat) (hj : cs.length ≤ j) (hj' : j < cs.length + 12) : w.cell? ⟨g, j * 2, none⟩ = some (.int .i64 (8000024 + ((j : Int) - (cs.length : Int)))) ∧ w.cell? ⟨g, j * 2 + 1, none⟩ = some (.slice none 0 0) := by
  obtain ⟨ps, h1, h2, h3⟩ := h
  have hl : j < (ps ++ marksE 12).length := by rw [List.length_append, marksE_len]; omega
  obtain ⟨e0, e1⟩ := evs_at (ps ++ marksE 12) j hl
  have em : (ps ++ marksE 12)[j]'hl = (8000024 + ((j : Int) - (cs.length : Int)), .slice none 0 0) := by
    rw [List.getElem_append_right (by omega)]
    simp only [marksE, List.getElem_map, List.getElem_range]
    congr 1
    omega
  rw [em] at e0 e1
  exact ⟨by rw [cell_at h2, List.getElem?_toArray]; exact e0, by rw [cell_at h2, List.getElem?_toArray]; exact e1⟩
theorem LentQ.lt {w : World} {g : Nat} {cs : List Cfg} (h : LentQ w g cs) : g < w.heap.size := by
  obtain ⟨ps, h1, h2, h3⟩ := h
  exact heap_lt h2
theorem LentQ.cfgs {w : World} {g : Nat} {cs : List Cfg} (h : LentQ w g cs) : Cfgs w w.heap.size (.slice (some ⟨g, 0, none⟩) cs.length (cs.length + 12)) cs := by
  by_cases h0 : 0 < cs.length
  · refine .inr (.inr ⟨h0, g, 0, _, rfl, by omega, h.lt, Nat.le_refl _, fun j hj => ?_⟩)
    obtain ⟨q, c0, c1, hL⟩ := h.at' j hj
    rw [Nat.zero_add]
    exact ⟨c0, _, _, c1, hL.mems, fun k hk => by
      have := bk_blk hk
      cases this
      exact heap_lt hL⟩
  · have : cs = [] := List.length_eq_zero_iff.1 (by omega)
    subst this
    exact .inr (.inl ⟨_, _, rfl, rfl⟩)
theorem owns_ne {w : World} {base g n m c : Nat} {xs : List Value} (h : w.ownsRow base 25 2 (.slice (some ⟨g, 0, none⟩) n c) m xs) {q : Nat} {l : List Mem} (hL : LentM w q l) : q ≠ g := by
  rintro rfl
  rcases h.2 with ⟨h0, _⟩ | ⟨g', cap, cur, hv, hb, hg, _⟩
  · cases h0
  · cases hv
    unfold LentM at hL
    rw [hL] at hg
    simp at hg
theorem infoE : (Try.prog.info? 25).map (fun i => (i.zero, i.size, i.bytes)) = some (some (.agg #[.int .i64 0, .slice none 0 0]), 2, 32) := by kernel_rfl

set_option maxRecDepth 100000 in
set_option maxHeartbeats 2000000 in
theorem lentQ_any {w : World} {v : Value} {cs : List Cfg} {n : Nat} (h : Cfgs w w.heap.size v cs) (hcl : cs.length = n) (hn : n ≤ 50) (hm : ∀ c ∈ cs, c.2.length ≤ 4398046511104) :
    Calls Try.prog 15 #[v] w fun e w' => e = .returned (.slice (some ⟨w.heap.size, 0, none⟩) n (n + 12)) ∧ LentQ w' w.heap.size cs ∧ Below w.heap.size w w' := by
  obtain ⟨i0, hi, hz0, hz1, hz2⟩ := info_parts infoE
  have HC : Hid (Cfgs w w.heap.size v cs) := h
  have HL : Hid (cs.length = n) := hcl
  have HM : Hid (∀ c ∈ cs, c.2.length ≤ 4398046511104) := hm
  obtain ⟨A, C, rfl⟩ := h.form
  rw [hcl] at HC ⊢
  clear h hm hcl
  go_enter Try.func15, Try.ntmps15
  go_wp2_with (at_make; refine wpList_make_own _ rfl _ _ 37 rfl w.heap.size 25 i0 _ 2 Try.underlying37 hi hz0 hz1 .i64 .i64 _ (n + 12) rfl rfl (by simp) (by rw [hz2]; omega) (by unfold maxLen; omega) (Nat.le_refl _) ?_; intro w1 hown1 hgrow1)
  have G1 : Chg Non w w1 := (Chg.of_grown hgrow1).weak (fun _ _ h => by cases h)
  clear hgrow1
  go_loopw [3, 4] (fun v i wr => ∃ (k : Nat) (ps : List (Int × Value)), k ≤ n ∧ ps.length = k ∧ i = .int .i64 k ∧ v = .slice (some ⟨w.heap.size, 0, none⟩) k (n + 12) ∧ wr.ownsRow w.heap.size 25 2 (.slice (some ⟨w.heap.size, 0, none⟩) k (n + 12)) k (evs ps) ∧ EachL wr w.heap.size cs ps ∧ Below w.heap.size w wr) (fun _ i _ => n - (intOf i).toNat)
  case atStart => exact ⟨0, [], Nat.zero_le _, rfl, rfl, rfl, hown1, fun j hj hp => by simp at hp, G1.below (fun _ h => h.elim) (Nat.le_refl _)⟩
  case round =>
    obtain ⟨k, ps, hk, hpl, rfl, rfl, hown, hE, hB⟩ := hrel
    have HP : Hid (ps.length = k) := hpl
    have HB : Hid (Below w.heap.size w wr) := hB
    have HE : Hid (EachL wr w.heap.size cs ps) := hE
    clear hpl hB hE
    by_cases hlt : k < n
    · obtain ⟨b, o, rfl, -, -, c0, A1, C1, c1, m1, -⟩ := (HC.out.below HB.out).at' k (by have := HL.out; omega)
      have hq := lentEn_any m1 (cs[k]'(by have := HL.out; omega)).1 (HM.out _ (List.getElem_mem _))
      have HS : Hid (∀ w' q, EachL w' w.heap.size cs ps → q ≠ w.heap.size → LentM w' q (cs[k]'(by have := HL.out; omega)).2 → EachL w' w.heap.size cs (ps ++ [((cs[k]'(by have := HL.out; omega)).1, .slice (some ⟨q, 0, none⟩) (cs[k]'(by have := HL.out; omega)).2.length ((cs[k]'(by have := HL.out; omega)).2.length + 12))])) := by
        intro w' q h1 h2 h3
        have hp := HP.out
        have hl := HL.out
        subst hp
        exact h1.snoc (by omega) h2 h3
      clear m1
      generalize (cs[k]'(by have := HL.out; omega)) = cf at c0 c1 hq HS
      obtain ⟨ver, ml⟩ := cf
      dsimp only at c0 c1 hq HS
      generalize ml.length = nl at c1 hq HS
      go_wp2_with fail
      refine hq.mono ?_
      rintro e w4 ⟨q, rfl, hL4, hB4⟩
      have O4 := owns_below hown hB4
      have HB4 : Hid (Below w.heap.size w w4) := below_two HB.out (hB4.mono (Nat.le_refl _))
      have HE4 : Hid (EachL w4 w.heap.size cs ps) := HE.out.keep ((Chg.of_below hB4).weak fun _ _ h => h.elim)
      have HL4 : Hid (LentM w4 q ml) := hL4
      have HN : Hid (q ≠ w.heap.size) := owns_ne O4 hL4
      clear hown hB4 hL4 HB HE hq c0 c1
      obtain ⟨w5, hw5⟩ : ∃ X, X = w4.alloc (.cells #[.int .i64 ver, .slice (some ⟨q, 0, none⟩) nl (nl + 12)] 25) := ⟨_, rfl⟩
      have hB5 : Below w4.heap.size w4 w5 := by rw [hw5]; exact (Below.refl _ _).alloc (Nat.le_refl _) _
      have hc5 := heap_alloc_new w4 (.cells #[.int .i64 ver, .slice (some ⟨q, 0, none⟩) nl (nl + 12)] 25)
      rw [← hw5] at hc5
      have z0 : w5.cell? ⟨w4.heap.size, 0, none⟩ = some (.int .i64 ver) := by rw [cell_at hc5]; rfl
      have z1 : w5.cell? ⟨w4.heap.size, 1, none⟩ = some (.slice (some ⟨q, 0, none⟩) nl (nl + 12)) := by rw [cell_at hc5]; rfl
      have O5 := owns_below O4 hB5
      have HB5 : Hid (Below w.heap.size w w5) := below_two HB4.out hB5
      have HE5 : Hid (EachL w5 w.heap.size cs ps) := HE4.out.keep ((Chg.of_below hB5).weak fun _ _ h => h.elim)
      have HL5 : Hid (LentM w5 q ml) := HL4.out.below hB5
      clear O4 HB4 HE4 HL4 hB5 hc5
      rw [hw5] at O5 z0 z1
      have HPS : Hid (∀ w6, (w5.alloc (.cells #[.int .i64 ver, .slice (some ⟨q, 0, none⟩) nl (nl + 12)] 25)).grownBy w6 (some w.heap.size) → Below w.heap.size w w6 ∧ EachL w6 w.heap.size cs (ps ++ [(ver, .slice (some ⟨q, 0, none⟩) nl (nl + 12))])) := by
        intro w6 hg
        have hC : Chg (fun k => k = w.heap.size) w5 w6 := (Chg.alloc _ w5 _).trans ((Chg.of_grown hg).weak fun k _ h => by cases h; rfl)
        refine ⟨HB5.out.trans (hC.below (B := w.heap.size) (fun k hk => by omega) HB5.out.size), HS.out _ _ (HE5.out.keep hC) HN.out ?_⟩
        have := HL5.out
        unfold LentM at *
        rw [hC.block q (heap_lt this) HN.out]; exact this
      rw [hw5] at HPS
      clear HS HB5 HE5 HL5 hw5 w5
      have hT := two_new (w4.alloc (.cells #[.int .i64 ver, .slice (some ⟨q, 0, none⟩) nl (nl + 12)] 25)) (.int .i64 ver) (.slice (some ⟨q, 0, none⟩) nl (nl + 12)) 25
      rw [World.size_alloc] at hT
      go_wp2_with (at_builtin; refine wpList_append_own_spare _ rfl (.tmp 22) (.tmp 24) 37 rfl w.heap.size 25 i0 2 Try.underlying37 hi hz1 w.heap.size k (n + 12) (evs ps) rfl (O5.alloc _) ⟨w4.heap.size + 1, 0, none⟩ 1 1 [.int .i64 ver, .slice (some ⟨q, 0, none⟩) nl (nl + 12)] rfl rfl hT (evs_one [(ver, .slice (some ⟨q, 0, none⟩) nl (nl + 12))] (fun p hp => by simp at hp; subst hp; rfl)) (by omega) ?_; intro w6 hown6 hgrow6)
      obtain ⟨hB6, hE6⟩ := HPS.out _ hgrow6
      have O6 : w6.ownsRow w.heap.size 25 2 (.slice (some ⟨w.heap.size, 0, none⟩) (k + 1) (n + 12)) (k + 1) (evs (ps ++ [(ver, .slice (some ⟨q, 0, none⟩) nl (nl + 12))])) := by rw [evs_app]; exact hown6
      clear hown6 hgrow6 O5 z0 z1 HPS hT
      go_wp2
      exact ⟨⟨k + 1, _, by omega, by simp [HP.out], by go_num, rfl, O6, hE6, hB6⟩, by simp [intOf]; omega⟩
    · have hkn : k = n := by omega
      subst hkn
      have O2 : wr.ownsRow w.heap.size 25 2 (.slice (some ⟨w.heap.size, 0, none⟩) (k + 0) (k + 12)) (k + 0) (evs (ps ++ marksE 0)) := by
        simpa [marksE] using hown
      clear hown hlt
      go_wp2_with fail
      obtain ⟨wA, hwA⟩ : ∃ x, x = wr := ⟨_, rfl⟩
      rw [← hwA] at O2 HE HB ⊢
      clear hwA wr
      go_loopw [3, 6] (fun v i wr => ∃ j : Nat, j ≤ 12 ∧ i = .int .i64 j ∧ v = .slice (some ⟨w.heap.size, 0, none⟩) (k + j) (k + 12) ∧ wr.ownsRow w.heap.size 25 2 (.slice (some ⟨w.heap.size, 0, none⟩) (k + j) (k + 12)) (k + j) (evs (ps ++ marksE j)) ∧ Chg (fun i => i = w.heap.size) wA wr) (fun _ i _ => 12 - (intOf i).toNat)
      case atStart => exact ⟨0, by omega, rfl, by simp, O2, Chg.refl _ _⟩
      case round =>
        obtain ⟨j, hj, rfl, rfl, hown, hC⟩ := hrel
        have HCg : Hid (Chg (fun i => i = w.heap.size) wA wr) := hC
        clear hC O2
        by_cases hlt : j < 12
        · have hmk := markE_any (j : Int) wr (by omega) (by omega)
          go_wp2_with fail
          refine hmk.mono ?_
          rintro e w4 ⟨rfl, hB4⟩
          have O4 := owns_below hown hB4
          have HC4 : Hid (Chg (fun i => i = w.heap.size) wA w4) := HCg.out.trans ((Chg.of_below hB4).weak fun _ _ h => h.elim)
          clear hown HCg hB4 hmk
          go_wp2_with (at_builtin; refine wpList_append_own_spare _ rfl (.tmp 30) (.tmp 33) 37 rfl w.heap.size 25 i0 2 Try.underlying37 hi hz1 w.heap.size (k + j) (k + 12) _ rfl (O4.alloc _) ⟨_, 0, none⟩ 1 1 [.int .i64 (8000024 + (j : Int)), .slice none 0 0] rfl rfl (two_new _ _ _ _) (evs_one [(8000024 + (j : Int), .slice none 0 0)] (fun p hp => by simp at hp; subst hp; rfl)) (by omega) ?_; intro w3 hown3 hgrow3)
          have C3 : Chg (fun i => i = w.heap.size) wA w3 := HC4.out.trans ((Chg.alloc _ w4 _).trans ((Chg.of_grown hgrow3).weak fun k _ h => by cases h; rfl))
          rw [marksE_map] at hown3
          have O3 : w3.ownsRow w.heap.size 25 2 (.slice (some ⟨w.heap.size, 0, none⟩) (k + (j + 1)) (k + 12)) (k + (j + 1)) (evs (ps ++ marksE (j + 1))) := hown3
          clear hown3 hgrow3 O4 HC4
          go_wp2
          exact ⟨⟨j + 1, by omega, by go_num, rfl, O3, C3⟩, by simp [intOf]; omega⟩
        · have hj12 : j = 12 := by omega
          have HJ : Hid (j = 12) := hj12
          clear hj12
          go_wp2
          go_ret
          have e := HJ.out
          subst e
          refine ⟨rfl, ⟨ps, by rw [HP.out, HL.out], ?_, HE.out.keep HCg.out⟩, HB.out.trans (HCg.out.below (B := w.heap.size) (fun k hk => by omega) HB.out.size)⟩
          rcases hown.2 with ⟨h0, _⟩ | ⟨g', cap, cur, hv, hb, hg, hnc, hcm, hcs, ht⟩
          · cases h0
          · cases hv
            rw [List.take_of_length_le (by simp; omega)] at ht
            rw [← ht, hg]
end Go.Proofs.Ytohhbhkpekieiaa
