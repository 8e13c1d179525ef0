/- The walk of EnsembleBytes. -/
import Derived.Test.YtohhbhkpekieiaaRefY
import Derived.Test.YtohhbhkpekieiaaLentB
import Derived.Test.YtohhbhkpekieiaaChecksWalk
namespace Go.Proofs.Ytohhbhkpekieiaa
open Go.RowKit

def gV : Option (Int × List Mem) → Int
  | some (v, _) => v
  | none => 0
def gM : Option (Int × List Mem) → List Mem
  | some (_, l) => l
  | none => []
def gK : Option (Int × List Mem) → Int
  | some _ => 0
  | none => 4
theorem got_all {w w' : World} {e : Ending} {o : Option (Int × List Mem)} (h : Got w w' e o) : ∃ A C, e = .returned (.tuple #[.agg #[.int .i64 (gV o), .slice A (gM o).length C], .int .i64 (gK o)]) ∧ Mems w' (.slice A (gM o).length C) (gM o) ∧ Below w.heap.size w w' := by
  cases o with
  | none =>
    obtain ⟨rfl, hb⟩ := h
    exact ⟨none, 0, rfl, .inl ⟨rfl, rfl⟩, hb⟩
  | some p =>
    obtain ⟨ver, l⟩ := p
    obtain ⟨v, rfl, ho, hb⟩ := h
    obtain ⟨A, C, rfl⟩ := owns_form' ho
    exact ⟨A, C, rfl, mems_of_owns ho, hb⟩
theorem gM_len (b : List UInt8) : (gM (cfgOf b)).length ≤ 7 := by
  cases h : cfgOf b with
  | none => simp [gM]
  | some p =>
    obtain ⟨ver, l⟩ := p
    exact (chk_ok ((cfgOf_iff b ver l).1 h).2).1
def pB (ver : Int) (l : List Mem) : List UInt8 := if chk ver l = 0 then cfgB ver l else []
theorem pB_len (ver : Int) (l : List Mem) : (pB ver l).length ≤ 300 := by
  unfold pB
  split
  · rename_i h; exact cfgB_len h
  · simp
theorem pB_get {ver : Int} {l : List Mem} (h : chk ver l = 0) : cfgOf (pB ver l) = some (ver, l) := by
  unfold pB
  rw [if_pos h]
  exact (cfgOf_iff _ _ _).2 ⟨rfl, h⟩
theorem put_all {w : World} {v : Value} {l : List Mem} (h : Mems w v l) (ver : Int) :
    Calls Try.prog 23 #[.agg #[.int .i64 ver, v]] w fun e w' => ∃ A C, e = .returned (.tuple #[.slice A (pB ver l).length C, .int .i64 (chk ver l)]) ∧ Bs w' (.slice A (pB ver l).length C) (pB ver l) ∧ Below w.heap.size w w' := by
  by_cases hc : chk ver l = 0
  · refine (put_yes h ver hc).mono ?_
    rintro e w' ⟨x, rfl, hn⟩
    have e1 : pB ver l = cfgB ver l := if_pos hc
    rw [e1, hc]
    obtain ⟨A, C, rfl⟩ := bs_form hn.bs
    exact ⟨A, C, rfl, hn.bs, hn.below⟩
  · refine (put_no h ver hc).mono ?_
    rintro e w' ⟨rfl, hb⟩
    have e1 : pB ver l = [] := if_neg hc
    rw [e1]
    exact ⟨none, 0, rfl, .inl ⟨rfl, rfl⟩, hb⟩
theorem rf4put_all {w : World} {v : Value} {l : List Mem} (h : Mems w v l) (ver : Int) :
    Calls Try.prog 24 #[.agg #[.int .i64 ver, v]] w fun e w' => ∃ A C, e = .returned (.tuple #[.slice A (pB ver l).length C, .int .i64 (chk ver l)]) ∧ Bs w' (.slice A (pB ver l).length C) (pB ver l) ∧ Below w.heap.size w w' := by
  by_cases hc : chk ver l = 0
  · refine (rf4Put_yes h ver hc).mono ?_
    rintro e w' ⟨x, rfl, hn⟩
    have e1 : pB ver l = cfgB ver l := if_pos hc
    rw [e1, hc]
    obtain ⟨A, C, rfl⟩ := bs_form hn.bs
    exact ⟨A, C, rfl, hn.bs, hn.below⟩
  · refine (rf4Put_no h ver hc).mono ?_
    rintro e w' ⟨rfl, hb⟩
    have e1 : pB ver l = [] := if_neg hc
    rw [e1]
    exact ⟨none, 0, rfl, .inl ⟨rfl, rfl⟩, hb⟩
theorem get_all {w : World} {x : Value} {b : List UInt8} (hx : Bs w x b) (hb : b.length ≤ 140737488355328) :
    Calls Try.prog 26 #[x] w fun e w' => ∃ A C, e = .returned (.tuple #[.agg #[.int .i64 (gV (cfgOf b)), .slice A (gM (cfgOf b)).length C], .int .i64 (gK (cfgOf b))]) ∧ Mems w' (.slice A (gM (cfgOf b)).length C) (gM (cfgOf b)) ∧ Below w.heap.size w w' :=
  (get_any hx hb).mono fun _ _ h => got_all h
theorem rf4get_all {w : World} {x : Value} {b : List UInt8} (hx : Bs w x b) (hb : b.length ≤ 140737488355328) :
    Calls Try.prog 27 #[x] w fun e w' => ∃ A C, e = .returned (.tuple #[.agg #[.int .i64 (gV (cfgOf b)), .slice A (gM (cfgOf b)).length C], .int .i64 (gK (cfgOf b))]) ∧ Mems w' (.slice A (gM (cfgOf b)).length C) (gM (cfgOf b)) ∧ Below w.heap.size w w' := by
  rw [cfg_same b]
  exact (rf4Get_any hx hb).mono fun _ _ h => got_all h
theorem Bs.below' {w w' : World} {v : Value} {l : List UInt8} (h : Bs w v l) (hb : Below w.heap.size w w') : Bs w' v l := h.below hb (fun _ hk => h.lt hk)
theorem below_dN (w : World) (n : Nat) : Below w.heap.size w (w.drewN n) := (Chg.drewN Non w n).below (fun _ h => h.elim) (Nat.le_refl _)
theorem pair_at {w w' : World} {g T : Nat} {a b : Value} (h : w.heap[g]? = some (.cells #[a, b] T (0, 0))) (hb : Below w.heap.size w w') : w'.cell? ⟨g, 0, none⟩ = some a ∧ w'.cell? ⟨g, 1, none⟩ = some b ∧ g < w'.heap.size := by
  have h' : w'.heap[g]? = some (.cells #[a, b] T (0, 0)) := by rw [hb.block _ (blk_lt h)]; exact h
  exact ⟨by rw [cell_at h']; rfl, by rw [cell_at h']; rfl, blk_lt h'⟩
set_option maxRecDepth 100000 in
set_option maxHeartbeats 4000000 in
theorem bytes_any {w : World} {v x : Value} {l : List Mem} {b : List UInt8} (h : Mems w v l) (hx : Bs w x b) (ver : Int) (hm : l.length ≤ 4398046511104) (hbl : b.length ≤ 140737488351232) :
    Calls Try.prog 5 #[.agg #[.int .i64 ver, v], x] w fun e w' => e = .returned (.bool true) ∧ Below w.heap.size w w' := by
  have HM : Hid (Mems w v l) := h
  have HX : Hid (Bs w x b) := hx
  obtain ⟨A, C, rfl⟩ := h.form
  obtain ⟨AX, CX, rfl⟩ := bs_form hx
  clear h hx
  go_enter Try.func5, Try.ntmps5
  go_wp2_with fail
  refine (awake_any _).mono ?_
  rintro e w1 ⟨rfl, hB1⟩
  have HE : Hid (∀ w', Below w1.heap.size w1 w' → (w'.cell? ⟨w.heap.size, 0, none⟩ = some (.int .i64 ver) ∧ w'.cell? ⟨w.heap.size, 1, none⟩ = some (.slice A l.length C) ∧ w.heap.size < w'.heap.size) ∧ Below w.heap.size w w') := fun w' hb =>
    ⟨pair_at (heap_alloc_new w (.cells #[.int .i64 ver, .slice A l.length C] 25 (0, 0))) (below_two hB1 hb), below_two ((Below.refl _ _).alloc (Nat.le_refl _) _) (below_two hB1 hb)⟩
  have P1 := put_all (HM.out.below' (HE.out w1 (Below.refl _ _)).2) ver
  have P2 := fun {w' : World} (hb : Below w1.heap.size w1 w') => rf4put_all (HM.out.below' (HE.out w' hb).2) ver
  have hpl := pB_len ver l
  have hget := fun (hc : chk ver l = 0) => pB_get hc
  clear hB1
  generalize pB ver l = P at P1 P2 hpl hget
  generalize chk ver l = K at P1 P2 hget
  have GP := fun {w' : World} {y : Value} (hb : Bs w' y P) => get_all hb (by omega)
  have gl := gM_len P
  have HG : Hid (K = 0 → gV (cfgOf P) = ver ∧ gM (cfgOf P) = l ∧ gK (cfgOf P) = 0) := fun hk => by rw [hget hk]; exact ⟨rfl, rfl, rfl⟩
  clear hget
  generalize gV (cfgOf P) = zv at GP HG
  generalize gM (cfgOf P) = zm at GP HG gl
  generalize gK (cfgOf P) = zk at GP HG
  have GB := fun {w' : World} {y : Value} (hb : Bs w' y b) => get_all hb (by omega)
  have RB := fun {w' : World} {y : Value} (hb : Bs w' y b) => rf4get_all hb (by omega)
  have xl := gM_len b
  generalize gV (cfgOf b) = xv at GB RB
  generalize gM (cfgOf b) = xm at GB RB xl
  generalize gK (cfgOf b) = xk at GB RB
  obtain ⟨⟨z0, z1, zl⟩, -⟩ := HE.out w1 (Below.refl _ _)
  go_wp2_with fail
  refine P1.mono ?_
  rintro e w2 ⟨A2, C2, rfl, hp2, b12⟩
  obtain ⟨n2, hn2⟩ : ∃ n, n = P.length := ⟨_, rfl⟩
  rw [← hn2] at hp2 ⊢
  have HP : Hid (Bs w2 (.slice A2 n2 C2) P) := hp2
  clear P1 z0 z1 zl hp2
  obtain ⟨⟨z0, z1, zl⟩, -⟩ := HE.out w2 b12
  have P2' := P2 b12
  clear P2
  go_wp2_with fail
  refine P2'.mono ?_
  rintro e w3 ⟨A3, C3, rfl, hq3, b23⟩
  rw [← hn2] at hq3 ⊢
  have HQ : Hid (Bs w3 (.slice A3 n2 C3) P) := hq3
  have b13 := below_two b12 b23
  clear P2' z0 z1 zl hq3 hn2
  have L4 := LB.lent_any (HX.out.below' (HE.out w3 b13).2) (by omega)
  go_wp2_with fail
  refine L4.mono ?_
  rintro e w4 ⟨rfl, hl4, b34⟩
  obtain ⟨g, hg⟩ : ∃ g, g = w3.heap.size := ⟨_, rfl⟩
  rw [← hg] at hl4 ⊢
  have HL : Hid (LB.Lent w4 g b) := hl4
  have b14 := below_two b13 b34
  have b24 := below_two b23 b34
  have G5 := GB hl4.bs
  clear L4 hg hl4 b13 b12 GB
  go_wp2_with fail
  refine G5.mono ?_
  rintro e w5 ⟨A5, C5, rfl, hm5, b45⟩
  have HX5 : Hid (Mems w5 (.slice A5 xm.length C5) xm) := hm5
  obtain ⟨w5a, hw5a⟩ : ∃ X, X = w5.alloc (.cells #[.int .i64 xv, .slice A5 xm.length C5] 25) := ⟨_, rfl⟩
  have b5a : Below w5.heap.size w5 w5a := by rw [hw5a]; exact (Below.refl _ _).alloc (Nat.le_refl _) _
  have hc5 : w5a.heap[w5.heap.size]? = some (.cells #[.int .i64 xv, .slice A5 xm.length C5] 25 (0, 0)) := by rw [hw5a]; exact heap_alloc_new w5 _
  have b4a := below_two b45 b5a
  have b1a := below_two b14 b4a
  have R6 := RB (HX.out.below' (HE.out w5a b1a).2)
  rw [hw5a] at R6
  obtain ⟨p5, hp5⟩ : ∃ p, p = w5.heap.size := ⟨_, rfl⟩
  rw [← hp5] at hc5
  have HC5 : Hid (w5a.heap[p5]? = some (.cells #[.int .i64 xv, .slice A5 xm.length C5] 25 (0, 0))) := hc5
  clear G5 hm5 RB hc5
  go_wp2_with fail
  refine R6.mono ?_
  rintro e w6 ⟨A6, C6, rfl, hm6, b56⟩
  rw [← hw5a] at b56
  rw [← hp5]
  clear hp5
  have HX6 : Hid (Mems w6 (.slice A6 xm.length C6) xm) := hm6
  obtain ⟨w6a, hw6a⟩ : ∃ X, X = w6.alloc (.cells #[.int .i64 xv, .slice A6 xm.length C6] 25) := ⟨_, rfl⟩
  have b6a : Below w6.heap.size w6 w6a := by rw [hw6a]; exact (Below.refl _ _).alloc (Nat.le_refl _) _
  have hc6 : w6a.heap[w6.heap.size]? = some (.cells #[.int .i64 xv, .slice A6 xm.length C6] 25 (0, 0)) := by rw [hw6a]; exact heap_alloc_new w6 _
  have b5b := below_two b56 b6a
  have b4b := below_two b4a b5b
  have b2b := below_two b24 b4b
  have G7 := GP (HP.out.below' b2b)
  rw [hw6a] at G7
  obtain ⟨p6, hp6⟩ : ∃ p, p = w6.heap.size := ⟨_, rfl⟩
  rw [← hp6] at hc6
  have HC6 : Hid (w6a.heap[p6]? = some (.cells #[.int .i64 xv, .slice A6 xm.length C6] 25 (0, 0))) := hc6
  clear R6 hm6 hw5a hc6 GP
  go_wp2_with fail
  refine G7.mono ?_
  rintro e w7 ⟨A7, C7, rfl, hm7, b67⟩
  rw [← hw6a] at b67
  rw [← hp6]
  clear hp6
  have HX7 : Hid (Mems w7 (.slice A7 zm.length C7) zm) := hm7
  obtain ⟨w7a, hw7a⟩ : ∃ X, X = w7.alloc (.cells #[.int .i64 zv, .slice A7 zm.length C7] 25) := ⟨_, rfl⟩
  have b7a : Below w7.heap.size w7 w7a := by rw [hw7a]; exact (Below.refl _ _).alloc (Nat.le_refl _) _
  have hc7 : w7a.heap[w7.heap.size]? = some (.cells #[.int .i64 zv, .slice A7 zm.length C7] 25 (0, 0)) := by rw [hw7a]; exact heap_alloc_new w7 _
  have b6b := below_two b67 b7a
  have b5c := below_two b5b b6b
  have b4c := below_two b4b b6b
  have b2c := below_two b2b b6b
  have b3c := below_two b34 b4c
  have b1c := below_two b14 b4c
  have S8 := same_any (HP.out.below' b2c) (HQ.out.below' b3c) (by omega)
  rw [decide_eq_true (rfl : P = P), hw7a] at S8
  obtain ⟨p7, hp7⟩ : ∃ p, p = w7.heap.size := ⟨_, rfl⟩
  rw [← hp7] at hc7
  have HF : Hid (∀ w', Below w7a.heap.size w7a w' → (w'.cell? ⟨p5, 0, none⟩ = some (.int .i64 xv) ∧ w'.cell? ⟨p5, 1, none⟩ = some (.slice A5 xm.length C5) ∧ p5 < w'.heap.size) ∧ (w'.cell? ⟨p6, 0, none⟩ = some (.int .i64 xv) ∧ w'.cell? ⟨p6, 1, none⟩ = some (.slice A6 xm.length C6) ∧ p6 < w'.heap.size) ∧ (w'.cell? ⟨p7, 0, none⟩ = some (.int .i64 zv) ∧ w'.cell? ⟨p7, 1, none⟩ = some (.slice A7 zm.length C7) ∧ p7 < w'.heap.size) ∧ Mems w' (.slice A5 xm.length C5) xm ∧ Mems w' (.slice A6 xm.length C6) xm ∧ Mems w' (.slice A7 zm.length C7) zm ∧ LB.Lent w' g b ∧
      (w'.cell? ⟨w.heap.size, 0, none⟩ = some (.int .i64 ver) ∧ w'.cell? ⟨w.heap.size, 1, none⟩ = some (.slice A l.length C) ∧ w.heap.size < w'.heap.size) ∧ Below w.heap.size w w') := fun w' hb =>
    ⟨pair_at HC5.out (below_two b5c hb), pair_at HC6.out (below_two b6b hb), pair_at hc7 hb, HX5.out.below' (below_two b5a (below_two b5c hb)), HX6.out.below' (below_two b6a (below_two b6b hb)), HX7.out.below' (below_two b7a hb), HL.out.below (below_two b4c hb), (HE.out w' (below_two b1c hb)).1, (HE.out w' (below_two b1c hb)).2⟩
  clear G7 hm7 hw6a hc7 HC5 HC6 HX5 HX6 HX7 HL HE HP HQ b14 b24 b23 b34 b45 b56 b67 b5a b6a b7a b4a b1a b5b b4b b2b b6b b5c b4c b2c b3c b1c hpl
  go_wp2_with fail
  refine S8.mono ?_
  rintro e w8 ⟨rfl, q8, hw8⟩
  rw [← hw7a] at hw8
  rw [← hp7]
  have b8 : Below w7a.heap.size w7a w8 := by rw [hw8]; exact below_dN _ _
  obtain ⟨⟨x0, x1, x2⟩, ⟨y0, y1, y2⟩, -, m5, m6, -⟩ := HF.out w8 b8
  have S9 := sameE_any m5 m6 (by omega) xv xv
  rw [decide_eq_true (rfl : xv = xv), decide_eq_true (rfl : xm = xm)] at S9
  clear m5 m6 hw8 S8 hp7
  go_wp2_with fail
  refine S9.mono ?_
  rintro e w9 ⟨rfl, b89⟩
  have b9 := below_two b8 b89
  obtain ⟨-, -, -, -, -, -, l9, -, bw9⟩ := HF.out w9 b9
  have K10 := LB.kept_any g b.length _ b w9 l9 (HX.out.below' bw9) rfl (by omega)
  clear S9 x0 x1 x2 y0 y1 y2 l9 bw9 b8 b89
  go_wp2_with fail
  refine K10.mono ?_
  rintro e w10 ⟨rfl, q10, hw10⟩
  have b10 : Below w7a.heap.size w7a w10 := below_two b9 (by rw [hw10]; exact below_dN _ _)
  clear K10 hw10 b9
  obtain ⟨-, -, ⟨z0, z1, z2⟩, -, -, m7, -, ⟨e0, e1, e2⟩, bw10⟩ := HF.out w10 b10
  have HB10 : Hid (Below w.heap.size w w10) := bw10
  clear bw10 b10
  by_cases hK : K = 0
  · obtain ⟨rfl, rfl, rfl⟩ := HG.out hK
    subst hK
    have S11 := sameE_any m7 (HM.out.below' HB10.out) (by omega) zv zv
    rw [decide_eq_true (rfl : zv = zv), decide_eq_true (rfl : zm = zm)] at S11
    clear m7 HG
    go_wp2_with fail
    refine S11.mono ?_
    rintro e w11 ⟨rfl, b11⟩
    have HB11 : Hid (Below w.heap.size w w11) := below_two HB10.out b11
    clear S11 b11 z0 z1 e0 e1
    go_wp2
    go_ret
    exact ⟨rfl, HB11.out⟩
  · have hKb : (K != 0) = true := by simpa using hK
    clear m7 HG hK
    go_wp2
    go_ret
    exact ⟨rfl, HB10.out⟩
end Go.Proofs.Ytohhbhkpekieiaa
