/- The walk of EnsembleBack. -/
import Derived.Test.YtegcchakfabpiaaApartB
import Derived.Test.YtegcchakfabpiaaEnsE
namespace Go.Proofs.Ytegcchakfabpiaa
open Go.RowKit

theorem rdAll_put {ver : Int} {l : List Mem} (hc : chk ver l = 0) (t : List UInt8) : (rdMems (rdCount (rdInt (some (cfgB ver l ++ t))).2 7).1.toNat (rdCount (rdInt (some (cfgB ver l ++ t))).2 7).2).2 = some t := by
  obtain ⟨h7, h0, hv, hf, _⟩ := chk_ok hc
  have e0 : cfgB ver l ++ t = numB ver ++ (numB l.length ++ (memsB l ++ t)) := by unfold cfgB; simp [List.append_assoc]
  have e1 : rdInt (some (numB ver ++ (numB l.length ++ (memsB l ++ t)))) = (ver, some (numB l.length ++ (memsB l ++ t))) := rdInt_num ver (by omega) (by omega) _
  have e2 : rdCount (some (numB l.length ++ (memsB l ++ t))) 7 = ((l.length : Int), some (memsB l ++ t)) := rdCount_num _ _ (by omega) (by omega) (by omega) _
  have e3 := rdMems_put l (fun m hm => ⟨(fitAll_mem hf m hm).1, (fitAll_mem hf m hm).2⟩) t
  rw [e0]
  simp only [e1, e2, Int.toNat_natCast, e3]
/- No beginning of a config's bytes is a config's. -/
theorem cfg_cut {ver : Int} {l : List Mem} (hc : chk ver l = 0) (n : Nat) (hn : n < (cfgB ver l).length) : cfgOf ((cfgB ver l).take n) = none := by
  cases h : cfgOf ((cfgB ver l).take n) with
  | none => rfl
  | some p =>
    obtain ⟨v', l'⟩ := p
    obtain ⟨e, hc'⟩ := (cfgOf_iff _ v' l').1 h
    have h1 := rdAll_put hc []
    have h2 := rdAll_put hc' ((cfgB ver l).drop n)
    rw [← e, List.take_append_drop] at h2
    rw [List.append_nil] at h1
    rw [h1] at h2
    have := congrArg List.length (Option.some.inj h2)
    simp at this
    omega
theorem Bs.head' {w : World} {A : Option Addr} {n C : Nat} {l : List UInt8} (h : Bs w (.slice A n C) l) (k : Nat) (hk : k ≤ l.length) (hp : 0 < l.length) : ∃ b o, A = some ⟨b, o, none⟩ ∧ l.length ≤ C ∧ Bs w (.slice (some ⟨b, o, none⟩) k C) (l.take k) := by
  rcases h with ⟨_, rfl⟩ | ⟨_, _, _, rfl⟩ | ⟨_, b, o, c, he, h1, h2, h3⟩
  · simp at hp
  · simp at hp
  · cases he
    refine ⟨b, o, rfl, h1, Bs.mk b o C (by rw [List.length_take]; omega) (by rw [List.length_take]; omega) h2 (fun j hj => ?_)⟩
    rw [List.length_take] at hj
    rw [List.getElem_take]
    exact h3 j (by omega)
theorem below_two {a b c : World} (h : Below a.heap.size a b) (g : Below b.heap.size b c) : Below a.heap.size a c := h.trans (g.mono h.size)
theorem bv_ints (l : List UInt8) : bv l = AB.ints (l.map fun x => (x.toNat : Int)) := by simp [bv, AB.ints]
theorem row_of_new {w w' w2 : World} {A : Option Addr} {C : Nat} {l : List UInt8} (h : New w w' (.slice A l.length C) l) (hb : Below w'.heap.size w' w2) : AB.R w2 A l.length C (l.map fun x => (x.toNat : Int)) := by
  unfold AB.R
  rw [← bv_ints]
  exact AB.owns_weak (owns_keep h.owns (Chg.of_below hb) (fun _ _ => id))
theorem two_new (w : World) (x0 x1 : Value) (t : TypeId) : (w.alloc (.cells #[x0, x1] t)).heap[w.heap.size]? = some (.cells #[x0, x1] t (0, 0)) := heap_alloc_new w _
theorem Bs.below' {w w' : World} {v : Value} {l : List UInt8} (h : Bs w v l) (hb : Below w.heap.size w w') : Bs w' v l := h.below hb (fun _ hk => h.lt hk)
/- Two rows of one's own, made one behind the other, lie apart. -/
set_option maxRecDepth 100000 in
theorem apart_two {w1 w2 w3 w : World} {A B : Option Addr} {C D : Nat} {l : List UInt8} (hp : New w1 w2 (.slice A l.length C) l) (hq : New w2 w3 (.slice B l.length D) l) (hb : Below w3.heap.size w3 w) (hl : l.length ≤ 1000) (h0 : 0 < l.length) :
    Calls Try.prog 8 #[.slice (some ⟨w.heap.size, 0, none⟩) 2 2] (w.alloc (.cells #[.slice A l.length C, .slice B l.length D] 22)) fun e w' => e = .returned (.bool true) ∧ Below w1.heap.size w1 w' := by
  have ha : Below w.heap.size w (w.alloc (.cells #[.slice A l.length C, .slice B l.length D] 22)) := (Below.refl _ _).alloc (Nat.le_refl _) _
  have hb' := below_two hb ha
  have R1 := row_of_new hp (below_two hq.below hb')
  have R2 := row_of_new hq hb'
  have hn := two_new w (.slice A l.length C) (.slice B l.length D) 22
  have hpo := hp.own
  have hqo := hq.own
  have h := AB.apartBytes_any w.heap.size 2 2 (fun j => if j = 0 then A else B) (fun _ => l.length) (fun j => if j = 0 then C else D) (w.alloc (.cells #[.slice A l.length C, .slice B l.length D] 22)) (by omega) (by omega) (fun k _ => by omega) ?_ ?_ (by simp) ?_
  · refine h.mono ?_
    rintro e w' ⟨rfl, hc⟩
    refine ⟨rfl, ?_⟩
    have hsz := hp.below.size
    have hw : Below w1.heap.size w1 (w.alloc (.cells #[.slice A l.length C, .slice B l.length D] 22)) := below_two hp.below (below_two hq.below hb')
    refine hw.trans ⟨hc.os, hc.tape, hc.output, hc.size, ?_⟩
    · intro k hk
      refine hc.block k (Nat.lt_of_lt_of_le hk hw.size) ?_
      intro j hj e
      by_cases hj0 : j = 0
      · subst hj0
        simp only [if_true] at e
        have := hpo k (by rw [e]; rfl)
        omega
      · rw [if_neg hj0] at e
        have := hqo k (by rw [e]; rfl)
        have := hp.below.size
        omega
  · intro j k g hj hk hjk e1 e2
    have hjj : (j = 0 ∧ k = 1) ∨ (j = 1 ∧ k = 0) := by omega
    rcases hjj with ⟨rfl, rfl⟩ | ⟨rfl, rfl⟩
    · simp at e1 e2
      have a1 := hpo g (by rw [e1]; rfl)
      have a2 := hqo g (by rw [e2]; rfl)
      omega
    · simp at e1 e2
      have a1 := hpo g (by rw [e2]; rfl)
      have a2 := hqo g (by rw [e1]; rfl)
      omega
  · intro k hk
    have hjj : k = 0 ∨ k = 1 := by omega
    rcases hjj with rfl | rfl
    · rw [cell_at hn]; rfl
    · rw [cell_at hn]; rfl
  · intro j hj
    have hjj : j = 0 ∨ j = 1 := by omega
    rcases hjj with rfl | rfl
    · exact ⟨_, R1⟩
    · exact ⟨_, R2⟩
theorem pair_at {w w' : World} {g T : Nat} {a b : Value} (h : w.heap[g]? = some (.cells #[a, b] T (0, 0))) (hb : Below w.heap.size w w') : w'.cell? ⟨g, 0, none⟩ = some a ∧ w'.cell? ⟨g, 1, none⟩ = some b ∧ g < w'.heap.size := by
  have hlt : g < w.heap.size := by
    rcases Nat.lt_or_ge g w.heap.size with h1 | h1
    · exact h1
    · rw [Array.getElem?_eq_none h1] at h; cases h
  have h' : w'.heap[g]? = some (.cells #[a, b] T (0, 0)) := by rw [hb.block _ hlt]; exact h
  exact ⟨by rw [cell_at h']; rfl, by rw [cell_at h']; rfl, Nat.lt_of_lt_of_le hlt hb.size⟩
theorem below_dN (w : World) (n : Nat) : Below w.heap.size w (w.drewN n) := (Chg.drewN Non w n).below (fun _ h => h.elim) (Nat.le_refl _)
/- The half behind the reading. -/
def Rest (w : World) (A : Option Addr) (C : Nat) (ver : Int) (l : List Mem) (w1 : World) : Prop :=
  Below w.heap.size w w1 ∧ w1.cell? ⟨w.heap.size, 0, none⟩ = some (.int .i64 ver) ∧ w1.cell? ⟨w.heap.size, 1, none⟩ = some (.slice A l.length C) ∧ w.heap.size < w1.heap.size
theorem Rest.go {w : World} {A : Option Addr} {C : Nat} {ver : Int} {l : List Mem} {w1 w2 : World} (h : Rest w A C ver l w1) (hb : Below w1.heap.size w1 w2) : Rest w A C ver l w2 :=
  ⟨below_two h.1 hb, by rw [hb.cell (p := ⟨w.heap.size, 0, none⟩) h.2.2.2]; exact h.2.1, by rw [hb.cell (p := ⟨w.heap.size, 1, none⟩) h.2.2.2]; exact h.2.2.1, Nat.lt_of_lt_of_le h.2.2.2 hb.size⟩
set_option maxRecDepth 100000 in
set_option maxHeartbeats 4000000 in
theorem backE_any {w : World} {v x : Value} {l : List Mem} {b : List UInt8} (hx : Bs w x b) (h : Mems w v l) (ver : Int) (hbl : b.length ≤ 140737488351232) :
    Calls Try.prog 3 #[x, .agg #[.int .i64 ver, v]] w fun e w' => e = .returned (.bool true) ∧ Below w.heap.size w w' := by
  have HM : Hid (Mems w v l) := h
  have HX : Hid (Bs w x b) := hx
  obtain ⟨A, C, rfl⟩ := h.form
  obtain ⟨AX, CX, rfl⟩ := bs_form hx
  clear h hx
  go_enter Try.func3, Try.ntmps3
  go_wp2_with fail
  refine (awake_any _).mono ?_
  rintro e w1 ⟨rfl, hB1⟩
  have HR1 : Hid (Rest w A C ver l w1) := by
    obtain ⟨a, b, c⟩ := pair_at (heap_alloc_new w (.cells #[.int .i64 ver, .slice A l.length C] 26 (0, 0))) hB1
    exact ⟨below_two ((Below.refl _ _).alloc (Nat.le_refl _) _) hB1, a, b, c⟩
  clear hB1
  have G2 := get_any (HX.out.below' HR1.out.1) (by omega)
  go_wp2_with fail
  refine G2.mono ?_
  rintro e w2 hg2
  clear G2
  cases hcf : cfgOf b with
  | none =>
    rw [hcf] at hg2
    obtain ⟨rfl, hb2⟩ := hg2
    have HR2 : Hid (Rest w A C ver l w2) := HR1.out.go hb2
    obtain ⟨w3, hw3⟩ : ∃ X, X = w2.alloc (.cells #[.int .i64 0, .slice none 0 0] 26) := ⟨_, rfl⟩
    have HRW : Hid (Rest w A C ver l w3) := HR2.out.go (by rw [hw3]; exact (Below.refl _ _).alloc (Nat.le_refl _) _)
    clear hb2 HR1 hcf
    obtain ⟨-, z0, z1, zl⟩ := HR2.out
    by_cases hc : chk ver l = 0
    · have P1 := put_yes (HM.out.below' HRW.out.1) ver hc
      have P2 := fun {W' : World} (hb : Below w3.heap.size w3 W') => put_yes (HM.out.below' (HRW.out.go hb).1) ver hc
      rw [hw3] at P1
      have hpos := cfgB_pos ver l
      have hlen := cfgB_len hc
      have hcut := fun n hn => cfg_cut hc n hn
      clear hc
      generalize cfgB ver l = P at P1 P2 hpos hlen hcut
      have HCUT : Hid (∀ n, n < P.length → cfgOf (P.take n) = none) := hcut
      clear hcut
      go_wp2_with fail
      refine P1.mono ?_
      rintro e w5 ⟨p5, rfl, n5⟩
      rw [← hw3] at n5
      obtain ⟨A5, C5, rfl⟩ := bs_form n5.bs
      obtain ⟨b5, o5, rfl, hC5, -⟩ := n5.bs.head' 0 (by omega) hpos
      have HN5 : Hid (New w3 w5 (.slice (some ⟨b5, o5, none⟩) P.length C5) P) := n5
      have HR5 : Hid (Rest w A C ver l w5) := HRW.out.go n5.below
      have P2' := P2 n5.below
      clear P1 P2 n5 z0 z1 zl
      obtain ⟨-, z0, z1, zl⟩ := HR5.out
      go_wp2_with fail
      refine P2'.mono ?_
      rintro e w6 ⟨p6, rfl, n6⟩
      obtain ⟨A6, C6, rfl⟩ := bs_form n6.bs
      have HN6 : Hid (New w5 w6 (.slice A6 P.length C6) P) := n6
      have hlen' : P.length ≤ 300 := hlen
      clear P2' n6 z0 z1 zl
      obtain ⟨N, hN⟩ : ∃ N, N = P.length := ⟨_, rfl⟩
      have HN : Hid (N = P.length) := hN
      rw [← hN] at hC5 hpos hlen' ⊢
      clear hN hlen
      go_wp2_with fail
      go_loopw [13] (fun i wr => ∃ k : Nat, i = .int .i64 k ∧ k ≤ N ∧ Below w6.heap.size w6 wr) (fun i _ => N - (intOf i).toNat)
      case atStart => exact ⟨0, rfl, by omega, Below.refl _ _⟩
      case round =>
        obtain ⟨k, rfl, hk, hb⟩ := hrel
        have HBr : Hid (Below w6.heap.size w6 wr) := hb
        clear hb
        by_cases hlt : k < N
        · obtain ⟨b7, o7, e7, -, hbk⟩ := ((HN5.out.bs.below' HN6.out.below).below' HBr.out).head' k (by have := HN.out; omega) (by have := HN.out; omega)
          cases e7
          have G7 := get_any hbk (by rw [List.length_take]; have := HN.out; omega)
          rw [HCUT.out k (by have := HN.out; omega)] at G7
          have hkC : k ≤ C5 := by omega
          clear hbk
          go_wp2_with fail
          refine G7.mono ?_
          rintro e w7 ⟨rfl, b7⟩
          have HB7 : Hid (Below w6.heap.size w6 (w7.alloc (.cells #[.int .i64 0, .slice none 0 0] 26))) := below_two (below_two HBr.out b7) ((Below.refl _ _).alloc (Nat.le_refl _) _)
          clear G7 b7
          go_wp2
          exact ⟨⟨k + 1, by go_num, by omega, HB7.out⟩, by simp [intOf]; omega⟩
        · have HA : Hid (Calls Try.prog 8 #[.slice (some ⟨wr.heap.size, 0, none⟩) 2 2] (wr.alloc (.cells #[.slice (some ⟨b5, o5, none⟩) N C5, .slice A6 N C6] 22)) fun e w' => e = .returned (.bool true) ∧ Below w3.heap.size w3 w') := by
            have := apart_two HN5.out HN6.out HBr.out (by have := HN.out; omega) (by have := HN.out; omega)
            rw [← HN.out] at this
            exact this
          go_wp2_with fail
          refine HA.out.mono ?_
          rintro e w8 ⟨rfl, b8⟩
          have HB8 : Hid (Below w.heap.size w w8) := below_two HRW.out.1 b8
          clear b8 HA
          go_wp2
          go_ret
          exact ⟨rfl, HB8.out⟩
    · have P1 := put_no (HM.out.below' HRW.out.1) ver hc
      have P2 := fun {W' : World} (hb : Below w3.heap.size w3 W') => put_no (HM.out.below' (HRW.out.go hb).1) ver hc
      rw [hw3] at P1
      have hcb : (chk ver l != 0) = true := by simpa using hc
      generalize chk ver l = K at P1 P2 hcb
      clear hc
      go_wp2_with fail
      refine P1.mono ?_
      rintro e w5 ⟨rfl, b5⟩
      rw [← hw3] at b5
      have HR5 : Hid (Rest w A C ver l w5) := HRW.out.go b5
      have P2' := P2 b5
      clear P1 P2 b5 z0 z1 zl
      obtain ⟨-, z0, z1, zl⟩ := HR5.out
      go_wp2_with fail
      refine P2'.mono ?_
      rintro e w6 ⟨rfl, b6⟩
      have HB6 : Hid (Below w.heap.size w w6) := below_two HR5.out.1 b6
      clear P2' b6 z0 z1 zl
      go_wp2
      go_ret
      exact ⟨rfl, HB6.out⟩
  | some p =>
    obtain ⟨v2, l2⟩ := p
    rw [hcf] at hg2
    obtain ⟨eb, hck⟩ := (cfgOf_iff b v2 l2).1 hcf
    obtain ⟨x2, rfl, ho2, hb2⟩ := hg2
    have HM2 : Hid (Mems w2 x2 l2) := mems_of_owns ho2
    obtain ⟨A2, C2, rfl⟩ := owns_form' ho2
    obtain ⟨w3, hw3⟩ : ∃ X, X = w2.alloc (.cells #[.int .i64 v2, .slice A2 l2.length C2] 26) := ⟨_, rfl⟩
    have b23 : Below w2.heap.size w2 w3 := by rw [hw3]; exact (Below.refl _ _).alloc (Nat.le_refl _) _
    have HR3 : Hid (Rest w A C ver l w3) := (HR1.out.go hb2).go b23
    have P3 := put_yes (HM2.out.below' b23) v2 hck
    rw [hw3] at P3
    rw [← eb] at P3
    clear hcf ho2 hb2 HR1 hck eb HM2
    go_wp2_with fail
    refine P3.mono ?_
    rintro e w4 ⟨c4, rfl, n4⟩
    rw [← hw3] at n4
    have HR4 : Hid (Rest w A C ver l w4) := HR3.out.go n4.below
    have S5 := same_any (HX.out.below' HR4.out.1) n4.bs (by omega)
    rw [decide_eq_true (rfl : b = b)] at S5
    obtain ⟨A4, C4, rfl⟩ := bs_form n4.bs
    clear P3 n4 HR3 hw3 b23
    go_wp2_with fail
    refine S5.mono ?_
    rintro e wS ⟨rfl, q5, hw5⟩
    have HRW : Hid (Rest w A C ver l wS) := HR4.out.go (by rw [hw5]; exact below_dN _ _)
    clear S5 HR4 hw5
    obtain ⟨-, z0, z1, zl⟩ := HRW.out
    by_cases hc : chk ver l = 0
    · have P1 := put_yes (HM.out.below' HRW.out.1) ver hc
      have P2 := fun {W' : World} (hb : Below wS.heap.size wS W') => put_yes (HM.out.below' (HRW.out.go hb).1) ver hc
      have hpos := cfgB_pos ver l
      have hlen := cfgB_len hc
      have hcut := fun n hn => cfg_cut hc n hn
      clear hc
      generalize cfgB ver l = P at P1 P2 hpos hlen hcut
      have HCUT : Hid (∀ n, n < P.length → cfgOf (P.take n) = none) := hcut
      clear hcut
      go_wp2_with fail
      refine P1.mono ?_
      rintro e w5 ⟨p5, rfl, n5⟩
      obtain ⟨A5, C5, rfl⟩ := bs_form n5.bs
      obtain ⟨b5, o5, rfl, hC5, -⟩ := n5.bs.head' 0 (by omega) hpos
      have HN5 : Hid (New wS w5 (.slice (some ⟨b5, o5, none⟩) P.length C5) P) := n5
      have HR5 : Hid (Rest w A C ver l w5) := HRW.out.go n5.below
      have P2' := P2 n5.below
      clear P1 P2 n5 z0 z1 zl
      obtain ⟨-, z0, z1, zl⟩ := HR5.out
      go_wp2_with fail
      refine P2'.mono ?_
      rintro e w6 ⟨p6, rfl, n6⟩
      obtain ⟨A6, C6, rfl⟩ := bs_form n6.bs
      have HN6 : Hid (New w5 w6 (.slice A6 P.length C6) P) := n6
      have hlen' : P.length ≤ 300 := hlen
      clear P2' n6 z0 z1 zl
      obtain ⟨N, hN⟩ : ∃ N, N = P.length := ⟨_, rfl⟩
      have HN : Hid (N = P.length) := hN
      rw [← hN] at hC5 hpos hlen' ⊢
      clear hN hlen
      go_wp2_with fail
      go_loopw [13] (fun i wr => ∃ k : Nat, i = .int .i64 k ∧ k ≤ N ∧ Below w6.heap.size w6 wr) (fun i _ => N - (intOf i).toNat)
      case atStart => exact ⟨0, rfl, by omega, Below.refl _ _⟩
      case round =>
        obtain ⟨k, rfl, hk, hb⟩ := hrel
        have HBr : Hid (Below w6.heap.size w6 wr) := hb
        clear hb
        by_cases hlt : k < N
        · obtain ⟨b7, o7, e7, -, hbk⟩ := ((HN5.out.bs.below' HN6.out.below).below' HBr.out).head' k (by have := HN.out; omega) (by have := HN.out; omega)
          cases e7
          have G7 := get_any hbk (by rw [List.length_take]; have := HN.out; omega)
          rw [HCUT.out k (by have := HN.out; omega)] at G7
          have hkC : k ≤ C5 := by omega
          clear hbk
          go_wp2_with fail
          refine G7.mono ?_
          rintro e w7 ⟨rfl, b7⟩
          have HB7 : Hid (Below w6.heap.size w6 (w7.alloc (.cells #[.int .i64 0, .slice none 0 0] 26))) := below_two (below_two HBr.out b7) ((Below.refl _ _).alloc (Nat.le_refl _) _)
          clear G7 b7
          go_wp2
          exact ⟨⟨k + 1, by go_num, by omega, HB7.out⟩, by simp [intOf]; omega⟩
        · have HA : Hid (Calls Try.prog 8 #[.slice (some ⟨wr.heap.size, 0, none⟩) 2 2] (wr.alloc (.cells #[.slice (some ⟨b5, o5, none⟩) N C5, .slice A6 N C6] 22)) fun e w' => e = .returned (.bool true) ∧ Below wS.heap.size wS w') := by
            have := apart_two HN5.out HN6.out HBr.out (by have := HN.out; omega) (by have := HN.out; omega)
            rw [← HN.out] at this
            exact this
          go_wp2_with fail
          refine HA.out.mono ?_
          rintro e w8 ⟨rfl, b8⟩
          have HB8 : Hid (Below w.heap.size w w8) := below_two HRW.out.1 b8
          clear b8 HA
          go_wp2
          go_ret
          exact ⟨rfl, HB8.out⟩
    · have P1 := put_no (HM.out.below' HRW.out.1) ver hc
      have P2 := fun {W' : World} (hb : Below wS.heap.size wS W') => put_no (HM.out.below' (HRW.out.go hb).1) ver hc
      have hcb : (chk ver l != 0) = true := by simpa using hc
      generalize chk ver l = K at P1 P2 hcb
      clear hc
      go_wp2_with fail
      refine P1.mono ?_
      rintro e w5 ⟨rfl, b5⟩
      have HR5 : Hid (Rest w A C ver l w5) := HRW.out.go b5
      have P2' := P2 b5
      clear P1 P2 b5 z0 z1 zl
      obtain ⟨-, z0, z1, zl⟩ := HR5.out
      go_wp2_with fail
      refine P2'.mono ?_
      rintro e w6 ⟨rfl, b6⟩
      have HB6 : Hid (Below w.heap.size w w6) := below_two HR5.out.1 b6
      clear P2' b6 z0 z1 zl
      go_wp2
      go_ret
      exact ⟨rfl, HB6.out⟩
end Go.Proofs.Ytegcchakfabpiaa
