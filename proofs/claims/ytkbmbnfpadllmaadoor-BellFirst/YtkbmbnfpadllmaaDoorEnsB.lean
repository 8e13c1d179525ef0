/- The walks of what a config may be: members in memory, a member's role, the closure that looks at ids, and the whole look. -/
import Derived.Test.YtkbmbnfpadllmaaDoorBase
import Derived.Test.YtkbmbnfpadllmaaDoorWalksG
import Derived.BigQuiet
import Derived.Deep.QuietTactic
import Derived.Deep.RegionHeld3
namespace Go.Proofs.YtkbmbnfpadllmaaDoor
open Go.RowKit

theorem ret_b {a b : Bool} (h : a = b) : Ending.returned (.bool a) = .returned (.bool b) := by rw [h]
/- A member as a value. -/
abbrev memV (m : Mem) : Value := .agg #[.int .i64 m.id, .int .u8 m.role, .int .i64 m.weight, .int .i64 m.group]
set_option maxRecDepth 100000 in
theorem fitsRole_any (w : World) (i r k g : Int) :
    Calls Tryd.prog 88 #[.agg #[.int .i64 i, .int .u8 r, .int .i64 k, .int .i64 g]] w fun e w' => e = .returned (.bool (fitRole ⟨i, r, k, g⟩)) ∧ Below w.heap.size w w' := by
  by_cases h1 : r = 1
  · have e : fitRole ⟨i, r, k, g⟩ = (decide (0 ≤ k) && decide (k ≤ 1000) && decide (0 ≤ g) && decide (g < 7)) := by unfold fitRole; rw [if_pos h1]
    rw [e]
    subst h1
    clear e
    go_enter Tryd.func88, Tryd.ntmps88
    go_wp2
    all_goals
      go_ret
      exact ⟨ret_b (by simp <;> omega), (Below.refl _ _).alloc (Nat.le_refl _) _⟩
  · by_cases h2 : r = 2
    · have e : fitRole ⟨i, r, k, g⟩ = (decide (k = 0) && decide (g = 0)) := by unfold fitRole; rw [if_neg h1, if_pos h2]
      rw [e]
      subst h2
      clear e
      have e1 : ∀ z : Int, (z == 0) = decide (z = 0) := fun z => by rw [Bool.eq_iff_iff]; simp
      by_cases hk : k = 0
      · subst hk
        go_enter Tryd.func88, Tryd.ntmps88
        go_wp2
        all_goals
          go_ret
          exact ⟨ret_b (by simp), (Below.refl _ _).alloc (Nat.le_refl _) _⟩
      · have hk' : (k == 0) = false := by simpa using hk
        have e2 : (decide (k = 0) && decide (g = 0)) = false := by simp [hk]
        rw [e2]
        clear e1 e2
        go_enter Tryd.func88, Tryd.ntmps88
        go_wp2
        all_goals
          go_ret
          exact ⟨rfl, (Below.refl _ _).alloc (Nat.le_refl _) _⟩
    · have e : fitRole ⟨i, r, k, g⟩ = false := by unfold fitRole; rw [if_neg h1, if_neg h2]
      rw [e]
      have b1 : (r == 1) = false := by simpa using h1
      have b2 : (r == 2) = false := by simpa using h2
      clear e
      go_enter Tryd.func88, Tryd.ntmps88
      go_wp2
      go_ret
      exact ⟨rfl, (Below.refl _ _).alloc (Nat.le_refl _) _⟩
/- The closure over the last id, at block g. -/
set_option maxRecDepth 100000 in
theorem fits_any (w : World) (gb : Nat) (last i r k g : Int) (hc : w.heap[gb]? = some (.cells #[.int .i64 last] 3 (0, 0))) :
    Calls Tryd.prog 87 #[.agg #[.int .i64 i, .int .u8 r, .int .i64 k, .int .i64 g], .pointer (some ⟨gb, 0, none⟩)] w fun e w' => e = .returned (.bool (fitOne last ⟨i, r, k, g⟩)) ∧ w'.heap[gb]? = some (.cells #[.int .i64 i] 3 (0, 0)) ∧ Chg (fun j => j = gb) w w' := by
  have hce : w.cell? ⟨gb, 0, none⟩ = some (.int .i64 last) := by rw [cell_at hc 0]; rfl
  have hfr : w.frozen? ⟨gb, 0, none⟩ = false := frozen_at hc 0
  have hlt := heap_lt hc
  have HC : Hid (w.heap[gb]? = some (.cells #[.int .i64 last] 3 (0, 0))) := hc
  clear hc
  by_cases h1 : last < i
  · by_cases h7 : i ≤ 7
    · have e : fitOne last ⟨i, r, k, g⟩ = fitRole ⟨i, r, k, g⟩ := by unfold fitOne; simp [h1, h7]
      rw [e]
      clear e
      go_enter Tryd.func87, Tryd.ntmps87
      go_wp2_with fail
      refine (fitsRole_any _ i r k g).mono ?_
      rintro e w2 ⟨rfl, hB2⟩
      go_wp2
      go_ret
      have hc1 : Chg (fun j => j = gb) w ((w.setCell ⟨gb, 0, none⟩ (.int .i64 i)).alloc (.cells #[.int .i64 i, .int .u8 r, .int .i64 k, .int .i64 g] 140)) := (Chg.setCell (S := fun j => j = gb) w ⟨gb, 0, none⟩ _ rfl).trans (Chg.alloc _ _ _)
      refine ⟨rfl, ?_, hc1.trans ((Chg.of_below hB2).weak (fun _ _ h => h.elim))⟩
      rw [hB2.block gb (by simp; omega), Below.heap_alloc _ _ _ (by simp; omega), heap_set HC.out 0]
      rfl
    · have e : fitOne last ⟨i, r, k, g⟩ = false := by unfold fitOne; simp [h7]
      rw [e]
      clear e
      go_enter Tryd.func87, Tryd.ntmps87
      go_wp2
      go_ret
      have hc1 : Chg (fun j => j = gb) w ((w.setCell ⟨gb, 0, none⟩ (.int .i64 i)).alloc (.cells #[.int .i64 i, .int .u8 r, .int .i64 k, .int .i64 g] 140)) := (Chg.setCell (S := fun j => j = gb) w ⟨gb, 0, none⟩ _ rfl).trans (Chg.alloc _ _ _)
      refine ⟨rfl, ?_, hc1⟩
      rw [Below.heap_alloc _ _ _ (by simp; omega), heap_set HC.out 0]
      rfl
  · have e : fitOne last ⟨i, r, k, g⟩ = false := by unfold fitOne; simp [h1]
    rw [e]
    clear e
    go_enter Tryd.func87, Tryd.ntmps87
    go_wp2
    go_ret
    have hc1 : Chg (fun j => j = gb) w ((w.setCell ⟨gb, 0, none⟩ (.int .i64 i)).alloc (.cells #[.int .i64 i, .int .u8 r, .int .i64 k, .int .i64 g] 140)) := (Chg.setCell (S := fun j => j = gb) w ⟨gb, 0, none⟩ _ rfl).trans (Chg.alloc _ _ _)
    refine ⟨rfl, ?_, hc1⟩
    rw [Below.heap_alloc _ _ _ (by simp; omega), heap_set HC.out 0]
    rfl
theorem fitter_any (w : World) : Calls Tryd.prog 83 #[] w fun e w' => e = .returned (.func (.func 87) #[] #[.pointer (some ⟨w.heap.size, 0, none⟩)]) ∧ w' = w.alloc (.cells #[.int .i64 0] 3 (0, 0)) := by
  have hmf : ∀ (fn : Fn) (first cap : Array Value) (w : World), (Instr.makeFunc fn first cap).run Tryd.prog w = .ok (.func fn first cap) w := fun _ _ _ _ => rfl
  go_enter Tryd.func83, Tryd.ntmps83
  go_wp2
  go_ret
  exact ⟨rfl, rfl⟩

def lastId : Int → List Mem → Int
  | last, [] => last
  | _, m :: l => lastId m.id l
theorem fitAll_mid : ∀ (a : List Mem) (last : Int) (m : Mem) (r : List Mem), fitAll last (a ++ m :: r) = (fitAll last a && (fitOne (lastId last a) m && fitAll m.id r))
  | [], last, m, r => by simp [fitAll, lastId]
  | x :: a, last, m, r => by
    rw [List.cons_append, fitAll, fitAll_mid a x.id m r, fitAll, lastId, Bool.and_assoc]
theorem lastId_snoc : ∀ (a : List Mem) (last : Int) (m : Mem), lastId last (a ++ [m]) = m.id
  | [], _, _ => rfl
  | x :: a, _, m => by rw [List.cons_append, lastId]; exact lastId_snoc a x.id m
theorem split_at {l : List Mem} {k : Nat} (h : k < l.length) : l = l.take k ++ (l[k]'h) :: l.drop (k + 1) := by
  rw [← List.drop_eq_getElem_cons h, List.take_append_drop]
theorem take_snoc {l : List Mem} {k : Nat} (h : k < l.length) : l.take (k + 1) = l.take k ++ [l[k]'h] := List.take_succ_eq_append_getElem h
theorem heavy_snoc (a : List Mem) (m : Mem) : heavy (a ++ [m]) = (heavy a || decide (0 < m.weight)) := by simp [heavy]
/- Members in memory. -/
def Mems (w : World) (v : Value) (l : List Mem) : Prop :=
  (v = .slice none 0 0 ∧ l = []) ∨ (∃ ad c, v = .slice (some ad) 0 c ∧ l = []) ∨ (0 < l.length ∧ ∃ b o c, v = .slice (some ⟨b, o, none⟩) l.length c ∧ l.length ≤ c ∧ b < w.heap.size ∧
    ∀ j (h : j < l.length), w.cell? ⟨b, o + j * 4, none⟩ = some (.int .i64 (l[j]'h).id) ∧ w.cell? ⟨b, o + j * 4 + 1, none⟩ = some (.int .u8 (l[j]'h).role) ∧ w.cell? ⟨b, o + j * 4 + 2, none⟩ = some (.int .i64 (l[j]'h).weight) ∧ w.cell? ⟨b, o + j * 4 + 3, none⟩ = some (.int .i64 (l[j]'h).group))
theorem Mems.form {w : World} {v : Value} {l : List Mem} (h : Mems w v l) : ∃ A C, v = .slice A l.length C := by
  rcases h with ⟨rfl, rfl⟩ | ⟨ad, c, rfl, rfl⟩ | ⟨_, b, o, c, rfl, _⟩
  · exact ⟨none, 0, rfl⟩
  · exact ⟨_, _, rfl⟩
  · exact ⟨_, _, rfl⟩
theorem Mems.keep {S : Nat → Prop} {w w' : World} {v : Value} {l : List Mem} (h : Mems w v l) (hc : Chg S w w') (hn : ∀ k, bk v = some k → ¬ S k) : Mems w' v l := by
  rcases h with h | h | ⟨h0, b, o, c, rfl, h1, h2, h3⟩
  · exact .inl h
  · exact .inr (.inl h)
  · have hb := hn b (bk_pos h0)
    refine .inr (.inr ⟨h0, b, o, c, rfl, h1, hc.lt_of h2, fun j hj => ?_⟩)
    obtain ⟨c0, c1, c2, c3⟩ := h3 j hj
    exact ⟨by rw [hc.cell (a := ⟨b, o + j * 4, none⟩) h2 hb]; exact c0, by rw [hc.cell (a := ⟨b, o + j * 4 + 1, none⟩) h2 hb]; exact c1, by rw [hc.cell (a := ⟨b, o + j * 4 + 2, none⟩) h2 hb]; exact c2, by rw [hc.cell (a := ⟨b, o + j * 4 + 3, none⟩) h2 hb]; exact c3⟩
theorem Mems.lt {w : World} {v : Value} {l : List Mem} (h : Mems w v l) {k : Nat} (hk : bk v = some k) : k < w.heap.size := by
  rcases h with ⟨rfl, _⟩ | ⟨ad, c, rfl, _⟩ | ⟨h0, b, o, c, rfl, _, h2, _⟩
  · exact absurd hk (bk_zero _ _ _)
  · exact absurd hk (bk_zero _ _ _)
  · rw [bk_pos h0] at hk; cases hk; exact h2
theorem Mems.below {w w' : World} {B : Nat} {v : Value} {l : List Mem} (h : Mems w v l) (hb : Below B w w') (hk : ∀ k, bk v = some k → k < B) : Mems w' v l := by
  rcases h with h | h | ⟨h0, b, o, c, rfl, h1, h2, h3⟩
  · exact .inl h
  · exact .inr (.inl h)
  · have hbB := hk b (bk_pos h0)
    refine .inr (.inr ⟨h0, b, o, c, rfl, h1, Nat.lt_of_lt_of_le h2 hb.size, fun j hj => ?_⟩)
    obtain ⟨c0, c1, c2, c3⟩ := h3 j hj
    exact ⟨by rw [hb.cell (p := ⟨b, o + j * 4, none⟩) hbB]; exact c0, by rw [hb.cell (p := ⟨b, o + j * 4 + 1, none⟩) hbB]; exact c1, by rw [hb.cell (p := ⟨b, o + j * 4 + 2, none⟩) hbB]; exact c2, by rw [hb.cell (p := ⟨b, o + j * 4 + 3, none⟩) hbB]; exact c3⟩
theorem Mems.below' {w w' : World} {v : Value} {l : List Mem} (h : Mems w v l) (hb : Below w.heap.size w w') : Mems w' v l := h.below hb (fun _ hk => h.lt hk)
theorem Mems.at' {w : World} {A : Option Addr} {n C : Nat} {l : List Mem} (h : Mems w (.slice A n C) l) (j : Nat) (hj : j < l.length) : ∃ b o, A = some ⟨b, o, none⟩ ∧ b < w.heap.size ∧
    w.cell? ⟨b, o + j * 4, none⟩ = some (.int .i64 (l[j]'hj).id) ∧ w.cell? ⟨b, o + j * 4 + 1, none⟩ = some (.int .u8 (l[j]'hj).role) ∧ w.cell? ⟨b, o + j * 4 + 2, none⟩ = some (.int .i64 (l[j]'hj).weight) ∧ w.cell? ⟨b, o + j * 4 + 3, none⟩ = some (.int .i64 (l[j]'hj).group) := by
  rcases h with ⟨_, rfl⟩ | ⟨_, _, _, rfl⟩ | ⟨_, b, o, c, he, _, h2, h3⟩
  · simp at hj
  · simp at hj
  · cases he
    exact ⟨b, o, rfl, h2, h3 j hj⟩
set_option maxRecDepth 100000 in
set_option maxHeartbeats 1000000 in
theorem mayBe_any {w : World} {v : Value} {l : List Mem} (h : Mems w v l) (ver : Int) (hl : l.length ≤ 9223372036854775807) :
    Calls Tryd.prog 72 #[.agg #[.int .i64 ver, v]] w fun e w' => e = .returned (.bool (mayB ver l)) ∧ Below w.heap.size w w' := by
  have HM : Hid (Mems w v l) := h
  obtain ⟨A, C, rfl⟩ := h.form
  clear h
  by_cases hv : 0 ≤ ver ∧ ver ≤ 4611686018427387904
  · obtain ⟨hv1, hv2⟩ := hv
    have e : mayB ver l = (fitAll 0 l && heavy l) := by unfold mayB; simp [hv1, hv2]
    rw [e]
    clear e
    have hv1' : ¬ ver < 0 := by omega
    have hv2' : ¬ 4611686018427387904 < ver := by omega
    clear hv1 hv2
    go_enter Tryd.func72, Tryd.ntmps72
    go_wp2_with fail
    refine (fitter_any _).mono ?_
    rintro e w1 ⟨rfl, rfl⟩
    go_wp2_with fail
    go_loopw [4, 19] (fun s i wr => ∃ k : Nat, i = .int .i64 k ∧ s = .bool (heavy (l.take k)) ∧ k ≤ l.length ∧ fitAll 0 (l.take k) = true ∧ wr.heap[w.heap.size + 1]? = some (.cells #[.int .i64 (lastId 0 (l.take k))] 3 (0, 0)) ∧ Below w.heap.size w wr) (fun _ i _ => l.length - (intOf i).toNat)
    case atStart => exact ⟨0, rfl, rfl, by omega, rfl, by have := heap_alloc_new (w.alloc (.cells #[.int .i64 ver, .slice A l.length C] 29)) (.cells #[.int .i64 0] 3 (0, 0)); rw [show (w.alloc (.cells #[.int .i64 ver, .slice A l.length C] 29)).heap.size = w.heap.size + 1 by simp] at this; exact this, ((Below.refl _ _).alloc (Nat.le_refl _) _).alloc (by simp) _⟩
    case round =>
      obtain ⟨k, rfl, rfl, hk, hf, hc, hB⟩ := hrel
      have HB : Hid (Below w.heap.size w wr) := hB
      have HC : Hid (wr.heap[w.heap.size + 1]? = some (.cells #[.int .i64 (lastId 0 (l.take k))] 3 (0, 0))) := hc
      have HFA : Hid (fitAll 0 (l.take k) = true) := hf
      have hlt1 := heap_lt hc
      clear hB hc hf
      by_cases hlt : k < l.length
      · obtain ⟨b, o, rfl, hb, c0, c1, c2, c3⟩ := (HM.out.below' HB.out).at' k hlt
        have HS : Hid (l = l.take k ++ (l[k]'hlt) :: l.drop (k + 1)) := split_at hlt
        have HT : Hid (l.take (k + 1) = l.take k ++ [l[k]'hlt]) := take_snoc hlt
        generalize (l[k]'hlt) = m at c0 c1 c2 c3 HS HT
        obtain ⟨mi, mr, mw, mg⟩ := m
        dsimp only at c0 c1 c2 c3
        have hcc : (wr.alloc (.cells #[.int .i64 mi, .int .u8 mr, .int .i64 mw, .int .i64 mg] 140)).heap[w.heap.size + 1]? = some (.cells #[.int .i64 (lastId 0 (l.take k))] 3 (0, 0)) := by
          rw [Below.heap_alloc _ _ _ hlt1]; exact HC.out
        have hfit := fits_any _ _ _ mi mr mw mg hcc
        have HFIT : Hid (Calls Tryd.prog 87 #[.agg #[.int .i64 mi, .int .u8 mr, .int .i64 mw, .int .i64 mg], .pointer (some ⟨w.heap.size + 1, 0, none⟩)] (wr.alloc (.cells #[.int .i64 mi, .int .u8 mr, .int .i64 mw, .int .i64 mg] 140)) fun e w' => e = .returned (.bool (fitOne (lastId 0 (l.take k)) ⟨mi, mr, mw, mg⟩)) ∧ w'.heap[w.heap.size + 1]? = some (.cells #[.int .i64 mi] 3 (0, 0)) ∧ Chg (fun j => j = w.heap.size + 1) (wr.alloc (.cells #[.int .i64 mi, .int .u8 mr, .int .i64 mw, .int .i64 mg] 140)) w') := hfit
        clear hcc hfit
        have hBa := HB.out.alloc (by have := HB.out.size; omega) (.cells #[.int .i64 mi, .int .u8 mr, .int .i64 mw, .int .i64 mg] 140)
        have HBa : Hid (Below w.heap.size w (wr.alloc (.cells #[.int .i64 mi, .int .u8 mr, .int .i64 mw, .int .i64 mg] 140))) := hBa
        clear hBa
        cases hfo : fitOne (lastId 0 (l.take k)) ⟨mi, mr, mw, mg⟩ with
        | false =>
          rw [hfo] at HFIT
          have hfalse : fitAll 0 l = false := by rw [HS.out, fitAll_mid, hfo]; simp
          have HFF : Hid (fitAll 0 l = false) := hfalse
          clear hfalse hfo
          go_wp2_with fail
          refine HFIT.out.mono ?_
          rintro e w2 ⟨rfl, hc2, hch2⟩
          clear hc2
          go_wp2
          go_ret
          exact ⟨ret_b (by rw [HFF.out]; rfl), HBa.out.trans (hch2.below (fun j e => by have : j = w.heap.size + 1 := e; omega) (by have := HBa.out.size; omega))⟩
        | true =>
          rw [hfo] at HFIT
          have hfa : fitAll 0 (l.take (k + 1)) = true := by rw [HT.out, fitAll_mid, hfo, HFA.out]; simp [fitAll]
          have hli : lastId 0 (l.take (k + 1)) = mi := by rw [HT.out, lastId_snoc]
          have hhv : heavy (l.take (k + 1)) = (heavy (l.take k) || decide (0 < mw)) := by rw [HT.out, heavy_snoc]
          have HFA1 : Hid (fitAll 0 (l.take (k + 1)) = true) := hfa
          have HLI : Hid (lastId 0 (l.take (k + 1)) = mi) := hli
          have HHV : Hid (heavy (l.take (k + 1)) = (heavy (l.take k) || decide (0 < mw))) := hhv
          clear hfo hfa hli hhv
          cases hhk : heavy (l.take k) with
          | true =>
            go_wp2_with fail
            refine HFIT.out.mono ?_
            rintro e w2 ⟨rfl, hc2, hch2⟩
            have HC2 : Hid (w2.heap[w.heap.size + 1]? = some (.cells #[.int .i64 mi] 3 (0, 0))) := hc2
            clear hc2
            go_wp2
            refine ⟨⟨k + 1, by go_num, by rw [HHV.out, hhk]; rfl, by omega, HFA1.out, by rw [HLI.out]; exact HC2.out, HBa.out.trans (hch2.below (fun j e => by have : j = w.heap.size + 1 := e; omega) (by have := HBa.out.size; omega))⟩, by simp [intOf]; omega⟩
          | false =>
            go_wp2_with fail
            refine HFIT.out.mono ?_
            rintro e w2 ⟨rfl, hc2, hch2⟩
            have HC2 : Hid (w2.heap[w.heap.size + 1]? = some (.cells #[.int .i64 mi] 3 (0, 0))) := hc2
            have hw2 : w2.cell? ⟨wr.heap.size, 2, none⟩ = some (.int .i64 mw) := by
              rw [hch2.cell (a := ⟨wr.heap.size, 2, none⟩) (by simp) (fun e => by have : wr.heap.size = w.heap.size + 1 := e; omega), cell_at (heap_alloc_new wr _)]; rfl
            clear hc2
            go_wp2
            refine ⟨⟨k + 1, by go_num, by rw [HHV.out, hhk]; rfl, by omega, HFA1.out, by rw [HLI.out]; exact HC2.out, HBa.out.trans (hch2.below (fun j e => by have : j = w.heap.size + 1 := e; omega) (by have := HBa.out.size; omega))⟩, by simp [intOf]; omega⟩
      · have hkk : k = l.length := by omega
        subst hkk
        rw [List.take_length] at HFA
        go_wp2
        go_ret
        exact ⟨ret_b (by rw [HFA.out, List.take_length]; rfl), HB.out⟩
  · have e : mayB ver l = false := by
      unfold mayB
      rcases Classical.not_and_iff_not_or_not.1 hv with h | h <;> simp [h]
    rw [e]
    clear e
    by_cases hv1 : ver < 0
    · go_enter Tryd.func72, Tryd.ntmps72
      go_wp2
      go_ret
      exact ⟨rfl, (Below.refl _ _).alloc (Nat.le_refl _) _⟩
    · have hv2 : 4611686018427387904 < ver := by omega
      clear hv
      go_enter Tryd.func72, Tryd.ntmps72
      go_wp2
      go_ret
      exact ⟨rfl, (Below.refl _ _).alloc (Nat.le_refl _) _⟩
theorem check_any {w : World} {v : Value} {l : List Mem} (h : Mems w v l) (ver : Int) :
    Calls Tryd.prog 57 #[.agg #[.int .i64 ver, v]] w fun e w' => e = .returned (.int .i64 (chk ver l)) ∧ Below w.heap.size w w' := by
  have HM : Hid (Mems w v l) := h
  obtain ⟨A, C, rfl⟩ := h.form
  clear h
  by_cases h7 : 7 < l.length
  · have e : chk ver l = 3 := by unfold chk; rw [if_pos h7]
    have h7' : (7 : Int) < l.length := by omega
    rw [e]
    clear e
    go_enter Tryd.func57, Tryd.ntmps57
    go_wp2
    go_ret
    exact ⟨rfl, (Below.refl _ _).alloc (Nat.le_refl _) _⟩
  · have h7' : ¬ (7 : Int) < l.length := by omega
    have hB1 : Below w.heap.size w (w.alloc (.cells #[.int .i64 ver, .slice A l.length C] 29)) := (Below.refl _ _).alloc (Nat.le_refl _) _
    have hm := mayBe_any (HM.out.below' hB1) ver (by omega)
    have HMY : Hid (Calls Tryd.prog 72 #[.agg #[.int .i64 ver, .slice A l.length C]] (w.alloc (.cells #[.int .i64 ver, .slice A l.length C] 29)) fun e w' => e = .returned (.bool (mayB ver l)) ∧ Below (w.alloc (.cells #[.int .i64 ver, .slice A l.length C] 29)).heap.size (w.alloc (.cells #[.int .i64 ver, .slice A l.length C] 29)) w') := hm
    clear hm
    cases hmy : mayB ver l with
    | true =>
      have e : chk ver l = 0 := by unfold chk; rw [if_neg h7, if_pos hmy]
      rw [hmy] at HMY
      rw [e]
      clear e hmy
      go_enter Tryd.func57, Tryd.ntmps57
      go_wp2_with fail
      refine HMY.out.mono ?_
      rintro e w2 ⟨rfl, hB2⟩
      go_wp2
      go_ret
      exact ⟨rfl, hB1.trans (hB2.mono (by simp))⟩
    | false =>
      have e : chk ver l = 140 := by unfold chk; rw [if_neg h7, if_neg (by rw [hmy]; decide)]
      rw [hmy] at HMY
      rw [e]
      clear e hmy
      go_enter Tryd.func57, Tryd.ntmps57
      go_wp2_with fail
      refine HMY.out.mono ?_
      rintro e w2 ⟨rfl, hB2⟩
      go_wp2
      go_ret
      exact ⟨rfl, hB1.trans (hB2.mono (by simp))⟩
end Go.Proofs.YtkbmbnfpadllmaaDoor
/- The walks of servers that are there, of weights by groups, and of quorums. -/
namespace Go.Proofs.YtkbmbnfpadllmaaDoor
open Go.RowKit

/- Numbers in memory. -/
def Ns (w : World) (v : Value) (l : List Int) : Prop :=
  (v = .slice none 0 0 ∧ l = []) ∨ (∃ ad c, v = .slice (some ad) 0 c ∧ l = []) ∨ (0 < l.length ∧ ∃ b o c, v = .slice (some ⟨b, o, none⟩) l.length c ∧ l.length ≤ c ∧ b < w.heap.size ∧
    ∀ j (h : j < l.length), w.cell? ⟨b, o + j, none⟩ = some (.int .i64 (l[j]'h)))
theorem Ns.nil (w : World) : Ns w (.slice none 0 0) [] := .inl ⟨rfl, rfl⟩
theorem Ns.form {w : World} {v : Value} {l : List Int} (h : Ns w v l) : ∃ A C, v = .slice A l.length C := by
  rcases h with ⟨rfl, rfl⟩ | ⟨ad, c, rfl, rfl⟩ | ⟨_, b, o, c, rfl, _⟩
  · exact ⟨none, 0, rfl⟩
  · exact ⟨_, _, rfl⟩
  · exact ⟨_, _, rfl⟩
theorem Ns.keep {S : Nat → Prop} {w w' : World} {v : Value} {l : List Int} (h : Ns w v l) (hc : Chg S w w') (hn : ∀ k, bk v = some k → ¬ S k) : Ns w' v l := by
  rcases h with h | h | ⟨h0, b, o, c, rfl, h1, h2, h3⟩
  · exact .inl h
  · exact .inr (.inl h)
  · refine .inr (.inr ⟨h0, b, o, c, rfl, h1, hc.lt_of h2, fun j hj => ?_⟩)
    rw [hc.cell (a := ⟨b, o + j, none⟩) h2 (hn b (bk_pos h0))]
    exact h3 j hj
theorem Ns.lt {w : World} {v : Value} {l : List Int} (h : Ns w v l) {k : Nat} (hk : bk v = some k) : k < w.heap.size := by
  rcases h with ⟨rfl, _⟩ | ⟨ad, c, rfl, _⟩ | ⟨h0, b, o, c, rfl, _, h2, _⟩
  · exact absurd hk (bk_zero _ _ _)
  · exact absurd hk (bk_zero _ _ _)
  · rw [bk_pos h0] at hk; cases hk; exact h2
theorem Ns.below {w w' : World} {B : Nat} {v : Value} {l : List Int} (h : Ns w v l) (hb : Below B w w') (hk : ∀ k, bk v = some k → k < B) : Ns w' v l := by
  rcases h with h | h | ⟨h0, b, o, c, rfl, h1, h2, h3⟩
  · exact .inl h
  · exact .inr (.inl h)
  · refine .inr (.inr ⟨h0, b, o, c, rfl, h1, Nat.lt_of_lt_of_le h2 hb.size, fun j hj => ?_⟩)
    rw [hb.cell (p := ⟨b, o + j, none⟩) (hk b (bk_pos h0))]
    exact h3 j hj
theorem Ns.below' {w w' : World} {v : Value} {l : List Int} (h : Ns w v l) (hb : Below w.heap.size w w') : Ns w' v l := h.below hb (fun _ hk => h.lt hk)
theorem Ns.drew {w : World} {v : Value} {l : List Int} (h : Ns w v l) : Ns w.drew v l := h.keep (Chg.drew Non w) (fun _ _ => id)
theorem Mems.drew {w : World} {v : Value} {l : List Mem} (h : Mems w v l) : Mems w.drew v l := h.keep (Chg.drew Non w) (fun _ _ => id)
theorem Ns.at' {w : World} {A : Option Addr} {n C : Nat} {l : List Int} (h : Ns w (.slice A n C) l) (j : Nat) (hj : j < l.length) : ∃ b o, A = some ⟨b, o, none⟩ ∧ b < w.heap.size ∧ w.cell? ⟨b, o + j, none⟩ = some (.int .i64 (l[j]'hj)) := by
  rcases h with ⟨_, rfl⟩ | ⟨_, _, _, rfl⟩ | ⟨_, b, o, c, he, _, h2, h3⟩
  · simp at hj
  · simp at hj
  · cases he
    exact ⟨b, o, rfl, h2, h3 j hj⟩
/- Which of the servers 1 to 7 are there. -/
def th (l : List Int) (i : Nat) : Bool := decide (0 < i) && l.contains (i : Int)
def thA (l : List Int) : Array Value := #[.bool (th l 0), .bool (th l 1), .bool (th l 2), .bool (th l 3), .bool (th l 4), .bool (th l 5), .bool (th l 6), .bool (th l 7)]
theorem lt8 {P : Nat → Prop} (h0 : P 0) (h1 : P 1) (h2 : P 2) (h3 : P 3) (h4 : P 4) (h5 : P 5) (h6 : P 6) (h7 : P 7) (n : Nat) (hn : n < 8) : P n := by
  have : n = 0 ∨ n = 1 ∨ n = 2 ∨ n = 3 ∨ n = 4 ∨ n = 5 ∨ n = 6 ∨ n = 7 := by omega
  rcases this with rfl | rfl | rfl | rfl | rfl | rfl | rfl | rfl <;> assumption
theorem thA_get (l : List Int) (n : Nat) (hn : n < 8) : (thA l)[n]? = some (.bool (th l n)) := by
  revert hn; exact fun hn => lt8 (P := fun n => (thA l)[n]? = some (.bool (th l n))) rfl rfl rfl rfl rfl rfl rfl rfl n hn
theorem thA_ext {l : List Int} {a : Array Value} (hs : a.size = 8) (h : ∀ n, n < 8 → a[n]? = some (.bool (th l n))) : a = thA l := by
  apply Array.ext_getElem?
  intro i
  by_cases hi : i < 8
  · rw [h i hi, thA_get l i hi]
  · rw [Array.getElem?_eq_none (by omega), Array.getElem?_eq_none (by show 8 ≤ i; omega)]
theorem th_snoc (l : List Int) (x : Int) (i : Nat) : th (l ++ [x]) i = (th l i || (decide (0 < i) && decide ((i : Int) = x))) := by
  unfold th
  rw [Bool.eq_iff_iff]
  simp
  by_cases h : 0 < i <;> simp [h]
theorem thA_set (l : List Int) (n : Nat) (h0 : 0 < n) (hn : n < 8) : (thA l).setIfInBounds n (.bool true) = thA (l ++ [(n : Int)]) := by
  refine thA_ext (by rw [Array.size_setIfInBounds]; rfl) fun i hi => ?_
  rw [Array.getElem?_setIfInBounds, th_snoc]
  by_cases e : n = i
  · subst e
    rw [if_pos rfl, if_pos (by show n < 8; exact hn)]
    simp [h0]
  · rw [if_neg e, thA_get l i hi]
    have : decide ((i : Int) = (n : Int)) = false := decide_eq_false (by omega)
    rw [this]; simp
theorem thA_skip (l : List Int) (x : Int) (h : ¬ (0 < x ∧ x ≤ 7)) : thA (l ++ [x]) = thA l := by
  symm
  refine thA_ext rfl fun i hi => ?_
  rw [thA_get l i hi, th_snoc]
  have : (decide (0 < i) && decide ((i : Int) = x)) = false := by
    rw [Bool.and_eq_false_iff]
    by_cases h1 : 0 < i
    · exact .inr (decide_eq_false (by omega))
    · exact .inl (decide_eq_false h1)
  rw [this, Bool.or_false]
theorem takeN {l : List Int} {k : Nat} (h : k < l.length) : l.take (k + 1) = l.take k ++ [l[k]'h] := List.take_succ_eq_append_getElem h
/- Weights by groups. -/
def wtA (f : Nat → Int) : Array Value := #[.int .i64 (f 0), .int .i64 (f 1), .int .i64 (f 2), .int .i64 (f 3), .int .i64 (f 4), .int .i64 (f 5), .int .i64 (f 6)]
theorem lt7 {P : Nat → Prop} (h0 : P 0) (h1 : P 1) (h2 : P 2) (h3 : P 3) (h4 : P 4) (h5 : P 5) (h6 : P 6) (n : Nat) (hn : n < 7) : P n := by
  have : n = 0 ∨ n = 1 ∨ n = 2 ∨ n = 3 ∨ n = 4 ∨ n = 5 ∨ n = 6 := by omega
  rcases this with rfl | rfl | rfl | rfl | rfl | rfl | rfl <;> assumption
theorem wtA_get (f : Nat → Int) (n : Nat) (hn : n < 7) : (wtA f)[n]? = some (.int .i64 (f n)) :=
  lt7 (P := fun n => (wtA f)[n]? = some (.int .i64 (f n))) rfl rfl rfl rfl rfl rfl rfl n hn
theorem wtA_ext {f : Nat → Int} {a : Array Value} (hs : a.size = 7) (h : ∀ n, n < 7 → a[n]? = some (.int .i64 (f n))) : a = wtA f := by
  apply Array.ext_getElem?
  intro i
  by_cases hi : i < 7
  · rw [h i hi, wtA_get f i hi]
  · rw [Array.getElem?_eq_none (by omega), Array.getElem?_eq_none (by show 7 ≤ i; omega)]
theorem wtA_set (f g : Nat → Int) (n : Nat) (hn : n < 7) (h1 : ∀ i, i ≠ n → g i = f i) : (wtA f).setIfInBounds n (.int .i64 (g n)) = wtA g := by
  refine wtA_ext (by rw [Array.size_setIfInBounds]; rfl) fun i hi => ?_
  rw [Array.getElem?_setIfInBounds]
  by_cases e : n = i
  · subst e
    rw [if_pos rfl, if_pos (by show n < 7; exact hn)]
  · rw [if_neg e, wtA_get f i hi, h1 i (fun h => e h.symm)]
/- What the groups weigh behind one member more. -/
theorem wsum_snoc (p : Mem → Bool) : ∀ (a : List Mem) (m : Mem), wsum p (a ++ [m]) = wsum p a + if p m then m.weight else 0
  | [], m => by simp [wsum]
  | x :: a, m => by rw [List.cons_append, wsum, wsum_snoc p a m, wsum]; omega
theorem wsum_bd (p : Mem → Bool) : ∀ (l : List Mem), (∀ m ∈ l, 0 ≤ m.weight ∧ m.weight ≤ 1000) → 0 ≤ wsum p l ∧ wsum p l ≤ 1000 * (l.length : Int)
  | [], _ => by simp [wsum]
  | m :: l, h => by
    have h1 := wsum_bd p l (fun x hx => h x (List.mem_cons_of_mem _ hx))
    have h2 := h m List.mem_cons_self
    simp only [wsum, List.length_cons]
    split <;> omega
theorem whole_snoc (a : List Mem) (m : Mem) (g : Nat) : whole (a ++ [m]) g = whole a g + if m.group = (g : Int) then m.weight else 0 := by
  unfold whole; rw [wsum_snoc]; simp
theorem part_snoc (ids : List Int) (a : List Mem) (m : Mem) (g : Nat) : part ids (a ++ [m]) g = part ids a g + if m.group = (g : Int) ∧ ids.contains m.id = true then m.weight else 0 := by
  unfold part; rw [wsum_snoc]; simp
theorem th_in (ids : List Int) (n : Nat) (h : 0 < n) : th ids n = ids.contains (n : Int) := by unfold th; simp [h]
def Cfg := Int × List Mem
/- Configs in memory, all of it below block B. -/
def Cfgs (w : World) (B : Nat) (v : Value) (l : List Cfg) : Prop :=
  (v = .slice none 0 0 ∧ l = []) ∨ (∃ ad c, v = .slice (some ad) 0 c ∧ l = []) ∨ (0 < l.length ∧ ∃ b o c, v = .slice (some ⟨b, o, none⟩) l.length c ∧ l.length ≤ c ∧ b < B ∧ B ≤ w.heap.size ∧
    ∀ j (h : j < l.length), w.cell? ⟨b, o + j * 2, none⟩ = some (.int .i64 (l[j]'h).1) ∧ ∃ A C, w.cell? ⟨b, o + j * 2 + 1, none⟩ = some (.slice A (l[j]'h).2.length C) ∧ Mems w (.slice A (l[j]'h).2.length C) (l[j]'h).2 ∧ (∀ k, bk (.slice A (l[j]'h).2.length C) = some k → k < B))
theorem Cfgs.form {w : World} {B : Nat} {v : Value} {l : List Cfg} (h : Cfgs w B v l) : ∃ A C, v = .slice A l.length C := by
  rcases h with ⟨rfl, rfl⟩ | ⟨ad, c, rfl, rfl⟩ | ⟨_, b, o, c, rfl, _⟩
  · exact ⟨none, 0, rfl⟩
  · exact ⟨_, _, rfl⟩
  · exact ⟨_, _, rfl⟩
theorem Cfgs.below {w w' : World} {B : Nat} {v : Value} {l : List Cfg} (h : Cfgs w B v l) (hb : Below B w w') : Cfgs w' B v l := by
  rcases h with h | h | ⟨h0, b, o, c, rfl, h1, h2, h3, h4⟩
  · exact .inl h
  · exact .inr (.inl h)
  · refine .inr (.inr ⟨h0, b, o, c, rfl, h1, h2, Nat.le_trans h3 hb.size, fun j hj => ?_⟩)
    obtain ⟨c1, A, C, c3, c4, c5⟩ := h4 j hj
    exact ⟨by rw [hb.cell (p := ⟨b, o + j * 2, none⟩) h2]; exact c1, A, C, by rw [hb.cell (p := ⟨b, o + j * 2 + 1, none⟩) h2]; exact c3, c4.below hb c5, c5⟩
theorem Cfgs.at' {w : World} {B n : Nat} {A : Option Addr} {C : Nat} {l : List Cfg} (h : Cfgs w B (.slice A n C) l) (j : Nat) (hj : j < l.length) : ∃ b o, A = some ⟨b, o, none⟩ ∧ b < B ∧ B ≤ w.heap.size ∧
    w.cell? ⟨b, o + j * 2, none⟩ = some (.int .i64 (l[j]'hj).1) ∧ ∃ A C, w.cell? ⟨b, o + j * 2 + 1, none⟩ = some (.slice A (l[j]'hj).2.length C) ∧ Mems w (.slice A (l[j]'hj).2.length C) (l[j]'hj).2 ∧ (∀ k, bk (.slice A (l[j]'hj).2.length C) = some k → k < B) := by
  rcases h with ⟨_, rfl⟩ | ⟨_, _, _, rfl⟩ | ⟨_, b, o, c, he, _, h2, h3, h4⟩
  · simp at hj
  · simp at hj
  · cases he
    exact ⟨b, o, rfl, h2, h3, h4 j hj⟩
def allQ (l : List Cfg) (ids : List Int) : Bool := decide (0 < l.length) && l.all fun e => quoB e.1 e.2 ids
end Go.Proofs.YtkbmbnfpadllmaaDoor
