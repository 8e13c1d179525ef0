/- The frames that bytes begin with, told one by one: the function that is ranged over. -/
import Derived.Test.YtaeoafedfgbcaaaGreatDoorSgBa
import Derived.Test.YtaeoafedfgbcaaaGreatDoorWalksHa
namespace Go.Proofs.YtaeoafedfgbcaaaGreatDoor.DD
set_option linter.unusedVariables false
open Go.RowKit Go.Shelf
attribute [local go_sem] Oper.semAt_some
set_option linter.unusedVariables false

theorem bs_drop {w : World} {A : Option Addr} {n C : Nat} {l : List UInt8} (h : Bs w (.slice A n C) l) (k : Nat) (hk : k ≤ l.length) (hp : 0 < l.length) :
    ∃ b o, A = some ⟨b, o, none⟩ ∧ l.length ≤ C ∧ n = l.length ∧ Bs w (.slice (some ⟨b, o + k, none⟩) (l.length - k) (l.length - k)) (l.drop k) := by
  rcases h with ⟨h, rfl⟩ | ⟨ad, c, h, rfl⟩ | ⟨h0, b, o, c, hv, h1, h2, h3⟩
  · simp at hp
  · simp at hp
  · cases hv
    refine ⟨b, o, rfl, h1, rfl, Bs.mk b (o + k) _ (by simp) (by simp) h2 (fun j hj => ?_)⟩
    rw [List.length_drop] at hj
    rw [Nat.add_assoc, h3 (k + j) (by omega)]
    simp

structure Itm where
  v : Value
  b : List UInt8
def encF (x : Itm × Nat) : Array Value := #[x.1.v, .int .i64 x.2]
def HxF (l : List UInt8) (x : Itm × Nat) (t t' : Nat) (W : World) : Prop := unframe (l.drop t) = some x.1.b ∧ Bs W x.1.v x.1.b ∧ x.2 = t' ∧ t' = t + (8 + x.1.b.length)
def FinF (l : List UInt8) (t : Nat) : Prop := unframe (l.drop t) = none

set_option maxRecDepth 100000 in
set_option maxHeartbeats 4000000 in
theorem frames1_seq {w : World} {A : Option Addr} {C n0 bb n : Nat} {l : List UInt8} (hl : l.length ≤ 140737488355328) (hbb : bb < w.heap.size) (hn0 : n0 ≤ w.heap.size) (hc : w.cell? ⟨bb, 0, none⟩ = some (.slice A l.length C)) (hx : Bs w (.slice A l.length C) l) (hk : ∀ k, bk (.slice A l.length C) = some k → k < n0) :
    SeqM Tryz.prog 20 #[.pointer (some ⟨bb, 0, none⟩)] n n0 encF (HxF l) (FinF l) 0 w := by
  intro L J Jx W hB hJ hY h0
  have hcW : W.cell? ⟨bb, 0, none⟩ = some (.slice A l.length C) := (hB.cell (p := ⟨bb, 0, none⟩) (by show bb < _; omega)).trans hc
  have HXW : Hid (Bs W (.slice A l.length C) l) := Bs.below hx hB (fun k hk' => hx.lt hk')
  have HK : Hid (∀ k, bk (.slice A l.length C) = some k → k < n0) := hk
  have HJ : Hid (∀ s A B, J s A → Below A.heap.size A B → J s B) := hJ
  have HY : Hid _ := hY
  have H0 : Hid (J 0 W) := h0
  have hnW : n0 ≤ W.heap.size := Nat.le_trans hn0 hB.size
  clear hx hk hJ hY h0 hc hB hn0
  refine callsIn_of_wp Tryz.func20 rfl trivial ?_ rfl
  simp only [Tryz.ntmps20, List.size_toArray, List.length_cons, List.length_nil, Nat.reduceAdd, Nat.reduceSub, Array.replicate_succ, Array.replicate_zero, List.push_toArray, List.append_toArray, List.nil_append, List.cons_append]
  gi_wp2
  gi_loopw [3, 4] (fun vl ve wr => ∃ (t : Nat) (A' : Option Addr) (C' : Nat), t ≤ l.length ∧ vl = .slice A' (l.length - t) C' ∧ ve = .int .i64 t ∧ J t wr ∧ Bs wr vl (l.drop t) ∧ (∀ k, bk vl = some k → k < n0) ∧ n0 ≤ wr.heap.size)
    (fun _ ve _ => l.length - (intOf ve).toNat)
  case atStart => exact ⟨0, A, C, by omega, rfl, rfl, H0.out, HXW.out, HK.out, hnW⟩
  case round =>
    obtain ⟨t, A', C', ht, rfl, rfl, hJr, hBr, hkr, hnr⟩ := hrel
    have HJr : Hid (J t wr) := hJr
    have HBr : Hid (Bs wr (.slice A' (l.length - t) C') (l.drop t)) := hBr
    have HKr : Hid (∀ k, bk (.slice A' (l.length - t) C') = some k → k < n0) := hkr
    clear hJr hBr hkr H0 HXW HK hcW hnW
    by_cases hlt : t < l.length
    · have hpos : (0 : Int) < ((l.length - t : Nat) : Int) := by omega
      have hdl : (l.drop t).length = l.length - t := List.length_drop
      have hu := unframe_any HBr.out (by omega)
      cases hun : unframe (l.drop t) with
      | none =>
        rw [hun] at hu
        gi_wp2
        refine ⟨trivial, (fun h => (by cases h)), (callsIn_wide.2 hu).mono ?_⟩
        rintro e w1 ⟨rfl, hB1⟩
        have HJ1 : Hid (J t w1) := HJ.out _ _ _ HJr.out hB1
        clear hu hB1
        gi_wp2
        refine bodyPost_ret (results_none rfl _ _ _) rfl ?_
        exact ⟨⟨_, rfl⟩, .inl ⟨t, hun, HJ1.out⟩⟩
      | some x =>
        rw [hun] at hu
        have hxl := (unframe_some hun).2.1
        gi_wp2
        refine ⟨trivial, (fun h => (by cases h)), (callsIn_wide.2 hu).mono ?_⟩
        rintro e w1 ⟨v, w0, rfl, hN1, hB1, hs1⟩
        have HJ1 : Hid (J t w1) := HJ.out _ _ _ HJr.out hB1
        have HB1 : Hid (Bs w1 v x) := hN1.bs
        have hn1 : n0 ≤ w1.heap.size := Nat.le_trans hnr hB1.size
        have HBl : Hid (Bs w1 (.slice A' (l.length - t) C') (l.drop t)) := Bs.below HBr.out hB1 (fun k hk' => HBr.out.lt hk')
        obtain ⟨fn, tmps, assign, body, hy, hR⟩ := HY.out t (t + (8 + x.length)) (⟨v, x⟩, t + (8 + x.length)) w1 HJ1.out ⟨hun, HB1.out, rfl, rfl⟩
        clear hu hN1 hB1
        unfold encF at hy
        dsimp only at hy
        rw [show ((t + (8 + x.length) : Nat) : Int) = (t : Int) + (8 + (x.length : Int)) by omega] at hy
        gi_wp2
        refine ⟨(fun h => (by cases h)), hR.mono ?_⟩
        clear hR hy
        rintro e W3 (⟨rfl, hJ3, hk3⟩ | ⟨rfl, hJx3⟩)
        · have HJ3 : Hid (J (t + (8 + x.length)) W3) := hJ3
          have hB3 : Bs W3 (.slice A' (l.length - t) C') (l.drop t) := Bs.below HBl.out hk3 HKr.out
          have hn3 : n0 ≤ W3.heap.size := Nat.le_trans hn1 hk3.size
          obtain ⟨b0, o0, rfl, hC0, -, hD0⟩ := bs_drop hB3 (8 + x.length) (by omega) (by omega)
          have HD0 : Hid (Bs W3 (.slice (some ⟨b0, o0 + (8 + x.length), none⟩) (l.length - (t + (8 + x.length))) (l.length - (t + (8 + x.length)))) (l.drop (t + (8 + x.length)))) := by
            show Bs _ _ _
            rw [hdl, List.drop_drop] at hD0
            rw [show l.length - (t + (8 + x.length)) = l.length - t - (8 + x.length) by omega]
            exact hD0
          rw [hdl] at hC0 hxl
          have e1 : (8 : Int) + (x.length : Int) ≤ ((l.length - t : Nat) : Int) := by omega
          have e2 : ((l.length - t : Nat) : Int) ≤ (C' : Int) := by omega
          have e3 : (0 : Int) ≤ 8 + (x.length : Int) := by omega
          clear hJ3 hk3 hB3 hD0 HBl HBr HJr HJ1 HB1
          gi_wp2
          have hm : (intOf (Value.int IntKind.i64 ((t : Int) + (8 + (x.length : Int))))).toNat = t + (8 + x.length) := by simp only [intOf]; omega
          have hm2 : (intOf (Value.int IntKind.i64 (t : Int))).toNat = t := by simp only [intOf]; omega
          have hb0 : b0 < n0 := by
            have h := HKr.out
            obtain ⟨q, hq⟩ : ∃ q, l.length - t = q + 1 := ⟨l.length - t - 1, by omega⟩
            rw [hq] at h
            exact h b0 rfl
          refine ⟨⟨t + (8 + x.length), (if l.length - t = 8 + x.length then some ⟨b0, o0, none⟩ else some ⟨b0, o0 + (8 + x.length), none⟩), l.length - t - (8 + x.length), by omega, by rw [show l.length - (t + (8 + x.length)) = l.length - t - (8 + x.length) by omega], by simp, HJ3.out, ?_, ?_, hn3⟩, by rw [hm, hm2]; omega⟩
          · by_cases hz : l.length - t = 8 + x.length
            · rw [if_pos hz, List.drop_eq_nil_of_le (by omega), hz, Nat.sub_self]
              exact .inr (.inl ⟨_, _, rfl, rfl⟩)
            · rw [if_neg hz, show l.length - t - (8 + x.length) = l.length - (t + (8 + x.length)) by omega]
              exact HD0.out
          · intro k hk
            by_cases hz : l.length - t = 8 + x.length
            · rw [if_pos hz, hz, Nat.sub_self] at hk; cases hk <;> exact hb0
            · rw [if_neg hz] at hk
              have hk2 := bk_blk hk
              have hk3 : some b0 = some k := hk2
              cases hk3
              exact hb0
        · have HJx3 : Hid (Jx W3) := hJx3
          clear hJx3
          gi_wp2
          refine bodyPost_ret (results_none rfl _ _ _) rfl ?_
          exact ⟨⟨_, rfl⟩, .inr HJx3.out⟩
    · have e0 : t = l.length := by omega
      have hun : unframe (l.drop t) = none := by rw [e0, List.drop_length]; decide
      have hpos : ¬ (0 : Int) < ((l.length - t : Nat) : Int) := by omega
      gi_wp2
      go_end0
      exact ⟨⟨_, rfl⟩, .inl ⟨t, hun, HJr.out⟩⟩
end Go.Proofs.YtaeoafedfgbcaaaGreatDoor.DD
