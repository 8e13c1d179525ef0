/- TreeAgain. -/
import Derived.Test.YtcdnfgibcochhaaGreatDoorTrWb
import Derived.Deep.CutRange
import Derived.Deep.CutBlock
namespace Go.Proofs.YtcdnfgibcochhaaGreatDoor
set_option linter.unusedSimpArgs false
set_option linter.unusedVariables false
set_option linter.unusedSimpArgs false
set_option linter.unusedVariables false
open Go.RowKit Go.MapKept

theorem row_fits {w : World} {base n : Nat} {T : TypeId} {sz : Nat} {A : Option Addr} {C : Nat} {xs : List Value} (h : w.ownsRow base T sz (.slice A n C) n xs) : n ≤ C := by
  rcases h.2 with ⟨hv, h0⟩ | ⟨g, cap, cur, hv, hb, hg, h1, h2, h3, h4⟩
  · omega
  · cases hv; exact h1
/- The deeds that were numbered, as they lie. -/
structure Nd (w : World) (A : Option Addr) (E : List DD.El2) (C : Nat) : Prop where
  laid : PA.Laid w
  row : DD.Rowed w A E C
  el : ∀ e ∈ E, DD.DV w e ∧ DedFit e.p.1 e.p.2
  len : E.length ≤ 60
  cap : E.length ≤ C
theorem Nd.below {w w' : World} {A : Option Addr} {E : List DD.El2} {C : Nat} (h : Nd w A E C) (hB : Below w.heap.size w w') : Nd w' A E C :=
  ⟨h.laid.below hB, h.row.grow hB, fun e he => ⟨(h.el e he).1.grow hB, (h.el e he).2⟩, h.len, h.cap⟩
theorem Nd.done {w : World} {A : Option Addr} {E : List DD.El2} {C : Nat} (h : Nd w A E C) (k : Nat) (hk : k ≤ E.length) :
    Calls Tryz.prog 26 #[.slice A k C] w fun e w' => ∃ t m n, e = .returned (.pointer (some ⟨t, 0, none⟩)) ∧ Tr w' t m n (runN ((E.map (·.p)).take k) [rootF]) (runS ((E.map (·.p)).take k) []) ∧ (∀ k, Wt t m n k → w.heap.size ≤ k) ∧ Below w.heap.size w w' := by
  have hl : (E.take k).length = k := by rw [List.length_take]; omega
  have h1 := done_any h.laid (h.row.take k hk) (fun e he => h.el e (List.mem_of_mem_take he)) (by have := h.len; omega)
  rw [hl, List.map_take] at h1
  exact h1
theorem zip_one {α β : Type} (a : List α) (b : List β) (x : α) (y : β) (h : a.length = b.length) : (a ++ [x]).zip (b ++ [y]) = a.zip b ++ [(x, y)] := by
  rw [List.zip_append h]; rfl
theorem RowS.keep_t {w w' : World} {t m n : Nat} {N : List Fi} {S : List Si.Fi} (hT : Tr w t m n N S) (hc : Chg (fun k => k = t) w w') {A : Option Addr} {l : List Si.Fi} {C : Nat} (h : RowS w A l C) : RowS w' A l C := by
  rcases h with h | ⟨b, o, h1, h2, h3, h4⟩
  · exact .inl h
  · refine .inr ⟨b, o, h1, Nat.lt_of_lt_of_le h2 hc.size, h3, fun i hi j hj => ?_⟩
    have hv := h4 i hi j hj
    have hx : ∃ v, (sitV (l[i]'hi))[j]? = some v ∧ ∀ a, v ≠ .map a := by
      match j, hj with
      | 0, _ => exact ⟨_, rfl, fun a e => by cases e⟩
      | 1, _ => exact ⟨_, rfl, fun a e => by cases e⟩
      | 2, _ => exact ⟨_, rfl, fun a e => by cases e⟩
    obtain ⟨v, hv2, hm⟩ := hx
    rw [hv2] at hv ⊢
    exact cell_t hT hc hv hm
theorem drop_next {α : Type} (P : List α) (f i : Nat) (hf : f ≤ i) (hi : i < P.length) : (P.take (i + 1)).drop f = (P.take i).drop f ++ [P[i]'hi] := by
  rw [run_take P i hi, List.drop_append, List.length_take]
  congr 1
  rw [show f - min i P.length = 0 by omega, List.drop_zero]
def atRet (R : Option Al) (e : Ending) : Prop := match R with
  | some x => e = .returned (.tuple #[.agg (alA x), .bool true])
  | none => e = .returned (.tuple #[.agg zeroA.toArray, .bool false])
set_option maxRecDepth 100000 in
set_option maxHeartbeats 40000000 in
theorem again_any {w : World} (hL : PA.Laid w) {A : Option Addr} {E : List DD.El2} {C : Nat} (hR : DD.Rowed w A E C) (hE : ∀ e ∈ E, DD.DV w e ∧ DedFit e.p.1 e.p.2 ∧ e.p.1.np ≤ 9223372036854775807) (hl : E.length ≤ 9223372036854775807)
    (fr to_ : Int) (hfr : I64 fr) (hto : I64 to_) {A4 : Option Addr} {xs : List Int} {C4 : Nat} (hX : NRow w A4 xs) (hxl : xs.length ≤ 9223372036854775807) :
    Calls Tryz.prog 5 #[.slice A E.length C, .int .i64 fr, .int .i64 to_, .slice A4 xs.length C4] w fun e w' => e = .returned (.bool true) ∧ Below w.heap.size w w' := by
  have haw := awake_any w hL
  have HL : Hid (PA.Laid w) := hL
  have HR : Hid (DD.Rowed w A E C) := hR
  have HE : Hid (∀ e ∈ E, DD.DV w e ∧ DedFit e.p.1 e.p.2 ∧ e.p.1.np ≤ 9223372036854775807) := hE
  have HLN : Hid (E.length ≤ 9223372036854775807) := hl
  have HFT : Hid (I64 fr ∧ I64 to_) := ⟨hfr, hto⟩
  have HX : Hid (NRow w A4 xs) := hX
  have HXL : Hid (xs.length ≤ 9223372036854775807) := hxl
  clear hL hR hE hl hfr hto hX hxl
  go_enter Tryz.func5, Tryz.ntmps5
  go_wp2_with fail
  refine haw.mono ?_
  rintro e w1 ⟨rfl, hb1⟩
  have HB1 : Hid (Below w.heap.size w w1) := hb1
  have c2 := numbered_any (HL.out.below hb1) (HR.out.grow hb1) (fun e he => ⟨(HE.out e he).1.grow hb1, (HE.out e he).2⟩) HLN.out
  clear haw hb1
  go_wp2_with fail
  refine c2.mono ?_
  rintro e w2 ⟨E', A', C', rfl, hO, hN, h60, hb2⟩
  have hND : Nd w2 A' E' C' := ⟨(HL.out.below HB1.out).below hb2, rowed_of hO, fun e he => ⟨(hN e he).dv.grow hb2, (hN e he).fit⟩, h60, row_fits hO⟩
  have HND : Hid (Nd w2 A' E' C') := hND
  have HSM : Hid (∀ p ∈ E'.map (·.p), p.2.length ≤ 60) := by
    intro p hp
    obtain ⟨e, he, rfl⟩ := List.mem_map.1 hp
    have h1 := (hN e he).np
    have h2 := (hN e he).fit.len
    omega
  have HB2 : Hid (Below w.heap.size w w2) := HB1.out.trans (hb2.mono HB1.out.size)
  obtain ⟨f, hf, cf⟩ := pick_nat fr (E'.length + 1) HFT.out.1 (by omega) (by omega) w2
  rw [show ((E'.length + 1 : Nat) : Int) = (E'.length : Int) + 1 by omega] at cf
  clear c2 hO hN hb2 hND HE HR
  go_wp2_with fail
  refine cf.mono ?_
  rintro e wq ⟨rfl, hwq⟩
  obtain rfl : w2 = wq := hwq.symm
  obtain ⟨kt, hkt, ct⟩ := pick_nat to_ (E'.length + 1 - f) HFT.out.2 (by omega) (by omega) w2
  rw [show ((E'.length + 1 - f : Nat) : Int) = (E'.length : Int) + 1 - (f : Int) by omega] at ct
  clear cf
  go_wp2_with fail
  refine ct.mono ?_
  rintro e wq ⟨rfl, hwq⟩
  obtain rfl : w2 = wq := hwq.symm
  clear ct
  go_upto_region 6 with fail
  obtain ⟨t, ht⟩ : ∃ t, t = f + kt := ⟨_, rfl⟩
  rw [show (f : Int) + (kt : Int) = (t : Int) by omega]
  have htE : t ≤ E'.length := by omega
  have hft : f ≤ t := by omega
  clear ht hkt hf
  have htC : t ≤ C' := Nat.le_trans htE HND.out.cap
  have hs6 := fun wx => sliceD_run (A := A') (n := E'.length) htC wx
  have c6 := HND.out.done t htE
  go_wp2_with fail
  refine c6.mono ?_
  rintro e w6 ⟨tw, mw, nw, rfl, hT6, hW6, hb6⟩
  have HT6 : Hid (Tr w6 tw mw nw (runN ((E'.map (·.p)).take t) [rootF]) (runS ((E'.map (·.p)).take t) [])) := hT6
  have HW6 : Hid (∀ k, Wt tw mw nw k → w2.heap.size ≤ k) := hW6
  have HB6 : Hid (Below w2.heap.size w2 w6) := hb6
  clear c6 hT6 hW6 hb6 hs6
  go_upto_block 0 with fail
  have HIN : Hid (f ≤ t ∧ t ≤ E'.length) := ⟨hft, htE⟩
  go_cut [10, 11] from 44 to 56 (fun v10 v11 wx => ∃ (St : List Sl) (Ao : Option Addr) (Co : Nat), v10 = .slice Ao St.length Co ∧ St.length = t + 1 - f ∧ wx.ownsRow w6.heap.size 58 1 (.slice Ao St.length Co) St.length (St.map slV) ∧ (∀ j (h : j < St.length), St1 wx w6.heap.size (St[j]'h) (runN ((E'.map (·.p)).take (f + j)) [rootF])) ∧ Below w6.heap.size w6 wx)
  case first =>
    go_wp2_with fail
    go_loopg [10, 11] (t + 1 - f) (fun g v10 v11 wr => ∃ (St : List Sl) (Ao : Option Addr) (Co : Nat), St.length ≤ t + 1 - f ∧ g = t + 1 - f - St.length ∧ v11 = .int .i64 ((f + St.length : Nat) : Int) ∧ v10 = .slice Ao St.length Co ∧ wr.ownsRow w6.heap.size 58 1 (.slice Ao St.length Co) St.length (St.map slV) ∧ (∀ j (h : j < St.length), St1 wr w6.heap.size (St[j]'h) (runN ((E'.map (·.p)).take (f + j)) [rootF])) ∧ Below w6.heap.size w6 wr)
    case atStart => exact ⟨[], none, 0, Nat.zero_le _, rfl, rfl, rfl, World.ownsRow_nil _ _ _ _, fun j h => absurd h (Nat.not_lt_zero j), Below.refl _ _⟩
    case round =>
      obtain ⟨St, Ao, Co, hSt, hg, rfl, rfl, hO, hS1, hB⟩ := hrel
      have HG : Hid (gk = t + 1 - f - St.length) := hg
      have HO : Hid (wr.ownsRow w6.heap.size 58 1 (.slice Ao St.length Co) St.length (St.map slV)) := hO
      have HS1 : Hid (∀ j (h : j < St.length), St1 wr w6.heap.size (St[j]'h) (runN ((E'.map (·.p)).take (f + j)) [rootF])) := hS1
      have HB : Hid (Below w6.heap.size w6 wr) := hB
      clear hg hO hS1 hB
      obtain ⟨k, hk⟩ : ∃ k, k = f + St.length := ⟨_, rfl⟩
      rw [← hk]
      have HK : Hid (k = f + St.length) := hk
      by_cases hkt : k ≤ t
      case neg =>
        have hSl : St.length = t + 1 - f := by omega
        have HSL : Hid (St.length = t + 1 - f) := hSl
        have l1 : ¬ (k : Int) ≤ (t : Int) := by omega
        clear hk hSl hSt hft
        go_wp2_with fail
        go_meet
        exact ⟨St, Ao, Co, rfl, HSL.out, HO.out, HS1.out, HB.out⟩
      case pos =>
      have l1 : (k : Int) ≤ (t : Int) := by omega
      have hkC : k ≤ C' := by omega
      have hsk := fun wx => sliceD_run (A := A') (n := E'.length) hkC wx
      have c7 := ((HND.out.below HB6.out).below HB.out).done k (by omega)
      have hstl : St.length + 1 ≤ 61 := by omega
      have HSTB : Hid (St.length + 1 ≤ t + 1 - f) := by show _ ≤ _; omega
      clear hk hSt hft
      go_wp2_with fail
      refine c7.mono ?_
      rintro e w7 ⟨t7, m7, n7, rfl, hT7, hW7, hb7⟩
      have HB7 : Hid (Below w6.heap.size w6 w7) := HB.out.trans (hb7.mono HB.out.size)
      have hlen7 : (runN ((E'.map (·.p)).take k) [rootF]).length ≤ 1000000 := by
        have h1 := run_len ((E'.map (·.p)).take k) [rootF] (fun p hp => HSM.out p (List.mem_of_mem_take hp))
        rw [List.length_take, List.length_map] at h1
        simp at h1
        omega
      have c8 := hT7.all ((((HND.out.below HB6.out).below HB.out).below hb7).laid) (gr _) hlen7
      have HO7 : Hid (w7.ownsRow w6.heap.size 58 1 (.slice Ao St.length Co) St.length (St.map slV)) := towns_keep HO.out (Chg.of_below hb7) (fun _ _ => id)
      have HS7 : Hid (∀ j (h : j < St.length), St1 w7 w6.heap.size (St[j]'h) (runN ((E'.map (·.p)).take (f + j)) [rootF])) := fun j h => (HS1.out j h).below hb7
      clear c7 hT7 hW7 hb7 hsk hlen7 HO HS1 HB
      go_wp2_with fail
      refine c8.mono ?_
      rintro e w8 ⟨s, rfl, hs8, hb8⟩
      have HB8 : Hid (Below w6.heap.size w6 w8) := HB7.out.trans (hb8.mono HB7.out.size)
      have HO8 : Hid (w8.ownsRow w6.heap.size 58 1 (.slice Ao St.length Co) St.length (St.map slV)) := towns_keep HO7.out (Chg.of_below hb8) (fun _ _ => id)
      have HS8 : Hid (∀ j (h : j < St.length), St1 w8 w6.heap.size (St[j]'h) (runN ((E'.map (·.p)).take (f + j)) [rootF])) := fun j h => (HS7.out j h).below hb8
      have HSN : Hid (St1 w8 w6.heap.size s (runN ((E'.map (·.p)).take k) [rootF])) := hs8.low HB7.out.size
      obtain ⟨i0, hi, hz0, hz1, hz2⟩ := info_parts infoRow
      have hs8' : w6.heap.size ≤ w8.heap.size := HB8.out.size
      clear c8 hs8 hb8 HO7 HS7 HB7
      go_wp2_with (first
        | (at_builtin; refine wpList_append_own_at _ rfl (.tmp 49) (.tmp 55) 59 rfl w6.heap.size 58 i0 (.slice none 0 0) 1 24 Tryz.underlying59 hi hz0 hz1 hz2 rfl (by decide) _ St.length (St.map slV) rfl (HO8.out.alloc _) ⟨w8.heap.size, 0, none⟩ 1 1 [slV s] rfl rfl (cells_new w8 [slV s] 58) (slV_one [s]) (by unfold maxLen; omega) (by omega) (by simp; omega) ?_; intro v9 w9 ho9 hg9 hn9 hl9)
        | fail)
      have hgc : Chg (fun k => (Value.slice Ao St.length Co).ownBlock = some k) (w8.alloc (.cells #[slV s] 58)) w9 := Chg.of_grown hg9
      have HB9 : Hid (Below w6.heap.size w6 w9) := by
        refine (HB8.out.alloc hs8' _).trans (hgc.below (fun k hk => ?_) (by simp; omega))
        obtain ⟨_, _, hle⟩ := nblock HO8.out hk
        exact hle
      have HS9 : Hid (∀ s' N, St1 w8 w6.heap.size s' N → St1 w9 w6.heap.size s' N) := fun s' N h => (h.below (lay1 w8 _)).keep (HO8.out.alloc _) hgc
      have hE2 : ∃ St2 : List Sl, St2.length = St.length + 1 ∧ St2.map slV = St.map slV ++ [slV s] ∧ ∀ j (h : j < St2.length), St1 w9 w6.heap.size (St2[j]'h) (runN ((E'.map (·.p)).take (f + j)) [rootF]) := by
        refine ⟨St ++ [s], by simp, by simp, fun j h => ?_⟩
        by_cases hj : j < St.length
        · rw [List.getElem_append_left hj]
          exact HS9.out _ _ (HS8.out j hj)
        · have hj' : j = St.length := by simp at h; omega
          subst hj'
          rw [List.getElem_append_right (Nat.le_refl _)]
          simp only [Nat.sub_self, List.getElem_cons_zero]
          rw [← HK.out]
          exact HS9.out _ _ HSN.out
      obtain ⟨St2, hl2, hm2, hn2⟩ := hE2
      rw [← hm2, ← hl2] at ho9
      obtain ⟨A9, C9, hv9⟩ := nform ho9
      rw [hv9] at ho9 ⊢
      have HO9 : Hid (w9.ownsRow w6.heap.size 58 1 (.slice A9 St2.length C9) St2.length (St2.map slV)) := ho9
      have HN9 : Hid (∀ j (h : j < St2.length), St1 w9 w6.heap.size (St2[j]'h) (runN ((E'.map (·.p)).take (f + j)) [rootF])) := hn2
      have HL2 : Hid (St2.length = St.length + 1) := hl2
      clear hgc ho9 hg9 hm2 hn2 hv9 hl2 hn9 hl9
      go_roundg (t + 1 - f - (St.length + 1))
      case measure => have := HG.out; have := HSTB.out; omega
      case rel =>
        refine ⟨St2, A9, C9, by rw [HL2.out]; exact HSTB.out, by rw [HL2.out], ?_, rfl, HO9.out, HN9.out, HB9.out⟩
        have h1 := HL2.out
        have h2 := HK.out
        refine congrArg _ ?_
        omega
  case rest =>
  obtain ⟨St, Ao, Co, rfl, hSt, hO, hS1, hB⟩ := hcut
  have HO1 : Hid (wc.ownsRow w6.heap.size 58 1 (.slice Ao St.length Co) St.length (St.map slV)) := hO
  have HS1 : Hid (∀ j (h : j < St.length), St1 wc w6.heap.size (St[j]'h) (runN ((E'.map (·.p)).take (f + j)) [rootF])) := hS1
  have HBC : Hid (Below w6.heap.size w6 wc) := hB
  have HLE : Hid (∀ s ∈ St, s.Q.length ≤ 3661) := by
    intro s hs
    obtain ⟨j, hj, rfl⟩ := List.getElem_of_mem hs
    have h1 := congrArg List.length (hS1 j hj).is
    rw [List.length_map, all_len] at h1
    have h2 := run_len ((E'.map (·.p)).take (f + j)) [rootF] (fun p hp => HSM.out p (List.mem_of_mem_take hp))
    rw [List.length_take, List.length_map] at h2
    simp at h2
    omega
  have HSR : Hid (SRow wc Ao St Co) := srow_of hO (fun s hs => by
    obtain ⟨j, hj, rfl⟩ := List.getElem_of_mem hs
    exact (hS1 j hj).row)
  have hst61 : St.length ≤ 61 := by omega
  have hst1 : 1 ≤ St.length := by omega
  have HSTL : Hid (St.length = t + 1 - f) := hSt
  have c9 := paths_any HSR.out 3661 HLE.out (by omega) (by omega) (by omega)
  have HPL : Hid ((pathsF (St.map nms)).length ≤ 900000) := by
    have hal : ∀ (ps out : List (List UInt8)), (addP out ps).length ≤ out.length + ps.length := by
      intro ps
      induction ps with
      | nil => intro out; simp [addP]
      | cons p ps ih =>
        intro out
        have h1 := ih (insP p out)
        have h2 := insP_len p out
        show (addP (insP p out) ps).length ≤ _
        rw [List.length_cons]; omega
    have hpl : ∀ (l : List Sl) (out : List (List UInt8)), (∀ s ∈ l, s.Q.length ≤ 3661) → ((l.map nms).foldl addP out).length ≤ out.length + l.length * 3661 := by
      intro l
      induction l with
      | nil => intro out _; simp
      | cons s l ih =>
        intro out h
        rw [List.map_cons, List.foldl_cons]
        have h1 := ih (addP out (nms s)) (fun s' hs => h s' (.tail _ hs))
        have h2 := hal (nms s) out
        have h3 := h s (.head _)
        have h4 : (nms s).length = s.Q.length := by simp [nms]
        rw [List.length_cons, Nat.add_mul]
        omega
    have := hpl St [] HLE.out
    unfold Hid pathsF
    simp at this ⊢
    omega
  obtain ⟨ps, hps⟩ : ∃ ps, ps = pathsF (St.map nms) := ⟨_, rfl⟩
  rw [← hps] at c9 HPL
  have HPS : Hid (ps = pathsF (St.map nms)) := hps
  have hpl9 : ps.length ≤ 900000 := HPL.out
  clear hO hS1 hB hps hSt
  go_wp2_with fail
  refine c9.mono ?_
  rintro e w9 ⟨A9, C9, rfl, ho9, hb9⟩
  have HB9 : Hid (Below w6.heap.size w6 w9) := HBC.out.trans (hb9.mono HBC.out.size)
  have HP9 : Hid (w9.ownsRow wc.heap.size 9 1 (.slice A9 ps.length C9) ps.length (ps.flatMap celT)) := ho9
  have HSR9 : Hid (SRow w9 Ao St Co) := HSR.out.below hb9
  have HS9 : Hid (∀ j (h : j < St.length), St1 w9 w6.heap.size (St[j]'h) (runN ((E'.map (·.p)).take (f + j)) [rootF])) := fun j h => (HS1.out j h).below hb9
  clear c9 ho9 hb9
  go_upto_block 2 with fail
  go_cut [12, 14, 15, 16, 17] from 59 to 94 (fun v12 v14 v15 v16 v17 wx => ∃ (cs : List Nat) (Q : List Al) (Ar : Option Addr) (Cr : Nat), v12 = .slice Ar Q.length Cr ∧ cs.length = ps.length ∧ (∀ c ∈ cs, c < St.length) ∧ Q = rowsQ St ps cs ∧ wx.ownsRow w9.heap.size 47 12 (.slice Ar Q.length Cr) Q.length (Q.flatMap alV) ∧ Below w9.heap.size w9 wx)
  case first =>
    go_wp2_with fail
    go_loopg [12, 14] ps.length (fun g v12 v14 wr => ∃ (cs : List Nat) (Q : List Al) (Ar : Option Addr) (Cr : Nat), cs.length ≤ ps.length ∧ g = ps.length - cs.length ∧ v14 = .int .i64 (cs.length : Int) ∧ v12 = .slice Ar Q.length Cr ∧ (∀ c ∈ cs, c < St.length) ∧ Q = rowsQ St (ps.take cs.length) cs ∧ Q.length ≤ cs.length ∧ wr.ownsRow w9.heap.size 47 12 (.slice Ar Q.length Cr) Q.length (Q.flatMap alV) ∧ Below w9.heap.size w9 wr)
    case atStart => exact ⟨[], [], none, 0, Nat.zero_le _, rfl, rfl, rfl, fun c hc => (nomatch hc), rfl, Nat.le_refl _, World.ownsRow_nil _ _ _ _, Below.refl _ _⟩
    case round =>
      obtain ⟨cs, Q, Ar, Cr, hcs, hg, rfl, rfl, hcl, hQ, hQl, hO, hB⟩ := hrel
      have HG : Hid (gk = ps.length - cs.length) := hg
      have HCL : Hid (∀ c ∈ cs, c < St.length) := hcl
      have HQ : Hid (Q = rowsQ St (ps.take cs.length) cs) := hQ
      have HQL : Hid (Q.length ≤ cs.length) := hQl
      have HO : Hid (wr.ownsRow w9.heap.size 47 12 (.slice Ar Q.length Cr) Q.length (Q.flatMap alV)) := hO
      have HB : Hid (Below w9.heap.size w9 wr) := hB
      clear hg hcl hQ hQl hO hB
      obtain ⟨i, hi⟩ : ∃ i, i = cs.length := ⟨_, rfl⟩
      rw [← hi] at hcs ⊢
      have HI : Hid (i = cs.length) := hi
      clear hi
      by_cases hlt : i < ps.length
      case neg =>
        have hie : i = ps.length := by omega
        have HIE : Hid (i = ps.length) := hie
        have l1 : ¬ (i : Int) < (ps.length : Int) := by omega
        clear hie
        go_wp2_with fail
        go_meet
        refine ⟨cs, Q, Ar, Cr, rfl, by rw [← HI.out, HIE.out], HCL.out, ?_, HO.out, HB.out⟩
        have h1 := HQ.out
        rw [← HI.out, HIE.out, List.take_of_length_le (Nat.le_refl _)] at h1
        exact h1
      case pos =>
      have l1 : (i : Int) < (ps.length : Int) := by omega
      have l2 : (0 : Int) ≤ (i : Int) := by omega
      obtain ⟨wB, hwB⟩ : ∃ x, x = wr := ⟨_, rfl⟩
      subst hwB
      go_upto_if 67 with fail
      go_cut [15] from 59 to 94 (fun v15 wx => wB = wx ∧ ∃ c : Nat, c < St.length ∧ v15 = .int .i64 (c : Int))
      case first =>
        by_cases hx0 : 0 < xs.length
        · have h1 : (0 : Int) < (xs.length : Int) := by omega
          obtain ⟨m, hm⟩ : ∃ m, m = i % xs.length := ⟨_, rfl⟩
          have hml : m < xs.length := by rw [hm]; exact Nat.mod_lt _ hx0
          have hmod : Int.tmod (i : Int) (xs.length : Int) = (m : Int) := by rw [hm]; exact (Int.ofNat_tmod i xs.length).symm
          have hxw := ((HX.out.below HB2.out).below (HB6.out.trans (HB9.out.mono HB6.out.size))).below HB.out
          obtain ⟨b4, o4, hA4, hc4⟩ := hxw.at_ m hml
          have hxf := hxw.fit _ (List.getElem_mem hml)
          generalize xs[m]'hml = x at hc4 hxf
          obtain ⟨c, hc, cc⟩ := pick_nat x St.length hxf (by omega) hst1 wB
          have j0 : ¬ (m : Int) < 0 := by omega
          have j1 : (m : Int) < (xs.length : Int) := by omega
          have j2 : (0 : Int) ≤ (m : Int) := by omega
          have j3 : (m : Int).toNat = m := by omega
          have j4 : ¬ (xs.length : Int) = 0 := by omega
          have j5 : IntKind.i64.wrap (m : Int) = (m : Int) := by
            have := HXL.out
            rw [IntKind.wrap_i64]; omega
          clear hm hxw hxf
          subst hA4
          go_wp2_with fail
          refine cc.mono ?_
          rintro e wq ⟨rfl, hwq⟩
          obtain rfl : wB = wq := hwq.symm
          clear cc
          go_wp2_with fail
          go_meet
          exact ⟨rfl, c, hc, rfl⟩
        · have h1 : ¬ (0 : Int) < (xs.length : Int) := by omega
          go_wp2_with fail
          go_meet
          exact ⟨rfl, 0, hst1, rfl⟩
      case rest =>
      obtain ⟨rfl, c, hc, rfl⟩ := hcut
      obtain ⟨b5, o5, hAo, hb5, _, hc5, hr5⟩ := (HSR9.out.below HB.out).at c hc
      obtain ⟨g6, hA9, hc6⟩ : ∃ g, A9 = some ⟨g, 0, none⟩ ∧ wB.cell? ⟨g, i, none⟩ = some (.string (mkS (ps[i]'hlt))) := by
        have hO : wB.ownsRow wc.heap.size 9 1 (.slice A9 ps.length C9) ps.length (ps.flatMap celT) := towns_keep HP9.out (Chg.of_below HB.out) (fun _ _ => id)
        rcases hO.2 with ⟨hv, h0⟩ | ⟨g, cap, cur, hv, _⟩
        · omega
        · injection hv with e1 _ e3
          subst e1 e3
          obtain ⟨_, _, _, _, _, hcl⟩ := rowT_cells hO
          refine ⟨g, rfl, hcl i _ ?_⟩
          rw [celT_map, List.getElem?_map, List.getElem?_eq_getElem hlt]; rfl
      have hat := fun wx (hb : Below wB.heap.size wB wx) => at_any (hr5.below hb) (ps[i]'hlt) (by have := HLE.out _ (List.getElem_mem hc); omega)
      have hnx : rowsQ St (ps.take (i + 1)) (cs ++ [c]) = rowsQ St (ps.take i) cs ++ (atF (St[c]'hc).Q (ps[i]'hlt)).toList := by
        unfold rowsQ
        rw [run_take ps i hlt, zip_one _ _ _ _ (by rw [List.length_take, ← HI.out]; omega), List.filterMap_append]
        congr 1
        have : nthS St c = (St[c]'hc).Q := by unfold nthS; rw [List.getElem?_eq_getElem hc]; rfl
        simp only [List.filterMap_cons, List.filterMap_nil, this]
        cases atF (St[c]'hc).Q (ps[i]'hlt) <;> rfl
      obtain ⟨R, hR⟩ : ∃ R, R = atF (St[c]'hc).Q (ps[i]'hlt) := ⟨_, rfl⟩
      rw [← hR] at hnx
      have HNX : Hid (rowsQ St (ps.take (i + 1)) (cs ++ [c]) = rowsQ St (ps.take i) cs ++ R.toList) := hnx
      have HAT : Hid (∀ wx, Below wB.heap.size wB wx → Calls Tryz.prog 28 #[.slice (St[c]'hc).A (St[c]'hc).Q.length (St[c]'hc).C, .string (mkS (ps[i]'hlt))] wx fun e w' => Below wx.heap.size wx w' ∧ atRet R e) := by rw [hR]; exact hat
      generalize (ps[i]'hlt) = p at hc6 HAT
      generalize hsc : (St[c]'hc) = sc at hc5 HAT
      have HC5 : Hid (wB.cell? ⟨b5, o5 + c, none⟩ = some (.slice sc.A sc.Q.length sc.C) ∧ wB.cell? ⟨g6, i, none⟩ = some (.string (mkS p))) := ⟨hc5, hc6⟩
      clear hat hnx hR hr5 hb5 hsc
      subst hAo hA9
      have j0 : ¬ (i : Int) < 0 := by omega
      have j3 : (i : Int).toNat = i := by omega
      have k0 : ¬ (c : Int) < 0 := by omega
      have k1 : (c : Int) < (St.length : Int) := by omega
      have k2 : (0 : Int) ≤ (c : Int) := by omega
      have k3 : (c : Int).toNat = c := by omega
      go_upto_region 20 with fail
      go_cut [16, 17] from 59 to 94 (fun v16 v17 wx => ∃ bk : Nat, v16 = .pointer (some ⟨bk, 0, none⟩) ∧ v17 = .bool R.isSome ∧ Below wB.heap.size wB wx ∧ bk < wx.heap.size ∧ ∀ x, R = some x → wx.rangeAt bk 0 (alV x))
      case first =>
        have HSS : Hid (∀ w', Below wB.heap.size wB w' → w'.cell? ⟨b5, o5 + c, none⟩ = some (.slice sc.A sc.Q.length sc.C) ∧ w'.cell? ⟨g6, i, none⟩ = some (.string (mkS p))) := fun w' hb => ⟨by rw [hb.cell (p := ⟨b5, o5 + c, none⟩) (World.block_lt_of_cell? wB _ HC5.out.1)]; exact HC5.out.1, by rw [hb.cell (p := ⟨g6, i, none⟩) (World.block_lt_of_cell? wB _ HC5.out.2)]; exact HC5.out.2⟩
        obtain ⟨wZ, hwZ⟩ : ∃ wZ, wZ = (wB.alloc (.cells zeroA.toArray 47)).drew := ⟨_, rfl⟩
        have HBZ : Hid (Below wB.heap.size wB wZ ∧ wZ.heap.size = wB.heap.size + 1 ∧ wZ.heap[wB.heap.size]? = some (.cells zeroA.toArray 47 (0, 0))) := by
          rw [hwZ]
          exact ⟨(lay1 _ _).drew, by simp, heap_alloc_new wB _⟩
        have HSTO : Hid (∀ (AR : Array Value) (w' : World) (bk : Nat), AR.size = 12 → AR.all (·.oneCell') = true → Below wB.heap.size wB w' → wB.heap.size ≤ bk → w'.heap[bk]? = some (.cells zeroA.toArray 47 (0, 0)) → ∃ w6, (storeVar 47 ⟨bk, 0, none⟩ (.agg AR)).run Tryz.prog w' = .ok () w6 ∧ Below wB.heap.size wB w6 ∧ bk < w6.heap.size ∧ w6.rangeAt bk 0 AR.toList) := by
          intro AR w' bk h12 hone hb hbk hh
          have hth : w'.there bk 0 AR.size := by rw [h12]; exact there_of (cs := zeroA) hh
          have hsz : AR.toList.length = 12 := h12
          refine ⟨_, run_storeVar_mid (P := Tryz.prog) w' bk 0 47 AR hth (by rw [h12]; exact infoN12s) hone, below_cells hbk _ _ _ hb, ?_, World.rangeAt_setCells_same _ _ _ AR.toList (by rw [hsz]; exact there_of (cs := zeroA) hh)⟩
          have : w'.heap.size ≤ (w'.setCells bk 0 AR.toList).heap.size := (cells_chg bk AR.toList 0 w').size
          have h2 := theap_lt hh
          omega
        have hS0 := HSS.out wB.drew (Below.refl _ _).drew
        have hS0b := HSS.out wZ HBZ.out.1
        have HWZ : Hid (wZ = (wB.alloc (.cells zeroA.toArray 47)).drew) := hwZ
        have hcA := HAT.out wB.drew (Below.refl _ _).drew
        have hcB := HAT.out wZ HBZ.out.1
        rw [hwZ] at hcB hS0b
        clear hwZ
        simp only [zeroA] at hcB hS0b
        cases R with
        | none =>
          simp only [atRet, zeroA] at hcA hcB
          have HONE : Hid ((#[.string ⟨#[]⟩, .slice none 0 0, .int .i64 0, .int .i64 0, .int .i64 0, .int .i64 0, .int .i64 0, .int .i64 0, .int .i64 0, .int .i64 0, .int .i64 0, .int .i64 0] : Array Value).all (·.oneCell') = true) := oneA
          go_region_held3 (fun w' => w'.cell? ⟨b5, o5 + c, none⟩ = some (.slice sc.A sc.Q.length sc.C) ∧ w'.cell? ⟨g6, i, none⟩ = some (.string (mkS p)))
            (first | exact hS0 | exact hS0b | exact hS1 | exact hS1a | exact hS2 | go_keep)
            (first
              | (go_at_call 28; refine hcA.mono ?_; rintro e w5 ⟨hb5, rfl⟩; have HB5 : Hid (Below wB.heap.size wB w5) := (Below.refl _ wB).drew.trans hb5; have hS1 := HSS.out w5 HB5.out; have hS1a := HSS.out _ (HB5.out.alloc HB5.out.size (.cells zeroA.toArray 47)); obtain ⟨w6, hst, hb6, hl6, hr6⟩ := HSTO.out #[.string ⟨#[]⟩, .slice none 0 0, .int .i64 0, .int .i64 0, .int .i64 0, .int .i64 0, .int .i64 0, .int .i64 0, .int .i64 0, .int .i64 0, .int .i64 0, .int .i64 0] _ _ rfl HONE.out (HB5.out.alloc HB5.out.size (.cells zeroA.toArray 47)) HB5.out.size (heap_alloc_new w5 _); have hS2 := HSS.out w6 hb6; have HF : Hid _ := And.intro hb6 (And.intro hl6 hr6); simp only [zeroA] at hst hS1a; simp [go_sem] at hst; subst hst; clear hcA hcB hb5 hb6 hl6 hr6)
              | (go_at_call 28; refine hcB.mono ?_; rintro e w5 ⟨hb5, rfl⟩; have HB5 : Hid (Below wB.heap.size wB w5) := HBZ.out.1.trans ((HWZ.out ▸ hb5).mono HBZ.out.1.size); have hS1 := HSS.out w5 HB5.out; obtain ⟨w6, hst, hb6, hl6, hr6⟩ := HSTO.out #[.string ⟨#[]⟩, .slice none 0 0, .int .i64 0, .int .i64 0, .int .i64 0, .int .i64 0, .int .i64 0, .int .i64 0, .int .i64 0, .int .i64 0, .int .i64 0, .int .i64 0] w5 wB.heap.size rfl HONE.out HB5.out (Nat.le_refl _) (by have h := (HWZ.out ▸ hb5 : Below wZ.heap.size wZ w5); rw [h.block _ (by rw [HBZ.out.2.1]; omega)]; exact HBZ.out.2.2); have hS2 := HSS.out w6 hb6; have HF : Hid _ := And.intro hb6 (And.intro hl6 hr6); simp [go_sem] at hst; clear hcA hcB hb5 hb6 hl6 hr6))
          all_goals
            go_wp2_with fail
            go_meet
            exact ⟨_, rfl, rfl, HF.out.1, HF.out.2.1, fun y h => (nomatch h)⟩
        | some x =>
          simp only [atRet, zeroA] at hcA hcB
          have HONE : Hid ((#[.string (mkS x.q.nm), .slice x.A x.q.b.length x.C, .int .i64 x.q.st.cz, .int .i64 x.q.st.mz, .int .i64 x.q.st.pz, .int .i64 x.q.st.ct, .int .i64 x.q.st.mt, .int .i64 x.q.st.ver, .int .i64 x.q.st.cv, .int .i64 x.q.st.own, .int .i64 x.q.st.len, .int .i64 x.q.st.chd] : Array Value).all (·.oneCell') = true) := all_oneCell_toArray (alV_one x)
          go_region_held3 (fun w' => w'.cell? ⟨b5, o5 + c, none⟩ = some (.slice sc.A sc.Q.length sc.C) ∧ w'.cell? ⟨g6, i, none⟩ = some (.string (mkS p)))
            (first | exact hS0 | exact hS0b | exact hS1 | exact hS1a | exact hS2 | go_keep)
            (first
              | (go_at_call 28; refine hcA.mono ?_; rintro e w5 ⟨hb5, rfl⟩; have HB5 : Hid (Below wB.heap.size wB w5) := (Below.refl _ wB).drew.trans hb5; have hS1 := HSS.out w5 HB5.out; have hS1a := HSS.out _ (HB5.out.alloc HB5.out.size (.cells zeroA.toArray 47)); obtain ⟨w6, hst, hb6, hl6, hr6⟩ := HSTO.out #[.string (mkS x.q.nm), .slice x.A x.q.b.length x.C, .int .i64 x.q.st.cz, .int .i64 x.q.st.mz, .int .i64 x.q.st.pz, .int .i64 x.q.st.ct, .int .i64 x.q.st.mt, .int .i64 x.q.st.ver, .int .i64 x.q.st.cv, .int .i64 x.q.st.own, .int .i64 x.q.st.len, .int .i64 x.q.st.chd] _ _ rfl HONE.out (HB5.out.alloc HB5.out.size (.cells zeroA.toArray 47)) HB5.out.size (heap_alloc_new w5 _); have hS2 := HSS.out w6 hb6; have HF : Hid _ := And.intro hb6 (And.intro hl6 hr6); simp only [zeroA] at hst hS1a; simp [go_sem] at hst; clear hcA hcB hb5 hb6 hl6 hr6)
              | (go_at_call 28; refine hcB.mono ?_; rintro e w5 ⟨hb5, rfl⟩; have HB5 : Hid (Below wB.heap.size wB w5) := HBZ.out.1.trans ((HWZ.out ▸ hb5).mono HBZ.out.1.size); have hS1 := HSS.out w5 HB5.out; obtain ⟨w6, hst, hb6, hl6, hr6⟩ := HSTO.out #[.string (mkS x.q.nm), .slice x.A x.q.b.length x.C, .int .i64 x.q.st.cz, .int .i64 x.q.st.mz, .int .i64 x.q.st.pz, .int .i64 x.q.st.ct, .int .i64 x.q.st.mt, .int .i64 x.q.st.ver, .int .i64 x.q.st.cv, .int .i64 x.q.st.own, .int .i64 x.q.st.len, .int .i64 x.q.st.chd] w5 wB.heap.size rfl HONE.out HB5.out (Nat.le_refl _) (by have h := (HWZ.out ▸ hb5 : Below wZ.heap.size wZ w5); rw [h.block _ (by rw [HBZ.out.2.1]; omega)]; exact HBZ.out.2.2); have hS2 := HSS.out w6 hb6; have HF : Hid _ := And.intro hb6 (And.intro hl6 hr6); simp [go_sem] at hst; clear hcA hcB hb5 hb6 hl6 hr6))
          all_goals
            go_wp2_with fail
            go_meet
            exact ⟨_, rfl, rfl, HF.out.1, HF.out.2.1, fun y h => by cases h; exact HF.out.2.2⟩
      case rest =>
      obtain ⟨bk, rfl, rfl, hBw, hbk, hrg⟩ := hcut
      obtain ⟨wX, hwX⟩ : ∃ x, x = wc := ⟨_, rfl⟩
      subst hwX
      have HBX : Hid (Below w9.heap.size w9 wX) := HB.out.trans (hBw.mono HB.out.size)
      have HOX : Hid (wX.ownsRow w9.heap.size 47 12 (.slice Ar Q.length Cr) Q.length (Q.flatMap alV)) := towns_keep HO.out (Chg.of_below hBw) (fun _ _ => id)
      have HCS : Hid ((cs ++ [c]).length = i + 1 ∧ (∀ c' ∈ cs ++ [c], c' < St.length)) := by
        refine ⟨by rw [List.length_append, ← HI.out]; rfl, fun c' h => ?_⟩
        rcases List.mem_append.1 h with h | h
        · exact HCL.out c' h
        · rw [List.mem_singleton] at h; rw [h]; exact hc
      have HBKX : Hid (bk < wX.heap.size) := hbk
      clear hBw hbk HSR9 HC5 HAT
      cases R with
      | none =>
        have HQ2 : Hid (Q = rowsQ St (ps.take (i + 1)) (cs ++ [c])) := by
          unfold Hid
          have h1 := HNX.out
          have h2 := HQ.out
          rw [← HI.out] at h2
          rw [h1, ← h2]
          simp
        clear hrg
        go_wp2_with fail
        go_roundg (ps.length - (i + 1))
        case measure => have h1 := HG.out; have h2 := HI.out; omega
        case rel =>
          have e := HCS.out.1
          refine ⟨cs ++ [c], Q, Ar, Cr, by rw [e]; omega, by rw [e], by rw [e]; go_num, rfl, HCS.out.2, ?_, ?_, HOX.out, HBX.out⟩
          · rw [e]; exact HQ2.out
          · rw [e]; have h1 := HQL.out; have h2 := HI.out; omega
      | some x =>
        have hrgx := hrg x rfl
        have HRX : Hid (wX.rangeAt bk 0 [.string (mkS x.q.nm), .slice x.A x.q.b.length x.C, .int .i64 x.q.st.cz, .int .i64 x.q.st.mz, .int .i64 x.q.st.pz, .int .i64 x.q.st.ct, .int .i64 x.q.st.mt, .int .i64 x.q.st.ver, .int .i64 x.q.st.cv, .int .i64 x.q.st.own, .int .i64 x.q.st.len, .int .i64 x.q.st.chd]) := hrgx
        have HQ2 : Hid (Q ++ [x] = rowsQ St (ps.take (i + 1)) (cs ++ [c])) := by
          unfold Hid
          have h1 := HNX.out
          have h2 := HQ.out
          rw [← HI.out] at h2
          rw [h1, ← h2]
          rfl
        obtain ⟨i0, hi, hz0, hz1, hz2⟩ := info_parts infoN12
        have hql : Q.length + 1 ≤ 1000000 := by have h1 := HQL.out; have h2 := HI.out; have h3 := HPL.out; omega
        have hsX : w9.heap.size ≤ wX.heap.size := HBX.out.size
        clear hrg hrgx
        go_wp2_with (first
          | (refine wpList_load_mid rfl 47 (.tmp 16) rfl bk 0 rfl [.string (mkS x.q.nm), .slice x.A x.q.b.length x.C, .int .i64 x.q.st.cz, .int .i64 x.q.st.mz, .int .i64 x.q.st.pz, .int .i64 x.q.st.ct, .int .i64 x.q.st.mt, .int .i64 x.q.st.ver, .int .i64 x.q.st.cv, .int .i64 x.q.st.own, .int .i64 x.q.st.len, .int .i64 x.q.st.chd] _ HRX.out Tryz.underlying47 rfl infoN12s ?_)
          | (at_builtin; refine wpList_append_own_at _ rfl (.tmp 91) (.tmp 93) 58 rfl w9.heap.size 47 i0 (.agg #[.string ⟨#[]⟩, .slice none 0 0, .int .i64 0, .int .i64 0, .int .i64 0, .int .i64 0, .int .i64 0, .int .i64 0, .int .i64 0, .int .i64 0, .int .i64 0, .int .i64 0]) 12 120 Tryz.underlying58 hi hz0 hz1 hz2 rfl (by decide) _ Q.length (Q.flatMap alV) rfl (HOX.out.alloc _) ⟨wX.heap.size, 0, none⟩ 1 1 [.string (mkS x.q.nm), .slice x.A x.q.b.length x.C, .int .i64 x.q.st.cz, .int .i64 x.q.st.mz, .int .i64 x.q.st.pz, .int .i64 x.q.st.ct, .int .i64 x.q.st.mt, .int .i64 x.q.st.ver, .int .i64 x.q.st.cv, .int .i64 x.q.st.own, .int .i64 x.q.st.len, .int .i64 x.q.st.chd] rfl rfl (cells_new wX [.string (mkS x.q.nm), .slice x.A x.q.b.length x.C, .int .i64 x.q.st.cz, .int .i64 x.q.st.mz, .int .i64 x.q.st.pz, .int .i64 x.q.st.ct, .int .i64 x.q.st.mt, .int .i64 x.q.st.ver, .int .i64 x.q.st.cv, .int .i64 x.q.st.own, .int .i64 x.q.st.len, .int .i64 x.q.st.chd] 47) (alV_one x) (by unfold maxLen; omega) (by omega) (by simp; omega) ?_; intro v6 wY ho6 hg6 hn6 hl6)
          | fail)
        have hgc : Chg (fun k => (Value.slice Ar Q.length Cr).ownBlock = some k) (wX.alloc (.cells (alA x) 47)) wY := Chg.of_grown hg6
        have HBY : Hid (Below w9.heap.size w9 wY) := by
          refine (HBX.out.alloc hsX _).trans (hgc.below (fun k hk => ?_) (by simp; omega))
          obtain ⟨_, _, hle⟩ := nblock HOX.out hk
          exact hle
        obtain ⟨Q2, hQ2⟩ : ∃ Q2, Q2 = Q ++ [x] := ⟨_, rfl⟩
        have hl2 : Q2.length = Q.length + 1 := by rw [hQ2]; simp
        have hf2 : Q2.flatMap alV = Q.flatMap alV ++ [.string (mkS x.q.nm), .slice x.A x.q.b.length x.C, .int .i64 x.q.st.cz, .int .i64 x.q.st.mz, .int .i64 x.q.st.pz, .int .i64 x.q.st.ct, .int .i64 x.q.st.mt, .int .i64 x.q.st.ver, .int .i64 x.q.st.cv, .int .i64 x.q.st.own, .int .i64 x.q.st.len, .int .i64 x.q.st.chd] := by rw [hQ2, List.flatMap_append, List.flatMap_cons, List.flatMap_nil, List.append_nil]; rfl
        rw [← hf2, ← hl2] at ho6
        obtain ⟨A6, C6, hv6⟩ := nform ho6
        rw [hv6] at ho6 ⊢
        have HO6 : Hid (wY.ownsRow w9.heap.size 47 12 (.slice A6 Q2.length C6) Q2.length (Q2.flatMap alV)) := ho6
        have HQ3 : Hid (Q2 = rowsQ St (ps.take (i + 1)) (cs ++ [c]) ∧ Q2.length ≤ i + 1) := ⟨by rw [hQ2]; exact HQ2.out, by rw [hl2]; have h1 := HQL.out; have h2 := HI.out; omega⟩
        clear hgc ho6 hg6 hf2 hl2 hv6 hQ2 hn6 hl6
        go_roundg (ps.length - (i + 1))
        case measure => have h1 := HG.out; have h2 := HI.out; omega
        case rel =>
          have e := HCS.out.1
          refine ⟨cs ++ [c], Q2, A6, C6, by rw [e]; omega, by rw [e], by rw [e]; go_num, rfl, HCS.out.2, ?_, ?_, HO6.out, HBY.out⟩
          · rw [e]; exact HQ3.out.1
          · rw [e]; exact HQ3.out.2
  case rest =>
  obtain ⟨cs, Q, Ar, Cr, rfl, hcs, hcl, hQ, hO, hB⟩ := hcut
  obtain ⟨wL, hwL⟩ : ∃ x, x = wc := ⟨_, rfl⟩
  subst hwL
  have HCH : Hid (Chosen St (E'.map (·.p)) f cs) := ⟨fun c h => (HS9.out c h).is, by intro e; rw [e] at hst1; simp at hst1, by rw [hcs, HPS.out], hcl⟩
  have HQ : Hid (Q = rowsQ St (pathsF (St.map nms)) cs) := by rw [← HPS.out]; exact hQ
  have HB2L : Hid (Below w2.heap.size w2 wL) := (HB6.out.trans (HB9.out.mono HB6.out.size)).trans (hB.mono (Nat.le_trans HB6.out.size HB9.out.size))
  have HROW : Hid (RowN wL Ar Q Cr) := row_of_owns hO
  have HBSQ : Hid (∀ x ∈ Q, Bs wL (.slice x.A x.q.b.length x.C) x.q.b) := by
    intro x hx
    rw [hQ] at hx
    obtain ⟨c, hc, hxc⟩ := rows_mem hx
    have hcl2 := hcl c hc
    have hn : nthS St c = (St[c]'hcl2).Q := by unfold nthS; rw [List.getElem?_eq_getElem hcl2]; rfl
    rw [hn] at hxc
    exact Bs.of_owns (towns_keep ((HS9.out c hcl2).bs x hxc) (Chg.of_below hB) (fun _ _ => id))
  have HQB : Hid (Q.length ≤ 4611686018427387904 ∧ ∀ x ∈ Q, x.q.b.length ≤ 4611686018427387904) := by
    refine ⟨?_, fun x hx => ?_⟩
    · have h1 := (rows_sub St ps cs).length_le
      rw [List.length_map, ← hQ] at h1
      omega
    · have h1 := (HCH.out.fine.2 x (by rw [← HQ.out]; exact hx)).bl
      simp only at h1
      omega
  have HTWL : Hid (Tr wL tw mw nw (runN ((E'.map (·.p)).take t) [rootF]) (runS ((E'.map (·.p)).take t) [])) := (HT6.out.below HB9.out).below hB
  have HWLT : Hid (∀ k, Wt tw mw nw k → k < wL.heap.size) := by
    intro k hk
    have h1 : k < w6.heap.size := by
      obtain ⟨L, K, hT, _⟩ := HT6.out
      exact hT.lt k hk
    have h2 := HB9.out.size
    have h3 := hB.size
    omega
  have hfC : f ≤ C' := by omega
  have hsf := fun wx => sliceD_run (A := A') (n := E'.length) hfC wx
  have c10 := (HND.out.below HB2L.out).done f (by omega)
  clear hcs hcl hQ hO hB HS9 HP9 HSR9
  go_wp2_with fail
  refine c10.mono ?_
  rintro e wM ⟨tt, mt, nt, rfl, hTM, hWM, hbM⟩
  have HTM : Hid (Tr wM tt mt nt (runN ((E'.map (·.p)).take f) [rootF]) (runS ((E'.map (·.p)).take f) [])) := hTM
  have HWM : Hid (∀ k, Wt tt mt nt k → wL.heap.size ≤ k) := hWM
  have HBM : Hid (Below wL.heap.size wL wM) := hbM
  have c11 := ((HND.out.below HB2L.out).below hbM).done f (by omega)
  clear c10 hTM hWM hbM
  go_wp2_with fail
  refine c11.mono ?_
  rintro e wN ⟨t2, m2, n2, rfl, hT2, hW2, hb2⟩
  have HBN : Hid (Below wL.heap.size wL wN) := HBM.out.trans (hb2.mono HBM.out.size)
  have HTN : Hid (Tr wN tt mt nt (runN ((E'.map (·.p)).take f) [rootF]) (runS ((E'.map (·.p)).take f) [])) := HTM.out.below hb2
  have c12 := hT2.sits (by have h1 := run_slen ((E'.map (·.p)).take f) []; rw [List.length_take, List.length_map] at h1; simp at h1; omega)
  clear c11 hT2 hW2 hb2 hsf
  go_wp2_with fail
  refine c12.mono ?_
  rintro e wO ⟨As, Cs, rfl, hoS, hbS⟩
  have HBO : Hid (Below wL.heap.size wL wO) := HBN.out.trans (hbS.mono HBN.out.size)
  have HTO : Hid (Tr wO tt mt nt (runN ((E'.map (·.p)).take f) [rootF]) (runS ((E'.map (·.p)).take f) [])) := HTN.out.below hbS
  have HRS : Hid (RowS wO As (Si.sitsF (runS ((E'.map (·.p)).take f) [])) Cs) := rowS_of hoS
  clear c12 hoS hbS
  go_upto_if 106 with fail
  go_cut [19] from 104 to 120 (fun v19 wx => ∃ (c : Nat) (A2 : Option Addr) (C2 : Nat), f ≤ c ∧ c ≤ t ∧ v19 = .slice A2 (Si.sitsF (runS ((E'.map (·.p)).take c) [])).length C2 ∧ RowS wx A2 (Si.sitsF (runS ((E'.map (·.p)).take c) [])) C2 ∧ Below wO.heap.size wO wx)
  case first =>
    by_cases hx0 : 0 < xs.length
    · have h1 : (0 : Int) < (xs.length : Int) := by omega
      have hxw := ((HX.out.below HB2.out).below HB2L.out).below HBO.out
      obtain ⟨b4, o4, hA4, hc4⟩ := hxw.at_ 0 hx0
      have hxf := hxw.fit _ (List.getElem_mem hx0)
      generalize xs[0]'hx0 = x at hc4 hxf
      simp only [Nat.add_zero] at hc4
      obtain ⟨c, hc, cc⟩ := pick_nat x (t - f + 1) hxf (by omega) (by omega) wO
      rw [show ((t - f + 1 : Nat) : Int) = (t : Int) - (f : Int) + 1 by omega] at cc
      have hcC : f + c ≤ C' := by omega
      have hsc := fun wx => sliceD_run (A := A') (n := E'.length) hcC wx
      rw [show ((f + c : Nat) : Int) = (f : Int) + (c : Int) by omega] at hsc
      have c13 := ((HND.out.below HB2L.out).below HBO.out).done (f + c) (by omega)
      have HCC : Hid (f + c ≤ t) := by show _ ≤ _; omega
      clear hxw hxf
      subst hA4
      go_wp2_with fail
      refine cc.mono ?_
      rintro e wq ⟨rfl, hwq⟩
      obtain rfl : wO = wq := hwq.symm
      clear cc
      go_wp2_with fail
      refine c13.mono ?_
      rintro e wP ⟨t3, m3, n3, rfl, hT3, hW3, hb3⟩
      have HBP : Hid (Below wO.heap.size wO wP) := hb3
      have c14 := hT3.sits (by have h1 := run_slen ((E'.map (·.p)).take (f + c)) []; rw [List.length_take, List.length_map] at h1; simp at h1; omega)
      clear c13 hT3 hW3 hb3 hsc
      go_wp2_with fail
      refine c14.mono ?_
      rintro e wR ⟨A2, C2, rfl, hoS, hbS⟩
      have HBR : Hid (Below wO.heap.size wO wR) := HBP.out.trans (hbS.mono HBP.out.size)
      have HRR : Hid (RowS wR A2 (Si.sitsF (runS ((E'.map (·.p)).take (f + c)) [])) C2) := rowS_of hoS
      clear c14 hoS hbS
      go_wp2_with fail
      go_meet
      exact ⟨f + c, A2, C2, Nat.le_add_right _ _, HCC.out, rfl, HRR.out, HBR.out⟩
    · have h1 : ¬ (0 : Int) < (xs.length : Int) := by omega
      go_wp2_with fail
      go_meet
      exact ⟨f, As, Cs, Nat.le_refl _, HIN.out.1, rfl, HRS.out, Below.refl _ _⟩
  case rest =>
  obtain ⟨c, A2, C2, hfc, hct, rfl, hRS2, hBC2⟩ := hcut
  obtain ⟨wS, hwS⟩ : ∃ x, x = wc := ⟨_, rfl⟩
  subst hwS
  have HBS : Hid (Below wL.heap.size wL wS) := HBO.out.trans (hBC2.mono HBO.out.size)
  have HTS : Hid (Tr wS tt mt nt (runN ((E'.map (·.p)).take f) [rootF]) (runS ((E'.map (·.p)).take f) [])) := HTO.out.below hBC2
  have HRS2 : Hid (RowS wS A2 (Si.sitsF (runS ((E'.map (·.p)).take c) [])) C2) := hRS2
  have HFCT : Hid (f ≤ c ∧ c ≤ t) := ⟨hfc, hct⟩
  have HSL : Hid ((Si.sitsF (runS ((E'.map (·.p)).take c) [])).length ≤ 1000000) := by
    have h1 := run_slen ((E'.map (·.p)).take c) []
    rw [List.length_take, List.length_map] at h1
    unfold Hid Si.sitsF Si.sortS
    rw [List.length_map, List.length_mergeSort, List.length_map]
    simp at h1
    omega
  obtain ⟨L2, hL2⟩ : ∃ L2, L2 = Si.sitsF (runS ((E'.map (·.p)).take c) []) := ⟨_, rfl⟩
  rw [← hL2] at HRS2 HSL ⊢
  have HL2 : Hid (L2 = Si.sitsF (runS ((E'.map (·.p)).take c) [])) := hL2
  have c15 := load_any HTS.out ((HND.out.below HB2L.out).below HBS.out).laid (HROW.out.below HBS.out) (fun x hx => (HBSQ.out x hx).keep (Chg.of_below HBS.out) (fun _ _ => id)) HQB.out.1 HQB.out.2
  have hAF : areF (Q.map (·.q)) = true := by rw [HQ.out]; exact HCH.out.fine.1
  rw [hAF] at c15
  simp only [Bool.true_eq_false, false_implies, and_true, forall_const] at c15
  clear hRS2 hBC2 hfc hct hL2 hAF HROW HBSQ HQB HTM HBM HBN HTN HBO HTO HRS
  go_wp2_with fail
  refine c15.mono ?_
  rintro e wT ⟨rfl, m', hm', hTT, hcT⟩
  have HTT : Hid (Tr wT tt m' nt (loadF (Q.map (·.q))) (runS ((E'.map (·.p)).take f) [])) := hTT
  have hWtt := HWM.out tt (.inl rfl)
  have HBT : Hid (Below wL.heap.size wL wT) := HBS.out.trans (hcT.below (fun k e => by rw [e]; exact hWtt) HBS.out.size)
  have HRT : Hid (RowS wT A2 L2 C2) := HRS2.out.keep_t HTS.out hcT
  have HM' : Hid (wL.heap.size ≤ m') := Nat.le_trans HBS.out.size hm'
  have c16 := seat_any hTT HRT.out HSL.out
  clear c15 hTT hcT hm'
  go_wp2_with fail
  refine c16.mono ?_
  rintro e wU ⟨rfl, n', hn', hTU, hcU⟩
  have HTU : Hid (Tr wU tt m' n' (loadF (Q.map (·.q))) (seatF L2)) := hTU
  have HBU : Hid (Below wL.heap.size wL wU) := HBT.out.trans (hcU.below (fun k e => by rw [e]; exact hWtt) HBT.out.size)
  have HWU : Hid (∀ k, Wt tt m' n' k → wL.heap.size ≤ k) := by
    rintro k (rfl | rfl | rfl)
    · exact hWtt
    · exact HM'.out
    · exact Nat.le_trans HBT.out.size hn'
  have HDIS : Hid (∀ k, Wt tw mw nw k → ¬ Wt tt m' n' k) := fun k h1 h2 => by have a := HWLT.out k h1; have b := HWU.out k h2; omega
  have HTW : Hid (Tr wU tw mw nw (runN ((E'.map (·.p)).take t) [rootF]) (runS ((E'.map (·.p)).take t) [])) := by
    obtain ⟨L, K, hT, h1, h2⟩ := HTWL.out
    have hlow : ∀ k, k < wL.heap.size → wU.heap[k]? = wL.heap[k]? := fun k hk => HBU.out.block k hk
    exact ⟨L, K, hT.below HBU.out, h1, h2⟩
  clear c16 hTU hcU hn' hWtt HTS HTT HRT HRS2 HTWL
  go_wp2_with fail
  go_loopg [20] (t - f) (fun g v20 wr => ∃ i : Nat, f ≤ i ∧ i ≤ t ∧ g = t - i ∧ v20 = .int .i64 (i : Int) ∧ Tr wr tt m' n' (runN (((E'.map (·.p)).take i).drop f) (loadF (Q.map (·.q)))) (runS (((E'.map (·.p)).take i).drop f) (seatF L2)) ∧ Tr wr tw mw nw (runN ((E'.map (·.p)).take t) [rootF]) (runS ((E'.map (·.p)).take t) []) ∧ Below wL.heap.size wL wr)
  case atStart =>
    refine ⟨f, Nat.le_refl _, HIN.out.1, rfl, rfl, ?_, HTW.out, HBU.out⟩
    have : ((E'.map (·.p)).take f).drop f = [] := by rw [List.drop_eq_nil_iff, List.length_take]; omega
    rw [this]
    exact HTU.out
  case round =>
    obtain ⟨i, hfi, hit, hg, rfl, hTi, hTw, hBi⟩ := hrel
    have HG : Hid (gk = t - i) := hg
    have HTI : Hid (Tr wr tt m' n' (runN (((E'.map (·.p)).take i).drop f) (loadF (Q.map (·.q)))) (runS (((E'.map (·.p)).take i).drop f) (seatF L2))) := hTi
    have HTWI : Hid (Tr wr tw mw nw (runN ((E'.map (·.p)).take t) [rootF]) (runS ((E'.map (·.p)).take t) [])) := hTw
    have HBI : Hid (Below wL.heap.size wL wr) := hBi
    clear hg hTi hTw hBi
    by_cases hlt : i < t
    case neg =>
      have hie : i = t := by omega
      have l1 : ¬ (i : Int) < (t : Int) := by omega
      have HN : Hid (∀ k, lookF k (runN (((E'.map (·.p)).take i).drop f) (loadF (Q.map (·.q)))) = lookF k (runN ((E'.map (·.p)).take t) [rootF])) := by
        intro k
        rw [hie, HQ.out]
        exact HCH.out.again (by have h1 := HSTL.out; have h2 := HIN.out.1; omega) k
      have HS : Hid (∀ k, Si.lookF k (runS (((E'.map (·.p)).take i).drop f) (seatF L2)) = Si.lookF k (runS ((E'.map (·.p)).take t) [])) := by
        intro k
        rw [hie, HL2.out]
        exact Si.again_sits _ HFCT.out.1 HFCT.out.2 k
      have c17 := HTI.out.same HTWI.out HN.out HS.out
      clear hie
      go_wp2_with fail
      refine c17.mono ?_
      rintro e wV ⟨rfl, hbV⟩
      have HBV : Hid (Below wL.heap.size wL wV) := HBI.out.trans (hbV.mono HBI.out.size)
      have c18 := (HTWI.out.below hbV).same (HTI.out.below hbV) (fun k => (HN.out k).symm) (fun k => (HS.out k).symm)
      clear c17 hbV
      go_wp2_with fail
      refine c18.mono ?_
      rintro e wW ⟨rfl, hbW⟩
      have HBW : Hid (Below w.heap.size w wW) := (HB2.out.trans (HB2L.out.mono HB2.out.size)).trans ((HBV.out.trans (hbW.mono HBV.out.size)).mono (Nat.le_trans HB2.out.size HB2L.out.size))
      clear c18 hbW
      go_wp2_with fail
      go_ret
      exact ⟨rfl, HBW.out⟩
    case pos =>
    have l1 : (i : Int) < (t : Int) := by omega
    have hND := (HND.out.below HB2L.out).below HBI.out
    have hiE : i < E'.length := by omega
    obtain ⟨b, o, rfl, hb, hC, hd⟩ := hND.row.deed i hiE
    have he := hND.el _ (List.getElem_mem hiE)
    have hst := drop_next (E'.map (·.p)) f i hfi (by simpa using hiE)
    obtain ⟨el, hel⟩ : ∃ el, el = E'[i]'hiE := ⟨_, rfl⟩
    rw [List.getElem_map] at hst
    rw [← hel] at hd he hst
    have HST : Hid (((E'.map (·.p)).take (i + 1)).drop f = ((E'.map (·.p)).take i).drop f ++ [el.p]) := hst
    clear hel hst
    obtain ⟨⟨fl, pl⟩, A5, c5, A6, c6, A7, c7⟩ := el
    simp only [DD.DV] at hd he
    have c19 := apply_any HTI.out hND.laid fl pl he.1 he.2
    have j0 : ¬ (i : Int) < 0 := by omega
    have j1 : (i : Int) < (E'.length : Int) := by omega
    have j2 : (0 : Int) ≤ (i : Int) := by omega
    have j3 : (i : Int).toNat = i := by omega
    simp only [dA] at c19
    obtain ⟨z0, z1, z2, z3, z4, z5, z6, z7, z8, z9, z10, z11, z12, z13, z14, z15⟩ := hd
    clear he hb hND
    go_wp2_with fail
    refine c19.mono ?_
    rintro e wV ⟨rfl, hTV, kV⟩
    have HTV : Hid (Tr wV tt m' n' (runN (((E'.map (·.p)).take (i + 1)).drop f) (loadF (Q.map (·.q)))) (runS (((E'.map (·.p)).take (i + 1)).drop f) (seatF L2))) := by
      rw [HST.out, runN_app, runS_app]; exact hTV
    have HBV : Hid (Below wL.heap.size wL wV) := HBI.out.trans (mn_below kV HWU.out HBI.out.size)
    have HTWV : Hid (Tr wV tw mw nw (runN ((E'.map (·.p)).take t) [rootF]) (runS ((E'.map (·.p)).take t) [])) := HTWI.out.far HTI.out HDIS.out kV
    clear c19 hTV kV z0 z1 z2 z3 z4 z5 z6 z7 z8 z9 z10 z11 z12 z13 z14 z15
    go_wp2_with fail
    go_roundg (t - (i + 1))
    case measure => have := HG.out; omega
    case rel => exact ⟨i + 1, by omega, by omega, rfl, by go_num, HTV.out, HTWV.out, HBV.out⟩
end Go.Proofs.YtcdnfgibcochhaaGreatDoor
