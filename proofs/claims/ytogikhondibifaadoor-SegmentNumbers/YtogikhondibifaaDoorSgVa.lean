/- Deeds out of order, twice, with something between them, as mathematics; what tells says of them. Region 13 of SegmentNumbers: it draws its order; walked state by state. The walk of SegmentNumbers. -/
import Derived.Test.YtogikhondibifaaDoorSgK
import Derived.Deep.QuietTactic
import Derived.Deep.RegionLaw
namespace Go.Proofs.YtogikhondibifaaDoor.DD
set_option linter.unusedVariables false
open Go.RowKit Go.Sort
set_option linter.unusedVariables false

theorem Fs_ok3 : okIt (Is 3) := by
  refine ⟨by decide +kernel, ⟨⟨?_, ?_, ?_, ?_, ?_, ?_, ?_, ?_, ?_, ?_, ?_, ?_⟩, fun p hp => by simp at hp, rfl⟩⟩
  all_goals (unfold Is Fs; first | exact ⟨by decide, by decide⟩)
theorem Fs_ok5 : okIt (Is 5) := by
  refine ⟨by decide +kernel, ⟨⟨?_, ?_, ?_, ?_, ?_, ?_, ?_, ?_, ?_, ?_, ?_, ?_⟩, fun p hp => by simp at hp, rfl⟩⟩
  all_goals (unfold Is Fs; first | exact ⟨by decide, by decide⟩)
theorem Fs_ok9 : okIt (Is 9) := by
  refine ⟨by decide +kernel, ⟨⟨?_, ?_, ?_, ?_, ?_, ?_, ?_, ?_, ?_, ?_, ?_, ?_⟩, fun p hp => by simp at hp, rfl⟩⟩
  all_goals (unfold Is Fs; first | exact ⟨by decide, by decide⟩)
theorem Fs_ok32 : okIt (Is 4294967296) := by
  refine ⟨by decide +kernel, ⟨⟨?_, ?_, ?_, ?_, ?_, ?_, ?_, ?_, ?_, ?_, ?_, ?_⟩, fun p hp => by simp at hp, rfl⟩⟩
  all_goals (unfold Is Fs; first | exact ⟨by decide, by decide⟩)
theorem Fs_ok62 : okIt (Is 4611686018427387904) := by
  refine ⟨by decide +kernel, ⟨⟨?_, ?_, ?_, ?_, ?_, ?_, ?_, ?_, ?_, ?_, ?_, ?_⟩, fun p hp => by simp at hp, rfl⟩⟩
  all_goals (unfold Is Fs; first | exact ⟨by decide, by decide⟩)
theorem Fs_lenN (z : Int) (n : Nat) (h : (numB z).length = n) : (itB (Is z)).length = 13 + n := by
  have n0 : numB 0 = [0] := by unfold numB; rw [digs_small (by decide)]; rfl
  rw [itB_len]
  simp [deedB, Fs, bodyB, tailB, hasParts, n0, h]
  omega
/- Each beginning of two deeds. -/
theorem scan_lt14 {k : Nat} (h : k < 14) : scanF (B12.take k) 0 = [] := by
  have e : B12.take k = (itB (Is 1)).take k := by
    show (itB (Is 1) ++ (itB (Is 2) ++ [])).take k = _
    rw [List.take_append_of_le_length (by rw [Fs_len1]; omega)]
  rw [e]
  exact scanF_none (unframe_cut _ (Nat.le_trans Fs_ok1.len (by omega)) k (by have := Fs_len1; unfold itB at this; omega)) 0
theorem scan_lt28 {k : Nat} (h1 : 14 ≤ k) (h2 : k < 28) : scanF (B12.take k) 0 = [Is 1] := by
  have e : B12.take k = itB (Is 1) ++ (itB (Is 2)).take (k - 14) := by
    show (itB (Is 1) ++ (itB (Is 2) ++ [])).take k = _
    rw [List.append_nil, List.take_append, Fs_len1, List.take_of_length_le (by rw [Fs_len1]; omega)]
  rw [e, scan_it Fs_ok1 _ (by decide)]
  have hu : unframe ((itB (Is 2)).take (k - 14)) = none := unframe_cut _ (Nat.le_trans Fs_ok2.len (by omega)) (k - 14) (by have := Fs_len2; unfold itB at this; omega)
  rw [scanF_none hu]
theorem deedOf_none : deedOf [] = none := by
  cases h : deedOf [] with
  | none => rfl
  | some p =>
    obtain ⟨f, ps⟩ := p
    have := ((deedOf_iff [] f ps).1 h).1
    unfold deedB at this
    simp at this
theorem unf_zero (r : List UInt8) : unframe (0 :: 0 :: 0 :: 0 :: 0 :: 0 :: 0 :: 0 :: r) = some [] := by
  have := unframe_frame [] r (by decide)
  have e : frameOf [] = [0, 0, 0, 0, 0, 0, 0, 0] := by decide +kernel
  rw [e] at this
  exact this
theorem scan_zero (r : List UInt8) (z : Int) : scanF (0 :: 0 :: 0 :: 0 :: 0 :: 0 :: 0 :: 0 :: r) z = [] := scanF_bad (unf_zero r) deedOf_none z
theorem scan_112 : scanF (catI [Is 1, Is 1, Is 2]) 0 = [Is 1] := by
  show scanF (itB (Is 1) ++ (itB (Is 1) ++ (itB (Is 2) ++ []))) 0 = _
  rw [scan_it Fs_ok1 _ (by decide), scanF_low (unframe_it Fs_ok1 _) (deedOf_it Fs_ok1) (by decide)]
theorem scan_539 : scanF (catI [Is 5, Is 3, Is 9]) 0 = [Is 5] := by
  show scanF (itB (Is 5) ++ (itB (Is 3) ++ (itB (Is 9) ++ []))) 0 = _
  rw [scan_it Fs_ok5 _ (by decide), scanF_low (unframe_it Fs_ok3 _) (deedOf_it Fs_ok3) (by decide)]
theorem scan_big : scanF (catI [Is 1, Is 4294967296, Is 4611686018427387904]) 0 = [Is 1, Is 4294967296, Is 4611686018427387904] := by
  show scanF (itB (Is 1) ++ (itB (Is 4294967296) ++ (itB (Is 4611686018427387904) ++ []))) 0 = _
  rw [scan_it Fs_ok1 _ (by decide), scan_it Fs_ok32 _ (by decide), scan_it Fs_ok62 _ (by decide)]
  rfl
theorem n1 : (numB 1).length = 1 := by decide +kernel
theorem n5 : (numB 5).length = 1 := by decide +kernel
theorem n32 : (numB 4294967296).length = 5 := by decide +kernel
theorem n62 : (numB 4611686018427387904).length = 10 := by decide +kernel
theorem cat5 : (14 : Int) = ((catI [Is 5]).length : Nat) := by rw [catI_one, Fs_lenN 5 1 n5]; rfl
theorem cat_big : (55 : Int) = ((catI [Is 1, Is 4294967296, Is 4611686018427387904]).length : Nat) := by
  show (55 : Int) = ((itB (Is 1) ++ (itB (Is 4294967296) ++ (itB (Is 4611686018427387904) ++ []))).length : Nat)
  rw [List.length_append, List.length_append, List.length_append, Fs_lenN _ _ n1, Fs_lenN _ _ n32, Fs_lenN _ _ n62]
  rfl
/- A byte between them: it stands for the first of four that tell a length. -/
theorem scan_between : scanF (itB (Is 1) ++ (0 :: itB (Is 2))) 0 = [Is 1] := by
  rw [scan_it Fs_ok1 _ (by decide)]
  have e : ∃ a b c d r, itB (Is 2) = a :: b :: c :: d :: r ∧ r.length = 10 ∧ a = 6 ∧ b = 0 ∧ c = 0 := by
    have hl : (deedB (Fs 2) []).length = 6 := by
      have := Fs_len2
      rw [itB_len] at this
      have h : 8 + (deedB (Fs 2) []).length = 14 := this
      omega
    refine ⟨6, 0, 0, 0, four (sumOf (deedB (Fs 2) [])) ++ deedB (Fs 2) [], ?_, ?_, rfl, rfl, rfl⟩
    · show frameOf (deedB (Fs 2) []) = _
      unfold frameOf
      rw [hl]
      rfl
    · rw [List.length_append, hl]; rfl
  obtain ⟨a, b, c, d, r, e, hr, rfl, rfl, rfl⟩ := e
  have hu : unframe (0 :: itB (Is 2)) = none := by
    unfold unframe
    rw [e, if_pos]
    right
    right
    left
    simp [numOf, hr]
  rw [scanF_none hu]
theorem scan_none : scanF (itB (Is 1) ++ (List.replicate 8 0 ++ itB (Is 2))) 0 = [Is 1] := by
  rw [scan_it Fs_ok1 _ (by decide)]
  have : scanF (List.replicate 8 0 ++ itB (Is 2)) (Is 1).1.zxid = [] := scan_zero (itB (Is 2)) _
  rw [this]
theorem scan_100 : scanF (List.replicate 100 0) 0 = [] := scan_zero (List.replicate 92 0) 0
set_option maxRecDepth 100000 in
set_option maxHeartbeats 4000000 in
theorem tells_no {w : World} {x : Value} {B : List UInt8} {L : Option Addr} {C n : Nat} (its : List It) (tz : Int) (hx : Bs w x B) (hB : B.length ≤ 1000000) (hs : scanF B 0 = its) (htz : ¬ tz = ((catI its).length : Nat)) (hL : PA.Laid w) :
    Calls Tryd.prog 5 #[x, .int .i64 tz, .slice L n C] w fun e w' => e = .returned (.bool false) ∧ Below w.heap.size w w' := by
  have hsc := scan_any hx (by omega) hL
  rw [hs] at hsc
  obtain ⟨M, hM⟩ : ∃ M : Int, M = ((catI its).length : Nat) := ⟨_, rfl⟩
  rw [← hM] at hsc htz
  have htz' : ¬ M = tz := fun e => htz e.symm
  obtain ⟨AX, CX, rfl⟩ := bs_form hx
  clear hx hs hM hL htz
  go_enter Tryd.func5, Tryd.ntmps5
  go_wp2_with fail
  refine hsc.mono ?_
  rintro e w1 ⟨els, vd, ve, rfl, hel, hrd, hre, hdv, hB1⟩
  have HB1 : Hid (Below w.heap.size w w1) := hB1
  clear hsc hel hrd hre hdv hB1
  go_wp2
  go_ret
  exact ⟨rfl, HB1.out⟩
set_option maxRecDepth 100000 in
set_option maxHeartbeats 4000000 in
theorem rows_own {w : World} {b C : Nat} (zs : List Int) (hz : ∀ z ∈ zs, okIt (Is z)) (hlen : zs.length ≤ 1000) (hc : ∀ j (h : j < zs.length), w.cell? ⟨b, j, none⟩ = some (.int .i64 (zs[j]'h))) (hb : b < w.heap.size) (hL : PA.Laid w) :
    Calls Tryd.prog 4 #[.slice (some ⟨b, 0, none⟩) zs.length C] w fun e w' => ∃ v, e = .returned v ∧ w'.ownsRow w.heap.size 5 1 v (catI (zs.map Is)).length (bv (catI (zs.map Is))) ∧ Below w.heap.size w w' := by
  have HC : Hid (∀ j (h : j < zs.length), w.cell? ⟨b, j, none⟩ = some (.int .i64 (zs[j]'h))) := hc
  have HL : Hid (PA.Laid w) := hL
  have HZ : Hid (∀ z ∈ zs, okIt (Is z)) := hz
  clear hc hL hz
  go_enter Tryd.func4, Tryd.ntmps4
  go_wp2
  go_loopw [3, 4] (fun v i wr => ∃ (k : Nat) (A : Option Addr) (Cv : Nat), k ≤ zs.length ∧ i = .int .i64 k ∧ v = .slice A (catI ((zs.take k).map Is)).length Cv ∧ wr.ownsRow w.heap.size 5 1 v (catI ((zs.take k).map Is)).length (bv (catI ((zs.take k).map Is))) ∧ Below w.heap.size w wr) (fun _ i _ => zs.length - (intOf i).toNat)
  case atStart => exact ⟨0, none, 0, by omega, rfl, rfl, World.ownsRow_nil _ _ _ _, Below.refl _ _⟩
  case round =>
    obtain ⟨k, A, Cv, hk, rfl, rfl, hO, hB⟩ := hrel
    have HO : Hid _ := hO
    have HB : Hid (Below w.heap.size w wr) := hB
    by_cases hlt : k < zs.length
    · have hcl : wr.cell? ⟨b, k, none⟩ = some (.int .i64 (zs[k]'hlt)) := (hB.cell (p := ⟨b, k, none⟩) hb).trans (HC.out k hlt)
      have hok := HZ.out _ (List.getElem_mem hlt)
      have HST : Hid (catI ((zs.take (k + 1)).map Is) = catI ((zs.take k).map Is) ++ itB (Is (zs[k]'hlt))) := catI_take hlt
      have HLE : Hid ((catI ((zs.take k).map Is)).length ≤ 1000 * 700008) := rows_le zs k hlen HZ.out
      generalize (zs[k]'hlt) = z at hcl hok HST
      generalize catI ((zs.take k).map Is) = L at HO HST HLE
      have HOK : Hid (okIt (Is z)) := hok
      have hidx : (k : Int) < (zs.length : Int) := by omega
      clear hO hB hok
      have hsy := sync_any z wr
      go_wp2_with fail
      refine hsy.mono ?_
      rintro e w1 ⟨rfl, hB1⟩
      have HB1 : Hid (Below w.heap.size w w1) := HB.out.trans (hB1.mono HB.out.size)
      have HO1 : Hid (w1.ownsRow w.heap.size 5 1 (.slice A L.length Cv) L.length (bv L)) := owns_keep HO.out (Chg.of_below hB1) (fun _ _ e => e)
      have hpu := sputS z HOK.out w1 (HL.out.below HB1.out)
      clear hsy hB1 HO HB
      go_wp2_with fail
      refine hpu.mono ?_
      rintro e w2 ⟨x, rfl, hx2, hB2⟩
      have HB2 : Hid (Below w.heap.size w w2) := HB1.out.trans (hB2.mono HB1.out.size)
      have hO2 : w2.ownsRow w.heap.size 5 1 (.slice A L.length Cv) L.length (bv L) := owns_keep HO1.out (Chg.of_below hB2) (fun _ _ e => e)
      have hle2 : w.heap.size ≤ w2.heap.size := HB2.out.size
      have HIT : Hid ((itB (Is z)).length ≤ 700008) := by show (itB (Is z)).length ≤ 700008; rw [itB_len]; have := HOK.out.len; omega
      generalize itB (Is z) = T at hx2 HST HIT
      have HAD : Hid (L.length + T.length ≤ 140737488355328) := by have h1 := HLE.out; have h2 := HIT.out; show L.length + T.length ≤ _; omega
      obtain ⟨AX, CX, rfl⟩ := bs_form hx2
      clear hpu hB2 HB1 HO1
      go_wp2_with (at_builtin; refine wpList_app rfl _ _ rfl (.slice A L.length Cv) _ rfl rfl hO2 hx2 hle2 HAD.out ?_; intro A3 C3 w3 ho3 hg3 hl3 hn3)
      have HB3 : Hid (Below w.heap.size w w3) := HB2.out.grown hg3 hle2 (fun j e => (hO2.lt j e).1)
      refine ⟨⟨k + 1, A3, C3, by omega, by go_num, ?_, ?_, HB3.out⟩, by simp [intOf]; omega⟩
      · rw [HST.out, List.length_append]
      · rw [HST.out, List.length_append]; exact ho3
    · have e0 : k = zs.length := by omega
      subst e0
      have HBs : Hid (wr.ownsRow w.heap.size 5 1 (.slice A (catI ((zs.take zs.length).map Is)).length Cv) (catI (zs.map Is)).length (bv (catI (zs.map Is)))) := by
        have h := hO
        rw [List.take_length] at h ⊢
        exact h
      clear hO hB HO
      go_wp2
      go_ret
      exact ⟨_, rfl, HBs.out, HB.out⟩
theorem rows1o {X : World} (z : Int) (hz : okIt (Is z)) (hL : PA.Laid X) :
    Calls Tryd.prog 4 #[.slice (some ⟨X.heap.size, 0, none⟩) 1 1] (X.alloc (.cells #[.int .i64 z] 24)) fun e w' => ∃ v, e = .returned v ∧ w'.ownsRow (X.heap.size + 1) 5 1 v (itB (Is z)).length (bv (itB (Is z))) ∧ Below X.heap.size X w' := by
  have hB0 : Below X.heap.size X (X.alloc (.cells #[.int .i64 z] 24)) := (Below.refl _ _).alloc (Nat.le_refl _) _
  refine (rows_own (C := 1) [z] (fun u hu => by rw [List.mem_singleton.1 hu]; exact hz) (by simp) (fun j hj => ?_) (by simp) (hL.below hB0)).mono ?_
  · have h := heap_alloc_new X (.cells #[.int .i64 z] 24)
    have hj' : j < 1 := hj
    obtain rfl : j = 0 := by omega
    rw [cell_at h]
    rfl
  · rintro e w' ⟨v, rfl, hv, hb⟩
    rw [show [z].map Is = [Is z] from rfl, catI_one, show (X.alloc (.cells #[.int .i64 z] 24)).heap.size = X.heap.size + 1 by simp] at hv
    exact ⟨v, rfl, hv, hB0.trans (hb.mono hB0.size)⟩
theorem rows3 {X : World} (x y z : Int) (hx : okIt (Is x)) (hy : okIt (Is y)) (hz : okIt (Is z)) (hL : PA.Laid X) :
    Calls Tryd.prog 4 #[.slice (some ⟨X.heap.size, 0, none⟩) 3 3] (X.alloc (.cells #[.int .i64 x, .int .i64 y, .int .i64 z] 24)) fun e w' => ∃ v, e = .returned v ∧ Bs w' v (catI [Is x, Is y, Is z]) ∧ Below X.heap.size X w' := by
  have hB0 : Below X.heap.size X (X.alloc (.cells #[.int .i64 x, .int .i64 y, .int .i64 z] 24)) := (Below.refl _ _).alloc (Nat.le_refl _) _
  refine (rows_any (C := 3) [x, y, z] (fun u hu => by
    rcases List.mem_cons.1 hu with rfl | hu
    · exact hx
    · rcases List.mem_cons.1 hu with rfl | hu
      · exact hy
      · rw [List.mem_singleton.1 hu]; exact hz) (by simp) (fun j hj => ?_) (by simp) (hL.below hB0)).mono ?_
  · have h := heap_alloc_new X (.cells #[.int .i64 x, .int .i64 y, .int .i64 z] 24)
    have hj' : j < 3 := hj
    rw [cell_at h]
    rcases j with _ | _ | _ | j
    · rfl
    · rfl
    · rfl
    · omega
  · rintro e w' ⟨v, rfl, hv, hb⟩
    exact ⟨v, rfl, hv, hB0.trans (hb.mono hB0.size)⟩
theorem tells3 {X : World} {v : Value} {B : List UInt8} (x y z tz : Int) (hv : Bs X v B) (hB : B.length ≤ 1000000) (hs : scanF B 0 = [Is x, Is y, Is z]) (ht : tz = ((catI [Is x, Is y, Is z]).length : Nat)) (hx : okIt (Is x)) (hy : okIt (Is y)) (hz : okIt (Is z)) (hL : PA.Laid X) :
    Calls Tryd.prog 5 #[v, .int .i64 tz, .slice (some ⟨X.heap.size, 0, none⟩) 3 3] (X.alloc (.cells #[.int .i64 x, .int .i64 y, .int .i64 z] 24)) fun e w' => e = .returned (.bool true) ∧ Below X.heap.size X w' := by
  have hB0 : Below X.heap.size X (X.alloc (.cells #[.int .i64 x, .int .i64 y, .int .i64 z] 24)) := (Below.refl _ _).alloc (Nat.le_refl _) _
  refine (tells_any (C := 3) [x, y, z] tz (hv.alloc _) hB hs ht (fun u hu => by
    rcases List.mem_cons.1 hu with rfl | hu
    · exact hx
    · rcases List.mem_cons.1 hu with rfl | hu
      · exact hy
      · rw [List.mem_singleton.1 hu]; exact hz) (by simp) (.inr ⟨X.heap.size, rfl, by simp, fun j hj => ?_⟩) (hL.below hB0)).mono ?_
  · have h := heap_alloc_new X (.cells #[.int .i64 x, .int .i64 y, .int .i64 z] 24)
    have hj' : j < 3 := hj
    rw [cell_at h]
    rcases j with _ | _ | _ | j
    · rfl
    · rfl
    · rfl
    · omega
  · rintro e w' ⟨rfl, hb⟩
    exact ⟨rfl, hB0.trans (hb.mono hB0.size)⟩
theorem tells1no {X : World} {x : Value} {B : List UInt8} (its : List It) (z tz : Int) (hx : Bs X x B) (hB : B.length ≤ 1000000) (hs : scanF B 0 = its) (ht : ¬ tz = ((catI its).length : Nat)) (hL : PA.Laid X) :
    Calls Tryd.prog 5 #[x, .int .i64 tz, .slice (some ⟨X.heap.size, 0, none⟩) 1 1] (X.alloc (.cells #[.int .i64 z] 24)) fun e w' => e = .returned (.bool false) ∧ Below X.heap.size X w' := by
  have hB0 : Below X.heap.size X (X.alloc (.cells #[.int .i64 z] 24)) := (Below.refl _ _).alloc (Nat.le_refl _) _
  refine (tells_no its tz (hx.alloc _) hB hs ht (hL.below hB0)).mono ?_
  rintro e w' ⟨rfl, hb⟩
  exact ⟨rfl, hB0.trans (hb.mono hB0.size)⟩
end Go.Proofs.YtogikhondibifaaDoor.DD

namespace Go.Proofs.YtogikhondibifaaDoor.DD
set_option linter.unusedVariables false
open Go.RowKit Go.Sort
set_option linter.unusedVariables false

theorem litG {X : World} {bl base : Nat} (hb : base ≤ bl) (h : X.heap[bl]? = some (.cells #[.int .u8 0, .int .u8 0, .int .u8 0, .int .u8 0, .int .u8 0, .int .u8 0, .int .u8 0, .int .u8 0] 5)) : X.ownsRow base 5 1 (.slice (some ⟨bl, 0, none⟩) 8 8) 8 (bv (List.replicate 8 0)) :=
  ⟨rfl, .inr ⟨bl, 8, #[.int .u8 0, .int .u8 0, .int .u8 0, .int .u8 0, .int .u8 0, .int .u8 0, .int .u8 0, .int .u8 0], rfl, hb, h, Nat.le_refl _, by decide, rfl, rfl⟩⟩
theorem make8 (w : World) : (Instr.makeSlice 22 (.int .i64 8) (.int .i64 8)).run Tryd.prog w = .ok (.slice (some ⟨w.heap.size, 0, none⟩) 8 8) (w.alloc (.cells #[.int .u8 0, .int .u8 0, .int .u8 0, .int .u8 0, .int .u8 0, .int .u8 0, .int .u8 0, .int .u8 0] 5)) := by kernel_rfl
theorem stepApp {w : World} {ops : Array Oper} {o : Oper} {a : Act} {K : Act → World → Prop} {Q : Exit → Act → World → Prop} {E : Prop} (hgd : o.guard = none) (s x : Operand) (ho : o.op = .call { callee := .builtin .append, args := #[s, x], argTypes := #[22, 22] })
    {base n m : Nat} (v xv : Value) {l news : List UInt8} (hs : a.eval s = v) (hxe : a.eval x = xv) (hown : w.ownsRow base 5 1 v n (bv l)) (hx : Bs w xv news) (hb : base ≤ w.heap.size) (hn : l.length + news.length ≤ 140737488355328) (hm : m = (l ++ news).length)
    (h : ∀ A C w', w'.ownsRow base 5 1 (.slice A m C) m (bv (l ++ news)) → w.grownBy w' (blk v) → K (a.put o.dst (.slice A m C)) w') :
    if Region.wanted o (yielded ops a.tmps) = true then Oper.wp Tryd.prog o a w K Q else E := by
  subst hm
  obtain ⟨v', w', hrun, ho', hg, -, -⟩ := app_bytes o.type hown hx hb hn
  obtain ⟨A, C, rfl⟩ := owns_form' ho'
  have hw : Region.wanted o (yielded ops a.tmps) = true := by simp [Region.wanted, hgd]
  rw [if_pos hw]
  unfold Oper.wp execOp
  simp only [ho, resolve, invoke, builtin, Sem.run_bind, Sem.run_pure, Result.andThen_ok, List.map_toArray, List.map_cons, List.map_nil, hs, hxe, hrun]
  exact h A C w' ho' hg
theorem owns_weak {w : World} {base base' T size n : Nat} {v : Value} {xs : List Value} (h : w.ownsRow base T size v n xs) (hb : base' ≤ base) : w.ownsRow base' T size v n xs := by
  refine ⟨h.1, ?_⟩
  rcases h.2 with e | ⟨g, C, cur, e, hg, r⟩
  · exact .inl e
  · exact .inr ⟨g, C, cur, e, Nat.le_trans hb hg, r⟩
structure G13 (S : World) (T1 T2 : List UInt8) (d0 d1 d2 d3 d4 : Bool) (z39 z40 z41 z42 z43 : Value) (w : World) : Prop where
  bel : Below S.heap.size S w
  p0 : d0 = true → ∃ b, z39 = .slice (some ⟨b, 0, none⟩) 1 1 ∧ w.heap[b]? = some (.cells #[.int .i64 1] 24)
  p1 : d1 = true → ∃ A C, z40 = .slice A T1.length C ∧ w.ownsRow S.heap.size 5 1 (.slice A T1.length C) T1.length (bv T1)
  p2 : d2 = true → ∃ b, z41 = .slice (some ⟨b, 0, none⟩) 8 8 ∧ S.heap.size ≤ b ∧ w.heap[b]? = some (.cells #[.int .u8 0, .int .u8 0, .int .u8 0, .int .u8 0, .int .u8 0, .int .u8 0, .int .u8 0, .int .u8 0] 5)
  p3 : d3 = true → ∃ b, z42 = .slice (some ⟨b, 0, none⟩) 1 1 ∧ w.heap[b]? = some (.cells #[.int .i64 2] 24)
  p4 : d4 = true → ∃ A C, z43 = .slice A T2.length C ∧ Bs w (.slice A T2.length C) T2
theorem G13.below {S : World} {T1 T2 : List UInt8} {d0 d1 d2 d3 d4 : Bool} {z39 z40 z41 z42 z43 : Value} {w w' : World} (h : G13 S T1 T2 d0 d1 d2 d3 d4 z39 z40 z41 z42 z43 w) (hb : Below w.heap.size w w') : G13 S T1 T2 d0 d1 d2 d3 d4 z39 z40 z41 z42 z43 w' :=
  ⟨h.bel.trans (hb.mono h.bel.size), fun e => (h.p0 e).imp fun b q => ⟨q.1, (hb.block _ (heap_lt q.2)).trans q.2⟩, fun e => (h.p1 e).imp fun A q => q.imp fun C q => ⟨q.1, owns_keep q.2 (Chg.of_below hb) (fun _ _ e => e)⟩, fun e => (h.p2 e).imp fun b q => ⟨q.1, q.2.1, (hb.block _ (heap_lt q.2.2)).trans q.2.2⟩, fun e => (h.p3 e).imp fun b q => ⟨q.1, (hb.block _ (heap_lt q.2)).trans q.2⟩, fun e => (h.p4 e).imp fun A q => q.imp fun C q => ⟨q.1, Bs.below' q.2 hb⟩⟩
theorem lay_any (w : World) (o : Obj) : Below w.heap.size w (w.alloc o) := (Below.refl _ _).alloc (Nat.le_refl _) _
theorem G13.step0 {S : World} {T1 T2 : List UInt8} {d0 d1 d2 d3 d4 : Bool} {z39 z40 z41 z42 z43 : Value} {w : World} (h : G13 S T1 T2 d0 d1 d2 d3 d4 z39 z40 z41 z42 z43 w) : G13 S T1 T2 true d1 d2 d3 d4 (.slice (some ⟨w.heap.size, 0, none⟩) 1 1) z40 z41 z42 z43 (w.alloc (.cells #[.int .i64 1] 24)) := by
  have h' := h.below (lay_any w (.cells #[.int .i64 1] 24))
  exact ⟨h'.bel, fun _ => ⟨_, rfl, heap_alloc_new w _⟩, h'.p1, h'.p2, h'.p3, h'.p4⟩
theorem G13.step3 {S : World} {T1 T2 : List UInt8} {d0 d1 d2 d3 d4 : Bool} {z39 z40 z41 z42 z43 : Value} {w : World} (h : G13 S T1 T2 d0 d1 d2 d3 d4 z39 z40 z41 z42 z43 w) : G13 S T1 T2 d0 d1 d2 true d4 z39 z40 z41 (.slice (some ⟨w.heap.size, 0, none⟩) 1 1) z43 (w.alloc (.cells #[.int .i64 2] 24)) := by
  have h' := h.below (lay_any w (.cells #[.int .i64 2] 24))
  exact ⟨h'.bel, h'.p0, h'.p1, h'.p2, fun _ => ⟨_, rfl, heap_alloc_new w _⟩, h'.p4⟩
theorem G13.step2 {S : World} {T1 T2 : List UInt8} {d0 d1 d2 d3 d4 : Bool} {z39 z40 z41 z42 z43 : Value} {w : World} (h : G13 S T1 T2 d0 d1 d2 d3 d4 z39 z40 z41 z42 z43 w) : G13 S T1 T2 d0 d1 true d3 d4 z39 z40 (.slice (some ⟨w.heap.size, 0, none⟩) 8 8) z42 z43 (w.alloc (.cells #[.int .u8 0, .int .u8 0, .int .u8 0, .int .u8 0, .int .u8 0, .int .u8 0, .int .u8 0, .int .u8 0] 5)) := by
  have h' := h.below (lay_any w (.cells #[.int .u8 0, .int .u8 0, .int .u8 0, .int .u8 0, .int .u8 0, .int .u8 0, .int .u8 0, .int .u8 0] 5))
  exact ⟨h'.bel, h'.p0, h'.p1, fun _ => ⟨_, rfl, h.bel.size, heap_alloc_new w _⟩, h'.p3, h'.p4⟩
theorem rows_at {w : World} {b : Nat} (z : Int) (hz : okIt (Is z)) (hc : w.heap[b]? = some (.cells #[.int .i64 z] 24)) (hL : PA.Laid w) :
    Calls Tryd.prog 4 #[.slice (some ⟨b, 0, none⟩) 1 1] w fun e w' => ∃ v, e = .returned v ∧ w'.ownsRow w.heap.size 5 1 v (itB (Is z)).length (bv (itB (Is z))) ∧ Below w.heap.size w w' := by
  refine (rows_own (C := 1) [z] (fun u hu => by rw [List.mem_singleton.1 hu]; exact hz) (by simp) (fun j hj => ?_) (heap_lt hc) hL).mono ?_
  · have hj' : j < 1 := hj
    obtain rfl : j = 0 := by omega
    rw [cell_at hc]
    rfl
  · rintro e w' ⟨v, rfl, hv, hb⟩
    rw [show [z].map Is = [Is z] from rfl, catI_one] at hv
    exact ⟨v, rfl, hv, hb⟩
theorem G13.call1 {S : World} {T1 T2 : List UInt8} {d1 d2 d3 d4 : Bool} {z40 z41 z42 z43 : Value} {w : World} {b : Nat} (h : G13 S T1 T2 true d1 d2 d3 d4 (.slice (some ⟨b, 0, none⟩) 1 1) z40 z41 z42 z43 w) (hL : PA.Laid S) (hT : T1 = itB (Is 1)) : Calls Tryd.prog 4 #[.slice (some ⟨b, 0, none⟩) 1 1] w fun e w' => ∃ v, e = .returned v ∧ G13 S T1 T2 true true d2 d3 d4 (.slice (some ⟨b, 0, none⟩) 1 1) v z41 z42 z43 w' := by
  subst hT
  obtain ⟨b', hb1, hb2⟩ := h.p0 rfl
  cases hb1
  refine (rows_at 1 Fs_ok1 hb2 (hL.below h.bel)).mono ?_
  rintro e w' ⟨v, rfl, hv, hb⟩
  obtain ⟨A, C, rfl⟩ := owns_form' hv
  have h' := h.below hb
  exact ⟨_, rfl, h'.bel, h'.p0, fun _ => ⟨A, C, rfl, owns_weak hv h.bel.size⟩, h'.p2, h'.p3, h'.p4⟩
theorem G13.call4 {S : World} {T1 T2 : List UInt8} {d0 d1 d2 d4 : Bool} {z39 z40 z41 z43 : Value} {w : World} {b : Nat} (h : G13 S T1 T2 d0 d1 d2 true d4 z39 z40 z41 (.slice (some ⟨b, 0, none⟩) 1 1) z43 w) (hL : PA.Laid S) (hT : T2 = itB (Is 2)) : Calls Tryd.prog 4 #[.slice (some ⟨b, 0, none⟩) 1 1] w fun e w' => ∃ v, e = .returned v ∧ G13 S T1 T2 d0 d1 d2 true true z39 z40 z41 (.slice (some ⟨b, 0, none⟩) 1 1) v w' := by
  subst hT
  obtain ⟨b', hb1, hb2⟩ := h.p3 rfl
  cases hb1
  refine (rows_at 2 Fs_ok2 hb2 (hL.below h.bel)).mono ?_
  rintro e w' ⟨v, rfl, hv, hb⟩
  obtain ⟨A, C, rfl⟩ := owns_form' hv
  have h' := h.below hb
  exact ⟨_, rfl, h'.bel, h'.p0, h'.p1, h'.p2, h'.p3, fun _ => ⟨A, C, rfl, Bs.of_owns hv⟩⟩
set_option maxRecDepth 100000 in
set_option maxHeartbeats 8000000 in
theorem reg13 {K : Act → World → Prop} {Q : Exit → Act → World → Prop} {S : World} {T1 T2 : List UInt8} {x0 x1 x2 x3 x4 x5 x6 x7 x8 x9 x10 x11 x12 x13 x14 x15 x16 x17 x18 x19 x20 x21 x22 x23 x24 x25 x26 x27 x28 x29 x30 x31 x32 x33 x34 x35 x36 x37 x38 x46 x47 x48 x49 x50 x51 x52 x53 x54 x55 x56 x57 x58 x59 x60 x61 x62 x63 x64 x65 x66 x67 x68 x69 x70 x71 x72 x73 x74 x75 x76 x77 x78 z39 z40 z41 z42 z43 z44 z45 : Value} (hL : PA.Laid S) (hT1 : T1 = itB (Is 1)) (hT2 : T2 = itB (Is 2)) (h1 : T1.length = 14) (h2 : T2.length = 14)
    (hK : ∀ (z39 z40 z41 z42 z43 z44 : Value) A C w', Below S.heap.size S w' → Bs w' (.slice A (T1.length + (8 + T2.length)) C) (T1 ++ (List.replicate 8 0 ++ T2)) → K { tmps := #[x0, x1, x2, x3, x4, (.slice A (T1.length + (8 + T2.length)) C), x6, x7, x8, x9, x10, x11, x12, x13, x14, x15, x16, x17, x18, x19, x20, x21, x22, x23, x24, x25, x26, x27, x28, x29, x30, x31, x32, x33, x34, x35, x36, x37, x38, z39, z40, z41, z42, z43, z44, (.slice A (T1.length + (8 + T2.length)) C), x46, x47, x48, x49, x50, x51, x52, x53, x54, x55, x56, x57, x58, x59, x60, x61, x62, x63, x64, x65, x66, x67, x68, x69, x70, x71, x72, x73, x74, x75, x76, x77, x78], defers := [] } w') :
    Code.wp Tryd.prog (Code.region 13 #[{ dst := some 39, op := Op.buildSlice 27 1 #[(0, Operand.const (Value.int IntKind.i64 1))], type := 27, pos := "law.go:104", after := #[], guard := none }, { dst := some 40, op := Op.call { callee := Callee.value (Operand.func 4), args := #[Operand.tmp 39], argTypes := #[27] }, type := 22, pos := "law.go:104", after := #[{ on := 0, ground := Ground.data }], guard := none }, { dst := some 41, op := Op.makeSlice 22 (Operand.const (Value.int IntKind.i64 8)) (Operand.const (Value.int IntKind.i64 8)), type := 22, pos := "law.go:104", after := #[], guard := none }, { dst := some 42, op := Op.buildSlice 27 1 #[(0, Operand.const (Value.int IntKind.i64 2))], type := 27, pos := "law.go:104", after := #[], guard := none }, { dst := some 43, op := Op.call { callee := Callee.value (Operand.func 4), args := #[Operand.tmp 42], argTypes := #[27] }, type := 22, pos := "law.go:104", after := #[{ on := 3, ground := Ground.data }, { on := 1, ground := Ground.chain }], guard := none }, { dst := some 44, op := Op.call { callee := Callee.builtin Builtin.append, args := #[Operand.tmp 41, Operand.tmp 43], argTypes := #[22, 22] }, type := 22, pos := "law.go:104", after := #[{ on := 2, ground := Ground.data }, { on := 4, ground := Ground.data }, { on := 4, ground := Ground.chain }], guard := none }, { dst := some 45, op := Op.call { callee := Callee.builtin Builtin.append, args := #[Operand.tmp 40, Operand.tmp 44], argTypes := #[22, 22] }, type := 22, pos := "law.go:104", after := #[{ on := 1, ground := Ground.data }, { on := 5, ground := Ground.data }, { on := 5, ground := Ground.chain }], guard := none }, { dst := some 5, op := Op.assign (Operand.tmp 45), type := 22, pos := "law.go:104", after := #[{ on := 6, ground := Ground.data }, { on := 6, ground := Ground.chain }, { on := 0, ground := Ground.phase }, { on := 1, ground := Ground.phase }, { on := 2, ground := Ground.phase }, { on := 3, ground := Ground.phase }, { on := 4, ground := Ground.phase }, { on := 5, ground := Ground.phase }, { on := 6, ground := Ground.phase }], guard := none }] true) (Exit.then K Q) { tmps := #[x0, x1, x2, x3, x4, x5, x6, x7, x8, x9, x10, x11, x12, x13, x14, x15, x16, x17, x18, x19, x20, x21, x22, x23, x24, x25, x26, x27, x28, x29, x30, x31, x32, x33, x34, x35, x36, x37, x38, z39, z40, z41, z42, z43, z44, z45, x46, x47, x48, x49, x50, x51, x52, x53, x54, x55, x56, x57, x58, x59, x60, x61, x62, x63, x64, x65, x66, x67, x68, x69, x70, x71, x72, x73, x74, x75, x76, x77, x78], defers := [] } S := by
  have HL : Hid (PA.Laid S) := hL
  have HT1 : Hid (T1 = itB (Is 1)) := hT1
  have HT2 : Hid (T2 = itB (Is 2)) := hT2
  have HL1 : Hid (T1.length = 14) := h1
  have HL2 : Hid (T2.length = 14) := h2
  have HK : Hid _ := hK
  clear hL hT1 hT2 h1 h2 hK
  have s11111 : Hid (∀ z39 z40 z41 z42 z43 w, G13 S T1 T2 true true true true true z39 z40 z41 z42 z43 w → wpAny Tryd.prog .any #[{ dst := some 39, op := Op.buildSlice 27 1 #[(0, Operand.const (Value.int IntKind.i64 1))], type := 27, pos := "law.go:104", after := #[], guard := none }, { dst := some 40, op := Op.call { callee := Callee.value (Operand.func 4), args := #[Operand.tmp 39], argTypes := #[27] }, type := 22, pos := "law.go:104", after := #[{ on := 0, ground := Ground.data }], guard := none }, { dst := some 41, op := Op.makeSlice 22 (Operand.const (Value.int IntKind.i64 8)) (Operand.const (Value.int IntKind.i64 8)), type := 22, pos := "law.go:104", after := #[], guard := none }, { dst := some 42, op := Op.buildSlice 27 1 #[(0, Operand.const (Value.int IntKind.i64 2))], type := 27, pos := "law.go:104", after := #[], guard := none }, { dst := some 43, op := Op.call { callee := Callee.value (Operand.func 4), args := #[Operand.tmp 42], argTypes := #[27] }, type := 22, pos := "law.go:104", after := #[{ on := 3, ground := Ground.data }, { on := 1, ground := Ground.chain }], guard := none }, { dst := some 44, op := Op.call { callee := Callee.builtin Builtin.append, args := #[Operand.tmp 41, Operand.tmp 43], argTypes := #[22, 22] }, type := 22, pos := "law.go:104", after := #[{ on := 2, ground := Ground.data }, { on := 4, ground := Ground.data }, { on := 4, ground := Ground.chain }], guard := none }, { dst := some 45, op := Op.call { callee := Callee.builtin Builtin.append, args := #[Operand.tmp 40, Operand.tmp 44], argTypes := #[22, 22] }, type := 22, pos := "law.go:104", after := #[{ on := 1, ground := Ground.data }, { on := 5, ground := Ground.data }, { on := 5, ground := Ground.chain }], guard := none }, { dst := some 5, op := Op.assign (Operand.tmp 45), type := 22, pos := "law.go:104", after := #[{ on := 6, ground := Ground.data }, { on := 6, ground := Ground.chain }, { on := 0, ground := Ground.phase }, { on := 1, ground := Ground.phase }, { on := 2, ground := Ground.phase }, { on := 3, ground := Ground.phase }, { on := 4, ground := Ground.phase }, { on := 5, ground := Ground.phase }, { on := 6, ground := Ground.phase }], guard := none }] (Exit.then K Q) 3 #[true, true, true, true, true, false, false, false] { tmps := #[x0, x1, x2, x3, x4, x5, x6, x7, x8, x9, x10, x11, x12, x13, x14, x15, x16, x17, x18, x19, x20, x21, x22, x23, x24, x25, x26, x27, x28, x29, x30, x31, x32, x33, x34, x35, x36, x37, x38, z39, z40, z41, z42, z43, z44, z45, x46, x47, x48, x49, x50, x51, x52, x53, x54, x55, x56, x57, x58, x59, x60, x61, x62, x63, x64, x65, x66, x67, x68, x69, x70, x71, x72, x73, x74, x75, x76, x77, x78], defers := [] } w) := by
    intro z39 z40 z41 z42 z43 w h
    obtain ⟨A1, C1, rfl, ho1⟩ := h.p1 rfl
    obtain ⟨b2, rfl, hb2, hl2⟩ := h.p2 rfl
    obtain ⟨A2, C2, rfl, hx2⟩ := h.p4 rfl
    have hlit := litG hb2 hl2
    have hne : (Value.slice A1 T1.length C1).ownBlock ≠ some b2 := by
      intro e
      rcases ho1.2 with ⟨e1, h0⟩ | ⟨g, C', cur, e1, _, hg, hc, _, hs, _⟩
      · rw [HL1.out] at h0; cases h0
      · cases e1
        have e2 : g = b2 := Option.some.inj e
        subst e2
        rw [hl2] at hg
        cases hg
        have h14 := HL1.out
        simp at hs
        omega
    refine wpAny_ready (rs := [5]) (by decide +kernel) (by simp) ?_
    refine AllReady.cons rfl (fun K0 hK0 => ?_) AllReady.nil
    refine stepApp (m := 8 + T2.length) rfl (.tmp 41) (.tmp 43) rfl (.slice (some ⟨b2, 0, none⟩) 8 8) (.slice A2 T2.length C2) rfl rfl hlit hx2 h.bel.size (by rw [List.length_replicate, HL2.out]; decide) (by rw [List.length_append, List.length_replicate]) ?_
    intro A6 C6 w6 ho6 hg6
    have ho16 := owns_keep ho1 (Chg.of_grown hg6) (fun k hk e => hne (hk.trans e.symm))
    have hB6 : Below S.heap.size S w6 := h.bel.grown hg6 h.bel.size (fun j e => by have e2 : b2 = j := Option.some.inj e; omega)
    go_simp
    refine hK0 _ _ ?_
    refine wpAny_ready (rs := [6]) (by decide +kernel) (by simp) ?_
    refine AllReady.cons rfl (fun K1 hK1 => ?_) AllReady.nil
    refine stepApp (m := T1.length + (8 + T2.length)) rfl (.tmp 40) (.tmp 44) rfl (.slice A1 T1.length C1) (.slice A6 (8 + T2.length) C6) rfl rfl ho16 (Bs.of_owns ho6) hB6.size (by rw [List.length_append, List.length_replicate, HL1.out, HL2.out]; decide) (by rw [List.length_append, List.length_append, List.length_replicate]) ?_
    intro A7 C7 w7 ho7 hg7
    have hB7 : Below S.heap.size S w7 := hB6.grown hg7 hB6.size (fun j e => (ho16.lt j e).1)
    go_simp
    refine hK1 _ _ ?_
    refine wpAny_ready (rs := [7]) (by decide +kernel) (by simp) ?_
    refine AllReady.cons rfl (fun K2 hK2 => ?_) AllReady.nil
    go_simp
    refine hK2 _ _ ?_
    refine wpAny_done (by decide +kernel) ?_ _
    exact HK.out _ _ _ _ _ _ A7 C7 w7 hB7 (Bs.of_owns ho7)
  have s11110 : Hid (∀ z39 z40 z41 z42 z43 w, G13 S T1 T2 true true true true false z39 z40 z41 z42 z43 w → wpAny Tryd.prog .any #[{ dst := some 39, op := Op.buildSlice 27 1 #[(0, Operand.const (Value.int IntKind.i64 1))], type := 27, pos := "law.go:104", after := #[], guard := none }, { dst := some 40, op := Op.call { callee := Callee.value (Operand.func 4), args := #[Operand.tmp 39], argTypes := #[27] }, type := 22, pos := "law.go:104", after := #[{ on := 0, ground := Ground.data }], guard := none }, { dst := some 41, op := Op.makeSlice 22 (Operand.const (Value.int IntKind.i64 8)) (Operand.const (Value.int IntKind.i64 8)), type := 22, pos := "law.go:104", after := #[], guard := none }, { dst := some 42, op := Op.buildSlice 27 1 #[(0, Operand.const (Value.int IntKind.i64 2))], type := 27, pos := "law.go:104", after := #[], guard := none }, { dst := some 43, op := Op.call { callee := Callee.value (Operand.func 4), args := #[Operand.tmp 42], argTypes := #[27] }, type := 22, pos := "law.go:104", after := #[{ on := 3, ground := Ground.data }, { on := 1, ground := Ground.chain }], guard := none }, { dst := some 44, op := Op.call { callee := Callee.builtin Builtin.append, args := #[Operand.tmp 41, Operand.tmp 43], argTypes := #[22, 22] }, type := 22, pos := "law.go:104", after := #[{ on := 2, ground := Ground.data }, { on := 4, ground := Ground.data }, { on := 4, ground := Ground.chain }], guard := none }, { dst := some 45, op := Op.call { callee := Callee.builtin Builtin.append, args := #[Operand.tmp 40, Operand.tmp 44], argTypes := #[22, 22] }, type := 22, pos := "law.go:104", after := #[{ on := 1, ground := Ground.data }, { on := 5, ground := Ground.data }, { on := 5, ground := Ground.chain }], guard := none }, { dst := some 5, op := Op.assign (Operand.tmp 45), type := 22, pos := "law.go:104", after := #[{ on := 6, ground := Ground.data }, { on := 6, ground := Ground.chain }, { on := 0, ground := Ground.phase }, { on := 1, ground := Ground.phase }, { on := 2, ground := Ground.phase }, { on := 3, ground := Ground.phase }, { on := 4, ground := Ground.phase }, { on := 5, ground := Ground.phase }, { on := 6, ground := Ground.phase }], guard := none }] (Exit.then K Q) 4 #[true, true, true, true, false, false, false, false] { tmps := #[x0, x1, x2, x3, x4, x5, x6, x7, x8, x9, x10, x11, x12, x13, x14, x15, x16, x17, x18, x19, x20, x21, x22, x23, x24, x25, x26, x27, x28, x29, x30, x31, x32, x33, x34, x35, x36, x37, x38, z39, z40, z41, z42, z43, z44, z45, x46, x47, x48, x49, x50, x51, x52, x53, x54, x55, x56, x57, x58, x59, x60, x61, x62, x63, x64, x65, x66, x67, x68, x69, x70, x71, x72, x73, x74, x75, x76, x77, x78], defers := [] } w) := by
    intro z39 z40 z41 z42 z43 w h
    refine wpAny_ready (rs := [4]) (by decide +kernel) (by simp) ?_
    refine (AllReady.cons rfl (fun K0 hK0 => ?_) AllReady.nil)
    · obtain ⟨b, rfl, -⟩ := h.p3 rfl
      have hc := h.call4 HL.out HT2.out
      go_simp; go_at_call 4; refine hc.mono ?_
      rintro e w' ⟨v, rfl, h'⟩
      go_simp; refine hK0 _ _ ?_; exact s11111.out _ _ _ _ _ _ h'
  have s11011 : Hid (∀ z39 z40 z41 z42 z43 w, G13 S T1 T2 true true false true true z39 z40 z41 z42 z43 w → wpAny Tryd.prog .any #[{ dst := some 39, op := Op.buildSlice 27 1 #[(0, Operand.const (Value.int IntKind.i64 1))], type := 27, pos := "law.go:104", after := #[], guard := none }, { dst := some 40, op := Op.call { callee := Callee.value (Operand.func 4), args := #[Operand.tmp 39], argTypes := #[27] }, type := 22, pos := "law.go:104", after := #[{ on := 0, ground := Ground.data }], guard := none }, { dst := some 41, op := Op.makeSlice 22 (Operand.const (Value.int IntKind.i64 8)) (Operand.const (Value.int IntKind.i64 8)), type := 22, pos := "law.go:104", after := #[], guard := none }, { dst := some 42, op := Op.buildSlice 27 1 #[(0, Operand.const (Value.int IntKind.i64 2))], type := 27, pos := "law.go:104", after := #[], guard := none }, { dst := some 43, op := Op.call { callee := Callee.value (Operand.func 4), args := #[Operand.tmp 42], argTypes := #[27] }, type := 22, pos := "law.go:104", after := #[{ on := 3, ground := Ground.data }, { on := 1, ground := Ground.chain }], guard := none }, { dst := some 44, op := Op.call { callee := Callee.builtin Builtin.append, args := #[Operand.tmp 41, Operand.tmp 43], argTypes := #[22, 22] }, type := 22, pos := "law.go:104", after := #[{ on := 2, ground := Ground.data }, { on := 4, ground := Ground.data }, { on := 4, ground := Ground.chain }], guard := none }, { dst := some 45, op := Op.call { callee := Callee.builtin Builtin.append, args := #[Operand.tmp 40, Operand.tmp 44], argTypes := #[22, 22] }, type := 22, pos := "law.go:104", after := #[{ on := 1, ground := Ground.data }, { on := 5, ground := Ground.data }, { on := 5, ground := Ground.chain }], guard := none }, { dst := some 5, op := Op.assign (Operand.tmp 45), type := 22, pos := "law.go:104", after := #[{ on := 6, ground := Ground.data }, { on := 6, ground := Ground.chain }, { on := 0, ground := Ground.phase }, { on := 1, ground := Ground.phase }, { on := 2, ground := Ground.phase }, { on := 3, ground := Ground.phase }, { on := 4, ground := Ground.phase }, { on := 5, ground := Ground.phase }, { on := 6, ground := Ground.phase }], guard := none }] (Exit.then K Q) 4 #[true, true, false, true, true, false, false, false] { tmps := #[x0, x1, x2, x3, x4, x5, x6, x7, x8, x9, x10, x11, x12, x13, x14, x15, x16, x17, x18, x19, x20, x21, x22, x23, x24, x25, x26, x27, x28, x29, x30, x31, x32, x33, x34, x35, x36, x37, x38, z39, z40, z41, z42, z43, z44, z45, x46, x47, x48, x49, x50, x51, x52, x53, x54, x55, x56, x57, x58, x59, x60, x61, x62, x63, x64, x65, x66, x67, x68, x69, x70, x71, x72, x73, x74, x75, x76, x77, x78], defers := [] } w) := by
    intro z39 z40 z41 z42 z43 w h
    refine wpAny_ready (rs := [2]) (by decide +kernel) (by simp) ?_
    refine (AllReady.cons rfl (fun K0 hK0 => ?_) AllReady.nil)
    · have hmk := make8 w
      go_simp; refine hK0 _ _ ?_; exact s11111.out _ _ _ _ _ _ h.step2
  have s11100 : Hid (∀ z39 z40 z41 z42 z43 w, G13 S T1 T2 true true true false false z39 z40 z41 z42 z43 w → wpAny Tryd.prog .any #[{ dst := some 39, op := Op.buildSlice 27 1 #[(0, Operand.const (Value.int IntKind.i64 1))], type := 27, pos := "law.go:104", after := #[], guard := none }, { dst := some 40, op := Op.call { callee := Callee.value (Operand.func 4), args := #[Operand.tmp 39], argTypes := #[27] }, type := 22, pos := "law.go:104", after := #[{ on := 0, ground := Ground.data }], guard := none }, { dst := some 41, op := Op.makeSlice 22 (Operand.const (Value.int IntKind.i64 8)) (Operand.const (Value.int IntKind.i64 8)), type := 22, pos := "law.go:104", after := #[], guard := none }, { dst := some 42, op := Op.buildSlice 27 1 #[(0, Operand.const (Value.int IntKind.i64 2))], type := 27, pos := "law.go:104", after := #[], guard := none }, { dst := some 43, op := Op.call { callee := Callee.value (Operand.func 4), args := #[Operand.tmp 42], argTypes := #[27] }, type := 22, pos := "law.go:104", after := #[{ on := 3, ground := Ground.data }, { on := 1, ground := Ground.chain }], guard := none }, { dst := some 44, op := Op.call { callee := Callee.builtin Builtin.append, args := #[Operand.tmp 41, Operand.tmp 43], argTypes := #[22, 22] }, type := 22, pos := "law.go:104", after := #[{ on := 2, ground := Ground.data }, { on := 4, ground := Ground.data }, { on := 4, ground := Ground.chain }], guard := none }, { dst := some 45, op := Op.call { callee := Callee.builtin Builtin.append, args := #[Operand.tmp 40, Operand.tmp 44], argTypes := #[22, 22] }, type := 22, pos := "law.go:104", after := #[{ on := 1, ground := Ground.data }, { on := 5, ground := Ground.data }, { on := 5, ground := Ground.chain }], guard := none }, { dst := some 5, op := Op.assign (Operand.tmp 45), type := 22, pos := "law.go:104", after := #[{ on := 6, ground := Ground.data }, { on := 6, ground := Ground.chain }, { on := 0, ground := Ground.phase }, { on := 1, ground := Ground.phase }, { on := 2, ground := Ground.phase }, { on := 3, ground := Ground.phase }, { on := 4, ground := Ground.phase }, { on := 5, ground := Ground.phase }, { on := 6, ground := Ground.phase }], guard := none }] (Exit.then K Q) 5 #[true, true, true, false, false, false, false, false] { tmps := #[x0, x1, x2, x3, x4, x5, x6, x7, x8, x9, x10, x11, x12, x13, x14, x15, x16, x17, x18, x19, x20, x21, x22, x23, x24, x25, x26, x27, x28, x29, x30, x31, x32, x33, x34, x35, x36, x37, x38, z39, z40, z41, z42, z43, z44, z45, x46, x47, x48, x49, x50, x51, x52, x53, x54, x55, x56, x57, x58, x59, x60, x61, x62, x63, x64, x65, x66, x67, x68, x69, x70, x71, x72, x73, x74, x75, x76, x77, x78], defers := [] } w) := by
    intro z39 z40 z41 z42 z43 w h
    refine wpAny_ready (rs := [3]) (by decide +kernel) (by simp) ?_
    refine (AllReady.cons rfl (fun K0 hK0 => ?_) AllReady.nil)
    · go_simp; refine hK0 _ _ ?_; exact s11110.out _ _ _ _ _ _ h.step3
  have s11010 : Hid (∀ z39 z40 z41 z42 z43 w, G13 S T1 T2 true true false true false z39 z40 z41 z42 z43 w → wpAny Tryd.prog .any #[{ dst := some 39, op := Op.buildSlice 27 1 #[(0, Operand.const (Value.int IntKind.i64 1))], type := 27, pos := "law.go:104", after := #[], guard := none }, { dst := some 40, op := Op.call { callee := Callee.value (Operand.func 4), args := #[Operand.tmp 39], argTypes := #[27] }, type := 22, pos := "law.go:104", after := #[{ on := 0, ground := Ground.data }], guard := none }, { dst := some 41, op := Op.makeSlice 22 (Operand.const (Value.int IntKind.i64 8)) (Operand.const (Value.int IntKind.i64 8)), type := 22, pos := "law.go:104", after := #[], guard := none }, { dst := some 42, op := Op.buildSlice 27 1 #[(0, Operand.const (Value.int IntKind.i64 2))], type := 27, pos := "law.go:104", after := #[], guard := none }, { dst := some 43, op := Op.call { callee := Callee.value (Operand.func 4), args := #[Operand.tmp 42], argTypes := #[27] }, type := 22, pos := "law.go:104", after := #[{ on := 3, ground := Ground.data }, { on := 1, ground := Ground.chain }], guard := none }, { dst := some 44, op := Op.call { callee := Callee.builtin Builtin.append, args := #[Operand.tmp 41, Operand.tmp 43], argTypes := #[22, 22] }, type := 22, pos := "law.go:104", after := #[{ on := 2, ground := Ground.data }, { on := 4, ground := Ground.data }, { on := 4, ground := Ground.chain }], guard := none }, { dst := some 45, op := Op.call { callee := Callee.builtin Builtin.append, args := #[Operand.tmp 40, Operand.tmp 44], argTypes := #[22, 22] }, type := 22, pos := "law.go:104", after := #[{ on := 1, ground := Ground.data }, { on := 5, ground := Ground.data }, { on := 5, ground := Ground.chain }], guard := none }, { dst := some 5, op := Op.assign (Operand.tmp 45), type := 22, pos := "law.go:104", after := #[{ on := 6, ground := Ground.data }, { on := 6, ground := Ground.chain }, { on := 0, ground := Ground.phase }, { on := 1, ground := Ground.phase }, { on := 2, ground := Ground.phase }, { on := 3, ground := Ground.phase }, { on := 4, ground := Ground.phase }, { on := 5, ground := Ground.phase }, { on := 6, ground := Ground.phase }], guard := none }] (Exit.then K Q) 5 #[true, true, false, true, false, false, false, false] { tmps := #[x0, x1, x2, x3, x4, x5, x6, x7, x8, x9, x10, x11, x12, x13, x14, x15, x16, x17, x18, x19, x20, x21, x22, x23, x24, x25, x26, x27, x28, x29, x30, x31, x32, x33, x34, x35, x36, x37, x38, z39, z40, z41, z42, z43, z44, z45, x46, x47, x48, x49, x50, x51, x52, x53, x54, x55, x56, x57, x58, x59, x60, x61, x62, x63, x64, x65, x66, x67, x68, x69, x70, x71, x72, x73, x74, x75, x76, x77, x78], defers := [] } w) := by
    intro z39 z40 z41 z42 z43 w h
    refine wpAny_ready (rs := [2, 4]) (by decide +kernel) (by simp) ?_
    refine (AllReady.cons rfl (fun K0 hK0 => ?_) (AllReady.cons rfl (fun K0 hK0 => ?_) AllReady.nil))
    · have hmk := make8 w
      go_simp; refine hK0 _ _ ?_; exact s11110.out _ _ _ _ _ _ h.step2
    · obtain ⟨b, rfl, -⟩ := h.p3 rfl
      have hc := h.call4 HL.out HT2.out
      go_simp; go_at_call 4; refine hc.mono ?_
      rintro e w' ⟨v, rfl, h'⟩
      go_simp; refine hK0 _ _ ?_; exact s11011.out _ _ _ _ _ _ h'
  have s10110 : Hid (∀ z39 z40 z41 z42 z43 w, G13 S T1 T2 true false true true false z39 z40 z41 z42 z43 w → wpAny Tryd.prog .any #[{ dst := some 39, op := Op.buildSlice 27 1 #[(0, Operand.const (Value.int IntKind.i64 1))], type := 27, pos := "law.go:104", after := #[], guard := none }, { dst := some 40, op := Op.call { callee := Callee.value (Operand.func 4), args := #[Operand.tmp 39], argTypes := #[27] }, type := 22, pos := "law.go:104", after := #[{ on := 0, ground := Ground.data }], guard := none }, { dst := some 41, op := Op.makeSlice 22 (Operand.const (Value.int IntKind.i64 8)) (Operand.const (Value.int IntKind.i64 8)), type := 22, pos := "law.go:104", after := #[], guard := none }, { dst := some 42, op := Op.buildSlice 27 1 #[(0, Operand.const (Value.int IntKind.i64 2))], type := 27, pos := "law.go:104", after := #[], guard := none }, { dst := some 43, op := Op.call { callee := Callee.value (Operand.func 4), args := #[Operand.tmp 42], argTypes := #[27] }, type := 22, pos := "law.go:104", after := #[{ on := 3, ground := Ground.data }, { on := 1, ground := Ground.chain }], guard := none }, { dst := some 44, op := Op.call { callee := Callee.builtin Builtin.append, args := #[Operand.tmp 41, Operand.tmp 43], argTypes := #[22, 22] }, type := 22, pos := "law.go:104", after := #[{ on := 2, ground := Ground.data }, { on := 4, ground := Ground.data }, { on := 4, ground := Ground.chain }], guard := none }, { dst := some 45, op := Op.call { callee := Callee.builtin Builtin.append, args := #[Operand.tmp 40, Operand.tmp 44], argTypes := #[22, 22] }, type := 22, pos := "law.go:104", after := #[{ on := 1, ground := Ground.data }, { on := 5, ground := Ground.data }, { on := 5, ground := Ground.chain }], guard := none }, { dst := some 5, op := Op.assign (Operand.tmp 45), type := 22, pos := "law.go:104", after := #[{ on := 6, ground := Ground.data }, { on := 6, ground := Ground.chain }, { on := 0, ground := Ground.phase }, { on := 1, ground := Ground.phase }, { on := 2, ground := Ground.phase }, { on := 3, ground := Ground.phase }, { on := 4, ground := Ground.phase }, { on := 5, ground := Ground.phase }, { on := 6, ground := Ground.phase }], guard := none }] (Exit.then K Q) 5 #[true, false, true, true, false, false, false, false] { tmps := #[x0, x1, x2, x3, x4, x5, x6, x7, x8, x9, x10, x11, x12, x13, x14, x15, x16, x17, x18, x19, x20, x21, x22, x23, x24, x25, x26, x27, x28, x29, x30, x31, x32, x33, x34, x35, x36, x37, x38, z39, z40, z41, z42, z43, z44, z45, x46, x47, x48, x49, x50, x51, x52, x53, x54, x55, x56, x57, x58, x59, x60, x61, x62, x63, x64, x65, x66, x67, x68, x69, x70, x71, x72, x73, x74, x75, x76, x77, x78], defers := [] } w) := by
    intro z39 z40 z41 z42 z43 w h
    refine wpAny_ready (rs := [1]) (by decide +kernel) (by simp) ?_
    refine (AllReady.cons rfl (fun K0 hK0 => ?_) AllReady.nil)
    · obtain ⟨b, rfl, -⟩ := h.p0 rfl
      have hc := h.call1 HL.out HT1.out
      go_simp; go_at_call 4; refine hc.mono ?_
      rintro e w' ⟨v, rfl, h'⟩
      go_simp; refine hK0 _ _ ?_; exact s11110.out _ _ _ _ _ _ h'
  have s10100 : Hid (∀ z39 z40 z41 z42 z43 w, G13 S T1 T2 true false true false false z39 z40 z41 z42 z43 w → wpAny Tryd.prog .any #[{ dst := some 39, op := Op.buildSlice 27 1 #[(0, Operand.const (Value.int IntKind.i64 1))], type := 27, pos := "law.go:104", after := #[], guard := none }, { dst := some 40, op := Op.call { callee := Callee.value (Operand.func 4), args := #[Operand.tmp 39], argTypes := #[27] }, type := 22, pos := "law.go:104", after := #[{ on := 0, ground := Ground.data }], guard := none }, { dst := some 41, op := Op.makeSlice 22 (Operand.const (Value.int IntKind.i64 8)) (Operand.const (Value.int IntKind.i64 8)), type := 22, pos := "law.go:104", after := #[], guard := none }, { dst := some 42, op := Op.buildSlice 27 1 #[(0, Operand.const (Value.int IntKind.i64 2))], type := 27, pos := "law.go:104", after := #[], guard := none }, { dst := some 43, op := Op.call { callee := Callee.value (Operand.func 4), args := #[Operand.tmp 42], argTypes := #[27] }, type := 22, pos := "law.go:104", after := #[{ on := 3, ground := Ground.data }, { on := 1, ground := Ground.chain }], guard := none }, { dst := some 44, op := Op.call { callee := Callee.builtin Builtin.append, args := #[Operand.tmp 41, Operand.tmp 43], argTypes := #[22, 22] }, type := 22, pos := "law.go:104", after := #[{ on := 2, ground := Ground.data }, { on := 4, ground := Ground.data }, { on := 4, ground := Ground.chain }], guard := none }, { dst := some 45, op := Op.call { callee := Callee.builtin Builtin.append, args := #[Operand.tmp 40, Operand.tmp 44], argTypes := #[22, 22] }, type := 22, pos := "law.go:104", after := #[{ on := 1, ground := Ground.data }, { on := 5, ground := Ground.data }, { on := 5, ground := Ground.chain }], guard := none }, { dst := some 5, op := Op.assign (Operand.tmp 45), type := 22, pos := "law.go:104", after := #[{ on := 6, ground := Ground.data }, { on := 6, ground := Ground.chain }, { on := 0, ground := Ground.phase }, { on := 1, ground := Ground.phase }, { on := 2, ground := Ground.phase }, { on := 3, ground := Ground.phase }, { on := 4, ground := Ground.phase }, { on := 5, ground := Ground.phase }, { on := 6, ground := Ground.phase }], guard := none }] (Exit.then K Q) 6 #[true, false, true, false, false, false, false, false] { tmps := #[x0, x1, x2, x3, x4, x5, x6, x7, x8, x9, x10, x11, x12, x13, x14, x15, x16, x17, x18, x19, x20, x21, x22, x23, x24, x25, x26, x27, x28, x29, x30, x31, x32, x33, x34, x35, x36, x37, x38, z39, z40, z41, z42, z43, z44, z45, x46, x47, x48, x49, x50, x51, x52, x53, x54, x55, x56, x57, x58, x59, x60, x61, x62, x63, x64, x65, x66, x67, x68, x69, x70, x71, x72, x73, x74, x75, x76, x77, x78], defers := [] } w) := by
    intro z39 z40 z41 z42 z43 w h
    refine wpAny_ready (rs := [1, 3]) (by decide +kernel) (by simp) ?_
    refine (AllReady.cons rfl (fun K0 hK0 => ?_) (AllReady.cons rfl (fun K0 hK0 => ?_) AllReady.nil))
    · obtain ⟨b, rfl, -⟩ := h.p0 rfl
      have hc := h.call1 HL.out HT1.out
      go_simp; go_at_call 4; refine hc.mono ?_
      rintro e w' ⟨v, rfl, h'⟩
      go_simp; refine hK0 _ _ ?_; exact s11100.out _ _ _ _ _ _ h'
    · go_simp; refine hK0 _ _ ?_; exact s10110.out _ _ _ _ _ _ h.step3
  have s11000 : Hid (∀ z39 z40 z41 z42 z43 w, G13 S T1 T2 true true false false false z39 z40 z41 z42 z43 w → wpAny Tryd.prog .any #[{ dst := some 39, op := Op.buildSlice 27 1 #[(0, Operand.const (Value.int IntKind.i64 1))], type := 27, pos := "law.go:104", after := #[], guard := none }, { dst := some 40, op := Op.call { callee := Callee.value (Operand.func 4), args := #[Operand.tmp 39], argTypes := #[27] }, type := 22, pos := "law.go:104", after := #[{ on := 0, ground := Ground.data }], guard := none }, { dst := some 41, op := Op.makeSlice 22 (Operand.const (Value.int IntKind.i64 8)) (Operand.const (Value.int IntKind.i64 8)), type := 22, pos := "law.go:104", after := #[], guard := none }, { dst := some 42, op := Op.buildSlice 27 1 #[(0, Operand.const (Value.int IntKind.i64 2))], type := 27, pos := "law.go:104", after := #[], guard := none }, { dst := some 43, op := Op.call { callee := Callee.value (Operand.func 4), args := #[Operand.tmp 42], argTypes := #[27] }, type := 22, pos := "law.go:104", after := #[{ on := 3, ground := Ground.data }, { on := 1, ground := Ground.chain }], guard := none }, { dst := some 44, op := Op.call { callee := Callee.builtin Builtin.append, args := #[Operand.tmp 41, Operand.tmp 43], argTypes := #[22, 22] }, type := 22, pos := "law.go:104", after := #[{ on := 2, ground := Ground.data }, { on := 4, ground := Ground.data }, { on := 4, ground := Ground.chain }], guard := none }, { dst := some 45, op := Op.call { callee := Callee.builtin Builtin.append, args := #[Operand.tmp 40, Operand.tmp 44], argTypes := #[22, 22] }, type := 22, pos := "law.go:104", after := #[{ on := 1, ground := Ground.data }, { on := 5, ground := Ground.data }, { on := 5, ground := Ground.chain }], guard := none }, { dst := some 5, op := Op.assign (Operand.tmp 45), type := 22, pos := "law.go:104", after := #[{ on := 6, ground := Ground.data }, { on := 6, ground := Ground.chain }, { on := 0, ground := Ground.phase }, { on := 1, ground := Ground.phase }, { on := 2, ground := Ground.phase }, { on := 3, ground := Ground.phase }, { on := 4, ground := Ground.phase }, { on := 5, ground := Ground.phase }, { on := 6, ground := Ground.phase }], guard := none }] (Exit.then K Q) 6 #[true, true, false, false, false, false, false, false] { tmps := #[x0, x1, x2, x3, x4, x5, x6, x7, x8, x9, x10, x11, x12, x13, x14, x15, x16, x17, x18, x19, x20, x21, x22, x23, x24, x25, x26, x27, x28, x29, x30, x31, x32, x33, x34, x35, x36, x37, x38, z39, z40, z41, z42, z43, z44, z45, x46, x47, x48, x49, x50, x51, x52, x53, x54, x55, x56, x57, x58, x59, x60, x61, x62, x63, x64, x65, x66, x67, x68, x69, x70, x71, x72, x73, x74, x75, x76, x77, x78], defers := [] } w) := by
    intro z39 z40 z41 z42 z43 w h
    refine wpAny_ready (rs := [2, 3]) (by decide +kernel) (by simp) ?_
    refine (AllReady.cons rfl (fun K0 hK0 => ?_) (AllReady.cons rfl (fun K0 hK0 => ?_) AllReady.nil))
    · have hmk := make8 w
      go_simp; refine hK0 _ _ ?_; exact s11100.out _ _ _ _ _ _ h.step2
    · go_simp; refine hK0 _ _ ?_; exact s11010.out _ _ _ _ _ _ h.step3
  have s00110 : Hid (∀ z39 z40 z41 z42 z43 w, G13 S T1 T2 false false true true false z39 z40 z41 z42 z43 w → wpAny Tryd.prog .any #[{ dst := some 39, op := Op.buildSlice 27 1 #[(0, Operand.const (Value.int IntKind.i64 1))], type := 27, pos := "law.go:104", after := #[], guard := none }, { dst := some 40, op := Op.call { callee := Callee.value (Operand.func 4), args := #[Operand.tmp 39], argTypes := #[27] }, type := 22, pos := "law.go:104", after := #[{ on := 0, ground := Ground.data }], guard := none }, { dst := some 41, op := Op.makeSlice 22 (Operand.const (Value.int IntKind.i64 8)) (Operand.const (Value.int IntKind.i64 8)), type := 22, pos := "law.go:104", after := #[], guard := none }, { dst := some 42, op := Op.buildSlice 27 1 #[(0, Operand.const (Value.int IntKind.i64 2))], type := 27, pos := "law.go:104", after := #[], guard := none }, { dst := some 43, op := Op.call { callee := Callee.value (Operand.func 4), args := #[Operand.tmp 42], argTypes := #[27] }, type := 22, pos := "law.go:104", after := #[{ on := 3, ground := Ground.data }, { on := 1, ground := Ground.chain }], guard := none }, { dst := some 44, op := Op.call { callee := Callee.builtin Builtin.append, args := #[Operand.tmp 41, Operand.tmp 43], argTypes := #[22, 22] }, type := 22, pos := "law.go:104", after := #[{ on := 2, ground := Ground.data }, { on := 4, ground := Ground.data }, { on := 4, ground := Ground.chain }], guard := none }, { dst := some 45, op := Op.call { callee := Callee.builtin Builtin.append, args := #[Operand.tmp 40, Operand.tmp 44], argTypes := #[22, 22] }, type := 22, pos := "law.go:104", after := #[{ on := 1, ground := Ground.data }, { on := 5, ground := Ground.data }, { on := 5, ground := Ground.chain }], guard := none }, { dst := some 5, op := Op.assign (Operand.tmp 45), type := 22, pos := "law.go:104", after := #[{ on := 6, ground := Ground.data }, { on := 6, ground := Ground.chain }, { on := 0, ground := Ground.phase }, { on := 1, ground := Ground.phase }, { on := 2, ground := Ground.phase }, { on := 3, ground := Ground.phase }, { on := 4, ground := Ground.phase }, { on := 5, ground := Ground.phase }, { on := 6, ground := Ground.phase }], guard := none }] (Exit.then K Q) 6 #[false, false, true, true, false, false, false, false] { tmps := #[x0, x1, x2, x3, x4, x5, x6, x7, x8, x9, x10, x11, x12, x13, x14, x15, x16, x17, x18, x19, x20, x21, x22, x23, x24, x25, x26, x27, x28, x29, x30, x31, x32, x33, x34, x35, x36, x37, x38, z39, z40, z41, z42, z43, z44, z45, x46, x47, x48, x49, x50, x51, x52, x53, x54, x55, x56, x57, x58, x59, x60, x61, x62, x63, x64, x65, x66, x67, x68, x69, x70, x71, x72, x73, x74, x75, x76, x77, x78], defers := [] } w) := by
    intro z39 z40 z41 z42 z43 w h
    refine wpAny_ready (rs := [0]) (by decide +kernel) (by simp) ?_
    refine (AllReady.cons rfl (fun K0 hK0 => ?_) AllReady.nil)
    · go_simp; refine hK0 _ _ ?_; exact s10110.out _ _ _ _ _ _ h.step0
  have s10010 : Hid (∀ z39 z40 z41 z42 z43 w, G13 S T1 T2 true false false true false z39 z40 z41 z42 z43 w → wpAny Tryd.prog .any #[{ dst := some 39, op := Op.buildSlice 27 1 #[(0, Operand.const (Value.int IntKind.i64 1))], type := 27, pos := "law.go:104", after := #[], guard := none }, { dst := some 40, op := Op.call { callee := Callee.value (Operand.func 4), args := #[Operand.tmp 39], argTypes := #[27] }, type := 22, pos := "law.go:104", after := #[{ on := 0, ground := Ground.data }], guard := none }, { dst := some 41, op := Op.makeSlice 22 (Operand.const (Value.int IntKind.i64 8)) (Operand.const (Value.int IntKind.i64 8)), type := 22, pos := "law.go:104", after := #[], guard := none }, { dst := some 42, op := Op.buildSlice 27 1 #[(0, Operand.const (Value.int IntKind.i64 2))], type := 27, pos := "law.go:104", after := #[], guard := none }, { dst := some 43, op := Op.call { callee := Callee.value (Operand.func 4), args := #[Operand.tmp 42], argTypes := #[27] }, type := 22, pos := "law.go:104", after := #[{ on := 3, ground := Ground.data }, { on := 1, ground := Ground.chain }], guard := none }, { dst := some 44, op := Op.call { callee := Callee.builtin Builtin.append, args := #[Operand.tmp 41, Operand.tmp 43], argTypes := #[22, 22] }, type := 22, pos := "law.go:104", after := #[{ on := 2, ground := Ground.data }, { on := 4, ground := Ground.data }, { on := 4, ground := Ground.chain }], guard := none }, { dst := some 45, op := Op.call { callee := Callee.builtin Builtin.append, args := #[Operand.tmp 40, Operand.tmp 44], argTypes := #[22, 22] }, type := 22, pos := "law.go:104", after := #[{ on := 1, ground := Ground.data }, { on := 5, ground := Ground.data }, { on := 5, ground := Ground.chain }], guard := none }, { dst := some 5, op := Op.assign (Operand.tmp 45), type := 22, pos := "law.go:104", after := #[{ on := 6, ground := Ground.data }, { on := 6, ground := Ground.chain }, { on := 0, ground := Ground.phase }, { on := 1, ground := Ground.phase }, { on := 2, ground := Ground.phase }, { on := 3, ground := Ground.phase }, { on := 4, ground := Ground.phase }, { on := 5, ground := Ground.phase }, { on := 6, ground := Ground.phase }], guard := none }] (Exit.then K Q) 6 #[true, false, false, true, false, false, false, false] { tmps := #[x0, x1, x2, x3, x4, x5, x6, x7, x8, x9, x10, x11, x12, x13, x14, x15, x16, x17, x18, x19, x20, x21, x22, x23, x24, x25, x26, x27, x28, x29, x30, x31, x32, x33, x34, x35, x36, x37, x38, z39, z40, z41, z42, z43, z44, z45, x46, x47, x48, x49, x50, x51, x52, x53, x54, x55, x56, x57, x58, x59, x60, x61, x62, x63, x64, x65, x66, x67, x68, x69, x70, x71, x72, x73, x74, x75, x76, x77, x78], defers := [] } w) := by
    intro z39 z40 z41 z42 z43 w h
    refine wpAny_ready (rs := [1, 2]) (by decide +kernel) (by simp) ?_
    refine (AllReady.cons rfl (fun K0 hK0 => ?_) (AllReady.cons rfl (fun K0 hK0 => ?_) AllReady.nil))
    · obtain ⟨b, rfl, -⟩ := h.p0 rfl
      have hc := h.call1 HL.out HT1.out
      go_simp; go_at_call 4; refine hc.mono ?_
      rintro e w' ⟨v, rfl, h'⟩
      go_simp; refine hK0 _ _ ?_; exact s11010.out _ _ _ _ _ _ h'
    · have hmk := make8 w
      go_simp; refine hK0 _ _ ?_; exact s10110.out _ _ _ _ _ _ h.step2
  have s00100 : Hid (∀ z39 z40 z41 z42 z43 w, G13 S T1 T2 false false true false false z39 z40 z41 z42 z43 w → wpAny Tryd.prog .any #[{ dst := some 39, op := Op.buildSlice 27 1 #[(0, Operand.const (Value.int IntKind.i64 1))], type := 27, pos := "law.go:104", after := #[], guard := none }, { dst := some 40, op := Op.call { callee := Callee.value (Operand.func 4), args := #[Operand.tmp 39], argTypes := #[27] }, type := 22, pos := "law.go:104", after := #[{ on := 0, ground := Ground.data }], guard := none }, { dst := some 41, op := Op.makeSlice 22 (Operand.const (Value.int IntKind.i64 8)) (Operand.const (Value.int IntKind.i64 8)), type := 22, pos := "law.go:104", after := #[], guard := none }, { dst := some 42, op := Op.buildSlice 27 1 #[(0, Operand.const (Value.int IntKind.i64 2))], type := 27, pos := "law.go:104", after := #[], guard := none }, { dst := some 43, op := Op.call { callee := Callee.value (Operand.func 4), args := #[Operand.tmp 42], argTypes := #[27] }, type := 22, pos := "law.go:104", after := #[{ on := 3, ground := Ground.data }, { on := 1, ground := Ground.chain }], guard := none }, { dst := some 44, op := Op.call { callee := Callee.builtin Builtin.append, args := #[Operand.tmp 41, Operand.tmp 43], argTypes := #[22, 22] }, type := 22, pos := "law.go:104", after := #[{ on := 2, ground := Ground.data }, { on := 4, ground := Ground.data }, { on := 4, ground := Ground.chain }], guard := none }, { dst := some 45, op := Op.call { callee := Callee.builtin Builtin.append, args := #[Operand.tmp 40, Operand.tmp 44], argTypes := #[22, 22] }, type := 22, pos := "law.go:104", after := #[{ on := 1, ground := Ground.data }, { on := 5, ground := Ground.data }, { on := 5, ground := Ground.chain }], guard := none }, { dst := some 5, op := Op.assign (Operand.tmp 45), type := 22, pos := "law.go:104", after := #[{ on := 6, ground := Ground.data }, { on := 6, ground := Ground.chain }, { on := 0, ground := Ground.phase }, { on := 1, ground := Ground.phase }, { on := 2, ground := Ground.phase }, { on := 3, ground := Ground.phase }, { on := 4, ground := Ground.phase }, { on := 5, ground := Ground.phase }, { on := 6, ground := Ground.phase }], guard := none }] (Exit.then K Q) 7 #[false, false, true, false, false, false, false, false] { tmps := #[x0, x1, x2, x3, x4, x5, x6, x7, x8, x9, x10, x11, x12, x13, x14, x15, x16, x17, x18, x19, x20, x21, x22, x23, x24, x25, x26, x27, x28, x29, x30, x31, x32, x33, x34, x35, x36, x37, x38, z39, z40, z41, z42, z43, z44, z45, x46, x47, x48, x49, x50, x51, x52, x53, x54, x55, x56, x57, x58, x59, x60, x61, x62, x63, x64, x65, x66, x67, x68, x69, x70, x71, x72, x73, x74, x75, x76, x77, x78], defers := [] } w) := by
    intro z39 z40 z41 z42 z43 w h
    refine wpAny_ready (rs := [0, 3]) (by decide +kernel) (by simp) ?_
    refine (AllReady.cons rfl (fun K0 hK0 => ?_) (AllReady.cons rfl (fun K0 hK0 => ?_) AllReady.nil))
    · go_simp; refine hK0 _ _ ?_; exact s10100.out _ _ _ _ _ _ h.step0
    · go_simp; refine hK0 _ _ ?_; exact s00110.out _ _ _ _ _ _ h.step3
  have s00010 : Hid (∀ z39 z40 z41 z42 z43 w, G13 S T1 T2 false false false true false z39 z40 z41 z42 z43 w → wpAny Tryd.prog .any #[{ dst := some 39, op := Op.buildSlice 27 1 #[(0, Operand.const (Value.int IntKind.i64 1))], type := 27, pos := "law.go:104", after := #[], guard := none }, { dst := some 40, op := Op.call { callee := Callee.value (Operand.func 4), args := #[Operand.tmp 39], argTypes := #[27] }, type := 22, pos := "law.go:104", after := #[{ on := 0, ground := Ground.data }], guard := none }, { dst := some 41, op := Op.makeSlice 22 (Operand.const (Value.int IntKind.i64 8)) (Operand.const (Value.int IntKind.i64 8)), type := 22, pos := "law.go:104", after := #[], guard := none }, { dst := some 42, op := Op.buildSlice 27 1 #[(0, Operand.const (Value.int IntKind.i64 2))], type := 27, pos := "law.go:104", after := #[], guard := none }, { dst := some 43, op := Op.call { callee := Callee.value (Operand.func 4), args := #[Operand.tmp 42], argTypes := #[27] }, type := 22, pos := "law.go:104", after := #[{ on := 3, ground := Ground.data }, { on := 1, ground := Ground.chain }], guard := none }, { dst := some 44, op := Op.call { callee := Callee.builtin Builtin.append, args := #[Operand.tmp 41, Operand.tmp 43], argTypes := #[22, 22] }, type := 22, pos := "law.go:104", after := #[{ on := 2, ground := Ground.data }, { on := 4, ground := Ground.data }, { on := 4, ground := Ground.chain }], guard := none }, { dst := some 45, op := Op.call { callee := Callee.builtin Builtin.append, args := #[Operand.tmp 40, Operand.tmp 44], argTypes := #[22, 22] }, type := 22, pos := "law.go:104", after := #[{ on := 1, ground := Ground.data }, { on := 5, ground := Ground.data }, { on := 5, ground := Ground.chain }], guard := none }, { dst := some 5, op := Op.assign (Operand.tmp 45), type := 22, pos := "law.go:104", after := #[{ on := 6, ground := Ground.data }, { on := 6, ground := Ground.chain }, { on := 0, ground := Ground.phase }, { on := 1, ground := Ground.phase }, { on := 2, ground := Ground.phase }, { on := 3, ground := Ground.phase }, { on := 4, ground := Ground.phase }, { on := 5, ground := Ground.phase }, { on := 6, ground := Ground.phase }], guard := none }] (Exit.then K Q) 7 #[false, false, false, true, false, false, false, false] { tmps := #[x0, x1, x2, x3, x4, x5, x6, x7, x8, x9, x10, x11, x12, x13, x14, x15, x16, x17, x18, x19, x20, x21, x22, x23, x24, x25, x26, x27, x28, x29, x30, x31, x32, x33, x34, x35, x36, x37, x38, z39, z40, z41, z42, z43, z44, z45, x46, x47, x48, x49, x50, x51, x52, x53, x54, x55, x56, x57, x58, x59, x60, x61, x62, x63, x64, x65, x66, x67, x68, x69, x70, x71, x72, x73, x74, x75, x76, x77, x78], defers := [] } w) := by
    intro z39 z40 z41 z42 z43 w h
    refine wpAny_ready (rs := [0, 2]) (by decide +kernel) (by simp) ?_
    refine (AllReady.cons rfl (fun K0 hK0 => ?_) (AllReady.cons rfl (fun K0 hK0 => ?_) AllReady.nil))
    · go_simp; refine hK0 _ _ ?_; exact s10010.out _ _ _ _ _ _ h.step0
    · have hmk := make8 w
      go_simp; refine hK0 _ _ ?_; exact s00110.out _ _ _ _ _ _ h.step2
  have s10000 : Hid (∀ z39 z40 z41 z42 z43 w, G13 S T1 T2 true false false false false z39 z40 z41 z42 z43 w → wpAny Tryd.prog .any #[{ dst := some 39, op := Op.buildSlice 27 1 #[(0, Operand.const (Value.int IntKind.i64 1))], type := 27, pos := "law.go:104", after := #[], guard := none }, { dst := some 40, op := Op.call { callee := Callee.value (Operand.func 4), args := #[Operand.tmp 39], argTypes := #[27] }, type := 22, pos := "law.go:104", after := #[{ on := 0, ground := Ground.data }], guard := none }, { dst := some 41, op := Op.makeSlice 22 (Operand.const (Value.int IntKind.i64 8)) (Operand.const (Value.int IntKind.i64 8)), type := 22, pos := "law.go:104", after := #[], guard := none }, { dst := some 42, op := Op.buildSlice 27 1 #[(0, Operand.const (Value.int IntKind.i64 2))], type := 27, pos := "law.go:104", after := #[], guard := none }, { dst := some 43, op := Op.call { callee := Callee.value (Operand.func 4), args := #[Operand.tmp 42], argTypes := #[27] }, type := 22, pos := "law.go:104", after := #[{ on := 3, ground := Ground.data }, { on := 1, ground := Ground.chain }], guard := none }, { dst := some 44, op := Op.call { callee := Callee.builtin Builtin.append, args := #[Operand.tmp 41, Operand.tmp 43], argTypes := #[22, 22] }, type := 22, pos := "law.go:104", after := #[{ on := 2, ground := Ground.data }, { on := 4, ground := Ground.data }, { on := 4, ground := Ground.chain }], guard := none }, { dst := some 45, op := Op.call { callee := Callee.builtin Builtin.append, args := #[Operand.tmp 40, Operand.tmp 44], argTypes := #[22, 22] }, type := 22, pos := "law.go:104", after := #[{ on := 1, ground := Ground.data }, { on := 5, ground := Ground.data }, { on := 5, ground := Ground.chain }], guard := none }, { dst := some 5, op := Op.assign (Operand.tmp 45), type := 22, pos := "law.go:104", after := #[{ on := 6, ground := Ground.data }, { on := 6, ground := Ground.chain }, { on := 0, ground := Ground.phase }, { on := 1, ground := Ground.phase }, { on := 2, ground := Ground.phase }, { on := 3, ground := Ground.phase }, { on := 4, ground := Ground.phase }, { on := 5, ground := Ground.phase }, { on := 6, ground := Ground.phase }], guard := none }] (Exit.then K Q) 7 #[true, false, false, false, false, false, false, false] { tmps := #[x0, x1, x2, x3, x4, x5, x6, x7, x8, x9, x10, x11, x12, x13, x14, x15, x16, x17, x18, x19, x20, x21, x22, x23, x24, x25, x26, x27, x28, x29, x30, x31, x32, x33, x34, x35, x36, x37, x38, z39, z40, z41, z42, z43, z44, z45, x46, x47, x48, x49, x50, x51, x52, x53, x54, x55, x56, x57, x58, x59, x60, x61, x62, x63, x64, x65, x66, x67, x68, x69, x70, x71, x72, x73, x74, x75, x76, x77, x78], defers := [] } w) := by
    intro z39 z40 z41 z42 z43 w h
    refine wpAny_ready (rs := [1, 2, 3]) (by decide +kernel) (by simp) ?_
    refine (AllReady.cons rfl (fun K0 hK0 => ?_) (AllReady.cons rfl (fun K0 hK0 => ?_) (AllReady.cons rfl (fun K0 hK0 => ?_) AllReady.nil)))
    · obtain ⟨b, rfl, -⟩ := h.p0 rfl
      have hc := h.call1 HL.out HT1.out
      go_simp; go_at_call 4; refine hc.mono ?_
      rintro e w' ⟨v, rfl, h'⟩
      go_simp; refine hK0 _ _ ?_; exact s11000.out _ _ _ _ _ _ h'
    · have hmk := make8 w
      go_simp; refine hK0 _ _ ?_; exact s10100.out _ _ _ _ _ _ h.step2
    · go_simp; refine hK0 _ _ ?_; exact s10010.out _ _ _ _ _ _ h.step3
  have s00000 : Hid (∀ z39 z40 z41 z42 z43 w, G13 S T1 T2 false false false false false z39 z40 z41 z42 z43 w → wpAny Tryd.prog .any #[{ dst := some 39, op := Op.buildSlice 27 1 #[(0, Operand.const (Value.int IntKind.i64 1))], type := 27, pos := "law.go:104", after := #[], guard := none }, { dst := some 40, op := Op.call { callee := Callee.value (Operand.func 4), args := #[Operand.tmp 39], argTypes := #[27] }, type := 22, pos := "law.go:104", after := #[{ on := 0, ground := Ground.data }], guard := none }, { dst := some 41, op := Op.makeSlice 22 (Operand.const (Value.int IntKind.i64 8)) (Operand.const (Value.int IntKind.i64 8)), type := 22, pos := "law.go:104", after := #[], guard := none }, { dst := some 42, op := Op.buildSlice 27 1 #[(0, Operand.const (Value.int IntKind.i64 2))], type := 27, pos := "law.go:104", after := #[], guard := none }, { dst := some 43, op := Op.call { callee := Callee.value (Operand.func 4), args := #[Operand.tmp 42], argTypes := #[27] }, type := 22, pos := "law.go:104", after := #[{ on := 3, ground := Ground.data }, { on := 1, ground := Ground.chain }], guard := none }, { dst := some 44, op := Op.call { callee := Callee.builtin Builtin.append, args := #[Operand.tmp 41, Operand.tmp 43], argTypes := #[22, 22] }, type := 22, pos := "law.go:104", after := #[{ on := 2, ground := Ground.data }, { on := 4, ground := Ground.data }, { on := 4, ground := Ground.chain }], guard := none }, { dst := some 45, op := Op.call { callee := Callee.builtin Builtin.append, args := #[Operand.tmp 40, Operand.tmp 44], argTypes := #[22, 22] }, type := 22, pos := "law.go:104", after := #[{ on := 1, ground := Ground.data }, { on := 5, ground := Ground.data }, { on := 5, ground := Ground.chain }], guard := none }, { dst := some 5, op := Op.assign (Operand.tmp 45), type := 22, pos := "law.go:104", after := #[{ on := 6, ground := Ground.data }, { on := 6, ground := Ground.chain }, { on := 0, ground := Ground.phase }, { on := 1, ground := Ground.phase }, { on := 2, ground := Ground.phase }, { on := 3, ground := Ground.phase }, { on := 4, ground := Ground.phase }, { on := 5, ground := Ground.phase }, { on := 6, ground := Ground.phase }], guard := none }] (Exit.then K Q) 8 #[false, false, false, false, false, false, false, false] { tmps := #[x0, x1, x2, x3, x4, x5, x6, x7, x8, x9, x10, x11, x12, x13, x14, x15, x16, x17, x18, x19, x20, x21, x22, x23, x24, x25, x26, x27, x28, x29, x30, x31, x32, x33, x34, x35, x36, x37, x38, z39, z40, z41, z42, z43, z44, z45, x46, x47, x48, x49, x50, x51, x52, x53, x54, x55, x56, x57, x58, x59, x60, x61, x62, x63, x64, x65, x66, x67, x68, x69, x70, x71, x72, x73, x74, x75, x76, x77, x78], defers := [] } w) := by
    intro z39 z40 z41 z42 z43 w h
    refine wpAny_ready (rs := [0, 2, 3]) (by decide +kernel) (by simp) ?_
    refine (AllReady.cons rfl (fun K0 hK0 => ?_) (AllReady.cons rfl (fun K0 hK0 => ?_) (AllReady.cons rfl (fun K0 hK0 => ?_) AllReady.nil)))
    · go_simp; refine hK0 _ _ ?_; exact s10000.out _ _ _ _ _ _ h.step0
    · have hmk := make8 w
      go_simp; refine hK0 _ _ ?_; exact s00100.out _ _ _ _ _ _ h.step2
    · go_simp; refine hK0 _ _ ?_; exact s00010.out _ _ _ _ _ _ h.step3
  refine wp_region_any (by kernel_rfl) ?_
  change wpAny _ _ _ _ _ _ _ (World.drew _)
  exact s00000.out _ _ _ _ _ _ ⟨(Chg.drew Non S).below (fun _ e => e.elim) (Nat.le_refl _), fun e => (nomatch e), fun e => (nomatch e), fun e => (nomatch e), fun e => (nomatch e), fun e => (nomatch e)⟩
end Go.Proofs.YtogikhondibifaaDoor.DD

namespace Go.Proofs.YtogikhondibifaaDoor.DD
set_option linter.unusedVariables false
open Go.RowKit Go.Sort
set_option linter.unusedVariables false

theorem slice_run {A : Option Addr} {n C J : Nat} (h : J ≤ C) (w : World) : (Instr.sliceAt 22 (.slice A n C) none (some (.int .i64 (J : Int))) none).run Tryd.prog w = .ok (.slice A J C) w := by
  have hu := Tryd.underlying22
  have hs : ∀ w, (sizeOf 5).run Tryd.prog w = .ok 1 w := fun _ => by kernel_rfl
  cases A <;> simp [Instr.sliceAt, Instr.slice, Instr.sliceBounds, Instr.sliceBound, asIntOf, run_underlying hu, hs, Result.andThen, h, Addr.add]
theorem le112 : (catI [Is 1, Is 1, Is 2]).length ≤ 1000000 := by
  show (itB (Is 1) ++ (itB (Is 1) ++ (itB (Is 2) ++ []))).length ≤ 1000000
  rw [List.length_append, List.length_append, List.length_append, Fs_len1, Fs_len2]
  decide
theorem le539 : (catI [Is 5, Is 3, Is 9]).length ≤ 1000000 := by
  show (itB (Is 5) ++ (itB (Is 3) ++ (itB (Is 9) ++ []))).length ≤ 1000000
  rw [List.length_append, List.length_append, List.length_append, Fs_lenN 5 1 n5, Fs_lenN 3 1 (by decide +kernel), Fs_lenN 9 1 (by decide +kernel)]
  decide
theorem lebig : (catI [Is 1, Is 4294967296, Is 4611686018427387904]).length ≤ 1000000 := by have := cat_big; omega
theorem owns_zero1 (w : World) : (w.alloc (.cells #[.int .u8 0] 5)).ownsRow w.heap.size 5 1 (.slice (some ⟨w.heap.size, 0, none⟩) 1 1) 1 (bv [0]) :=
  ⟨rfl, .inr ⟨w.heap.size, 1, #[.int .u8 0], rfl, Nat.le_refl _, heap_alloc_new w _, Nat.le_refl _, by decide, rfl, rfl⟩⟩
theorem owns_zero8 (w : World) : (w.alloc (.cells #[.int .u8 0, .int .u8 0, .int .u8 0, .int .u8 0, .int .u8 0, .int .u8 0, .int .u8 0, .int .u8 0] 5)).ownsRow w.heap.size 5 1 (.slice (some ⟨w.heap.size, 0, none⟩) 8 8) 8 (bv (List.replicate 8 0)) :=
  ⟨rfl, .inr ⟨w.heap.size, 8, #[.int .u8 0, .int .u8 0, .int .u8 0, .int .u8 0, .int .u8 0, .int .u8 0, .int .u8 0, .int .u8 0], rfl, Nat.le_refl _, heap_alloc_new w _, Nat.le_refl _, by decide, rfl, rfl⟩⟩
theorem owns_zero100 (w : World) : (w.alloc (.cells (Array.replicate 100 (.int .u8 0)) 5)).ownsRow w.heap.size 5 1 (.slice (some ⟨w.heap.size, 0, none⟩) 100 100) 100 (bv (List.replicate 100 0)) :=
  ⟨rfl, .inr ⟨w.heap.size, 100, Array.replicate 100 (.int .u8 0), rfl, Nat.le_refl _, heap_alloc_new w _, Nat.le_refl _, by decide, by simp, by simp [bv]⟩⟩
theorem make100 (w : World) : (Instr.makeSlice 22 (.int .i64 100) (.int .i64 100)).run Tryd.prog w = .ok (.slice (some ⟨w.heap.size, 0, none⟩) 100 100) (w.alloc (.cells (Array.replicate 100 (.int .u8 0)) 5)) := by kernel_rfl
set_option maxRecDepth 100000 in
set_option maxHeartbeats 40000000 in
theorem numbers_any (w : World) (hL : PA.Laid w) : Calls Tryd.prog 3 #[] w fun e w' => e = .returned (.bool true) ∧ Below w.heap.size w w' := by
  have HL : Hid (PA.Laid w) := hL
  clear hL
  have hrw := rows2 1 2 Fs_ok1 Fs_ok2 HL.out
  go_enter Tryd.func3, Tryd.ntmps3
  go_wp2_with fail
  refine hrw.mono ?_
  rintro e w1 ⟨v, rfl, hb1, hB1⟩
  have hb1' : Bs w1 v B12 := hb1
  have HB1 : Hid (Below w.heap.size w w1) := hB1
  have HV1 : Hid (Bs w1 v B12) := hb1'
  obtain ⟨AX, CX, rfl⟩ := bs_form hb1'
  obtain ⟨b0, o0, rfl, hC0, -, -⟩ := bs_drop hb1' 0 (by omega) (by rw [B12_len]; omega)
  rw [B12_len] at hC0
  clear hrw hb1 hb1' hB1
  rw [B12_len] at HV1 ⊢
  have hw1 : w.heap.size ≤ w1.heap.size := HB1.out.size
  go_wp2_with fail
  go_loopw [2] (fun i wr => ∃ k : Nat, k ≤ 29 ∧ i = .int .i64 k ∧ Below w1.heap.size w1 wr) (fun i _ => 29 - (intOf i).toNat)
  case atStart => exact ⟨0, by omega, rfl, Below.refl _ _⟩
  case round =>
    obtain ⟨k, hk, rfl, hB⟩ := hrel
    have HB : Hid (Below w1.heap.size w1 wr) := hB
    have HBw : Hid (Below w.heap.size w wr) := HB1.out.trans (hB.mono hw1)
    have HVr : Hid (Bs wr (.slice (some ⟨b0, o0, none⟩) 28 CX) B12) := Bs.below' HV1.out hB
    clear hB
    by_cases hlt : k ≤ 28
    · have hsl : ∀ w', (Instr.sliceAt 22 (.slice (some ⟨b0, o0, none⟩) 28 CX) none (some (.int .i64 (k : Int))) none).run Tryd.prog w' = .ok (.slice (some ⟨b0, o0, none⟩) k CX) w' := fun w' => slice_run (by omega) w'
      have hbk := bs_head HVr.out k (by rw [B12_len]; exact hlt)
      have HBK : Hid (Bs wr (.slice (some ⟨b0, o0, none⟩) k CX) (B12.take k)) := hbk
      have HLN : Hid ((B12.take k).length ≤ 1000000) := by show _ ≤ _; rw [List.length_take, B12_len]; omega
      have hc0 : (k : Int) ≤ 28 := by omega
      clear hbk
      by_cases ha : k < 14
      · have ht := tells_any (C := 0) (L := none) [] 0 HBK.out HLN.out (scan_lt14 ha) (by decide) (fun z hz => (nomatch hz)) (by decide) (.inl rfl) (HL.out.below HBw.out)
        rw [show ([] : List Int).length = 0 from rfl] at ht
        have c1 : ¬ (14 : Int) ≤ (k : Int) := by omega
        have c2 : ¬ (k : Int) = 28 := by omega
        have c3 : ¬ k = 28 := by omega
        go_wp2_with fail
        as_aux_lemma =>
        refine ht.mono ?_
        rintro e w3 ⟨rfl, hB3⟩
        have HB3 : Hid (Below w1.heap.size w1 w3) := HB.out.trans (hB3.mono HB.out.size)
        clear ht hB3
        go_wp2
        exact ⟨⟨k + 1, by omega, by go_num, HB3.out⟩, by simp [intOf]; omega⟩
      · by_cases hb : k < 28
        · have ht := tells_no (L := none) (C := 0) (n := 0) [Is 1] 0 HBK.out HLN.out (scan_lt28 (by omega) hb) (by rw [← cat1]; decide) (HL.out.below HBw.out)
          have c1 : (14 : Int) ≤ (k : Int) := by omega
          have c2 : ¬ (k : Int) = 28 := by omega
          have c3 : ¬ k = 28 := by omega
          go_wp2_with fail
          as_aux_lemma =>
          refine ht.mono ?_
          rintro e w3 ⟨rfl, hB3⟩
          have HB3 : Hid (Below w1.heap.size w1 w3) := HB.out.trans (hB3.mono HB.out.size)
          have HBK3 : Hid (Bs w3 (.slice (some ⟨b0, o0, none⟩) k CX) (B12.take k)) := Bs.below' HBK.out hB3
          have ht2 := tells1 1 14 HBK3.out HLN.out (scan_lt28 (by omega) hb) cat1 Fs_ok1 (HL.out.below (HB1.out.trans (HB3.out.mono hw1)))
          clear ht hB3
          go_wp2_with fail
          refine ht2.mono ?_
          rintro e w4 ⟨rfl, hB4⟩
          have HB4 : Hid (Below w1.heap.size w1 w4) := HB3.out.trans (hB4.mono HB3.out.size)
          clear ht2 hB4
          go_wp2
          exact ⟨⟨k + 1, by omega, by go_num, HB4.out⟩, by simp [intOf]; omega⟩
        · obtain rfl : k = 28 := by omega
          have et : B12.take 28 = B12 := List.take_of_length_le (by rw [B12_len]; omega)
          rw [et] at HBK HLN
          have ht := tells_no (L := none) (C := 0) (n := 0) [Is 1, Is 2] 0 HBK.out HLN.out scan12 (by rw [← cat12]; decide) (HL.out.below HBw.out)
          have hsl' : ∀ w', (Instr.sliceAt 22 (.slice (some ⟨b0, o0, none⟩) 28 CX) none (some (.int .i64 28)) none).run Tryd.prog w' = .ok (.slice (some ⟨b0, o0, none⟩) 28 CX) w' := hsl
          clear hsl hc0 ha hb hlt hk et
          go_wp2_with fail
          as_aux_lemma =>
          refine ht.mono ?_
          rintro e w3 ⟨rfl, hB3⟩
          have HB3 : Hid (Below w1.heap.size w1 w3) := HB.out.trans (hB3.mono HB.out.size)
          have HBK3 : Hid (Bs w3 (.slice (some ⟨b0, o0, none⟩) 28 CX) B12) := Bs.below' HBK.out hB3
          have ht2 := tells1no [Is 1, Is 2] 1 14 HBK3.out HLN.out scan12 (by rw [← cat12]; decide) (HL.out.below (HB1.out.trans (HB3.out.mono hw1)))
          clear ht hB3
          go_wp2_with fail
          refine ht2.mono ?_
          rintro e w4 ⟨rfl, hB4⟩
          have HB4 : Hid (Below w1.heap.size w1 w4) := HB3.out.trans (hB4.mono HB3.out.size)
          have HBK4 : Hid (Bs w4 (.slice (some ⟨b0, o0, none⟩) 28 CX) B12) := Bs.below' HBK3.out hB4
          have ht3 := tells2 1 2 28 HBK4.out HLN.out scan12 cat12 Fs_ok1 Fs_ok2 (HL.out.below (HB1.out.trans (HB4.out.mono hw1)))
          clear ht2 hB4
          go_wp2_with fail
          refine ht3.mono ?_
          rintro e w5 ⟨rfl, hB5⟩
          have HB5 : Hid (Below w1.heap.size w1 w5) := HB4.out.trans (hB5.mono HB4.out.size)
          clear ht3 hB5
          go_wp2
          exact ⟨⟨29, by omega, by first | rfl | go_num, HB5.out⟩, by simp [intOf]⟩
    · have hc : ¬ (k : Int) ≤ 28 := by omega
      have hra := rows1o 1 Fs_ok1 (HL.out.below HBw.out)
      have hmk8 := make8
      have hmk100 := make100
      go_wp2_with fail
      clear hc hlt hk HVr HB HV1 hC0
      obtain ⟨T1, hT1⟩ : ∃ T, T = itB (Is 1) := ⟨_, rfl⟩
      obtain ⟨T2, hT2⟩ : ∃ T, T = itB (Is 2) := ⟨_, rfl⟩
      obtain ⟨Z, hZ⟩ : ∃ Z : List UInt8, Z = [0] := ⟨_, rfl⟩
      obtain ⟨Y, hY⟩ : ∃ Z : List UInt8, Z = List.replicate 8 0 := ⟨_, rfl⟩
      have HT1 : Hid (T1 = itB (Is 1)) := hT1
      have HT2 : Hid (T2 = itB (Is 2)) := hT2
      have HZ : Hid (Z = [0]) := hZ
      have HY : Hid (Y = List.replicate 8 0) := hY
      have HL1 : Hid (T1.length = 14) := by show _ = _; rw [hT1]; exact Fs_len1
      have HL2 : Hid (T2.length = 14) := by show _ = _; rw [hT2]; exact Fs_len2
      clear hT1 hT2 hZ hY
      refine hra.mono ?_
      rintro e wa4 ⟨va1, rfl, ho1, hB4⟩
      have HB4 : Hid (Below wr.heap.size wr wa4) := hB4
      have hs4 : wr.heap.size ≤ wa4.heap.size := hB4.size
      obtain ⟨Aa1, Ca1, rfl⟩ := owns_form' ho1
      clear hra hB4
      rw [← HT1.out] at ho1 ⊢
      obtain ⟨wa5, hw5⟩ : ∃ X, X = wa4.alloc (.cells #[.int .u8 0] 5) := ⟨_, rfl⟩
      have hB5 : Below wa4.heap.size wa4 wa5 := by rw [hw5]; exact (Below.refl _ _).alloc (Nat.le_refl _) _
      have HB5 : Hid (Below wr.heap.size wr wa5) := HB4.out.trans (hB5.mono HB4.out.size)
      have hr2 := rows1o 2 Fs_ok2 (HL.out.below (HBw.out.trans (HB5.out.mono HBw.out.size)))
      rw [← HT2.out] at hr2
      have HO1 : Hid (wa5.ownsRow (wr.heap.size + 1) 5 1 (.slice Aa1 T1.length Ca1) T1.length (bv T1)) := owns_keep ho1 (Chg.of_below hB5) (fun _ _ e => e)
      have HG1 : Hid (∀ k, (Value.slice Aa1 T1.length Ca1).ownBlock = some k → wr.heap.size + 1 ≤ k ∧ k < wa4.heap.size) := fun k hk => ho1.lt k hk
      have HLIT : Hid (wa5.ownsRow wa4.heap.size 5 1 (.slice (some ⟨wa4.heap.size, 0, none⟩) 1 1) 1 (bv Z)) := by show World.ownsRow _ _ _ _ _ _ _; rw [hw5, HZ.out]; exact owns_zero1 wa4
      have hs5 : wa5.heap.size = wa4.heap.size + 1 := by rw [hw5]; simp
      clear hB5 ho1 HB4
      rw [hs5] at hr2
      rw [hw5] at hr2
      go_wp2_with fail
      refine hr2.mono ?_
      rintro e wa6 ⟨v2, rfl, ho2, hB6⟩
      rw [← hs5, ← hw5] at hB6
      have HB6 : Hid (Below wr.heap.size wr wa6) := HB5.out.trans (hB6.mono HB5.out.size)
      have hlit6 : wa6.ownsRow wa4.heap.size 5 1 (.slice (some ⟨wa4.heap.size, 0, none⟩) 1 1) 1 (bv Z) := owns_keep HLIT.out (Chg.of_below hB6) (fun _ _ e => e)
      have HO16 : Hid (wa6.ownsRow (wr.heap.size + 1) 5 1 (.slice Aa1 T1.length Ca1) T1.length (bv T1)) := owns_keep HO1.out (Chg.of_below hB6) (fun _ _ e => e)
      have hx6 : Bs wa6 v2 T2 := Bs.of_owns ho2
      have hle5 : wa4.heap.size + 1 ≤ wa6.heap.size := by have h1 := hB6.size; omega
      have hle6 : wa4.heap.size ≤ wa6.heap.size := by omega
      have HAD : Hid (Z.length + T2.length ≤ 140737488355328) := by show _ ≤ _; rw [HZ.out, HL2.out]; decide
      have HAD2 : Hid (T1.length + (Z ++ T2).length ≤ 140737488355328) := by show _ ≤ _; rw [List.length_append, HZ.out, HL1.out, HL2.out]; decide
      obtain ⟨Aa2, Ca2, rfl⟩ := owns_form' ho2
      clear hr2 hB6 ho2 HO1 HLIT HB5 hw5 hs5
      go_wp2_with (first
        | (at_builtin; refine wpList_app rfl _ _ rfl (.slice (some ⟨wa4.heap.size, 0, none⟩) 1 1) _ rfl rfl hlit6 hx6 hle6 HAD.out ?_; intro Aa7 Ca7 wa7 ho7 hg7 hl7 hn7; have HB7 : Hid (Below wr.heap.size wr wa7) := HB6.out.grown hg7 HB6.out.size (fun j e => by have h2 : some wa4.heap.size = some j := e; cases h2; exact hs4); have ho17 : wa7.ownsRow (wr.heap.size + 1) 5 1 (.slice Aa1 T1.length Ca1) T1.length (bv T1) := owns_keep HO16.out (Chg.of_grown hg7) (fun k hk e => by have h1 := (HG1.out k hk).2; have h2 : some wa4.heap.size = some k := e; cases h2; omega); have hx7 : Bs wa7 (.slice Aa7 (Z.length + T2.length) Ca7) (Z ++ T2) := Bs.of_owns ho7; have hle7 : wr.heap.size + 1 ≤ wa7.heap.size := by have h1 := hg7.size; omega)
        | (at_builtin; refine wpList_app rfl _ _ rfl (.slice Aa1 T1.length Ca1) _ rfl rfl ho17 hx7 hle7 HAD2.out ?_; intro Aa8 Ca8 wa8 ho8 hg8 hl8 hn8; have HBa8 : Hid (Below wr.heap.size wr wa8) := HB7.out.grown hg8 HB7.out.size (fun j e => by have h1 := (HG1.out j e).1; omega); have HBTa : Hid (Bs wa8 (.slice Aa8 (T1.length + (Z.length + T2.length)) Ca8) (T1 ++ (Z ++ T2))) := (by have h := Bs.of_owns ho8; rw [List.length_append] at h; exact h); have hrb := rows1o 1 Fs_ok1 (HL.out.below (HBw.out.trans (HBa8.out.mono HBw.out.size))); clear ho7 hg7 hl7 hn7 ho8 hg8 hl8 hn8 ho17 hx7 hle7 HB7 HO16 hlit6 hx6 hle6 hle5 HAD HAD2 HB6 HG1 hs4))
      have HWa8 : Hid (Below w.heap.size w wa8) := HBw.out.trans (HBa8.out.mono HBw.out.size)
      go_wp2_with fail
      rename_i kA aA
      have key : Hid (∀ (z39 z40 z41 z42 z43 z44 z45 : Value) (Ab8 : Option Addr) (Cb8 : Nat) (wb8 : World), Below wa8.heap.size wa8 wb8 → Bs wb8 (.slice Ab8 (T1.length + (8 + T2.length)) Cb8) (T1 ++ (Y ++ T2)) → kA { tmps := #[u0, .slice (some ⟨b0, o0, none⟩) 28 CX, .int .i64 (k : Int), u3, .slice Aa8 (T1.length + (Z.length + T2.length)) Ca8, .slice Ab8 (T1.length + (8 + T2.length)) Cb8, .slice (some ⟨w.heap.size, 0, none⟩) 2 2, .slice (some ⟨b0, o0, none⟩) 28 CX, .int .i64 (k : Int), .slice (some ⟨b0, o0, none⟩) 28 CX, .int .i64 28, .bool false, u12, u13, u14, u15, u16, u17, u18, u19, u20, u21, u22, u23, u24, u25, u26, u27, u28, u29, u30, u31, .slice (some ⟨wr.heap.size, 0, none⟩) 1 1, .slice Aa1 T1.length Ca1, .slice (some ⟨wa4.heap.size, 0, none⟩) 1 1, .slice (some ⟨wa4.heap.size + 1, 0, none⟩) 1 1, .slice Aa2 T2.length Ca2, .slice Aa7 (Z.length + T2.length) Ca7, .slice Aa8 (T1.length + (Z.length + T2.length)) Ca8, z39, z40, z41, z42, z43, z44, z45, undef, undef, undef, undef, undef, undef, undef, undef, undef, undef, undef, undef, undef, undef, undef, undef, undef, undef, undef, undef, undef, undef, undef, undef, undef, undef, undef, undef, undef, undef, undef, undef, undef], defers := [] } wb8) := by
        intro z39 z40 z41 z42 z43 z44 z45 Ab8 Cb8 wb8 hBb8 hBTb
        have HBb8 : Hid (Below wa8.heap.size wa8 wb8) := hBb8
        have HBTb : Hid (Bs wb8 (.slice Ab8 (T1.length + (8 + T2.length)) Cb8) (T1 ++ (Y ++ T2))) := hBTb
        have HWb8 : Hid (Below w.heap.size w wb8) := HWa8.out.trans (hBb8.mono HWa8.out.size)
        clear hBb8 hBTb
        refine aA _ _ ?_
        have HBTx : Hid (Bs wb8 (.slice Aa8 (T1.length + (Z.length + T2.length)) Ca8) (T1 ++ (Z ++ T2))) := Bs.below' HBTa.out HBb8.out
        have HSA : Hid (scanF (T1 ++ (Z ++ T2)) 0 = [Is 1]) := by show _ = _; rw [HT1.out, HT2.out, HZ.out]; exact scan_between
        have HSB : Hid (scanF (T1 ++ (Y ++ T2)) 0 = [Is 1]) := by show _ = _; rw [HT1.out, HT2.out, HY.out]; exact scan_none
        have HNA : Hid ((T1 ++ (Z ++ T2)).length ≤ 1000000) := by show _ ≤ _; rw [List.length_append, List.length_append, HZ.out, HL1.out, HL2.out]; decide
        have HNB : Hid ((T1 ++ (Y ++ T2)).length ≤ 1000000) := by show _ ≤ _; rw [List.length_append, List.length_append, HY.out, HL1.out, HL2.out]; decide
        go_wp2_with fail
        refine (rows3 1 1 2 Fs_ok1 Fs_ok1 Fs_ok2 (HL.out.below HWb8.out)).mono ?_
        rintro e x1 ⟨v, rfl, hv, hB⟩
        have HWx1 : Hid (Below w.heap.size w x1) := HWb8.out.trans (hB.mono HWb8.out.size)
        have HKAx1 : Hid (Bs x1 (.slice Aa8 (T1.length + (Z.length + T2.length)) Ca8) (T1 ++ (Z ++ T2))) := Bs.below' HBTx.out hB
        have HKBx1 : Hid (Bs x1 (.slice Ab8 (T1.length + (8 + T2.length)) Cb8) (T1 ++ (Y ++ T2))) := Bs.below' HBTb.out hB
        have HV : Hid _ := hv
        clear hv hB
        go_wp2_with fail
        refine (tells1 1 14 HV.out (by first | exact le112 | exact le539) scan_112 cat1 Fs_ok1 (HL.out.below HWx1.out)).mono ?_
        rintro e x2 ⟨rfl, hB⟩
        have HWx2 : Hid (Below w.heap.size w x2) := HWx1.out.trans (hB.mono HWx1.out.size)
        have HKAx2 : Hid (Bs x2 (.slice Aa8 (T1.length + (Z.length + T2.length)) Ca8) (T1 ++ (Z ++ T2))) := Bs.below' HKAx1.out hB
        have HKBx2 : Hid (Bs x2 (.slice Ab8 (T1.length + (8 + T2.length)) Cb8) (T1 ++ (Y ++ T2))) := Bs.below' HKBx1.out hB
        clear hB HV
        go_wp2_with fail
        refine (rows3 5 3 9 Fs_ok5 Fs_ok3 Fs_ok9 (HL.out.below HWx2.out)).mono ?_
        rintro e x3 ⟨v, rfl, hv, hB⟩
        have HWx3 : Hid (Below w.heap.size w x3) := HWx2.out.trans (hB.mono HWx2.out.size)
        have HKAx3 : Hid (Bs x3 (.slice Aa8 (T1.length + (Z.length + T2.length)) Ca8) (T1 ++ (Z ++ T2))) := Bs.below' HKAx2.out hB
        have HKBx3 : Hid (Bs x3 (.slice Ab8 (T1.length + (8 + T2.length)) Cb8) (T1 ++ (Y ++ T2))) := Bs.below' HKBx2.out hB
        have HV : Hid _ := hv
        clear hv hB
        go_wp2_with fail
        refine (tells1 5 14 HV.out (by first | exact le112 | exact le539) scan_539 cat5 Fs_ok5 (HL.out.below HWx3.out)).mono ?_
        rintro e x4 ⟨rfl, hB⟩
        have HWx4 : Hid (Below w.heap.size w x4) := HWx3.out.trans (hB.mono HWx3.out.size)
        have HKAx4 : Hid (Bs x4 (.slice Aa8 (T1.length + (Z.length + T2.length)) Ca8) (T1 ++ (Z ++ T2))) := Bs.below' HKAx3.out hB
        have HKBx4 : Hid (Bs x4 (.slice Ab8 (T1.length + (8 + T2.length)) Cb8) (T1 ++ (Y ++ T2))) := Bs.below' HKBx3.out hB
        clear hB HV
        go_wp2_with fail
        refine (rows3 1 4294967296 4611686018427387904 Fs_ok1 Fs_ok32 Fs_ok62 (HL.out.below HWx4.out)).mono ?_
        rintro e x5 ⟨v, rfl, hv, hB⟩
        have HWx5 : Hid (Below w.heap.size w x5) := HWx4.out.trans (hB.mono HWx4.out.size)
        have HKAx5 : Hid (Bs x5 (.slice Aa8 (T1.length + (Z.length + T2.length)) Ca8) (T1 ++ (Z ++ T2))) := Bs.below' HKAx4.out hB
        have HKBx5 : Hid (Bs x5 (.slice Ab8 (T1.length + (8 + T2.length)) Cb8) (T1 ++ (Y ++ T2))) := Bs.below' HKBx4.out hB
        have HV : Hid _ := hv
        clear hv hB
        go_wp2_with fail
        refine (tells3 1 4294967296 4611686018427387904 55 HV.out lebig scan_big cat_big Fs_ok1 Fs_ok32 Fs_ok62 (HL.out.below HWx5.out)).mono ?_
        rintro e x6 ⟨rfl, hB⟩
        have HWx6 : Hid (Below w.heap.size w x6) := HWx5.out.trans (hB.mono HWx5.out.size)
        have HKAx6 : Hid (Bs x6 (.slice Aa8 (T1.length + (Z.length + T2.length)) Ca8) (T1 ++ (Z ++ T2))) := Bs.below' HKAx5.out hB
        have HKBx6 : Hid (Bs x6 (.slice Ab8 (T1.length + (8 + T2.length)) Cb8) (T1 ++ (Y ++ T2))) := Bs.below' HKBx5.out hB
        clear hB HV
        go_wp2_with fail
        refine (tells1 1 14 HKAx6.out HNA.out HSA.out cat1 Fs_ok1 (HL.out.below HWx6.out)).mono ?_
        rintro e x7 ⟨rfl, hB⟩
        have HWx7 : Hid (Below w.heap.size w x7) := HWx6.out.trans (hB.mono HWx6.out.size)
        have HKAx7 : Hid (Bs x7 (.slice Aa8 (T1.length + (Z.length + T2.length)) Ca8) (T1 ++ (Z ++ T2))) := Bs.below' HKAx6.out hB
        have HKBx7 : Hid (Bs x7 (.slice Ab8 (T1.length + (8 + T2.length)) Cb8) (T1 ++ (Y ++ T2))) := Bs.below' HKBx6.out hB
        clear hB
        go_wp2_with fail
        refine (tells1 1 14 HKBx7.out HNB.out HSB.out cat1 Fs_ok1 (HL.out.below HWx7.out)).mono ?_
        rintro e x8 ⟨rfl, hB⟩
        have HWx8 : Hid (Below w.heap.size w x8) := HWx7.out.trans (hB.mono HWx7.out.size)
        have HKAx8 : Hid (Bs x8 (.slice Aa8 (T1.length + (Z.length + T2.length)) Ca8) (T1 ++ (Z ++ T2))) := Bs.below' HKAx7.out hB
        have HKBx8 : Hid (Bs x8 (.slice Ab8 (T1.length + (8 + T2.length)) Cb8) (T1 ++ (Y ++ T2))) := Bs.below' HKBx7.out hB
        clear hB
        obtain ⟨y, hy⟩ : ∃ Q, Q = x8.alloc (.cells (Array.replicate 100 (.int .u8 0)) 5) := ⟨_, rfl⟩
        have hBy : Below x8.heap.size x8 y := by rw [hy]; exact (Below.refl _ _).alloc (Nat.le_refl _) _
        have HWy : Hid (Below w.heap.size w y) := HWx8.out.trans (hBy.mono HWx8.out.size)
        have hby : Bs y (.slice (some ⟨x8.heap.size, 0, none⟩) 100 100) (List.replicate 100 0) := by rw [hy]; exact Bs.of_owns (owns_zero100 x8)
        have ht := tells_any (C := 0) (L := none) [] 0 hby (by simp) scan_100 (by decide) (fun z hz => (nomatch hz)) (by decide) (.inl rfl) (HL.out.below HWy.out)
        rw [show ([] : List Int).length = 0 from rfl] at ht
        clear hby hBy
        rw [hy] at ht
        go_wp2_with fail
        refine ht.mono ?_
        rintro e z1 ⟨rfl, hB⟩
        rw [← hy] at hB
        have HWz : Hid (Below w.heap.size w z1) := HWy.out.trans (hB.mono HWy.out.size)
        clear ht hB hy
        have haw := awake_seg z1 (HL.out.below HWz.out)
        go_wp2_with fail
        refine haw.mono ?_
        rintro e z2 ⟨rfl, hB⟩
        have HWe : Hid (Below w.heap.size w z2) := HWz.out.trans (hB.mono HWz.out.size)
        clear haw hB
        go_wp2
        go_ret
        exact ⟨rfl, HWe.out⟩
      clear aA hrb
      refine reg13 (T1 := T1) (T2 := T2) (HL.out.below HWa8.out) HT1.out HT2.out HL1.out HL2.out ?_
      intro z39 z40 z41 z42 z43 z44 A8 C8 w8 HB8 hbs
      exact key.out _ _ _ _ _ _ _ A8 C8 w8 HB8 (by rw [HY.out]; exact hbs)
end Go.Proofs.YtogikhondibifaaDoor.DD
