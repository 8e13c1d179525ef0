/- What wakes the statements on segments: small deeds, rows of them, and what is told of their bytes. -/
import Derived.Test.YtogikhondibifaaDoorSgS
import Derived.Test.YtogikhondibifaaDoorSgP
import Derived.Test.YtogikhondibifaaDoorDdU
namespace Go.Proofs.YtogikhondibifaaDoor.DD
set_option linter.unusedVariables false
open Go.RowKit
set_option linter.unusedVariables false

def Fs (z : Int) : Fl := ⟨z, 6, 0, 0, 0, 0, [], [], 0, 0, 0, 0, 0, 0, [], 0⟩
abbrev Is (z : Int) : It := (Fs z, [])
theorem Fs_ok1 : okIt (Is 1) := by
  refine ⟨by decide +kernel, ⟨⟨?_, ?_, ?_, ?_, ?_, ?_, ?_, ?_, ?_, ?_, ?_, ?_⟩, fun p hp => by simp at hp, rfl⟩⟩
  all_goals (unfold Is Fs; first | exact ⟨by decide, by decide⟩)
theorem Fs_ok2 : okIt (Is 2) := by
  refine ⟨by decide +kernel, ⟨⟨?_, ?_, ?_, ?_, ?_, ?_, ?_, ?_, ?_, ?_, ?_, ?_⟩, fun p hp => by simp at hp, rfl⟩⟩
  all_goals (unfold Is Fs; first | exact ⟨by decide, by decide⟩)
theorem Fs_len1 : (itB (Is 1)).length = 14 := by
  have n0 : numB 0 = [0] := by unfold numB; rw [digs_small (by decide)]; rfl
  have n1 : numB 1 = [2] := by unfold numB; rw [digs_small (by decide)]; rfl
  rw [itB_len]
  simp [deedB, Fs, bodyB, tailB, hasParts, n0, n1]
theorem Fs_len2 : (itB (Is 2)).length = 14 := by
  have n0 : numB 0 = [0] := by unfold numB; rw [digs_small (by decide)]; rfl
  have n1 : numB 2 = [4] := by unfold numB; rw [digs_small (by decide)]; rfl
  rw [itB_len]
  simp [deedB, Fs, bodyB, tailB, hasParts, n0, n1]
theorem dval_Fs (w : World) (z : Int) : DVal w (Fs z) [] none 0 none 0 none 0 := ⟨.inl ⟨rfl, rfl⟩, .inl ⟨rfl, rfl⟩, .inl ⟨rfl, rfl⟩⟩
set_option maxRecDepth 100000 in
theorem sync_any (z : Int) (w : World) : Calls Tryd.prog 8 #[.int .i64 z] w fun e w' => e = .returned (.agg #[.int .i64 z, .int .u8 6, .int .i64 0, .int .i64 0, .int .i64 0, .int .i64 0, .string ⟨#[]⟩, .slice none 0 0, .int .i64 0, .int .i64 0, .int .i64 0, .int .i64 0, .int .i64 0, .int .i64 0, .slice none 0 0, .slice none 0 0]) ∧ Below w.heap.size w w' := by
  go_enter Tryd.func8, Tryd.ntmps8
  go_wp2

  refine bodyPost_ret (v := .agg #[.int .i64 z, .int .u8 6, .int .i64 0, .int .i64 0, .int .i64 0, .int .i64 0, .string ⟨#[]⟩, .slice none 0 0, .int .i64 0, .int .i64 0, .int .i64 0, .int .i64 0, .int .i64 0, .int .i64 0, .slice none 0 0, .slice none 0 0]) (by simp [results, Tryd.results8, go_sem]) rfl ?_
  exact ⟨rfl, (Below.refl _ _).alloc (Nat.le_refl _) _⟩

theorem sputS (z : Int) (hz : okIt (Is z)) (w : World) (hL : PA.Laid w) : Calls Tryd.prog 7 #[.agg #[.int .i64 z, .int .u8 6, .int .i64 0, .int .i64 0, .int .i64 0, .int .i64 0, .string ⟨#[]⟩, .slice none 0 0, .int .i64 0, .int .i64 0, .int .i64 0, .int .i64 0, .int .i64 0, .int .i64 0, .slice none 0 0, .slice none 0 0]] w fun e w' => ∃ v, e = .returned (.tuple #[v, .int .i64 0]) ∧ Bs w' v (itB (Is z)) ∧ Below w.heap.size w w' :=
  sput_yes (Fs z) [] none none none 0 0 0 w hL (dval_Fs w z) hz.2 hz.1
theorem catI_take {zs : List Int} {k : Nat} (h : k < zs.length) : catI ((zs.take (k + 1)).map Is) = catI ((zs.take k).map Is) ++ itB (Is (zs[k]'h)) := by
  rw [List.take_succ_eq_append_getElem h, List.map_append, catI_app]
  simp [catI]
theorem catI_le {l : List It} (h : ∀ p ∈ l, okIt p) : (catI l).length ≤ l.length * 700008 := by
  induction l with
  | nil => simp [catI]
  | cons p l ih =>
    have h1 := (h p List.mem_cons_self).len
    have h2 := ih (fun q hq => h q (List.mem_cons_of_mem _ hq))
    rw [catI_cons, List.length_append, itB_len, List.length_cons]
    omega
theorem rows_le (zs : List Int) (k : Nat) (hlen : zs.length ≤ 1000) (hz : ∀ z ∈ zs, okIt (Is z)) : (catI ((zs.take k).map Is)).length ≤ 1000 * 700008 := by
  have h1 := catI_le (l := (zs.take k).map Is) (fun p hp => by
    obtain ⟨z, hz', rfl⟩ := List.mem_map.1 hp
    exact hz z (List.mem_of_mem_take hz'))
  rw [List.length_map, List.length_take] at h1
  exact Nat.le_trans h1 (Nat.mul_le_mul_right _ (by omega))
set_option maxRecDepth 100000 in
set_option maxHeartbeats 4000000 in
theorem rows_any {w : World} {b C : Nat} (zs : List Int) (hz : ∀ z ∈ zs, okIt (Is z)) (hlen : zs.length ≤ 1000) (hc : ∀ j (h : j < zs.length), w.cell? ⟨b, j, none⟩ = some (.int .i64 (zs[j]'h))) (hb : b < w.heap.size) (hL : PA.Laid w) :
    Calls Tryd.prog 4 #[.slice (some ⟨b, 0, none⟩) zs.length C] w fun e w' => ∃ v, e = .returned v ∧ Bs w' v (catI (zs.map Is)) ∧ Below w.heap.size w w' := by
  have HC : Hid (∀ j (h : j < zs.length), w.cell? ⟨b, j, none⟩ = some (.int .i64 (zs[j]'h))) := hc
  have HL : Hid (PA.Laid w) := hL
  have HZ : Hid (∀ z ∈ zs, okIt (Is z)) := hz
  clear hc hL hz
  go_enter Tryd.func4, Tryd.ntmps4
  go_wp2
  go_loopw [3, 4] (fun v i wr => ∃ (k : Nat) (A : Option Addr) (Cv : Nat), k ≤ zs.length ∧ i = .int .i64 k ∧ v = .slice A (catI ((zs.take k).map Is)).length Cv ∧ wr.ownsRow w.heap.size 5 1 v (catI ((zs.take k).map Is)).length (bv (catI ((zs.take k).map Is))) ∧ Below w.heap.size w wr) (fun _ i _ => zs.length - (intOf i).toNat)
  case atStart => exact ⟨0, none, 0, by omega, rfl, rfl, World.ownsRow_nil _ _ _ _, Below.refl _ _⟩
  case round =>
    obtain ⟨k, A, Cv, hk, rfl, rfl, hO, hB⟩ := hrel
    have HO : Hid _ := hO
    have HB : Hid (Below w.heap.size w wr) := hB
    by_cases hlt : k < zs.length
    · have hcl : wr.cell? ⟨b, k, none⟩ = some (.int .i64 (zs[k]'hlt)) := (hB.cell (p := ⟨b, k, none⟩) hb).trans (HC.out k hlt)
      have hok := HZ.out _ (List.getElem_mem hlt)
      have HST : Hid (catI ((zs.take (k + 1)).map Is) = catI ((zs.take k).map Is) ++ itB (Is (zs[k]'hlt))) := catI_take hlt
      have HLE : Hid ((catI ((zs.take k).map Is)).length ≤ 1000 * 700008) := rows_le zs k hlen HZ.out
      generalize (zs[k]'hlt) = z at hcl hok HST
      generalize catI ((zs.take k).map Is) = L at HO HST HLE
      have HOK : Hid (okIt (Is z)) := hok
      have hidx : (k : Int) < (zs.length : Int) := by omega
      clear hO hB hok
      have hsy := sync_any z wr
      go_wp2_with fail
      refine hsy.mono ?_
      rintro e w1 ⟨rfl, hB1⟩
      have HB1 : Hid (Below w.heap.size w w1) := HB.out.trans (hB1.mono HB.out.size)
      have HO1 : Hid (w1.ownsRow w.heap.size 5 1 (.slice A L.length Cv) L.length (bv L)) := owns_keep HO.out (Chg.of_below hB1) (fun _ _ e => e)
      have hpu := sputS z HOK.out w1 (HL.out.below HB1.out)
      clear hsy hB1 HO HB
      go_wp2_with fail
      refine hpu.mono ?_
      rintro e w2 ⟨x, rfl, hx2, hB2⟩
      have HB2 : Hid (Below w.heap.size w w2) := HB1.out.trans (hB2.mono HB1.out.size)
      have hO2 : w2.ownsRow w.heap.size 5 1 (.slice A L.length Cv) L.length (bv L) := owns_keep HO1.out (Chg.of_below hB2) (fun _ _ e => e)
      have hle2 : w.heap.size ≤ w2.heap.size := HB2.out.size
      have HIT : Hid ((itB (Is z)).length ≤ 700008) := by show (itB (Is z)).length ≤ 700008; rw [itB_len]; have := HOK.out.len; omega
      generalize itB (Is z) = T at hx2 HST HIT
      have HAD : Hid (L.length + T.length ≤ 140737488355328) := by have h1 := HLE.out; have h2 := HIT.out; show L.length + T.length ≤ _; omega
      obtain ⟨AX, CX, rfl⟩ := bs_form hx2
      clear hpu hB2 HB1 HO1
      go_wp2_with (at_builtin; refine wpList_app rfl _ _ rfl (.slice A L.length Cv) _ rfl rfl hO2 hx2 hle2 HAD.out ?_; intro A3 C3 w3 ho3 hg3 hl3 hn3)
      have HB3 : Hid (Below w.heap.size w w3) := HB2.out.grown hg3 hle2 (fun j e => (hO2.lt j e).1)
      refine ⟨⟨k + 1, A3, C3, by omega, by go_num, ?_, ?_, HB3.out⟩, by simp [intOf]; omega⟩
      · rw [HST.out, List.length_append]
      · rw [HST.out, List.length_append]; exact ho3
    · have e0 : k = zs.length := by omega
      subst e0
      have HBs : Hid (Bs wr (.slice A (catI ((zs.take zs.length).map Is)).length Cv) (catI (zs.map Is))) := by
        have h := Bs.of_owns hO
        rw [List.take_length] at h ⊢
        exact h
      clear hO hB HO
      go_wp2
      go_ret
      exact ⟨_, rfl, HBs.out, HB.out⟩
end Go.Proofs.YtogikhondibifaaDoor.DD
