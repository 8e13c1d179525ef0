/- A deed in a frame: the contract of segment.Put. What wakes the statements on segments: small deeds, rows of them, and what is told of their bytes. What is told of the bytes of small deeds. What wakes every statement on segments. -/
import Derived.Test.YtaeoafedfgbcaaaGreatDoorSgMa
import Derived.Test.YtaeoafedfgbcaaaGreatDoorWalksHa
import Derived.Test.YtaeoafedfgbcaaaGreatDoorSgS
import Derived.Test.YtaeoafedfgbcaaaGreatDoorDdU
import Derived.Deep.RegionHeld3
import Derived.Lib.QuietBelow
import Derived.BigQuiet
import Derived.Deep.DrawnRows
import Derived.Deep.MidRow
import Derived.Test.YtaeoafedfgbcaaaGreatDoorSgF
namespace Go.Proofs.YtaeoafedfgbcaaaGreatDoor.DD
set_option linter.unusedVariables false
open Go.RowKit
set_option linter.unusedVariables false

set_option maxRecDepth 100000 in
set_option maxHeartbeats 4000000 in
theorem sput_no (f : Fl) (ps : List Fl) (A1 A2 A3 : Option Addr) (c1 c2 c3 : Nat) (w : World) (hL : PA.Laid w) (hv : DVal w f ps A1 c1 A2 c2 A3 c3) (hf : DedFit f ps) (hr : rightD f ps = false) :
    Calls Tryz.prog 10 #[.agg #[.int .i64 f.zxid, .int .u8 f.kind, .int .i64 f.session, .int .i64 f.turn, .int .i64 f.xid, .int .i64 f.time, .string (mkS f.path), .slice A1 f.data.length c1, .int .i64 f.owner, .int .i64 f.version, .int .i64 f.cversion, .int .i64 f.timeout, .int .i64 f.err, .int .i64 f.cver, .slice A2 f.mems.length c2, .slice A3 f.np c3]] w fun e w' => e = .returned (.tuple #[.slice none 0 0, .int .i64 4]) ∧ Below w.heap.size w w' := by
  obtain ⟨w1, hw1⟩ : ∃ X, X = w.alloc (.cells #[.int .i64 f.zxid, .int .u8 f.kind, .int .i64 f.session, .int .i64 f.turn, .int .i64 f.xid, .int .i64 f.time, .string (mkS f.path), .slice A1 f.data.length c1, .int .i64 f.owner, .int .i64 f.version, .int .i64 f.cversion, .int .i64 f.timeout, .int .i64 f.err, .int .i64 f.cver, .slice A2 f.mems.length c2, .slice A3 f.np c3] 41) := ⟨_, rfl⟩
  have hB1 : Below w.heap.size w w1 := by rw [hw1]; exact (Below.refl _ _).alloc (Nat.le_refl _) _
  have HB1 : Hid (Below w.heap.size w w1) := hB1
  have hri := put_no' f ps A1 A2 A3 c1 c2 c3 w1 (hL.below hB1) (hv.grow hB1) hf hr
  rw [hw1] at hri
  clear hB1 hL hv hf hr
  go_enter Tryz.func10, Tryz.ntmps10
  go_wp2_with fail
  refine hri.mono ?_
  rintro e w2 ⟨rfl, hB2⟩
  rw [← hw1] at hB2
  have HB2 : Hid (Below w.heap.size w w2) := HB1.out.trans (hB2.mono HB1.out.size)
  clear hri hB2 hw1 HB1
  go_wp2
  refine bodyPost_ret (v := .tuple #[.slice none 0 0, .int .i64 4]) (by simp [results, Tryz.results10, go_sem]) rfl ?_
  exact ⟨rfl, HB2.out⟩
set_option maxRecDepth 100000 in
set_option maxHeartbeats 4000000 in
theorem sput_yes (f : Fl) (ps : List Fl) (A1 A2 A3 : Option Addr) (c1 c2 c3 : Nat) (w : World) (hL : PA.Laid w) (hv : DVal w f ps A1 c1 A2 c2 A3 c3) (hf : DedFit f ps) (hr : rightD f ps = true) :
    Calls Tryz.prog 10 #[.agg #[.int .i64 f.zxid, .int .u8 f.kind, .int .i64 f.session, .int .i64 f.turn, .int .i64 f.xid, .int .i64 f.time, .string (mkS f.path), .slice A1 f.data.length c1, .int .i64 f.owner, .int .i64 f.version, .int .i64 f.cversion, .int .i64 f.timeout, .int .i64 f.err, .int .i64 f.cver, .slice A2 f.mems.length c2, .slice A3 f.np c3]] w fun e w' => ∃ v, e = .returned (.tuple #[v, .int .i64 0]) ∧ Bs w' v (itB (f, ps)) ∧ Below w.heap.size w w' := by
  obtain ⟨w1, hw1⟩ : ∃ X, X = w.alloc (.cells #[.int .i64 f.zxid, .int .u8 f.kind, .int .i64 f.session, .int .i64 f.turn, .int .i64 f.xid, .int .i64 f.time, .string (mkS f.path), .slice A1 f.data.length c1, .int .i64 f.owner, .int .i64 f.version, .int .i64 f.cversion, .int .i64 f.timeout, .int .i64 f.err, .int .i64 f.cver, .slice A2 f.mems.length c2, .slice A3 f.np c3] 41) := ⟨_, rfl⟩
  have hB1 : Below w.heap.size w w1 := by rw [hw1]; exact (Below.refl _ _).alloc (Nat.le_refl _) _
  have HB1 : Hid (Below w.heap.size w w1) := hB1
  have hri := put_yes' f ps A1 A2 A3 c1 c2 c3 w1 (hL.below hB1) (hv.grow hB1) hf hr
  have hlen : (deedB f ps).length ≤ 1048576 := Nat.le_trans (okIt.len (p := (f, ps)) ⟨hr, hf⟩) (by omega)
  rw [hw1] at hri
  clear hB1 hL hv hf hr
  go_enter Tryz.func10, Tryz.ntmps10
  go_wp2_with fail
  refine hri.mono ?_
  rintro e w2 ⟨x, rfl, hN2⟩
  rw [← hw1] at hN2
  have HB2 : Hid (Below w.heap.size w w2) := HB1.out.trans (hN2.below.mono HB1.out.size)
  have hfr := frame_any hN2.bs hlen
  clear hri hN2 hw1 HB1 hlen
  go_wp2_with fail
  refine hfr.mono ?_
  rintro e w3 ⟨v, rfl, hN3⟩
  have HB3 : Hid (Below w.heap.size w w3) := HB2.out.trans (hN3.below.mono HB2.out.size)
  have HV3 : Hid (Bs w3 v (itB (f, ps))) := hN3.bs
  clear hfr hN3
  go_wp2
  refine bodyPost_ret (v := .tuple #[v, .int .i64 0]) (by simp [results, Tryz.results10, go_sem]) rfl ?_
  exact ⟨v, rfl, HV3.out, HB3.out⟩
end Go.Proofs.YtaeoafedfgbcaaaGreatDoor.DD

namespace Go.Proofs.YtaeoafedfgbcaaaGreatDoor.DD
set_option linter.unusedVariables false
open Go.RowKit
set_option linter.unusedVariables false

def Fs (z : Int) : Fl := ⟨z, 6, 0, 0, 0, 0, [], [], 0, 0, 0, 0, 0, 0, [], 0⟩
abbrev Is (z : Int) : It := (Fs z, [])
theorem Fs_ok1 : okIt (Is 1) := by
  refine ⟨by decide +kernel, ⟨⟨?_, ?_, ?_, ?_, ?_, ?_, ?_, ?_, ?_, ?_, ?_, ?_⟩, fun p hp => by simp at hp, rfl⟩⟩
  all_goals (unfold Is Fs; first | exact ⟨by decide, by decide⟩)
theorem Fs_ok2 : okIt (Is 2) := by
  refine ⟨by decide +kernel, ⟨⟨?_, ?_, ?_, ?_, ?_, ?_, ?_, ?_, ?_, ?_, ?_, ?_⟩, fun p hp => by simp at hp, rfl⟩⟩
  all_goals (unfold Is Fs; first | exact ⟨by decide, by decide⟩)
theorem Fs_len1 : (itB (Is 1)).length = 14 := by
  have n0 : numB 0 = [0] := by unfold numB; rw [digs_small (by decide)]; rfl
  have n1 : numB 1 = [2] := by unfold numB; rw [digs_small (by decide)]; rfl
  rw [itB_len]
  simp [deedB, Fs, bodyB, tailB, hasParts, n0, n1]
theorem Fs_len2 : (itB (Is 2)).length = 14 := by
  have n0 : numB 0 = [0] := by unfold numB; rw [digs_small (by decide)]; rfl
  have n1 : numB 2 = [4] := by unfold numB; rw [digs_small (by decide)]; rfl
  rw [itB_len]
  simp [deedB, Fs, bodyB, tailB, hasParts, n0, n1]
theorem dval_Fs (w : World) (z : Int) : DVal w (Fs z) [] none 0 none 0 none 0 := ⟨.inl ⟨rfl, rfl⟩, .inl ⟨rfl, rfl⟩, .inl ⟨rfl, rfl⟩⟩
set_option maxRecDepth 100000 in
theorem sync_any (z : Int) (w : World) : Calls Tryz.prog 17 #[.int .i64 z] w fun e w' => e = .returned (.agg #[.int .i64 z, .int .u8 6, .int .i64 0, .int .i64 0, .int .i64 0, .int .i64 0, .string ⟨#[]⟩, .slice none 0 0, .int .i64 0, .int .i64 0, .int .i64 0, .int .i64 0, .int .i64 0, .int .i64 0, .slice none 0 0, .slice none 0 0]) ∧ Below w.heap.size w w' := by
  go_enter Tryz.func17, Tryz.ntmps17
  go_wp2

  refine bodyPost_ret (v := .agg #[.int .i64 z, .int .u8 6, .int .i64 0, .int .i64 0, .int .i64 0, .int .i64 0, .string ⟨#[]⟩, .slice none 0 0, .int .i64 0, .int .i64 0, .int .i64 0, .int .i64 0, .int .i64 0, .int .i64 0, .slice none 0 0, .slice none 0 0]) (by simp [results, Tryz.results17, go_sem]) rfl ?_
  exact ⟨rfl, (Below.refl _ _).alloc (Nat.le_refl _) _⟩

theorem sputS (z : Int) (hz : okIt (Is z)) (w : World) (hL : PA.Laid w) : Calls Tryz.prog 10 #[.agg #[.int .i64 z, .int .u8 6, .int .i64 0, .int .i64 0, .int .i64 0, .int .i64 0, .string ⟨#[]⟩, .slice none 0 0, .int .i64 0, .int .i64 0, .int .i64 0, .int .i64 0, .int .i64 0, .int .i64 0, .slice none 0 0, .slice none 0 0]] w fun e w' => ∃ v, e = .returned (.tuple #[v, .int .i64 0]) ∧ Bs w' v (itB (Is z)) ∧ Below w.heap.size w w' :=
  sput_yes (Fs z) [] none none none 0 0 0 w hL (dval_Fs w z) hz.2 hz.1
theorem catI_take {zs : List Int} {k : Nat} (h : k < zs.length) : catI ((zs.take (k + 1)).map Is) = catI ((zs.take k).map Is) ++ itB (Is (zs[k]'h)) := by
  rw [List.take_succ_eq_append_getElem h, List.map_append, catI_app]
  simp [catI]
theorem catI_le {l : List It} (h : ∀ p ∈ l, okIt p) : (catI l).length ≤ l.length * 700008 := by
  induction l with
  | nil => simp [catI]
  | cons p l ih =>
    have h1 := (h p List.mem_cons_self).len
    have h2 := ih (fun q hq => h q (List.mem_cons_of_mem _ hq))
    rw [catI_cons, List.length_append, itB_len, List.length_cons]
    omega
theorem rows_le (zs : List Int) (k : Nat) (hlen : zs.length ≤ 1000) (hz : ∀ z ∈ zs, okIt (Is z)) : (catI ((zs.take k).map Is)).length ≤ 1000 * 700008 := by
  have h1 := catI_le (l := (zs.take k).map Is) (fun p hp => by
    obtain ⟨z, hz', rfl⟩ := List.mem_map.1 hp
    exact hz z (List.mem_of_mem_take hz'))
  rw [List.length_map, List.length_take] at h1
  exact Nat.le_trans h1 (Nat.mul_le_mul_right _ (by omega))
set_option maxRecDepth 100000 in
set_option maxHeartbeats 4000000 in
theorem rows_any {w : World} {b C : Nat} (zs : List Int) (hz : ∀ z ∈ zs, okIt (Is z)) (hlen : zs.length ≤ 1000) (hc : ∀ j (h : j < zs.length), w.cell? ⟨b, j, none⟩ = some (.int .i64 (zs[j]'h))) (hb : b < w.heap.size) (hL : PA.Laid w) :
    Calls Tryz.prog 9 #[.slice (some ⟨b, 0, none⟩) zs.length C] w fun e w' => ∃ v, e = .returned v ∧ Bs w' v (catI (zs.map Is)) ∧ Below w.heap.size w w' := by
  have HC : Hid (∀ j (h : j < zs.length), w.cell? ⟨b, j, none⟩ = some (.int .i64 (zs[j]'h))) := hc
  have HL : Hid (PA.Laid w) := hL
  have HZ : Hid (∀ z ∈ zs, okIt (Is z)) := hz
  clear hc hL hz
  go_enter Tryz.func9, Tryz.ntmps9
  go_wp2
  go_loopw [3, 4] (fun v i wr => ∃ (k : Nat) (A : Option Addr) (Cv : Nat), k ≤ zs.length ∧ i = .int .i64 k ∧ v = .slice A (catI ((zs.take k).map Is)).length Cv ∧ wr.ownsRow w.heap.size 5 1 v (catI ((zs.take k).map Is)).length (bv (catI ((zs.take k).map Is))) ∧ Below w.heap.size w wr) (fun _ i _ => zs.length - (intOf i).toNat)
  case atStart => exact ⟨0, none, 0, by omega, rfl, rfl, World.ownsRow_nil _ _ _ _, Below.refl _ _⟩
  case round =>
    obtain ⟨k, A, Cv, hk, rfl, rfl, hO, hB⟩ := hrel
    have HO : Hid _ := hO
    have HB : Hid (Below w.heap.size w wr) := hB
    by_cases hlt : k < zs.length
    · have hcl : wr.cell? ⟨b, k, none⟩ = some (.int .i64 (zs[k]'hlt)) := (hB.cell (p := ⟨b, k, none⟩) hb).trans (HC.out k hlt)
      have hok := HZ.out _ (List.getElem_mem hlt)
      have HST : Hid (catI ((zs.take (k + 1)).map Is) = catI ((zs.take k).map Is) ++ itB (Is (zs[k]'hlt))) := catI_take hlt
      have HLE : Hid ((catI ((zs.take k).map Is)).length ≤ 1000 * 700008) := rows_le zs k hlen HZ.out
      generalize (zs[k]'hlt) = z at hcl hok HST
      generalize catI ((zs.take k).map Is) = L at HO HST HLE
      have HOK : Hid (okIt (Is z)) := hok
      have hidx : (k : Int) < (zs.length : Int) := by omega
      clear hO hB hok
      have hsy := sync_any z wr
      go_wp2_with fail
      refine hsy.mono ?_
      rintro e w1 ⟨rfl, hB1⟩
      have HB1 : Hid (Below w.heap.size w w1) := HB.out.trans (hB1.mono HB.out.size)
      have HO1 : Hid (w1.ownsRow w.heap.size 5 1 (.slice A L.length Cv) L.length (bv L)) := owns_keep HO.out (Chg.of_below hB1) (fun _ _ e => e)
      have hpu := sputS z HOK.out w1 (HL.out.below HB1.out)
      clear hsy hB1 HO HB
      go_wp2_with fail
      refine hpu.mono ?_
      rintro e w2 ⟨x, rfl, hx2, hB2⟩
      have HB2 : Hid (Below w.heap.size w w2) := HB1.out.trans (hB2.mono HB1.out.size)
      have hO2 : w2.ownsRow w.heap.size 5 1 (.slice A L.length Cv) L.length (bv L) := owns_keep HO1.out (Chg.of_below hB2) (fun _ _ e => e)
      have hle2 : w.heap.size ≤ w2.heap.size := HB2.out.size
      have HIT : Hid ((itB (Is z)).length ≤ 700008) := by show (itB (Is z)).length ≤ 700008; rw [itB_len]; have := HOK.out.len; omega
      generalize itB (Is z) = T at hx2 HST HIT
      have HAD : Hid (L.length + T.length ≤ 140737488355328) := by have h1 := HLE.out; have h2 := HIT.out; show L.length + T.length ≤ _; omega
      obtain ⟨AX, CX, rfl⟩ := bs_form hx2
      clear hpu hB2 HB1 HO1
      go_wp2_with (at_builtin; refine wpList_app rfl _ _ rfl (.slice A L.length Cv) _ rfl rfl hO2 hx2 hle2 HAD.out ?_; intro A3 C3 w3 ho3 hg3 hl3 hn3)
      have HB3 : Hid (Below w.heap.size w w3) := HB2.out.grown hg3 hle2 (fun j e => (hO2.lt j e).1)
      refine ⟨⟨k + 1, A3, C3, by omega, by go_num, ?_, ?_, HB3.out⟩, by simp [intOf]; omega⟩
      · rw [HST.out, List.length_append]
      · rw [HST.out, List.length_append]; exact ho3
    · have e0 : k = zs.length := by omega
      subst e0
      have HBs : Hid (Bs wr (.slice A (catI ((zs.take zs.length).map Is)).length Cv) (catI (zs.map Is))) := by
        have h := Bs.of_owns hO
        rw [List.take_length] at h ⊢
        exact h
      clear hO hB HO
      go_wp2
      go_ret
      exact ⟨_, rfl, HBs.out, HB.out⟩
end Go.Proofs.YtaeoafedfgbcaaaGreatDoor.DD

namespace Go.Proofs.YtaeoafedfgbcaaaGreatDoor.DD
set_option linter.unusedVariables false
open Go.RowKit Go.Sort
set_option linter.unusedVariables false

theorem ends_last : ∀ (l : List It) (t m : Nat), l.length = m + 1 → (endsF t l)[m]? = some (t + (catI l).length)
  | [p], t, m, h => by
    have : m = 0 := by simp at h; omega
    subst this
    simp [endsF, catI]
  | p :: q :: r, t, m, h => by
    obtain ⟨n, rfl⟩ : ∃ n, m = n + 1 := ⟨m - 1, by simp at h; omega⟩
    show (endsF (t + (itB p).length) (q :: r))[n]? = _
    rw [ends_last (q :: r) _ n (by simp at h ⊢; omega), catI_cons p, List.length_append, Nat.add_assoc]
theorem row_cells {w : World} {base g n cap : Nat} {els : List El2} (h : w.ownsRow base 41 16 (.slice (some ⟨g, 0, none⟩) n cap) n (evd2 els)) (j : Nat) (hj : j < els.length) : w.rangeAt g (j * 16) (ev2 (els[j]'hj)) := by
  intro i v hv
  have hi : i < 16 := by have := (List.getElem?_eq_some_iff.1 hv).1; rw [ev2_len] at this; exact this
  have := h.cells (g := g) rfl (j * 16 + i) v (by rw [evd2_at els j hj i hi]; exact hv)
  rw [show (⟨g, 0, none⟩ : Addr).add (j * 16 + i) = ⟨g, 0 + (j * 16 + i), none⟩ by simp only [Addr.add]; split <;> simp_all, Nat.zero_add] at this
  exact this
set_option maxRecDepth 100000 in
set_option maxHeartbeats 4000000 in
theorem tells_any {w : World} {x : Value} {B : List UInt8} {L : Option Addr} {C : Nat} (zs : List Int) (tz : Int) (hx : Bs w x B) (hB : B.length ≤ 1000000) (hs : scanF B 0 = zs.map Is) (htz : tz = ((catI (zs.map Is)).length : Nat)) (hz : ∀ z ∈ zs, okIt (Is z)) (hlen : zs.length ≤ 1000)
    (hc : zs = [] ∨ ∃ b, L = some ⟨b, 0, none⟩ ∧ b < w.heap.size ∧ ∀ j (h : j < zs.length), w.cell? ⟨b, j, none⟩ = some (.int .i64 (zs[j]'h))) (hL : PA.Laid w) :
    Calls Tryz.prog 11 #[x, .int .i64 tz, .slice L zs.length C] w fun e w' => e = .returned (.bool true) ∧ Below w.heap.size w w' := by
  have HC : Hid (zs = [] ∨ ∃ b, L = some ⟨b, 0, none⟩ ∧ b < w.heap.size ∧ ∀ j (h : j < zs.length), w.cell? ⟨b, j, none⟩ = some (.int .i64 (zs[j]'h))) := hc
  have HL : Hid (PA.Laid w) := hL
  have HZ : Hid (∀ z ∈ zs, okIt (Is z)) := hz
  have hsc := scan_any hx (by omega) hL
  rw [hs, ← htz, List.length_map] at hsc
  have HTZ : Hid (tz = ((catI (zs.map Is)).length : Nat)) := htz
  obtain ⟨AX, CX, rfl⟩ := bs_form hx
  clear hc hL hz hx hs htz
  go_enter Tryz.func11, Tryz.ntmps11
  go_wp2_with fail
  refine hsc.mono ?_
  rintro e w1 ⟨els, vd, ve, rfl, hel, hrd, hre, hdv, hB1⟩
  obtain ⟨Ad, Cd, rfl⟩ := owns_form' hrd
  obtain ⟨Ae, Ce, rfl⟩ := owns_form' hre
  have HEL : Hid (els.map El2.p = zs.map Is) := hel
  have HRD : Hid _ := hrd
  have HRE : Hid _ := hre
  have HDV : Hid (∀ e ∈ els, DV w1 e) := hdv
  have HB1 : Hid (Below w.heap.size w w1) := hB1
  clear hsc hel hrd hre hdv hB1
  have hsw : w.heap.size ≤ w1.heap.size := HB1.out.size
  go_wp2_with fail
  go_loopw [10] (fun c wr => ∃ k : Nat, k ≤ zs.length ∧ c = .int .i64 k ∧ Below w1.heap.size w1 wr) (fun c _ => zs.length - (intOf c).toNat)
  case atStart => exact ⟨0, by omega, rfl, Below.refl _ _⟩
  case round =>
    obtain ⟨k, hk, rfl, hB⟩ := hrel
    have HB : Hid (Below w1.heap.size w1 wr) := hB
    have HBw : Hid (Below w.heap.size w wr) := HB1.out.trans (hB.mono hsw)
    clear hB
    by_cases hlt : k < zs.length
    · have hkl : k < els.length := by have := congrArg List.length HEL.out; rw [List.length_map, List.length_map] at this; omega
      have hep : (els[k]'hkl).p = Is (zs[k]'hlt) := by
        have := List.getElem_of_eq HEL.out (i := k) (by rw [List.length_map]; exact hkl)
        rw [List.getElem_map, List.getElem_map] at this
        exact this
      obtain ⟨b, rfl, hb, hcc⟩ : ∃ b, L = some ⟨b, 0, none⟩ ∧ b < w.heap.size ∧ ∀ j (h : j < zs.length), w.cell? ⟨b, j, none⟩ = some (.int .i64 (zs[j]'h)) := by
        rcases HC.out with h | h
        · rw [h] at hlt; simp at hlt
        · exact h
      have hcz : wr.cell? ⟨b, k, none⟩ = some (.int .i64 (zs[k]'hlt)) := (HBw.out.cell (p := ⟨b, k, none⟩) hb).trans (hcc k hlt)
      clear hcc
      have hO := owns_keep HRD.out (Chg.of_below HB.out) (fun _ _ e => e)
      obtain ⟨g, rfl⟩ : ∃ g, Ad = some ⟨g, 0, none⟩ := by
        rcases HRD.out.2 with ⟨h, h0⟩ | ⟨g, cap, cur, h, _⟩
        · omega
        · cases h; exact ⟨g, rfl⟩
      have hra := row_cells hO k hkl
      have hdv : DV wr (els[k]'hkl) := (HDV.out _ (List.getElem_mem hkl)).grow HB.out
      generalize (els[k]'hkl) = e0 at hep hra hdv
      generalize (zs[k]'hlt) = z at hep hcz
      obtain ⟨p, A1, c1, A2, c2, A3, c3⟩ := e0
      dsimp only at hep
      subst hep
      have hdv' : DVal wr (Fs z) [] A1 c1 A2 c2 A3 c3 := hdv
      have sQ := fun d os => Calls.regrown_of (sync_any z (grow (redrawn wr d) os))
      have dQ : ∀ d os, _ := fun d os => Calls.regrown_of (sameD_any (Fs z) [] A1 A2 A3 none none none c1 c2 c3 0 0 0 (grow (redrawn wr d) os) (by show (0 : Nat) ≤ _; omega) (by show (0 : Nat) ≤ _; omega) (by show (0 : Nat) ≤ _; omega) rfl (fun p hp => (nomatch hp)) (hdv'.grow (below_regrown wr d os)) (dval_Fs _ z))
      have z0 : wr.cell? ⟨g, k * 16, none⟩ = some (.int .i64 z) := hra 0 _ rfl
      have z1 : wr.cell? ⟨g, k * 16 + 1, none⟩ = some (.int .u8 6) := hra 1 _ rfl
      have z2 : wr.cell? ⟨g, k * 16 + 2, none⟩ = some (.int .i64 0) := hra 2 _ rfl
      have z3 : wr.cell? ⟨g, k * 16 + 3, none⟩ = some (.int .i64 0) := hra 3 _ rfl
      have z4 : wr.cell? ⟨g, k * 16 + 4, none⟩ = some (.int .i64 0) := hra 4 _ rfl
      have z5 : wr.cell? ⟨g, k * 16 + 5, none⟩ = some (.int .i64 0) := hra 5 _ rfl
      have z6 : wr.cell? ⟨g, k * 16 + 6, none⟩ = some (.string ⟨#[]⟩) := hra 6 _ rfl
      have z7 : wr.cell? ⟨g, k * 16 + 7, none⟩ = some (.slice A1 0 c1) := hra 7 _ rfl
      have z8 : wr.cell? ⟨g, k * 16 + 8, none⟩ = some (.int .i64 0) := hra 8 _ rfl
      have z9 : wr.cell? ⟨g, k * 16 + 9, none⟩ = some (.int .i64 0) := hra 9 _ rfl
      have z10 : wr.cell? ⟨g, k * 16 + 10, none⟩ = some (.int .i64 0) := hra 10 _ rfl
      have z11 : wr.cell? ⟨g, k * 16 + 11, none⟩ = some (.int .i64 0) := hra 11 _ rfl
      have z12 : wr.cell? ⟨g, k * 16 + 12, none⟩ = some (.int .i64 0) := hra 12 _ rfl
      have z13 : wr.cell? ⟨g, k * 16 + 13, none⟩ = some (.int .i64 0) := hra 13 _ rfl
      have z14 : wr.cell? ⟨g, k * 16 + 14, none⟩ = some (.slice A2 0 c2) := hra 14 _ rfl
      have z15 : wr.cell? ⟨g, k * 16 + 15, none⟩ = some (.slice A3 0 c3) := hra 15 _ rfl
      have hcz := fun d os => cell_regrown hcz d os
      have z0 := fun d os => cell_regrown z0 d os
      have z1 := fun d os => cell_regrown z1 d os
      have z2 := fun d os => cell_regrown z2 d os
      have z3 := fun d os => cell_regrown z3 d os
      have z4 := fun d os => cell_regrown z4 d os
      have z5 := fun d os => cell_regrown z5 d os
      have z6 := fun d os => cell_regrown z6 d os
      have z7 := fun d os => cell_regrown z7 d os
      have z8 := fun d os => cell_regrown z8 d os
      have z9 := fun d os => cell_regrown z9 d os
      have z10 := fun d os => cell_regrown z10 d os
      have z11 := fun d os => cell_regrown z11 d os
      have z12 := fun d os => cell_regrown z12 d os
      have z13 := fun d os => cell_regrown z13 d os
      have z14 := fun d os => cell_regrown z14 d os
      have z15 := fun d os => cell_regrown z15 d os
      have i1 : (k : Int) < (zs.length : Int) := by omega
      clear hO hra hdv hdv'
      unfold Fs at dQ
      dsimp only [List.length_nil] at dQ
      go_wp2_with fail
      refine wp_region_quiet_below (by kernel_rfl) (by kernel_rfl) ?_
      repeat (go_big_quiet_step (first | (go_at_call 17; exact sQ _ _) | (go_at_call 16; exact dQ _ _)))
      refine wpQuiet_nil ?_
      intro _ hw'
      obtain ⟨⟨dq, osq⟩, hw''⟩ := hw'
      subst hw''
      have HB3 : Hid (Below w1.heap.size w1 (grow (redrawn wr dq) osq)) := HB.out.trans ((below_regrown wr dq osq).mono HB.out.size)
      clear z0 z1 z2 z3 z4 z5 z6 z7 z8 z9 z10 z11 z12 z13 z14 z15 hcz sQ dQ
      go_wp2
      exact ⟨⟨k + 1, by omega, by go_num, HB3.out⟩, by simp [intOf]; omega⟩
    · have e0 : k = zs.length := by omega
      subst e0
      by_cases h0 : zs.length = 0
      · have h1 : (zs.length : Int) = 0 := by omega
        rw [h0]
        clear hlt hk
        go_wp2
        go_ret
        exact ⟨rfl, HBw.out⟩
      · obtain ⟨m, hm⟩ : ∃ m, zs.length = m + 1 := ⟨zs.length - 1, by omega⟩
        have hO := owns_keep HRE.out (Chg.of_below HB.out) (fun _ _ e => e)
        obtain ⟨g, rfl⟩ : ∃ g, Ae = some ⟨g, 0, none⟩ := by
          rcases HRE.out.2 with ⟨h, h0'⟩ | ⟨g, cap, cur, h, _⟩
          · omega
          · cases h; exact ⟨g, rfl⟩
        have hcm : wr.cell? ⟨g, m, none⟩ = some (.int .i64 tz) := by
          have := hO.cells (g := g) rfl m (.int .i64 tz) (by
            rw [List.getElem?_map, ends_last (zs.map Is) 0 m (by rw [List.length_map]; exact hm)]
            simp only [Option.map_some, nI, Nat.zero_add]
            rw [HTZ.out])
          rw [show (⟨g, 0, none⟩ : Addr).add m = ⟨g, 0 + m, none⟩ by simp only [Addr.add]; split <;> simp_all, Nat.zero_add] at this
          exact this
        clear hO
        rw [hm]
        have j1 : IntKind.i64.wrap (((m + 1 : Nat) : Int) - 1) = (m : Int) := by rw [show ((m + 1 : Nat) : Int) - 1 = (m : Int) by omega]; simp [IntKind.wrap, IntKind.bits, IntKind.signed]; omega
        have j2 : ¬ ((m + 1 : Nat) : Int) = 0 := by omega
        have j3 : (m : Int) < ((m + 1 : Nat) : Int) := by omega
        clear hlt hk h0
        go_wp2
        go_ret
        exact ⟨rfl, HBw.out⟩
end Go.Proofs.YtaeoafedfgbcaaaGreatDoor.DD

namespace Go.Proofs.YtaeoafedfgbcaaaGreatDoor.DD
set_option linter.unusedVariables false
open Go.RowKit
set_option linter.unusedVariables false

def Fzz : Fl := ⟨0, 0, 0, 0, 0, 0, [], [], 0, 0, 0, 0, 0, 0, [], 0⟩
theorem Fzz_not : rightD Fzz [] = false := by decide +kernel
theorem Fzz_fit : DedFit Fzz [] := by
  refine ⟨⟨?_, ?_, ?_, ?_, ?_, ?_, ?_, ?_, ?_, ?_, ?_, ?_⟩, fun p hp => by simp at hp, rfl⟩
  all_goals (unfold Fzz; first | exact ⟨by decide, by decide⟩)
def B12 : List UInt8 := catI [Is 1, Is 2]
theorem B12_len : B12.length = 28 := by
  show (itB (Is 1) ++ (itB (Is 2) ++ [])).length = 28
  rw [List.length_append, List.length_append, Fs_len1, Fs_len2]
  rfl
theorem rise12 : risen 0 [Is 1, Is 2] := ⟨by decide, by decide, trivial⟩
theorem ok12 : ∀ p ∈ [Is 1, Is 2], okIt p := by
  intro p hp
  rcases List.mem_cons.1 hp with rfl | hp
  · exact Fs_ok1
  · rw [List.mem_singleton.1 hp]; exact Fs_ok2
theorem scan12 : scanF B12 0 = [Is 1, Is 2] := by
  have := scan_cat [Is 1, Is 2] [] 0 ok12 rise12
  rw [List.append_nil] at this
  exact this
theorem scan27 : scanF (B12.take 27) 0 = [Is 1] := by
  have e : B12.take 27 = itB (Is 1) ++ (itB (Is 2)).take 13 := by
    show (itB (Is 1) ++ (itB (Is 2) ++ [])).take 27 = _
    rw [List.append_nil, List.take_append, Fs_len1, List.take_of_length_le (by rw [Fs_len1]; omega)]
  rw [e, scan_it Fs_ok1 _ (by decide)]
  have hu : unframe ((itB (Is 2)).take 13) = none := unframe_cut _ (Nat.le_trans Fs_ok2.len (by omega)) 13 (by have := Fs_len2; unfold itB at this; omega)
  rw [scanF_none hu]
theorem scan21 : scanF (catI [Is 2, Is 1]) 0 = [Is 2] := by
  show scanF (itB (Is 2) ++ (itB (Is 1) ++ [])) 0 = _
  rw [scan_it Fs_ok2 _ (by decide), scanF_low (unframe_it Fs_ok1 []) (deedOf_it Fs_ok1) (by decide)]
theorem scan0 : scanF [] 0 = [] := rfl

theorem tells1 {X : World} {x : Value} {B : List UInt8} (z tz : Int) (hx : Bs X x B) (hB : B.length ≤ 1000000) (hs : scanF B 0 = [Is z]) (ht : tz = ((catI [Is z]).length : Nat)) (hz : okIt (Is z)) (hL : PA.Laid X) :
    Calls Tryz.prog 11 #[x, .int .i64 tz, .slice (some ⟨X.heap.size, 0, none⟩) 1 1] (X.alloc (.cells #[.int .i64 z] 32)) fun e w' => e = .returned (.bool true) ∧ Below X.heap.size X w' := by
  have hB0 : Below X.heap.size X (X.alloc (.cells #[.int .i64 z] 32)) := (Below.refl _ _).alloc (Nat.le_refl _) _
  refine (tells_any (C := 1) [z] tz (hx.alloc _) hB hs ht (fun y hy => by rw [List.mem_singleton.1 hy]; exact hz) (by simp) (.inr ⟨X.heap.size, rfl, by simp, fun j hj => ?_⟩) (hL.below hB0)).mono ?_
  · have h := heap_alloc_new X (.cells #[.int .i64 z] 32)
    have hj' : j < 1 := hj
    obtain rfl : j = 0 := by omega
    rw [cell_at h]
    rfl
  · rintro e w' ⟨rfl, hb⟩
    exact ⟨rfl, hB0.trans (hb.mono hB0.size)⟩
theorem tells2 {X : World} {x : Value} {B : List UInt8} (y z tz : Int) (hx : Bs X x B) (hB : B.length ≤ 1000000) (hs : scanF B 0 = [Is y, Is z]) (ht : tz = ((catI [Is y, Is z]).length : Nat)) (hy : okIt (Is y)) (hz : okIt (Is z)) (hL : PA.Laid X) :
    Calls Tryz.prog 11 #[x, .int .i64 tz, .slice (some ⟨X.heap.size, 0, none⟩) 2 2] (X.alloc (.cells #[.int .i64 y, .int .i64 z] 32)) fun e w' => e = .returned (.bool true) ∧ Below X.heap.size X w' := by
  have hB0 : Below X.heap.size X (X.alloc (.cells #[.int .i64 y, .int .i64 z] 32)) := (Below.refl _ _).alloc (Nat.le_refl _) _
  refine (tells_any (C := 2) [y, z] tz (hx.alloc _) hB hs ht (fun u hu => by
    rcases List.mem_cons.1 hu with rfl | hu
    · exact hy
    · rw [List.mem_singleton.1 hu]; exact hz) (by simp) (.inr ⟨X.heap.size, rfl, by simp, fun j hj => ?_⟩) (hL.below hB0)).mono ?_
  · have h := heap_alloc_new X (.cells #[.int .i64 y, .int .i64 z] 32)
    have hj' : j < 2 := hj
    rw [cell_at h]
    rcases j with _ | _ | j
    · rfl
    · rfl
    · omega
  · rintro e w' ⟨rfl, hb⟩
    exact ⟨rfl, hB0.trans (hb.mono hB0.size)⟩
theorem rows2 {X : World} (y z : Int) (hy : okIt (Is y)) (hz : okIt (Is z)) (hL : PA.Laid X) :
    Calls Tryz.prog 9 #[.slice (some ⟨X.heap.size, 0, none⟩) 2 2] (X.alloc (.cells #[.int .i64 y, .int .i64 z] 32)) fun e w' => ∃ v, e = .returned v ∧ Bs w' v (catI [Is y, Is z]) ∧ Below X.heap.size X w' := by
  have hB0 : Below X.heap.size X (X.alloc (.cells #[.int .i64 y, .int .i64 z] 32)) := (Below.refl _ _).alloc (Nat.le_refl _) _
  refine (rows_any (C := 2) [y, z] (fun u hu => by
    rcases List.mem_cons.1 hu with rfl | hu
    · exact hy
    · rw [List.mem_singleton.1 hu]; exact hz) (by simp) (fun j hj => ?_) (by simp) (hL.below hB0)).mono ?_
  · have h := heap_alloc_new X (.cells #[.int .i64 y, .int .i64 z] 32)
    have hj' : j < 2 := hj
    rw [cell_at h]
    rcases j with _ | _ | j
    · rfl
    · rfl
    · omega
  · rintro e w' ⟨v, rfl, hv, hb⟩
    exact ⟨v, rfl, hv, hB0.trans (hb.mono hB0.size)⟩
theorem bs_head {w : World} {b o n C : Nat} {l : List UInt8} (h : Bs w (.slice (some ⟨b, o, none⟩) n C) l) (k : Nat) (hk : k ≤ l.length) : Bs w (.slice (some ⟨b, o, none⟩) k C) (l.take k) := by
  rcases h with ⟨h, rfl⟩ | ⟨ad, c, h, rfl⟩ | ⟨h0, b', o', c, hv, h1, h2, h3⟩
  · cases h
  · cases h
    have : k = 0 := by simpa using hk
    subst this
    exact .inr (.inl ⟨_, _, rfl, rfl⟩)
  · cases hv
    exact Bs.mk b o C (by rw [List.length_take]; omega) (by rw [List.length_take]; omega) h2 (fun j hj => by
      rw [List.length_take] at hj
      rw [h3 j (by omega), List.getElem_take])
theorem cat1 : (14 : Int) = ((catI [Is 1]).length : Nat) := by rw [catI_one, Fs_len1]; rfl
theorem cat2 : (14 : Int) = ((catI [Is 2]).length : Nat) := by rw [catI_one, Fs_len2]; rfl
theorem cat12 : (28 : Int) = ((catI [Is 1, Is 2]).length : Nat) := by
  have := B12_len
  unfold B12 at this
  rw [this]
  rfl
theorem cat21_len : (catI [Is 2, Is 1]).length = 28 := by
  show (itB (Is 2) ++ (itB (Is 1) ++ [])).length = 28
  rw [List.length_append, List.length_append, Fs_len1, Fs_len2]
  rfl

set_option maxRecDepth 100000 in
set_option maxHeartbeats 8000000 in
theorem awake_seg (w : World) (hL : PA.Laid w) : Calls Tryz.prog 4 #[] w fun e w' => e = .returned (.bool true) ∧ Below w.heap.size w w' := by
  have HL : Hid (PA.Laid w) := hL
  clear hL
  have hrw := rows2 1 2 Fs_ok1 Fs_ok2 HL.out
  go_enter Tryz.func4, Tryz.ntmps4
  go_wp2_with fail
  refine hrw.mono ?_
  rintro e w1 ⟨v, rfl, hb1, hB1⟩
  have hb1' : Bs w1 v B12 := hb1
  have HB1 : Hid (Below w.heap.size w w1) := hB1
  have HV1 : Hid (Bs w1 v B12) := hb1'
  obtain ⟨AX, CX, rfl⟩ := bs_form hb1'
  obtain ⟨b0, o0, rfl, hC0, -, -⟩ := bs_drop hb1' 0 (by omega) (by rw [B12_len]; omega)
  rw [B12_len] at hC0
  clear hrw hb1 hb1' hB1
  have hpu : ∀ X : World, Below w.heap.size w X → Calls Tryz.prog 10 #[.agg #[.int .i64 0, .int .u8 0, .int .i64 0, .int .i64 0, .int .i64 0, .int .i64 0, .string ⟨#[]⟩, .slice none 0 0, .int .i64 0, .int .i64 0, .int .i64 0, .int .i64 0, .int .i64 0, .int .i64 0, .slice none 0 0, .slice none 0 0]] X fun e w' => e = .returned (.tuple #[.slice none 0 0, .int .i64 4]) ∧ Below X.heap.size X w' := fun X hX => sput_no Fzz [] none none none 0 0 0 X (HL.out.below hX) ⟨.inl ⟨rfl, rfl⟩, .inl ⟨rfl, rfl⟩, .inl ⟨rfl, rfl⟩⟩ Fzz_fit Fzz_not
  rw [B12_len] at HV1 ⊢
  go_wp2_with fail
  refine (hpu w1 HB1.out).mono ?_
  rintro e w2 ⟨rfl, hB2⟩
  have HB2 : Hid (Below w.heap.size w w2) := HB1.out.trans (hB2.mono HB1.out.size)
  have HV2 : Hid (Bs w2 (.slice (some ⟨b0, o0, none⟩) 28 CX) B12) := Bs.below' HV1.out hB2
  clear hpu hB2 HB1 HV1
  have ht := tells2 1 2 28 HV2.out (by rw [B12_len]; omega) scan12 cat12 Fs_ok1 Fs_ok2 (HL.out.below HB2.out)
  go_wp2_with fail
  refine ht.mono ?_
  rintro e w3 ⟨rfl, hB3⟩
  have HB3 : Hid (Below w.heap.size w w3) := HB2.out.trans (hB3.mono HB2.out.size)
  have HV3 : Hid (Bs w3 (.slice (some ⟨b0, o0, none⟩) 28 CX) B12) := Bs.below' HV2.out hB3
  clear ht hB3 HB2 HV2
  have ht := tells1 1 14 (bs_head HV3.out 27 (by rw [B12_len]; omega)) (by rw [List.length_take, B12_len]; omega) scan27 cat1 Fs_ok1 (HL.out.below HB3.out)
  have hcap : (27 : Int) ≤ (CX : Int) := by omega
  go_wp2_with fail
  refine ht.mono ?_
  rintro e w4 ⟨rfl, hB4⟩
  have HB4 : Hid (Below w.heap.size w w4) := HB3.out.trans (hB4.mono HB3.out.size)
  clear ht hB4 HB3 HV3 hcap
  have hrw := rows2 2 1 Fs_ok2 Fs_ok1 (HL.out.below HB4.out)
  go_wp2_with fail
  refine hrw.mono ?_
  rintro e w5 ⟨v, rfl, hb5, hB5⟩
  have HB5 : Hid (Below w.heap.size w w5) := HB4.out.trans (hB5.mono HB4.out.size)
  have HV5 : Hid (Bs w5 v (catI [Is 2, Is 1])) := hb5
  obtain ⟨AY, CY, rfl⟩ := bs_form hb5
  clear hrw hb5 hB5 HB4
  have ht := tells1 2 14 HV5.out (by rw [cat21_len]; omega) scan21 cat2 Fs_ok2 (HL.out.below HB5.out)
  rw [cat21_len] at ht ⊢
  go_wp2_with fail
  refine ht.mono ?_
  rintro e w6 ⟨rfl, hB6⟩
  have HB6 : Hid (Below w.heap.size w w6) := HB5.out.trans (hB6.mono HB5.out.size)
  clear ht hB6 HB5 HV5
  have ht := tells_any (C := 0) (L := none) [] 0 (Bs.nil w6) (by decide) scan0 (by decide) (fun z hz => (nomatch hz)) (by decide) (.inl rfl) (HL.out.below HB6.out)
  rw [show ([] : List Int).length = 0 from rfl] at ht
  go_wp2_with fail
  refine ht.mono ?_
  rintro e w7 ⟨rfl, hB7⟩
  have HB7 : Hid (Below w.heap.size w w7) := HB6.out.trans (hB7.mono HB6.out.size)
  clear ht hB7 HB6
  go_wp2
  go_ret
  exact ⟨rfl, HB7.out⟩
end Go.Proofs.YtaeoafedfgbcaaaGreatDoor.DD
