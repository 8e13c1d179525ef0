/- The walk of LinkFull. -/
import Derived.Test.YtnonboegnbnepaaLkN
namespace Go.Proofs.Ytnonboegnbnepaa
set_option linter.unusedVariables false
open Go.RowKit
set_option linter.unusedVariables false

theorem made_bytes (N : Nat) (hN : N ≤ 1048577) (I : Int) (hI : I = N) : ∃ M, ∃ Z : List UInt8, Z.length = N ∧ (∀ w, (Instr.makeSlice 30 (.int .i64 I) (.int .i64 I)).run Try.prog w = .ok (.slice (some ⟨w.heap.size, 0, none⟩) N N) (w.alloc (.cells M 5))) ∧
    ∀ w : World, Bs (w.alloc (.cells M 5)) (.slice (some ⟨w.heap.size, 0, none⟩) N N) Z := by
  subst hI
  obtain ⟨i0, hi, hz0, hz1, hz2⟩ := info_parts info5
  refine ⟨madeCells #[.int .u8 0] N, List.replicate N 0, by simp, fun w => ?_, fun w => ?_⟩
  · have := run_make (P := Try.prog) (w := w) 30 5 i0 (.int .u8 0) Try.underlying30 hi hz0 .i64 .i64 (N : Int) (N : Int) (by omega) (by omega) (by rw [hz2]; omega) (by omega)
    rw [this, hz1]
    simp [Value.cells]
  · have e : (List.replicate N (0 : UInt8)).length = N := by simp
    have := Bs_new w (List.replicate N 0) (madeCells #[.int .u8 0] N) (0, 0) N (by simp) (fun j hj => by
      have hj' : j < N := by simpa using hj
      simp [madeCells, hj', Nat.mod_one])
    rwa [e] at this
/- A link that waits with k loads of one byte. -/
def full (k : Nat) : St := ⟨3, 0, 0, 0, List.replicate (min k 1000) [1]⟩
def Fl (w wr : World) (a k : Nat) : Prop := ∃ O, Lo false wr a (full k) O ∧ (∀ g, O g → w.heap.size ≤ g) ∧ Below w.heap.size w wr
theorem Fl.below {w wr w' : World} {a k : Nat} (h : Fl w wr a k) (hb : Below wr.heap.size wr w') : Fl w w' a k := by
  obtain ⟨O, h1, h2, h3⟩ := h
  exact ⟨O, h1.below hb, h2, h3.trans (hb.mono h3.size)⟩
theorem fl_send {w wr : World} {a k : Nat} (h : Fl w wr a k) {x : Value} (hx : Bs wr x [1]) : Calls Try.prog 12 #[.pointer (some ⟨a, 0, none⟩), x] wr fun e w' => e = .returned (.int .i64 (if k < 1000 then 0 else 5)) ∧ Hid (Fl w w' a (k + 1)) := by
  obtain ⟨O, h1, h2, h3⟩ := h
  refine (send_lo h1 hx).mono ?_
  rintro e w' ⟨rfl, hl, hc⟩
  have hE : sendE (full k) [1] = if k < 1000 then 0 else 5 := by
    unfold sendE full
    simp only [List.length_replicate, List.length_cons, List.length_nil]
    by_cases hk : k < 1000
    · simp [hk]; omega
    · simp [hk]; omega
  have hS : sendS (full k) [1] = full (k + 1) := by
    unfold sendS
    rw [hE]
    by_cases hk : k < 1000
    · simp only [hk, if_true]
      unfold full
      have e1 : min k 1000 = k := by omega
      have e2 : min (k + 1) 1000 = k + 1 := by omega
      simp only [e1, e2, List.replicate_succ']
    · have e1 : min k 1000 = min (k + 1) 1000 := by omega
      simp [hk]
      unfold full
      rw [e1]
  rw [hS] at hl
  rw [hE]
  exact ⟨rfl, _, hl, fun g hg => hg.elim (h2 g) (fun e => Nat.le_trans h3.size e.1), h3.trans (hc.below h2 h3.size)⟩
theorem fl_send2 {w wr : World} {a k : Nat} (h : Fl w wr a k) {x : Value} {b : List UInt8} (hx : Bs wr x b) {r : Int} (hr : sendE (full k) b = r) (h0 : r ≠ 0) : Calls Try.prog 12 #[.pointer (some ⟨a, 0, none⟩), x] wr fun e w' => e = .returned (.int .i64 r) ∧ Hid (Fl w w' a k) := by
  subst hr
  obtain ⟨O, h1, h2, h3⟩ := h
  refine (send_lo h1 hx).mono ?_
  rintro e w' ⟨rfl, hl, hc⟩
  have hS : sendS (full k) b = full k := by unfold sendS; rw [if_neg h0]
  rw [hS] at hl
  exact ⟨rfl, _, hl, fun g hg => hg.elim (h2 g) (fun e => Nat.le_trans h3.size e.1), h3.trans (hc.below h2 h3.size)⟩
theorem fl_wait {w wr : World} {a k : Nat} (h : Fl w wr a k) : Calls Try.prog 26 #[.pointer (some ⟨a, 0, none⟩)] wr fun e w' => e = .returned (.int .i64 ((min k 1000 : Nat) : Int)) ∧ w' = wr := by
  obtain ⟨O, h1, h2, h3⟩ := h
  refine (wait_lo h1).mono ?_
  rintro e w' ⟨rfl, rfl⟩
  exact ⟨by simp [full], rfl⟩
abbrev zL : Obj := .cells #[.int .i64 0, .int .i64 0, .int .i64 0, .int .i64 0, .slice none 0 0] 54
set_option maxRecDepth 100000 in
set_option maxHeartbeats 4000000 in
theorem full_any {w : World} {m : Int} (hm : i64 m) {p : Pkt} {A : Option Addr} {C : Nat} : Calls Try.prog 4 #[.int .i64 m, pkV p A C] w fun e w' => e = .returned (.bool true) ∧ Below w.heap.size w w' := by
  have HM : Hid (i64 m) := hm
  clear hm
  have htn := fun W => take_no (w := W) (v := .pointer none) (.inl rfl) p A C
  have htz := fun (W : World) => take_no (w := W.alloc zL) (v := .pointer (some ⟨W.heap.size, 0, none⟩)) (.inr ⟨_, rfl, by simp [zL]⟩) p A C
  unfold pkV at htn htz ⊢
  obtain ⟨w0, hw0⟩ : ∃ w0, w0 = w.alloc (.cells #[.int .i64 p.fr, .int .i64 p.to, .int .i64 p.seq, .int .i64 p.ack, .slice A p.load.length C] 32) := ⟨_, rfl⟩
  obtain ⟨bx, hbx⟩ : ∃ bx, bx = w.heap.size := ⟨_, rfl⟩
  have HBX : Hid (∀ W, Below w0.heap.size w0 W → W.heap[bx]? = some (.cells #[.int .i64 p.fr, .int .i64 p.to, .int .i64 p.seq, .int .i64 p.ack, .slice A p.load.length C] 32 (0, 0))) := by
    intro W hW
    rw [hW.block bx (by rw [hw0, hbx]; simp), hw0, hbx]; exact heap_alloc_new w _
  have HB0 : Hid (Below w.heap.size w w0) := by rw [hw0]; exact below1 _ _
  have haw := awake_any w0
  rw [hw0] at haw
  go_enter Try.func4, Try.ntmps4
  go_wp2_with fail
  refine haw.mono ?_
  rintro e w1 ⟨rfl, hb⟩
  rw [← hw0] at hb
  rw [← hbx]
  have HB1 : Hid (Below w0.heap.size w0 w1) := hb
  clear hb hbx haw hw0
  have x0 := cell_at (HBX.out _ HB1.out) 0
  have x1 := cell_at (HBX.out _ HB1.out) 1
  have x2 := cell_at (HBX.out _ HB1.out) 2
  have x3 := cell_at (HBX.out _ HB1.out) 3
  have x4 := cell_at (HBX.out _ HB1.out) 4
  simp at x0 x1 x2 x3 x4
  go_wp2_with fail
  refine (htn w1).mono ?_
  rintro e w2 ⟨rfl, hb⟩
  have HB2 : Hid (Below w0.heap.size w0 w2) := HB1.out.trans (hb.mono HB1.out.size)
  clear hb HB1 x0 x1 x2 x3 x4
  have x0 := cell_at (HBX.out _ HB2.out) 0
  have x1 := cell_at (HBX.out _ HB2.out) 1
  have x2 := cell_at (HBX.out _ HB2.out) 2
  have x3 := cell_at (HBX.out _ HB2.out) 3
  have x4 := cell_at (HBX.out _ HB2.out) 4
  have hbl : bx < w2.heap.size := heap_lt (HBX.out _ HB2.out)
  simp at x0 x1 x2 x3 x4
  go_wp2_with fail
  refine (htz w2).mono ?_
  rintro e w3 ⟨rfl, hb⟩
  have HB3 : Hid (Below w0.heap.size w0 w3) := (HB2.out.alloc HB2.out.size _).trans (hb.mono (HB2.out.alloc HB2.out.size _).size)
  clear hb HB2 htn htz x0 x1 x2 x3 x4 hbl
  have hs1 := send_no (w := w3.alloc (.cells #[.int .u8 1] 5)) (v := .pointer none) (x := .slice (some ⟨w3.heap.size, 0, none⟩) 1 1) (.inl rfl)
  go_wp2_with fail
  refine hs1.mono ?_
  rintro e w4 ⟨rfl, hw4⟩
  have HB4 : Hid (Below w0.heap.size w0 w4) := by rw [hw4]; exact HB3.out.alloc HB3.out.size _
  clear hs1 hw4 HB3
  have hs2 := send_no (w := (w4.alloc zL).alloc (.cells #[.int .u8 1] 5)) (v := .pointer (some ⟨w4.heap.size, 0, none⟩)) (x := .slice (some ⟨w4.heap.size + 1, 0, none⟩) 1 1) (.inr ⟨_, rfl, by simp [zL]⟩)
  go_wp2_with fail
  refine hs2.mono ?_
  rintro e w5 ⟨rfl, hw5⟩
  have HB5 : Hid (Below w0.heap.size w0 w5) := by rw [hw5]; exact HB4.out.trans ((below2 w4 _ _).mono HB4.out.size)
  clear hs2 hw5 HB4
  have hk := known_no (w := w5) (v := .pointer none) (.inl rfl)
  have hw := wait_no (w := w5) (v := .pointer none) (.inl rfl)
  have ho := out_no (w := w5) (v := .pointer none) (.inl rfl)
  unfold pkV at ho
  go_wp2_with fail
  refine hk.mono ?_
  rintro e w6 ⟨rfl, rfl⟩
  go_wp2_with fail
  refine hw.mono ?_
  rintro e w6 ⟨rfl, rfl⟩
  go_wp2_with fail
  refine ho.mono ?_
  rintro e w7 ⟨rfl, hb⟩
  have HB7 : Hid (Below w0.heap.size w0 w7) := HB5.out.trans (hb.mono HB5.out.size)
  clear hk hw ho hb HB5
  have hsp := samePk_eq (w := w7) (p := ⟨0, 0, 0, 0, []⟩) (A := none) (B := none) (C := 0) (D := 0) (Bs.nil _) (Bs.nil _) (by simp)
  unfold pkV at hsp
  go_wp2_with fail
  refine hsp.mono ?_
  rintro e w8 ⟨rfl, hb⟩
  have HB8 : Hid (Below w0.heap.size w0 w8) := HB7.out.trans (hb.mono HB7.out.size)
  clear hsp hb HB7
  go_wp2_with fail
  refine (new_no 0 w8 (by decide)).mono ?_
  rintro e w9 ⟨rfl, rfl⟩
  go_wp2_with fail
  refine (new_no 1099511627777 w9 (by decide)).mono ?_
  rintro e w9 ⟨rfl, rfl⟩
  go_wp2_with fail
  refine (new_lo 3 w9 (by decide)).mono ?_
  rintro e w10 ⟨a, rfl, hl, hb⟩
  obtain ⟨k5, hk5, ek⟩ : ∃ k : Nat, k < 5 ∧ m % 5 = k := ⟨(m % 5).toNat, by omega, by omega⟩
  have hpk := pick_any m 5 HM.out (by decide) (by decide) w10
  rw [ek] at hpk
  have HS : Hid (Fl w w10 a 0) := ⟨_, hl, fun g hg => Nat.le_trans HB0.out.size (Nat.le_trans HB8.out.size hg.1), HB0.out.trans ((HB8.out.trans (hb.mono HB8.out.size)).mono HB0.out.size)⟩
  clear hl hb HB8 ek
  go_wp2_with fail
  refine hpk.mono ?_
  rintro e w11 ⟨rfl, rfl⟩
  clear hpk
  obtain ⟨N, hN⟩ : ∃ N : Nat, N = 998 + k5 := ⟨_, rfl⟩
  have hwr : IntKind.i64.wrap (998 + (k5 : Int)) = (N : Int) := by rw [Go.IntWalk.i64_in _ (by omega)]; omega
  have HN : Hid (998 ≤ N ∧ N ≤ 1002) := ⟨by omega, by omega⟩
  clear hN hk5
  obtain ⟨M, Z, hZ, hmk, hMZ⟩ := made_bytes 1048477 (by omega) 1048477 rfl
  obtain ⟨K, hK⟩ : ∃ K : Nat, K = 1048477 := ⟨_, rfl⟩
  rw [← hK] at hZ hmk hMZ
  have HZ : Hid (∀ k, sendE (full k) Z = 3) := by
    intro k; unfold sendE; rw [hZ, hK]; simp
  have HMZ : Hid (∀ w : World, Bs (w.alloc (.cells M 5)) (.slice (some ⟨w.heap.size, 0, none⟩) K K) Z) := hMZ
  clear hMZ hZ hK
  go_wp2_with fail
  go_loopw [14] (fun i wr => ∃ k : Nat, k ≤ N ∧ i = .int .i64 k ∧ Hid (Fl w wr a k)) (fun i _ => N - (intOf i).toNat)
  case atStart => exact ⟨0, Nat.zero_le _, rfl, HS⟩
  case round =>
    obtain ⟨k, hk, rfl, HF⟩ := hrel
    by_cases hlt : k < N
    · have hs := fl_send (HF.out.below (below1 wr (.cells #[.int .u8 1] 5))) (litB wr [1] (cs := #[.int .u8 1]) rfl rfl)
      have HL : Hid (k < N) := hlt
      have hNN : N ≤ 1002 := HN.out.2
      by_cases hk1 : k < 1000
      · rw [if_pos hk1] at hs
        go_wp2_with fail
        refine hs.mono ?_
        rintro e w12 ⟨rfl, HF2⟩
        clear hs
        go_wp2_with fail
        go_roundw
        case rel => exact ⟨k + 1, by have := HL.out; omega, by go_num, HF2⟩
        case measure => simp [intOf]; omega
      · rw [if_neg hk1] at hs
        go_wp2_with fail
        refine hs.mono ?_
        rintro e w12 ⟨rfl, HF2⟩
        clear hs
        go_wp2_with fail
        go_roundw
        case rel => exact ⟨k + 1, by have := HL.out; omega, by go_num, HF2⟩
        case measure => simp [intOf]; omega
    · have hkn : k = N := by omega
      subst hkn
      clear hlt hk
      have hwt := fl_wait HF.out
      obtain ⟨q, hq⟩ : ∃ q : Nat, q = min k 1000 := ⟨_, rfl⟩
      rw [← hq] at hwt
      have hmn : (min (k : Int) 1000) = (q : Int) := by omega
      clear hq
      go_wp2_with fail
      refine hwt.mono ?_
      rintro e w12 ⟨rfl, rfl⟩
      clear hwt
      have hs1 := fl_send2 HF.out (Bs.nil _) (b := []) (r := 2) rfl (by decide)
      go_wp2_with fail
      refine hs1.mono ?_
      rintro e w13 ⟨rfl, HF3⟩
      clear hs1
      have hs2 := fl_send2 (HF3.out.below (below1 w13 (.cells M 5))) (HMZ.out w13) (HZ.out k) (by decide)
      go_wp2_with fail
      refine hs2.mono ?_
      rintro e w14 ⟨rfl, HF4⟩
      clear hs2
      go_wp2_with fail
      go_ret
      obtain ⟨O, _, _, hb⟩ := HF4.out
      exact ⟨rfl, hb⟩
end Go.Proofs.Ytnonboegnbnepaa
