/- Rows of steps in memory; one step, by the program and by the document. -/
import Derived.Test.YtndjlnlmlgimlaaDfM
namespace Go.Proofs.Ytndjlnlmlgimlaa
open Go.RowKit Go.MapKept

/- A step of a disk's life. -/
structure Do8 where
  op : Int
  nm : List UInt8
  tt : List UInt8
  b : List UInt8
  n : Int
def i64 (n : Int) : Prop := -9223372036854775808 ≤ n ∧ n < 9223372036854775808
def Do8.ok (x : Do8) : Prop := i64 x.op ∧ i64 x.n ∧ Len63 x.nm.length ∧ Len63 x.tt.length ∧ x.b.length ≤ 140737488355328
abbrev stepC (x : Do8) (A : Option Addr) (C : Nat) : Array Value := #[.int .i64 x.op, .string (mkS x.nm), .string (mkS x.tt), .slice A x.b.length C, .int .i64 x.n]
abbrev stepB (x : Do8) (A : Option Addr) (C : Nat) : Obj := .cells (stepC x A C) 30
def stepO (x : Do8) (A : Option Addr) (C : Nat) : Value := .agg (stepC x A C)
/- A block of cells beside the disks. -/
def Box (w : World) (g : Nat) (cs : Array Value) : Prop := ∃ T, w.heap[g]? = some (.cells cs T (0, 0))
theorem Box.at {w : World} {g : Nat} {cs : Array Value} (h : Box w g cs) (i : Nat) : w.cell? ⟨g, i, none⟩ = cs[i]? := by
  obtain ⟨T, h⟩ := h; exact cell_at h i
theorem Box.chg {S : Nat → Prop} {w w' : World} {g : Nat} {cs : Array Value} (h : Box w g cs) (hk : Chg S w w') (hT : ¬ S g) : Box w' g cs := by
  obtain ⟨U, h⟩ := h
  exact ⟨U, by rw [hk.block g (heap_lt h) hT]; exact h⟩
theorem Box.kp {T : Nat → Prop} {w w' : World} {g : Nat} {cs : Array Value} (h : Box w g cs) (hk : Kp T w w') (hT : T g) : Box w' g cs := h.chg hk (fun e => e hT)
/- What one step begins with. -/
theorem step_begin {D E : Nat → Prop} {w0 w W : World} {d r : Nat} {room : Int} {F : List Fi} (h : Two D E w0 w d r room F) (x : Do8) {A : Option Addr} {C : Nat} (hb : Bs w (.slice A x.b.length C) x.b) (hB : Below w.heap.size w W) (hbx : W.heap[w.heap.size]? = some (stepB x A C)) :
    ∃ G S v B, TB D E w0 W d r room G F S v B ∧ Bs W (.slice A x.b.length C) x.b ∧ Box W w.heap.size (stepC x A C) ∧ ¬ S w.heap.size ∧ ¬ Wr r v w.heap.size := by
  obtain ⟨G, S, v, B, h⟩ := h
  refine ⟨G, S, v, B, h.below hB, hb.keep (Chg.of_below hB) (fun _ _ => id), ⟨_, hbx⟩, fun e => ?_, fun e => ?_⟩
  · have := h.dy.2 _ e; omega
  · have := h.rx.lt _ (h.rx.wr _ e); omega
set_option maxRecDepth 100000 in
set_option maxHeartbeats 8000000 in
theorem step_any {D E : Nat → Prop} {w0 w : World} {d r : Nat} {room : Int} {F : List Fi} (h : Two D E w0 w d r room F) (hL : F.length ≤ 999999) (x : Do8) (hx : x.ok) {A : Option Addr} {C : Nat} (hb : Bs w (.slice A x.b.length C) x.b) (hbo : ∀ k, bk (.slice A x.b.length C) = some k → D k) :
    Calls Try.prog 7 #[.pointer (some ⟨d, 0, none⟩), .pointer (some ⟨r, 0, none⟩), stepO x A C] w fun e w' => e = .returned (.bool true) ∧ ∃ F', F'.length ≤ F.length + 1 ∧ Two D E w0 w' d r room F' := by
  obtain ⟨G0, S0, v0, B0, hT0, hbW0, hbox0, hSb0⟩ := step_begin h x hb (below1 w (stepB x A C)) (heap_alloc_new w _)
  obtain ⟨W, hW⟩ : ∃ W, W = (w.alloc (stepB x A C)).drew := ⟨_, rfl⟩
  obtain ⟨G, S, v, B, hT, hbW, hbox, hSb⟩ := step_begin (W := W) h x hb (by rw [hW]; exact (below1 w (stepB x A C)).drew) (by rw [hW]; exact heap_alloc_new w _)
  obtain ⟨op, nm, tt, bb, n⟩ := x
  simp only [Do8.ok] at hx
  simp only [stepO, stepB, stepC] at *
  have HT : Hid (TB D E w0 W d r room G F S v B) := hT
  have HX : Hid (Bs W (.slice A bb.length C) bb) := hbW
  have HBX : Hid (Box W w.heap.size #[.int .i64 op, .string (mkS nm), .string (mkS tt), .slice A bb.length C, .int .i64 n]) := hbox
  have HW : Hid (W = (w.alloc (.cells #[.int .i64 op, .string (mkS nm), .string (mkS tt), .slice A bb.length C, .int .i64 n] 30)).drew) := hW
  have HSb : Hid (¬ S w.heap.size ∧ ¬ Wr r v w.heap.size) := hSb
  have HOLD : Hid (∀ wa, Kp D w0 wa → Bs wa (.slice A bb.length C) bb) := fun wa hwa => hbW.dk hbo hT.dl hT.bel hwa
  have HBC : Hid (∀ {wa : World}, Box wa w.heap.size #[.int .i64 op, .string (mkS nm), .string (mkS tt), .slice A bb.length C, .int .i64 n] → wa.cell? ⟨w.heap.size, 1, none⟩ = some (.string (mkS nm)) ∧ wa.cell? ⟨w.heap.size, 2, none⟩ = some (.string (mkS tt)) ∧ wa.cell? ⟨w.heap.size, 3, none⟩ = some (.slice A bb.length C) ∧ wa.cell? ⟨w.heap.size, 4, none⟩ = some (.int .i64 n)) := fun h => ⟨h.at 1, h.at 2, h.at 3, h.at 4⟩
  have HLN : Hid (Len63 nm.length ∧ Len63 tt.length ∧ bb.length ≤ 140737488355328) := hx.2.2
  obtain ⟨hxo, hxn, -⟩ := hx
  have hpk := pick_any op 7 hxo (by omega) (by omega) (w.alloc (.cells #[.int .i64 op, .string (mkS nm), .string (mkS tt), .slice A bb.length C, .int .i64 n] 30))
  have hop0 := Int.emod_nonneg op (show (7 : Int) ≠ 0 by omega)
  have hop1 := Int.emod_lt_of_pos op (show (0 : Int) < 7 by omega)
  have hS0 := HBC.out hbox
  rw [hW] at hS0
  generalize op % 7 = o at hpk hop0 hop1
  have HT0 : Hid (TB D E w0 (w.alloc (.cells #[.int .i64 op, .string (mkS nm), .string (mkS tt), .slice A bb.length C, .int .i64 n] 30)) d r room G0 F S0 v0 B0) := hT0
  have HBX0 : Hid (Box (w.alloc (.cells #[.int .i64 op, .string (mkS nm), .string (mkS tt), .slice A bb.length C, .int .i64 n] 30)) w.heap.size #[.int .i64 op, .string (mkS nm), .string (mkS tt), .slice A bb.length C, .int .i64 n]) := hbox0
  have HSb0 : Hid (¬ S0 w.heap.size ∧ ¬ Wr r v0 w.heap.size) := hSb0
  clear hT hbW hbox hSb hW h hb hbo hT0 hbW0 hbox0 hSb0
  go_enter Try.func7, Try.ntmps7
  go_wp2_with fail
  refine hpk.mono ?_
  rintro e w1 ⟨rfl, rfl⟩
  have hcase : (o = 0 ∨ o = 1) ∨ o = 2 ∨ o = 3 ∨ o = 4 ∨ o = 5 ∨ o = 6 := by omega
  clear hop0 hop1 hpk
  rcases hcase with hs | rfl | rfl | rfl | rfl | rfl
  · rcases hs with rfl | rfl
    all_goals
      have hd0 := append_dx HT.out.dy.1 nm HX.out rfl
      rw [appE_perm HT.out.perm HT.out.up room nm bb] at hd0
      have HD : Hid (∀ {wa : World}, Dx wa d room (appR room G nm bb) (fun k => k < W.heap.size ∧ ¬ S k) → Kp (fun k => k < W.heap.size ∧ ¬ S k) W wa → Hid (Dy wa d room (appR room G nm bb) (Gw S W wa) ∧ Chg S W wa)) := fun a b => HT.out.dy.next ⟨a, b⟩
      have HS : Hid (∀ {wa : World}, Dx wa d room (appR room G nm bb) (fun k => k < W.heap.size ∧ ¬ S k) → Kp (fun k => k < W.heap.size ∧ ¬ S k) W wa → (wa.cell? ⟨w.heap.size, 1, none⟩ = some (.string (mkS nm)) ∧ wa.cell? ⟨w.heap.size, 2, none⟩ = some (.string (mkS tt)) ∧ wa.cell? ⟨w.heap.size, 3, none⟩ = some (.slice A bb.length C) ∧ wa.cell? ⟨w.heap.size, 4, none⟩ = some (.int .i64 n)) ∧ Calls Try.prog 19 #[.pointer (some ⟨r, 0, none⟩), .string (mkS nm), .slice A bb.length C] wa fun e w' => e = .returned (.int .i64 (appE room F nm bb)) ∧ Rxn r v room B wa w' (rappR room F nm bb) ∧ (w'.cell? ⟨w.heap.size, 1, none⟩ = some (.string (mkS nm)) ∧ w'.cell? ⟨w.heap.size, 2, none⟩ = some (.string (mkS tt)) ∧ w'.cell? ⟨w.heap.size, 3, none⟩ = some (.slice A bb.length C) ∧ w'.cell? ⟨w.heap.size, 4, none⟩ = some (.int .i64 n))) := by
        intro wa a b
        have hc := (HT.out.dy.next ⟨a, b⟩).2
        have hm := HT.out.mid hc
        have hbx := HBX.out.chg hc HSb.out.1
        refine ⟨HBC.out hbx, ?_⟩
        refine (rappend_rx hm.1 hL nm HLN.out.1 (HOLD.out wa hm.2) rfl HLN.out.2.2).mono ?_
        rintro e w' ⟨rfl, hx⟩
        have hx' := hx
        obtain ⟨v', _, c2, _⟩ := hx'
        exact ⟨rfl, hx, HBC.out (hbx.chg c2 HSb.out.2)⟩
      have HPM : Hid ((appR room G nm bb).Perm (rappR room F nm bb) ∧ Up (rappR room F nm bb) ∧ (rappR room F nm bb).length ≤ F.length + 1) := ⟨(app_next HT.out.perm HT.out.up room nm bb).1, (app_next HT.out.perm HT.out.up room nm bb).2, app_len room F nm bb⟩
      rw [HW.out] at hd0
      generalize appE room F nm bb = E at hd0 HS
      generalize appR room G nm bb = G' at hd0 HD HS HPM
      generalize rappR room F nm bb = F' at HS HPM
      go_wp2_with fail
      go_region_held3 (fun w' => w'.cell? ⟨w.heap.size, 1, none⟩ = some (.string (mkS nm)) ∧ w'.cell? ⟨w.heap.size, 2, none⟩ = some (.string (mkS tt)) ∧ w'.cell? ⟨w.heap.size, 3, none⟩ = some (.slice A bb.length C) ∧ w'.cell? ⟨w.heap.size, 4, none⟩ = some (.int .i64 n))
        (first | exact hS0 | exact hS1 | exact hS2 | go_keep)
        (first
          | (go_at_call 18; refine hd0.mono ?_; rintro e wa ⟨rfl, a1, a2⟩; rw [← HW.out] at a1 a2; obtain ⟨hS1, hrs⟩ := HS.out a1 a2; have HA := HD.out a1 a2; clear a1 a2)
          | (go_at_call 19; refine hrs.mono ?_; rintro e wb ⟨rfl, b1, hS2⟩))
      go_wp2_with fail
      go_ret
      exact ⟨by simp, F', HPM.out.2.2, HT.out.fin HA.out.1 HA.out.2 b1 HPM.out.1 HPM.out.2.1⟩
  · have hd0 := sync_dx HT.out.dy.1 nm
    rw [synE_perm HT.out.perm HT.out.up nm] at hd0
    have HD : Hid (∀ {wa : World}, Dx wa d room (synR G nm) (fun k => k < W.heap.size ∧ ¬ S k) → Kp (fun k => k < W.heap.size ∧ ¬ S k) W wa → Hid (Dy wa d room (synR G nm) (Gw S W wa) ∧ Chg S W wa)) := fun a b => HT.out.dy.next ⟨a, b⟩
    have HS : Hid (∀ {wa : World}, Dx wa d room (synR G nm) (fun k => k < W.heap.size ∧ ¬ S k) → Kp (fun k => k < W.heap.size ∧ ¬ S k) W wa → (wa.cell? ⟨w.heap.size, 1, none⟩ = some (.string (mkS nm)) ∧ wa.cell? ⟨w.heap.size, 2, none⟩ = some (.string (mkS tt)) ∧ wa.cell? ⟨w.heap.size, 3, none⟩ = some (.slice A bb.length C) ∧ wa.cell? ⟨w.heap.size, 4, none⟩ = some (.int .i64 n)) ∧ Calls Try.prog 21 #[.pointer (some ⟨r, 0, none⟩), .string (mkS nm)] wa fun e w' => e = .returned (.int .i64 (synE F nm)) ∧ Rxn r v room B wa w' (synR F nm) ∧ (w'.cell? ⟨w.heap.size, 1, none⟩ = some (.string (mkS nm)) ∧ w'.cell? ⟨w.heap.size, 2, none⟩ = some (.string (mkS tt)) ∧ w'.cell? ⟨w.heap.size, 3, none⟩ = some (.slice A bb.length C) ∧ w'.cell? ⟨w.heap.size, 4, none⟩ = some (.int .i64 n))) := by
      intro wa a b
      have hc := (HT.out.dy.next ⟨a, b⟩).2
      have hm := HT.out.mid hc
      have hbx := HBX.out.chg hc HSb.out.1
      refine ⟨HBC.out hbx, ?_⟩
      refine (rsync_rx hm.1 hL nm).mono ?_
      rintro e w' ⟨rfl, hx⟩
      have hx' := hx
      obtain ⟨v', _, c2, _⟩ := hx'
      exact ⟨rfl, hx, HBC.out (hbx.chg c2 HSb.out.2)⟩
    have HPM : Hid ((synR G nm).Perm (synR F nm) ∧ Up (synR F nm) ∧ (synR F nm).length ≤ F.length + 1) := ⟨(syn_next HT.out.perm HT.out.up nm).1, (syn_next HT.out.perm HT.out.up nm).2.1, (by have := (syn_next HT.out.perm HT.out.up nm).2.2; omega)⟩
    rw [HW.out] at hd0
    generalize synE F nm = E at hd0 HS
    generalize synR G nm = G' at hd0 HD HS HPM
    generalize synR F nm = F' at HS HPM
    go_wp2_with fail
    go_region_held3 (fun w' => w'.cell? ⟨w.heap.size, 1, none⟩ = some (.string (mkS nm)) ∧ w'.cell? ⟨w.heap.size, 2, none⟩ = some (.string (mkS tt)) ∧ w'.cell? ⟨w.heap.size, 3, none⟩ = some (.slice A bb.length C) ∧ w'.cell? ⟨w.heap.size, 4, none⟩ = some (.int .i64 n))
      (first | exact hS0 | exact hS1 | exact hS2 | go_keep)
      (first
        | (go_at_call 20; refine hd0.mono ?_; rintro e wa ⟨rfl, a1, a2⟩; rw [← HW.out] at a1 a2; obtain ⟨hS1, hrs⟩ := HS.out a1 a2; have HA := HD.out a1 a2; clear a1 a2)
        | (go_at_call 21; refine hrs.mono ?_; rintro e wb ⟨rfl, b1, hS2⟩))
    go_wp2_with fail
    go_ret
    exact ⟨by simp, F', HPM.out.2.2, HT.out.fin HA.out.1 HA.out.2 b1 HPM.out.1 HPM.out.2.1⟩
  · have hd0 := cut_dx HT.out.dy.1 nm n
    rw [cutE_perm HT.out.perm HT.out.up nm n] at hd0
    have HD : Hid (∀ {wa : World}, Dx wa d room (cutR G nm n) (fun k => k < W.heap.size ∧ ¬ S k) → Kp (fun k => k < W.heap.size ∧ ¬ S k) W wa → Hid (Dy wa d room (cutR G nm n) (Gw S W wa) ∧ Chg S W wa)) := fun a b => HT.out.dy.next ⟨a, b⟩
    have HS : Hid (∀ {wa : World}, Dx wa d room (cutR G nm n) (fun k => k < W.heap.size ∧ ¬ S k) → Kp (fun k => k < W.heap.size ∧ ¬ S k) W wa → (wa.cell? ⟨w.heap.size, 1, none⟩ = some (.string (mkS nm)) ∧ wa.cell? ⟨w.heap.size, 2, none⟩ = some (.string (mkS tt)) ∧ wa.cell? ⟨w.heap.size, 3, none⟩ = some (.slice A bb.length C) ∧ wa.cell? ⟨w.heap.size, 4, none⟩ = some (.int .i64 n)) ∧ Calls Try.prog 23 #[.pointer (some ⟨r, 0, none⟩), .string (mkS nm), .int .i64 n] wa fun e w' => e = .returned (.int .i64 (cutE F nm n)) ∧ Rxn r v room B wa w' (cutR F nm n) ∧ (w'.cell? ⟨w.heap.size, 1, none⟩ = some (.string (mkS nm)) ∧ w'.cell? ⟨w.heap.size, 2, none⟩ = some (.string (mkS tt)) ∧ w'.cell? ⟨w.heap.size, 3, none⟩ = some (.slice A bb.length C) ∧ w'.cell? ⟨w.heap.size, 4, none⟩ = some (.int .i64 n))) := by
      intro wa a b
      have hc := (HT.out.dy.next ⟨a, b⟩).2
      have hm := HT.out.mid hc
      have hbx := HBX.out.chg hc HSb.out.1
      refine ⟨HBC.out hbx, ?_⟩
      refine (rcut_rx hm.1 hL nm n).mono ?_
      rintro e w' ⟨rfl, hx⟩
      have hx' := hx
      obtain ⟨v', _, c2, _⟩ := hx'
      exact ⟨rfl, hx, HBC.out (hbx.chg c2 HSb.out.2)⟩
    have HPM : Hid ((cutR G nm n).Perm (cutR F nm n) ∧ Up (cutR F nm n) ∧ (cutR F nm n).length ≤ F.length + 1) := ⟨(cut_next HT.out.perm HT.out.up nm n).1, (cut_next HT.out.perm HT.out.up nm n).2.1, (by have := (cut_next HT.out.perm HT.out.up nm n).2.2; omega)⟩
    rw [HW.out] at hd0
    generalize cutE F nm n = E at hd0 HS
    generalize cutR G nm n = G' at hd0 HD HS HPM
    generalize cutR F nm n = F' at HS HPM
    go_wp2_with fail
    go_region_held3 (fun w' => w'.cell? ⟨w.heap.size, 1, none⟩ = some (.string (mkS nm)) ∧ w'.cell? ⟨w.heap.size, 2, none⟩ = some (.string (mkS tt)) ∧ w'.cell? ⟨w.heap.size, 3, none⟩ = some (.slice A bb.length C) ∧ w'.cell? ⟨w.heap.size, 4, none⟩ = some (.int .i64 n))
      (first | exact hS0 | exact hS1 | exact hS2 | go_keep)
      (first
        | (go_at_call 22; refine hd0.mono ?_; rintro e wa ⟨rfl, a1, a2⟩; rw [← HW.out] at a1 a2; obtain ⟨hS1, hrs⟩ := HS.out a1 a2; have HA := HD.out a1 a2; clear a1 a2)
        | (go_at_call 23; refine hrs.mono ?_; rintro e wb ⟨rfl, b1, hS2⟩))
    go_wp2_with fail
    go_ret
    exact ⟨by simp, F', HPM.out.2.2, HT.out.fin HA.out.1 HA.out.2 b1 HPM.out.1 HPM.out.2.1⟩
  · have hd0 := rename_dx HT.out.dy.1 nm tt
    rw [renE_perm HT.out.perm HT.out.up nm tt] at hd0
    have HD : Hid (∀ {wa : World}, Dx wa d room (renR G nm tt) (fun k => k < W.heap.size ∧ ¬ S k) → Kp (fun k => k < W.heap.size ∧ ¬ S k) W wa → Hid (Dy wa d room (renR G nm tt) (Gw S W wa) ∧ Chg S W wa)) := fun a b => HT.out.dy.next ⟨a, b⟩
    have HS : Hid (∀ {wa : World}, Dx wa d room (renR G nm tt) (fun k => k < W.heap.size ∧ ¬ S k) → Kp (fun k => k < W.heap.size ∧ ¬ S k) W wa → (wa.cell? ⟨w.heap.size, 1, none⟩ = some (.string (mkS nm)) ∧ wa.cell? ⟨w.heap.size, 2, none⟩ = some (.string (mkS tt)) ∧ wa.cell? ⟨w.heap.size, 3, none⟩ = some (.slice A bb.length C) ∧ wa.cell? ⟨w.heap.size, 4, none⟩ = some (.int .i64 n)) ∧ Calls Try.prog 25 #[.pointer (some ⟨r, 0, none⟩), .string (mkS nm), .string (mkS tt)] wa fun e w' => e = .returned (.int .i64 (renE F nm tt)) ∧ Rxn r v room B wa w' (rrenR F nm tt) ∧ (w'.cell? ⟨w.heap.size, 1, none⟩ = some (.string (mkS nm)) ∧ w'.cell? ⟨w.heap.size, 2, none⟩ = some (.string (mkS tt)) ∧ w'.cell? ⟨w.heap.size, 3, none⟩ = some (.slice A bb.length C) ∧ w'.cell? ⟨w.heap.size, 4, none⟩ = some (.int .i64 n))) := by
      intro wa a b
      have hc := (HT.out.dy.next ⟨a, b⟩).2
      have hm := HT.out.mid hc
      have hbx := HBX.out.chg hc HSb.out.1
      refine ⟨HBC.out hbx, ?_⟩
      refine (rrename_rx hm.1 hL nm tt HLN.out.1 HLN.out.2.1).mono ?_
      rintro e w' ⟨rfl, hx⟩
      have hx' := hx
      obtain ⟨v', _, c2, _⟩ := hx'
      exact ⟨rfl, hx, HBC.out (hbx.chg c2 HSb.out.2)⟩
    have HPM : Hid ((renR G nm tt).Perm (rrenR F nm tt) ∧ Up (rrenR F nm tt) ∧ (rrenR F nm tt).length ≤ F.length + 1) := ⟨(ren_next HT.out.perm HT.out.up nm tt).1, (ren_next HT.out.perm HT.out.up nm tt).2.1, (ren_next HT.out.perm HT.out.up nm tt).2.2⟩
    rw [HW.out] at hd0
    generalize renE F nm tt = E at hd0 HS
    generalize renR G nm tt = G' at hd0 HD HS HPM
    generalize rrenR F nm tt = F' at HS HPM
    go_wp2_with fail
    go_region_held3 (fun w' => w'.cell? ⟨w.heap.size, 1, none⟩ = some (.string (mkS nm)) ∧ w'.cell? ⟨w.heap.size, 2, none⟩ = some (.string (mkS tt)) ∧ w'.cell? ⟨w.heap.size, 3, none⟩ = some (.slice A bb.length C) ∧ w'.cell? ⟨w.heap.size, 4, none⟩ = some (.int .i64 n))
      (first | exact hS0 | exact hS1 | exact hS2 | go_keep)
      (first
        | (go_at_call 24; refine hd0.mono ?_; rintro e wa ⟨rfl, a1, a2⟩; rw [← HW.out] at a1 a2; obtain ⟨hS1, hrs⟩ := HS.out a1 a2; have HA := HD.out a1 a2; clear a1 a2)
        | (go_at_call 25; refine hrs.mono ?_; rintro e wb ⟨rfl, b1, hS2⟩))
    go_wp2_with fail
    go_ret
    exact ⟨by simp, F', HPM.out.2.2, HT.out.fin HA.out.1 HA.out.2 b1 HPM.out.1 HPM.out.2.1⟩
  · have hd0 := remove_dx HT.out.dy.1 nm
    rw [synE_perm HT.out.perm HT.out.up nm] at hd0
    have HD : Hid (∀ {wa : World}, Dx wa d room (delF nm G) (fun k => k < W.heap.size ∧ ¬ S k) → Kp (fun k => k < W.heap.size ∧ ¬ S k) W wa → Hid (Dy wa d room (delF nm G) (Gw S W wa) ∧ Chg S W wa)) := fun a b => HT.out.dy.next ⟨a, b⟩
    have HS : Hid (∀ {wa : World}, Dx wa d room (delF nm G) (fun k => k < W.heap.size ∧ ¬ S k) → Kp (fun k => k < W.heap.size ∧ ¬ S k) W wa → (wa.cell? ⟨w.heap.size, 1, none⟩ = some (.string (mkS nm)) ∧ wa.cell? ⟨w.heap.size, 2, none⟩ = some (.string (mkS tt)) ∧ wa.cell? ⟨w.heap.size, 3, none⟩ = some (.slice A bb.length C) ∧ wa.cell? ⟨w.heap.size, 4, none⟩ = some (.int .i64 n)) ∧ Calls Try.prog 27 #[.pointer (some ⟨r, 0, none⟩), .string (mkS nm)] wa fun e w' => e = .returned (.int .i64 (synE F nm)) ∧ Rxn r v room B wa w' (delF nm F) ∧ (w'.cell? ⟨w.heap.size, 1, none⟩ = some (.string (mkS nm)) ∧ w'.cell? ⟨w.heap.size, 2, none⟩ = some (.string (mkS tt)) ∧ w'.cell? ⟨w.heap.size, 3, none⟩ = some (.slice A bb.length C) ∧ w'.cell? ⟨w.heap.size, 4, none⟩ = some (.int .i64 n))) := by
      intro wa a b
      have hc := (HT.out.dy.next ⟨a, b⟩).2
      have hm := HT.out.mid hc
      have hbx := HBX.out.chg hc HSb.out.1
      refine ⟨HBC.out hbx, ?_⟩
      refine (rremove_rx hm.1 hL nm).mono ?_
      rintro e w' ⟨rfl, hx⟩
      have hx' := hx
      obtain ⟨v', _, c2, _⟩ := hx'
      exact ⟨rfl, hx, HBC.out (hbx.chg c2 HSb.out.2)⟩
    have HPM : Hid ((delF nm G).Perm (delF nm F) ∧ Up (delF nm F) ∧ (delF nm F).length ≤ F.length + 1) := ⟨(rem_next HT.out.perm HT.out.up nm).1, (rem_next HT.out.perm HT.out.up nm).2.1, (by have := (rem_next HT.out.perm HT.out.up nm).2.2; omega)⟩
    rw [HW.out] at hd0
    generalize synE F nm = E at hd0 HS
    generalize delF nm G = G' at hd0 HD HS HPM
    generalize delF nm F = F' at HS HPM
    go_wp2_with fail
    go_region_held3 (fun w' => w'.cell? ⟨w.heap.size, 1, none⟩ = some (.string (mkS nm)) ∧ w'.cell? ⟨w.heap.size, 2, none⟩ = some (.string (mkS tt)) ∧ w'.cell? ⟨w.heap.size, 3, none⟩ = some (.slice A bb.length C) ∧ w'.cell? ⟨w.heap.size, 4, none⟩ = some (.int .i64 n))
      (first | exact hS0 | exact hS1 | exact hS2 | go_keep)
      (first
        | (go_at_call 26; refine hd0.mono ?_; rintro e wa ⟨rfl, a1, a2⟩; rw [← HW.out] at a1 a2; obtain ⟨hS1, hrs⟩ := HS.out a1 a2; have HA := HD.out a1 a2; clear a1 a2)
        | (go_at_call 27; refine hrs.mono ?_; rintro e wb ⟨rfl, b1, hS2⟩))
    go_wp2_with fail
    go_ret
    exact ⟨by simp, F', HPM.out.2.2, HT.out.fin HA.out.1 HA.out.2 b1 HPM.out.1 HPM.out.2.1⟩
  · have hc1 := crash_dx HT0.out.dy.1 n hxn
    go_wp2_with fail
    refine hc1.mono ?_
    rintro e wa ⟨rfl, a1, a2⟩
    have hA := HT0.out.dy.next ⟨a1, a2⟩
    have hm := HT0.out.mid hA.2
    have hS1 := HBC.out (HBX0.out.chg hA.2 HSb0.out.1)
    have hc2 := rcrash_rx hm.1 hL n hxn
    have HA : Hid _ := hA
    obtain ⟨s1, s2, s3, s4⟩ := hS1
    clear hc1 hS0 a1 a2 hA hm
    go_wp2_with fail
    refine hc2.mono ?_
    rintro e wb ⟨rfl, b1⟩
    obtain ⟨p1, p2, p3⟩ := crash_next HT0.out.perm HT0.out.up n
    have HF : Hid _ := HT0.out.fin HA.out.1 HA.out.2 b1 p1 p2
    have HLL : Hid ((F.map (crash1 n)).length = F.length) := p3
    clear hc2 b1 p1 p2 p3
    go_wp2_with fail
    go_ret
    exact ⟨rfl, _, by rw [HLL.out]; omega, HF.out⟩
end Go.Proofs.Ytndjlnlmlgimlaa
