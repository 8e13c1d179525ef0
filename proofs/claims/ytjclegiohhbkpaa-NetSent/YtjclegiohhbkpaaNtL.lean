/- Rows of steps in memory; one step, by the program and by the document. -/
import Derived.Test.YtjclegiohhbkpaaNtRc
import Derived.Test.YtjclegiohhbkpaaNtRd
namespace Go.Proofs.Ytjclegiohhbkpaa
open Go.RowKit Go.MapKept

/- A step of a net's life. -/
structure Do1 where
  op : Int
  fr : Int
  tt : Int
  pl : Int
  b : List UInt8
def i64 (n : Int) : Prop := -9223372036854775808 ≤ n ∧ n < 9223372036854775808
/- The slice v holds the steps l. -/
def Dos (w : World) (v : Value) (l : List Do1) : Prop :=
  ∃ A C, v = .slice A l.length C ∧ l.length ≤ C ∧ (∀ x ∈ l, i64 x.op ∧ i64 x.fr ∧ i64 x.tt ∧ i64 x.pl) ∧ ∀ j (h : j < l.length), ∃ g o A' C', A = some ⟨g, o, none⟩ ∧ w.cell? ⟨g, o + j * 5, none⟩ = some (.int .i64 (l[j]'h).op) ∧ w.cell? ⟨g, o + j * 5 + 1, none⟩ = some (.int .i64 (l[j]'h).fr) ∧
    w.cell? ⟨g, o + j * 5 + 2, none⟩ = some (.int .i64 (l[j]'h).tt) ∧ w.cell? ⟨g, o + j * 5 + 3, none⟩ = some (.int .i64 (l[j]'h).pl) ∧ w.cell? ⟨g, o + j * 5 + 4, none⟩ = some (.slice A' (l[j]'h).b.length C') ∧ Bs w (.slice A' (l[j]'h).b.length C') (l[j]'h).b
theorem Dos.at {w : World} {A : Option Addr} {n C : Nat} {l : List Do1} (h : Dos w (.slice A n C) l) (j : Nat) (hj : j < l.length) : ∃ g o A' C', A = some ⟨g, o, none⟩ ∧ w.cell? ⟨g, o + j * 5, none⟩ = some (.int .i64 (l[j]'hj).op) ∧ w.cell? ⟨g, o + j * 5 + 1, none⟩ = some (.int .i64 (l[j]'hj).fr) ∧
    w.cell? ⟨g, o + j * 5 + 2, none⟩ = some (.int .i64 (l[j]'hj).tt) ∧ w.cell? ⟨g, o + j * 5 + 3, none⟩ = some (.int .i64 (l[j]'hj).pl) ∧ w.cell? ⟨g, o + j * 5 + 4, none⟩ = some (.slice A' (l[j]'hj).b.length C') ∧ Bs w (.slice A' (l[j]'hj).b.length C') (l[j]'hj).b := by
  obtain ⟨A', C', e, _, _, h⟩ := h
  injection e with e
  subst e
  exact h j hj
theorem Dos.below {w w' : World} {v : Value} {l : List Do1} (h : Dos w v l) (hb : Below w.heap.size w w') : Dos w' v l := by
  obtain ⟨A, C, rfl, h1, h2, h3⟩ := h
  refine ⟨A, C, rfl, h1, h2, fun j hj => ?_⟩
  obtain ⟨g, o, A', C', rfl, a0, a1, a2, a3, a4, a5⟩ := h3 j hj
  have k : ∀ {i : Nat} {u : Value}, w.cell? ⟨g, i, none⟩ = some u → w'.cell? ⟨g, i, none⟩ = some u := by
    intro i u hu
    rw [World.cell?_of_block (hb.block g (World.block_lt_of_cell? w _ hu))]; exact hu
  exact ⟨g, o, A', C', rfl, k a0, k a1, k a2, k a3, k a4, a5.keep (Chg.of_below hb) (fun _ _ => id)⟩
theorem Nx.away {S : Nat → Prop} {w w' : World} {n : Nat} {l : List Pk} {T : Nat → Prop} (h : Nx w n l T) (hc : Chg S w w') (hS : ∀ g, S g → T g) : Nx w' n l (fun g => T g ∨ (w.heap.size ≤ g ∧ g < w'.heap.size)) := by
  obtain ⟨base, m, L, h1, h2, h3, h4, h5⟩ := h
  refine ⟨base, m, L, Nat.le_trans h1 hc.size, h2.keep hc (fun g hg e => h4 g (hS g e) hg), h3, fun g hg => ?_, fun g hg => ?_⟩
  · rcases hg with hg | hg
    · exact h4 g hg
    · intro e; have := (h2.lt g e).2; omega
  · rcases hg with hg | hg
    · exact hc.lt_of (h5 g hg)
    · exact hg.2
/- Both nets, beside one another; D: blocks that are neither's; w0: a world before. -/
structure TB (D : Nat → Prop) (w0 w : World) (n r : Nat) (l : List Pk) (T B : Nat → Prop) : Prop where
  nx : Nx w n l T
  rx : Rx w r l B
  sub : ∀ g, B g → T g
  low : ∀ g, D g → T g ∧ ¬ B g
  bel : Kp D w0 w
  dl : ∀ g, D g → g < w0.heap.size
def Two (D : Nat → Prop) (w0 w : World) (n r : Nat) (l : List Pk) : Prop := ∃ T B, TB D w0 w n r l T B
theorem Two.below {D : Nat → Prop} {w0 w w' : World} {n r : Nat} {l : List Pk} (h : Two D w0 w n r l) (hb : Below w.heap.size w w') : Two D w0 w' n r l := by
  obtain ⟨T, B, h1, h2, h3, h4, h5, h6⟩ := h
  exact ⟨T, B, h1.below hb, h2.below hb, h3, h4, h5.trans (Kp.of_below hb), h6⟩
theorem Two.bel {D : Nat → Prop} {w0 w : World} {n r : Nat} {l : List Pk} (h : Two D w0 w n r l) : Kp D w0 w := by
  obtain ⟨T, B, h1, h2, h3, h4, h5, h6⟩ := h; exact h5
/- What is new is neither's. -/
theorem Two.more {D : Nat → Prop} {w0 w w' : World} {n r : Nat} {l : List Pk} (h : Two D w0 w n r l) (hb : Below w.heap.size w w') : Two (fun g => D g ∨ (w.heap.size ≤ g ∧ g < w'.heap.size)) w' w' n r l := by
  obtain ⟨T, B, h1, h2, h3, h4, h5, h6⟩ := h
  refine ⟨_, B, h1.more hb, h2.below hb, fun g hg => .inl (h3 g hg), fun g hg => ?_, Chg.refl _ _, fun g hg => ?_⟩
  · rcases hg with hg | hg
    · exact ⟨.inl (h4 g hg).1, (h4 g hg).2⟩
    · refine ⟨.inr hg, fun e => ?_⟩
      have := h2.lt g e; omega
  · rcases hg with hg | hg
    · exact Nat.lt_of_lt_of_le (h5.lt_of (h6 g hg)) hb.size
    · exact hg.2
theorem Two.back {D D' : Nat → Prop} {w0 w1 w : World} {n r : Nat} {l : List Pk} (h : Two D' w1 w n r l) (hD : ∀ g, D g → D' g) (hk : Kp D w0 w1) (hd : ∀ g, D g → g < w0.heap.size) : Two D w0 w n r l := by
  obtain ⟨T, B, h1, h2, h3, h4, h5, h6⟩ := h
  exact ⟨T, B, h1, h2, h3, fun g hg => h4 g (hD g hg), hk.trans (h5.weak fun g _ e f => e (hD g f)), hd⟩
/- Behind a call of the program's net. -/
theorem TB.mid {D : Nat → Prop} {w0 w wa : World} {n r : Nat} {l : List Pk} {T B : Nat → Prop} (h : TB D w0 w n r l T B) (a2 : Kp T w wa) : Rx wa r l B ∧ Kp D w0 wa :=
  ⟨h.rx.keep a2 (fun g hg e => e (h.sub g hg)), h.bel.trans (a2.weak fun g _ e f => e (h.low g f).1)⟩
/- .. and then one of the document's. -/
theorem TB.fin {D : Nat → Prop} {w0 w wa wb : World} {n r : Nat} {l l' : List Pk} {T B : Nat → Prop} (h : TB D w0 w n r l T B) (a1 : Nx wa n l' T) (a2 : Kp T w wa) (b1 : Rx wb r l' (Gw B wa wb)) (b2 : Chg B wa wb) : Two D w0 wb n r l' := by
  have h5a := (h.mid a2).2
  refine ⟨_, _, a1.away b2 h.sub, b1, fun g hg => ?_, fun g hg => ?_, h5a.trans (b2.weak fun g _ e f => (h.low g f).2 e), h.dl⟩
  · rcases hg with hg | hg
    · exact .inl (h.sub g hg)
    · exact .inr hg
  · refine ⟨.inl (h.low g hg).1, fun e => ?_⟩
    rcases e with e | e
    · exact (h.low g hg).2 e
    · have := h5a.lt_of (h.dl g hg); omega
theorem Bs.dk {D : Nat → Prop} {w0 w w' : World} {v : Value} {l : List UInt8} (h : Bs w v l) (hv : ∀ k, bk v = some k → D k) (hd : ∀ g, D g → g < w0.heap.size) (h0 : Kp D w0 w) (h1 : Kp D w0 w') : Bs w' v l := by
  rcases h with h | h | ⟨hp, b, o, c, rfl, q1, q2, q3⟩
  · exact .inl h
  · exact .inr (.inl h)
  · have hb := hv b (bk_pos hp)
    have hbl := hd b hb
    refine .inr (.inr ⟨hp, b, o, c, rfl, q1, h1.lt_of hbl, fun j hj => ?_⟩)
    have e0 := h0.cell (a := ⟨b, o + j, none⟩) hbl (fun e => e hb)
    have e1 := h1.cell (a := ⟨b, o + j, none⟩) hbl (fun e => e hb)
    rw [e1, ← e0]; exact q3 j hj
theorem send_len (l : List Pk) (k : Int × Int) (b : List UInt8) : (if sendOk l k b = true then l ++ [(k, b)] else l).length ≤ l.length + 1 := by split <;> simp
theorem twice_len (l : List Pk) (k : Int × Int) (i : Int) : (twiceR l k i).2.length ≤ l.length + 1 := by
  unfold twiceR
  split
  · simp
  · split <;> simp
theorem take_len : ∀ (l : List Pk) (k : Int × Int) (n : Nat), (takeP l k n).length ≤ l.length
  | [], _, _ => by simp [takeP]
  | p :: l, k, n => by
    unfold takeP
    split
    · cases n with
      | zero => simp
      | succ n => have := take_len l k n; simp only [List.length_cons]; omega
    · have := take_len l k n; simp only [List.length_cons]; omega
def stepO (x : Do1) (A : Option Addr) (C : Nat) : Value := .agg #[.int .i64 x.op, .int .i64 x.fr, .int .i64 x.tt, .int .i64 x.pl, .slice A x.b.length C]
abbrev stepB (x : Do1) (A : Option Addr) (C : Nat) : Obj := .cells #[.int .i64 x.op, .int .i64 x.fr, .int .i64 x.tt, .int .i64 x.pl, .slice A x.b.length C] 29
theorem TB.below {D : Nat → Prop} {w0 w w' : World} {n r : Nat} {l : List Pk} {T B : Nat → Prop} (h : TB D w0 w n r l T B) (hb : Below w.heap.size w w') : TB D w0 w' n r l (fun g => T g ∨ (w.heap.size ≤ g ∧ g < w'.heap.size)) B :=
  ⟨h.nx.more hb, h.rx.below hb, fun g hg => .inl (h.sub g hg), fun g hg => ⟨.inl (h.low g hg).1, (h.low g hg).2⟩, h.bel.trans (Kp.of_below hb), h.dl⟩
/- A block of cells beside the nets. -/
def Box (w : World) (g : Nat) (cs : Array Value) : Prop := ∃ T, w.heap[g]? = some (.cells cs T (0, 0))
theorem Box.at {w : World} {g : Nat} {cs : Array Value} (h : Box w g cs) (i : Nat) : w.cell? ⟨g, i, none⟩ = cs[i]? := by
  obtain ⟨T, h⟩ := h; exact cell_at h i
theorem Box.kp {T : Nat → Prop} {w w' : World} {g : Nat} {cs : Array Value} (h : Box w g cs) (hk : Kp T w w') (hT : T g) : Box w' g cs := by
  obtain ⟨U, h⟩ := h
  exact ⟨U, by rw [hk.block g (heap_lt h) (fun e => e hT)]; exact h⟩
theorem Box.chg {S : Nat → Prop} {w w' : World} {g : Nat} {cs : Array Value} (h : Box w g cs) (hk : Chg S w w') (hT : ¬ S g) : Box w' g cs := by
  obtain ⟨U, h⟩ := h
  exact ⟨U, by rw [hk.block g (heap_lt h) hT]; exact h⟩
abbrev stepC (x : Do1) (A : Option Addr) (C : Nat) : Array Value := #[.int .i64 x.op, .int .i64 x.fr, .int .i64 x.tt, .int .i64 x.pl, .slice A x.b.length C]
/- What one step begins with. -/
theorem step_begin {D : Nat → Prop} {w0 w W : World} {n r : Nat} {l : List Pk} (h : Two D w0 w n r l) (x : Do1) {A : Option Addr} {C : Nat} (hb : Bs w (.slice A x.b.length C) x.b) (hB : Below w.heap.size w W) (hbx : W.heap[w.heap.size]? = some (stepB x A C)) :
    ∃ T B, TB D w0 W n r l T B ∧ Bs W (.slice A x.b.length C) x.b ∧ Box W w.heap.size (stepC x A C) ∧ T w.heap.size ∧ ¬ B w.heap.size := by
  obtain ⟨T, B, h⟩ := h
  refine ⟨_, B, h.below hB, hb.keep (Chg.of_below hB) (fun _ _ => id), ⟨_, hbx⟩, .inr ⟨Nat.le_refl _, heap_lt hbx⟩, fun e => ?_⟩
  have := h.rx.lt _ e
  omega
set_option maxRecDepth 100000 in
set_option maxHeartbeats 4000000 in
theorem step_any {D : Nat → Prop} {w0 w : World} {n r : Nat} {l : List Pk} (h : Two D w0 w n r l) (hL : l.length < 1000000) (x : Do1) (hx : i64 x.op ∧ i64 x.fr ∧ i64 x.tt ∧ i64 x.pl) {A : Option Addr} {C : Nat} (hb : Bs w (.slice A x.b.length C) x.b) (hbo : ∀ k, bk (.slice A x.b.length C) = some k → D k) :
    Calls Try.prog 8 #[.pointer (some ⟨n, 0, none⟩), .pointer (some ⟨r, 0, none⟩), stepO x A C] w fun e w' => e = .returned (.bool true) ∧ ∃ l', l'.length ≤ l.length + 1 ∧ Two D w0 w' n r l' := by
  obtain ⟨T0, B0, hT0, hbW0, hbox0, hTb0, hBb0⟩ := step_begin h x hb (below1 w (stepB x A C)) (heap_alloc_new w _)
  obtain ⟨W, hW⟩ : ∃ W, W = (w.alloc (stepB x A C)).drew := ⟨_, rfl⟩
  obtain ⟨T, B, hT, hbW, hbox, hTb, hBb⟩ := step_begin (W := W) h x hb (by rw [hW]; exact (below1 w (stepB x A C)).drew) (by rw [hW]; exact heap_alloc_new w _)
  obtain ⟨op, fr, tt, pl, bb⟩ := x
  simp only [i64] at hx
  simp only [stepO, stepB, stepC] at *
  have HT : Hid (TB D w0 W n r l T B) := hT
  have HX : Hid (Bs W (.slice A bb.length C) bb) := hbW
  have HBX : Hid (Box W w.heap.size #[.int .i64 op, .int .i64 fr, .int .i64 tt, .int .i64 pl, .slice A bb.length C]) := hbox
  have HW : Hid (W = (w.alloc (.cells #[.int .i64 op, .int .i64 fr, .int .i64 tt, .int .i64 pl, .slice A bb.length C] 29)).drew) := hW
  have HTb : Hid (T w.heap.size ∧ ¬ B w.heap.size) := ⟨hTb, hBb⟩
  have HOLD : Hid (∀ wa, Kp D w0 wa → Bs wa (.slice A bb.length C) bb) := fun wa hwa => hbW.dk hbo hT.dl hT.bel hwa
  have HBC : Hid (∀ {wa : World}, Box wa w.heap.size #[.int .i64 op, .int .i64 fr, .int .i64 tt, .int .i64 pl, .slice A bb.length C] → wa.cell? ⟨w.heap.size, 1, none⟩ = some (.int .i64 fr) ∧ wa.cell? ⟨w.heap.size, 2, none⟩ = some (.int .i64 tt) ∧ wa.cell? ⟨w.heap.size, 3, none⟩ = some (.int .i64 pl) ∧ wa.cell? ⟨w.heap.size, 4, none⟩ = some (.slice A bb.length C)) := fun h => ⟨h.at 1, h.at 2, h.at 3, h.at 4⟩
  have hpk := pick_any op 6 hx.1 (by omega) (by omega) (w.alloc (.cells #[.int .i64 op, .int .i64 fr, .int .i64 tt, .int .i64 pl, .slice A bb.length C] 29))
  have hop0 := Int.emod_nonneg op (show (6 : Int) ≠ 0 by omega)
  have hop1 := Int.emod_lt_of_pos op (show (0 : Int) < 6 by omega)
  have hsn := send_any hT.nx (fr, tt) hbW
  have htw := twice_any hT.nx (fr, tt) pl
  rw [hW] at hsn htw
  have HSN : Hid (∀ wa, Kp T W wa → Calls Try.prog 24 #[.pointer (some ⟨r, 0, none⟩), .int .i64 fr, .int .i64 tt, .slice A bb.length C] wa fun e w' => e = .returned (.bool (sendOk l (fr, tt) bb)) ∧ (Rx w' r (if sendOk l (fr, tt) bb then l ++ [((fr, tt), bb)] else l) (Gw B wa w') ∧ Chg B wa w') ∧ Box w' w.heap.size #[.int .i64 op, .int .i64 fr, .int .i64 tt, .int .i64 pl, .slice A bb.length C]) := by
    intro wa a2
    have hm := hT.mid a2
    refine (rsend_rx hm.1 hL (fr, tt) (HOLD.out wa hm.2)).mono ?_
    rintro e w' ⟨rfl, b1, b2⟩
    exact ⟨rfl, ⟨b1, b2⟩, (hbox.kp a2 hTb).chg b2 hBb⟩
  have HTW : Hid (∀ wa, Kp T W wa → Calls Try.prog 27 #[.pointer (some ⟨r, 0, none⟩), .int .i64 fr, .int .i64 tt, .int .i64 pl] wa fun e w' => e = .returned (.bool (twiceR l (fr, tt) pl).1) ∧ (Rx w' r (twiceR l (fr, tt) pl).2 (Gw B wa w') ∧ Chg B wa w') ∧ Box w' w.heap.size #[.int .i64 op, .int .i64 fr, .int .i64 tt, .int .i64 pl, .slice A bb.length C]) := by
    intro wa a2
    have hm := hT.mid a2
    refine (rtwice_rx hm.1 hL (fr, tt) pl hx.2.2.2).mono ?_
    rintro e w' ⟨rfl, b1, b2⟩
    exact ⟨rfl, ⟨b1, b2⟩, (hbox.kp a2 hTb).chg b2 hBb⟩
  have hS0 := HBC.out hbox
  rw [hW] at hS0
  generalize op % 6 = o at hpk hop0 hop1
  have HT0 : Hid (TB D w0 (w.alloc (.cells #[.int .i64 op, .int .i64 fr, .int .i64 tt, .int .i64 pl, .slice A bb.length C] 29)) n r l T0 B0) := hT0
  have HBX0 : Hid (Box (w.alloc (.cells #[.int .i64 op, .int .i64 fr, .int .i64 tt, .int .i64 pl, .slice A bb.length C] 29)) w.heap.size #[.int .i64 op, .int .i64 fr, .int .i64 tt, .int .i64 pl, .slice A bb.length C]) := hbox0
  have HTb0 : Hid (T0 w.heap.size ∧ ¬ B0 w.heap.size) := ⟨hTb0, hBb0⟩
  clear hT hbW hbox hTb hBb hW h hb hbo hT0 hbW0 hbox0 hTb0 hBb0
  go_enter Try.func8, Try.ntmps8
  go_wp2_with fail
  refine hpk.mono ?_
  rintro e w1 ⟨rfl, rfl⟩
  have hcase : (o = 0 ∨ o = 1 ∨ o = 2) ∨ o = 3 ∨ o = 4 ∨ o = 5 := by omega
  clear hop0 hop1 hpk
  rcases hcase with hs | rfl | rfl | rfl
  · rcases hs with rfl | rfl | rfl
    all_goals
      go_wp2_with fail
      go_region_held3 (fun w' => w'.cell? ⟨w.heap.size, 1, none⟩ = some (.int .i64 fr) ∧ w'.cell? ⟨w.heap.size, 2, none⟩ = some (.int .i64 tt) ∧ w'.cell? ⟨w.heap.size, 3, none⟩ = some (.int .i64 pl) ∧ w'.cell? ⟨w.heap.size, 4, none⟩ = some (.slice A bb.length C))
        (first | exact hS0 | exact hS1 | exact hS2 | go_keep)
        (first
          | (go_at_call 17; refine hsn.mono ?_; rintro e wa ⟨rfl, a1, a2⟩; rw [← HW.out] at a2; have hS1 := HBC.out (HBX.out.kp a2 HTb.out.1); have hrs := HSN.out wa a2; have HA : Hid _ := And.intro a1 a2)
          | (go_at_call 24; refine hrs.mono ?_; rintro e wb ⟨rfl, b1, hbx2⟩; have hS2 := HBC.out hbx2))
      go_wp2_with fail
      go_ret
      exact ⟨by simp, _, send_len l (fr, tt) bb, HT.out.fin HA.out.1 HA.out.2 b1.1 b1.2⟩
  · cases hp : peek l (fr, tt) pl with
    | none =>
      have hc1 := take_none HT0.out.nx (fr, tt) pl hp
      have HP : Hid (peek l (fr, tt) pl = none) := hp
      clear hp
      go_wp2_with fail
      refine hc1.mono ?_
      rintro e wa ⟨rfl, ba⟩
      have ha2 : Kp T0 _ wa := Kp.of_below ba
      have hm := HT0.out.mid ha2
      have hS1 := HBC.out (HBX0.out.kp ha2 HTb0.out.1)
      have ha1 := HT0.out.nx.below ba
      have hc2 := rtake_no hm.1 (by omega) (fr, tt) pl hx.2.2.2 HP.out
      obtain ⟨s1, s2, s3, s4⟩ := hS1
      clear hc1 hS0
      go_wp2_with fail
      refine hc2.mono ?_
      rintro e wb ⟨rfl, rfl⟩
      have hg := hm.1.grow (Below.refl _ _)
      have HF : Hid _ := HT0.out.fin ha1 ha2 hg.1 hg.2
      have hc3 := same_any (Bs.nil wb) (Bs.nil wb) (by simp)
      rw [decide_eq_true rfl] at hc3
      clear hc2 hm hg ha1 ha2 ba
      go_wp2_with fail
      refine hc3.mono ?_
      rintro e wc ⟨rfl, q, rfl⟩
      go_wp2_with fail
      go_ret
      exact ⟨rfl, l, by omega, Two.below HF.out (below_drewN (Below.refl _ _) _)⟩
    | some b =>
      have hc1 := take_some HT0.out.nx (fr, tt) pl hp
      have HP : Hid (peek l (fr, tt) pl = some b) := hp
      have hbl : b.length ≤ 1048576 := by
        obtain ⟨_, hi, hb⟩ := peek_some hp
        exact (HT0.out.nx.bag (fr, tt)).2 b (by rw [← hb]; exact List.getElem_mem hi)
      clear hp
      go_wp2_with fail
      refine hc1.mono ?_
      rintro e wa ⟨A1, C1, rfl, ho1, hn1, ha1', ha2⟩
      have ha1 := ha1'.fewer (fun k hk => .inl hk)
      have hm := HT0.out.mid ha2
      have hS1 := HBC.out (HBX0.out.kp ha2 HTb0.out.1)
      have hc2 := rtake_rx hm.1 (by omega) (fr, tt) pl hx.2.2.2 HP.out
      obtain ⟨s1, s2, s3, s4⟩ := hS1
      have HO1 : Hid (Bs wa (.slice A1 b.length C1) b ∧ ∀ g, blk (.slice A1 b.length C1) = some g → ¬ B0 g) := ⟨Bs.of_owns ho1, fun g hg e => hn1 g hg (HT0.out.sub g e)⟩
      clear hc1 hS0 ho1 hn1 ha1'
      go_wp2_with fail
      refine hc2.mono ?_
      rintro e wb ⟨A2, C2, rfl, hb2, b1, b2⟩
      have HF : Hid _ := HT0.out.fin ha1 ha2 b1 b2
      have hc3 := same_any (HO1.out.1.keep b2 (fun k hk => HO1.out.2 k (bk_blk hk))) hb2 (by omega)
      rw [decide_eq_true rfl] at hc3
      clear hc2 hm ha1 ha2 b1 b2 hb2
      go_wp2_with fail
      refine hc3.mono ?_
      rintro e wc ⟨rfl, q, rfl⟩
      go_wp2_with fail
      go_ret
      exact ⟨rfl, _, Nat.le_succ_of_le (take_len l (fr, tt) pl.toNat), Two.below HF.out (below_drewN (Below.refl _ _) _)⟩
  · go_wp2_with fail
    go_region_held3 (fun w' => w'.cell? ⟨w.heap.size, 1, none⟩ = some (.int .i64 fr) ∧ w'.cell? ⟨w.heap.size, 2, none⟩ = some (.int .i64 tt) ∧ w'.cell? ⟨w.heap.size, 3, none⟩ = some (.int .i64 pl) ∧ w'.cell? ⟨w.heap.size, 4, none⟩ = some (.slice A bb.length C))
      (first | exact hS0 | exact hS1 | exact hS2 | go_keep)
      (first
        | (go_at_call 22; refine htw.mono ?_; rintro e wa ⟨rfl, a1, a2⟩; rw [← HW.out] at a2; have hS1 := HBC.out (HBX.out.kp a2 HTb.out.1); have hrs := HTW.out wa a2; have HA : Hid _ := And.intro a1 a2)
        | (go_at_call 27; refine hrs.mono ?_; rintro e wb ⟨rfl, b1, hbx2⟩; have hS2 := HBC.out hbx2))
    go_wp2_with fail
    go_ret
    exact ⟨by simp, _, twice_len l (fr, tt) pl, HT.out.fin HA.out.1 HA.out.2 b1.1 b1.2⟩
  · have hc1 := clear_any HT0.out.nx fr tt
    go_wp2_with fail
    refine hc1.mono ?_
    rintro e wa ⟨rfl, ha1, ha2⟩
    have hm := HT0.out.mid ha2
    have hS1 := HBC.out (HBX0.out.kp ha2 HTb0.out.1)
    have hc2 := rclear_rx hm.1 (by omega) fr tt
    obtain ⟨s1, s2, s3, s4⟩ := hS1
    clear hc1 hS0
    go_wp2_with fail
    refine hc2.mono ?_
    rintro e wb ⟨rfl, b1, b2⟩
    have HF : Hid _ := HT0.out.fin ha1 ha2 b1 b2
    clear hc2 hm ha1 ha2 b1 b2
    go_wp2_with fail
    go_ret
    exact ⟨rfl, _, Nat.le_succ_of_le (List.length_filter_le _ _), HF.out⟩
end Go.Proofs.Ytjclegiohhbkpaa
