/- Two sides beside one another, and what is done to them. -/
import Derived.Test.YtpmbkncakbcmbaaLkS
import Derived.Test.YtpmbkncakbcmbaaLkD
namespace Go.Proofs.Ytpmbkncakbcmbaa
set_option linter.unusedVariables false
open Go.RowKit
set_option linter.unusedVariables false

def Sy (W : World) (col : Nat → Nat) (c h a : Nat) (k : Int) (X : Sd) : Prop := ∃ vs vt vo Ls Lt Lp, Sm W col c h a k X vs vt vo Ls Lt Lp
abbrev Fs := List (Nat × Obj)
structure Pw (w W : World) (col : Nat → Nat) (c d h h' a a' : Nat) (k k' : Int) (F : Fs) (X Y : Sd) (H : Hs) : Prop where
  me : Sy W col c h a k X
  ot : Sy W col d h' a' k' Y
  ne : (c + 5 ≤ d ∨ d + 5 ≤ c) ∧ 1 ≤ c ∧ 1 ≤ d
  low : ∀ g, g < w.heap.size → col g = 0
  bel : Below w.heap.size w W
  held : ∀ x ∈ H, Bs W x.1 x.2 ∧ ∀ g, bk x.1 = some g → col g = 0
  fx : ∀ x ∈ F, W.heap[x.1]? = some x.2 ∧ col x.1 = 0
def PW (w W : World) (h h' a a' : Nat) (k k' : Int) (F : Fs) (X Y : Sd) (H : Hs) : Prop := ∃ col c d, Pw w W col c d h h' a a' k k' F X Y H
theorem PW.swap {w W : World} {h h' a a' : Nat} {k k' : Int} {F : Fs} {X Y : Sd} {H : Hs} (m : PW w W h h' a a' k k' F X Y H) : PW w W h' h a' a k' k F Y X H := by
  obtain ⟨col, c, d, m1, m2, m3, m4, m5, m6, m7⟩ := m
  exact ⟨col, d, c, m2, m1, ⟨m3.1.symm, m3.2.2, m3.2.1⟩, m4, m5, m6, m7⟩
theorem PW.bel {w W : World} {h h' a a' : Nat} {k k' : Int} {F : Fs} {X Y : Sd} {H : Hs} (m : PW w W h h' a a' k k' F X Y H) : Below w.heap.size w W := by
  obtain ⟨col, c, d, m⟩ := m; exact m.bel
theorem PW.hold {w W : World} {h h' a a' : Nat} {k k' : Int} {F : Fs} {X Y : Sd} {H : Hs} (m : PW w W h h' a a' k k' F X Y H) {v : Value} {l : List UInt8} (hm : (v, l) ∈ H) : Bs W v l := by
  obtain ⟨col, c, d, m⟩ := m; exact (m.held _ hm).1
theorem PW.fewH {w W : World} {h h' a a' : Nat} {k k' : Int} {F : Fs} {X Y : Sd} {H H' : Hs} (m : PW w W h h' a a' k k' F X Y H) (hm : ∀ x ∈ H', x ∈ H) : PW w W h h' a a' k k' F X Y H' := by
  obtain ⟨col, c, d, m1, m2, m3, m4, m5, m6, m7⟩ := m
  exact ⟨col, c, d, m1, m2, m3, m4, m5, fun x hx => m6 x (hm x hx), m7⟩
/- The new colours: q for what is new, but for the block of v, which is nobody's. -/
def colN (W : World) (col : Nat → Nat) (q : Nat) (v : Value) (g : Nat) : Nat := if g < W.heap.size then col g else if blk v = some g then 0 else q
theorem colN_old {W : World} {col : Nat → Nat} {q : Nat} {v : Value} {g : Nat} (h : g < W.heap.size) : colN W col q v g = col g := if_pos h
theorem colN_new {W : World} {col : Nat → Nat} {q : Nat} {v : Value} {g : Nat} (h : W.heap.size ≤ g) (hn : blk v ≠ some g) : colN W col q v g = q := by unfold colN; rw [if_neg (by omega), if_neg hn]
theorem colN_res {W : World} {col : Nat → Nat} {q : Nat} {v : Value} {g : Nat} (h : W.heap.size ≤ g) (hn : blk v = some g) : colN W col q v g = 0 := by unfold colN; rw [if_neg (by omega), if_pos hn]
/- What turned is of the colours of the first side; the rest follows. -/
theorem Pw.next {S : Nat → Prop} {w W W' : World} {col col' : Nat → Nat} {c d h h' a a' : Nat} {k k' kn : Int} {F : Fs} {X Y X' : Sd} {H : Hs} (m : Pw w W col c d h h' a a' k k' F X Y H) (hc : Chg S W W') (hS : ∀ g, g < W.heap.size → S g → Own c (col g)) (hcol : ∀ g, g < W.heap.size → col' g = col g) (hm : Sy W' col' c h a kn X') :
    Pw w W' col' c d h h' a a' kn k' F X' Y H := by
  obtain ⟨m1, ⟨vs, vt, vo, Ls, Lt, Lp, m2⟩, m3, m4, m5, m6, m7⟩ := m
  have hS' : ∀ g, g < W.heap.size → S g → col g ≠ 0 ∧ ¬ Own d (col g) := fun g hg s => by
    have := hS g hg s
    unfold Own at *
    omega
  refine ⟨hm, ⟨vs, vt, vo, Ls, Lt, Lp, m2.keep hc hS' hcol⟩, m3, fun g hg => by rw [hcol g (Nat.lt_of_lt_of_le hg m5.size)]; exact m4 g hg, m5.trans ((hc.weak (S' := fun g => S g ∧ g < W.heap.size) fun g hg e => ⟨e, hg⟩).below (fun g e => ?_) m5.size), fun x hx => ⟨(m6 x hx).1.keep (hc.weak (S' := fun g => S g ∧ g < W.heap.size) fun g hg e => ⟨e, hg⟩) (fun g hg e => (hS' g e.2 e.1).1 ((m6 x hx).2 g hg)), fun g hg => by rw [hcol g ((m6 x hx).1.lt hg)]; exact (m6 x hx).2 g hg⟩, fun x hx => ⟨by rw [hc.block x.1 (heap_lt (m7 x hx).1) (fun e => (hS' _ (heap_lt (m7 x hx).1) e).1 (m7 x hx).2)]; exact (m7 x hx).1, by rw [hcol _ (heap_lt (m7 x hx).1)]; exact (m7 x hx).2⟩⟩
  rcases Nat.lt_or_ge g w.heap.size with q | q
  · exact absurd (m4 g q) (hS' g e.2 e.1).1
  · exact q
/- Blocks are laid: nobody's. -/
theorem PW.below {w W W' : World} {h h' a a' : Nat} {k k' : Int} {F : Fs} {X Y : Sd} {H : Hs} (m : PW w W h h' a a' k k' F X Y H) (hB : Below W.heap.size W W') : PW w W' h h' a a' k k' F X Y H := by
  obtain ⟨col, c, d, m⟩ := m
  obtain ⟨vs, vt, vo, Ls, Lt, Lp, q⟩ := m.me
  refine ⟨colN W col 0 (.slice none 0 0), c, d, m.next (Chg.of_below hB) (fun _ _ e => e.elim) (fun g hg => colN_old hg) ⟨vs, vt, vo, Ls, Lt, Lp, q.keep (Chg.of_below hB) (fun _ _ e => e.elim) (fun g hg => colN_old hg)⟩⟩
/- .. and bytes that lie in them are held. -/
theorem PW.lay {w W W' : World} {h h' a a' : Nat} {k k' : Int} {F : Fs} {X Y : Sd} {H : Hs} (m : PW w W h h' a a' k k' F X Y H) (hB : Below W.heap.size W W') {v : Value} {l : List UInt8} (hv : Bs W' v l) (hn : ∀ g, bk v = some g → W.heap.size ≤ g) : PW w W' h h' a a' k k' F X Y ((v, l) :: H) := by
  obtain ⟨col, c, d, m⟩ := m
  obtain ⟨vs, vt, vo, Ls, Lt, Lp, q⟩ := m.me
  have hm := m.next (col' := colN W col 0 (.slice none 0 0)) (Chg.of_below hB) (fun _ _ e => e.elim) (fun g hg => colN_old hg) ⟨vs, vt, vo, Ls, Lt, Lp, q.keep (Chg.of_below hB) (fun _ _ e => e.elim) (fun g hg => colN_old hg)⟩
  refine ⟨colN W col 0 (.slice none 0 0), c, d, hm.me, hm.ot, hm.ne, hm.low, hm.bel, fun x hx => ?_, hm.fx⟩
  rcases List.mem_cons.1 hx with rfl | hx
  · exact ⟨hv, fun g hg => colN_new (hn g hg) (by intro e; cases e)⟩
  · exact hm.held x hx
theorem PW.pin {w W : World} {h h' a a' : Nat} {k k' : Int} {F : Fs} {X Y : Sd} {H : Hs} (m : PW w W h h' a a' k k' F X Y H) (o : Obj) : PW w (W.alloc o) h h' a a' k k' ((W.heap.size, o) :: F) X Y H := by
  obtain ⟨col, c, d, m⟩ := m
  obtain ⟨vs, vt, vo, Ls, Lt, Lp, q⟩ := m.me
  have hB := below1 W o
  have hm := m.next (col' := colN W col 0 (.slice none 0 0)) (Chg.of_below hB) (fun _ _ e => e.elim) (fun g hg => colN_old hg) ⟨vs, vt, vo, Ls, Lt, Lp, q.keep (Chg.of_below hB) (fun _ _ e => e.elim) (fun g hg => colN_old hg)⟩
  refine ⟨colN W col 0 (.slice none 0 0), c, d, hm.me, hm.ot, hm.ne, hm.low, hm.bel, hm.held, fun x hx => ?_⟩
  rcases List.mem_cons.1 hx with rfl | hx
  · exact ⟨heap_alloc_new W o, colN_new (Nat.le_refl _) (by intro e; cases e)⟩
  · exact hm.fx x hx
theorem PW.pinned {w W : World} {h h' a a' : Nat} {k k' : Int} {F : Fs} {X Y : Sd} {H : Hs} (m : PW w W h h' a a' k k' F X Y H) {g : Nat} {o : Obj} (hm : (g, o) ∈ F) : W.heap[g]? = some o := by
  obtain ⟨col, c, d, m⟩ := m; exact (m.fx _ hm).1
theorem PW.cells {w W : World} {h h' a a' : Nat} {k k' : Int} {F : Fs} {X Y : Sd} {H : Hs} (m : PW w W h h' a a' k k' F X Y H) : ∃ A1 C1 A2 C2 A3 C3, W.cell? ⟨h, 0, none⟩ = some (.pointer (some ⟨a, 0, none⟩)) ∧ W.cell? ⟨h, 1, none⟩ = some (.int .i64 k) ∧ W.cell? ⟨h, 2, none⟩ = some (.slice A1 X.sent.length C1) ∧ W.cell? ⟨h, 3, none⟩ = some (.slice A2 X.told.length C2) ∧ W.cell? ⟨h, 4, none⟩ = some (.slice A3 X.outs.length C3) ∧ ∀ i, W.frozen? ⟨h, i, none⟩ = false := by
  obtain ⟨col, c, d, m⟩ := m
  obtain ⟨vs, vt, vo, Ls, Lt, Lp, q⟩ := m.me
  obtain ⟨A1, C1, e1⟩ := q.rs.form
  obtain ⟨A2, C2, e2⟩ := q.rt.form
  obtain ⟨A3, C3, e3⟩ := owns_form5 q.ro
  have l1 : Ls.length = X.sent.length := by rw [← q.sent, List.length_map]
  have l2 : Lt.length = X.told.length := by rw [← q.told, List.length_map]
  have l3 : Lp.length = X.outs.length := by rw [← q.outs, List.length_map]
  rw [List.length_map, l1] at e1
  rw [List.length_map, l2] at e2
  rw [l3] at e3
  subst e1 e2 e3
  exact ⟨A1, C1, A2, C2, A3, C3, cell_at q.box 0, cell_at q.box 1, cell_at q.box 2, cell_at q.box 3, cell_at q.box 4, fun i => frozen_at q.box i⟩
theorem PW.fit {w W : World} {h h' a a' : Nat} {k k' : Int} {F : Fs} {X Y : Sd} {H : Hs} (m : PW w W h h' a a' k k' F X Y H) : X.s.fit := by
  obtain ⟨col, c, d, m⟩ := m
  obtain ⟨vs, vt, vo, Ls, Lt, Lp, q⟩ := m.me
  exact q.lk.fit
/- The link of a side has turned, by itself: what is new is its own, but for v. -/
theorem Pw.link {w W W' : World} {col : Nat → Nat} {c d h h' a a' : Nat} {k k' : Int} {F : Fs} {X Y : Sd} {H : Hs} {s' : St} {v : Value} (m : Pw w W col c d h h' a a' k k' F X Y H) (hl : Lo false W' a s' (fun g => (g < W.heap.size ∧ col g = c) ∨ (Nw W W' g ∧ blk v ≠ some g))) (hc : Chg (fun g => g < W.heap.size ∧ col g = c) W W') :
    Pw w W' (colN W col c v) c d h h' a a' k k' F ⟨s', X.sent, X.told, X.outs⟩ Y H := by
  obtain ⟨vs, vt, vo, Ls, Lt, Lp, q⟩ := m.me
  have hcol : ∀ g, g < W.heap.size → colN W col c v g = col g := fun g hg => colN_old hg
  refine m.next hc (fun g _ e => ⟨by omega, by omega⟩) hcol ⟨vs, vt, vo, Ls, Lt, Lp, ?_⟩
  obtain ⟨q1, q2, q3, q4, q5, q6, q7, q8, q9, q10, q11, q12, q13, q14, q15⟩ := q
  have hc1 := m.ne.2.1
  have lh := heap_lt q2
  have l1 : ∀ g, blk vs = some g → g < W.heap.size := fun g hg => by obtain ⟨_, z⟩ := q4.block hg; exact heap_lt z
  have l2 : ∀ g, blk vt = some g → g < W.heap.size := fun g hg => by obtain ⟨_, z⟩ := q6.block hg; exact heap_lt z
  have l3 : ∀ g, blk vo = some g → g < W.heap.size := fun g hg => by obtain ⟨_, z, _⟩ := owns_block5 q8 hg; exact heap_lt z
  refine ⟨hl.more (fun g hg => ?_) (fun g hg => hg.1), by rw [hc.block h lh (fun e => by have := e.2; omega)]; exact q2, by rw [hcol h lh]; exact q3, q4.keep hc (fun g hg e => by have := q5 g hg; have := e.2; omega), fun g hg => by rw [hcol g (l1 g hg)]; exact q5 g hg,
    q6.keep hc (fun g hg e => by have := q7 g hg; have := e.2; omega), fun g hg => by rw [hcol g (l2 g hg)]; exact q7 g hg, owns_keep5 q8 hc (fun g hg e => by have := q9 g hg; have := e.2; omega), fun g hg => by rw [hcol g (l3 g hg)]; exact q9 g hg,
    fun x hx => ⟨(q10 x hx).1.keep hc (fun g hg e => by have := (q10 x hx).2 g hg; have := e.2; omega), fun g hg => by rw [hcol g ((q10 x hx).1.lt hg)]; exact (q10 x hx).2 g hg⟩,
    fun x hx => ⟨(q11 x hx).1.keep hc (fun g hg e => by have := (q11 x hx).2 g hg; have := e.2; omega), fun g hg => by rw [hcol g ((q11 x hx).1.lt hg)]; exact (q11 x hx).2 g hg⟩,
    fun x hx => ⟨(q12 x hx).1.keep hc (fun g hg e => by have := (q12 x hx).2 g hg; have := e.2; omega), fun g hg => by rw [hcol g ((q12 x hx).1.lt hg)]; exact (q12 x hx).2 g hg⟩, q13, q14, q15⟩
  rcases hg with hg | hg
  · exact ⟨hc.lt_of hg.1, by rw [hcol g hg.1]; exact hg.2⟩
  · exact ⟨hg.1.2, colN_new hg.1.1 hg.2⟩
theorem pw_send {w W : World} {h h' a a' : Nat} {k k' : Int} {F : Fs} {X Y : Sd} {H : Hs} (m : PW w W h h' a a' k k' F X Y H) {v : Value} {b : List UInt8} (hm : (v, b) ∈ H) :
    Calls Try.prog 12 #[.pointer (some ⟨a, 0, none⟩), v] W fun e W' => e = .returned (.int .i64 (sendE X.s b)) ∧ Hid (PW w W' h h' a a' k k' F ⟨sendS X.s b, X.sent, X.told, X.outs⟩ Y H) := by
  obtain ⟨col, c, d, m⟩ := m
  obtain ⟨vs, vt, vo, Ls, Lt, Lp, q⟩ := id m.me
  refine (send_lo q.lk (m.held _ hm).1).mono ?_
  rintro e W' ⟨rfl, hl, hc⟩
  exact ⟨rfl, _, c, d, m.link (v := .slice none 0 0) (hl.more (fun g hg => hg.elim .inl (fun e => .inr ⟨e, by intro z; cases z⟩)) (fun g hg => hg.elim (fun e => hc.lt_of e.1) (fun e => e.1.2))) hc⟩
theorem pw_out {w W : World} {h h' a a' : Nat} {k k' : Int} {F : Fs} {X Y : Sd} {H : Hs} (m : PW w W h h' a a' k k' F X Y H) (ha : X.s.acked < 4611686018427387904) :
    Calls Try.prog 24 #[.pointer (some ⟨a, 0, none⟩)] W fun e W' => ∃ A C, e = .returned (pkV (outP X.s) A C) ∧ Hid (PW w W' h h' a a' k k' F X Y ((.slice A (outP X.s).load.length C, (outP X.s).load) :: H)) := by
  have m0 := m
  obtain ⟨col, c, d, m⟩ := m
  obtain ⟨vs, vt, vo, Ls, Lt, Lp, q⟩ := id m.me
  refine (out_lo q.lk ha).mono ?_
  rintro e W' ⟨A, C, rfl, ho, hB⟩
  exact ⟨A, C, rfl, m0.lay hB (Bs.of_owns ho) (fun g hg => by obtain ⟨_, _, z⟩ := owns_blockT ho (bk_blk hg); exact z)⟩
theorem pw_take {w W : World} {h h' a a' : Nat} {k k' : Int} {F : Fs} {X Y : Sd} {H : Hs} (m : PW w W h h' a a' k k' F X Y H) {p : Pkt} {A : Option Addr} {C : Nat} (hm : (.slice A p.load.length C, p.load) ∈ H) (hf : i64 p.fr) (hl : p.load.length ≤ 140737488355328) (ha : X.s.acked < 4611686018427387904) (hg : X.s.got < 4611686018427387904) :
    Calls Try.prog 17 #[.pointer (some ⟨a, 0, none⟩), pkV p A C] W fun e W' => ∃ A' C', e = .returned (tkV (takeR X.s p) A' C') ∧ Hid (PW w W' h h' a a' k k' F ⟨(takeR X.s p).st, X.sent, X.told, X.outs⟩ Y ((.slice A' (takeR X.s p).load.length C', (takeR X.s p).load) :: H)) := by
  obtain ⟨col, c, d, m⟩ := m
  obtain ⟨vs, vt, vo, Ls, Lt, Lp, q⟩ := id m.me
  have hc1 := m.ne.2.1
  refine (take_lo' q.lk p (m.held _ hm).1 (fun g hg' e => by have := (m.held _ hm).2 g hg'; have := e.2; omega) hf hl ha hg).mono ?_
  rintro e W' ⟨A', C', rfl, ho, hl', hc⟩
  have hn := m.link (v := .slice A' (takeR X.s p).load.length C') hl' hc
  refine ⟨A', C', rfl, _, c, d, hn.me, hn.ot, hn.ne, hn.low, hn.bel, fun x hx => ?_, hn.fx⟩
  rcases List.mem_cons.1 hx with rfl | hx
  · refine ⟨Bs.of_owns ho, fun g hg' => ?_⟩
    obtain ⟨_, _, z⟩ := owns_blockT ho (bk_blk hg')
    exact colN_res z (bk_blk hg')
  · exact hn.held x hx
theorem pw_wait {w W : World} {h h' a a' : Nat} {k k' : Int} {F : Fs} {X Y : Sd} {H : Hs} (m : PW w W h h' a a' k k' F X Y H) : Calls Try.prog 26 #[.pointer (some ⟨a, 0, none⟩)] W fun e w' => e = .returned (.int .i64 X.s.loads.length) ∧ w' = W := by
  obtain ⟨col, c, d, m⟩ := m
  obtain ⟨vs, vt, vo, Ls, Lt, Lp, q⟩ := m.me
  exact wait_lo q.lk
end Go.Proofs.Ytpmbkncakbcmbaa
