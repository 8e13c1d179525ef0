/- Rows of a side get one element more. -/
import Derived.Test.YtpmbkncakbcmbaaLkT
namespace Go.Proofs.Ytpmbkncakbcmbaa
set_option linter.unusedVariables false
open Go.RowKit
set_option linter.unusedVariables false

theorem pw_sent {w W : World} {h h' a a' : Nat} {k k' : Int} {F : Fs} {X Y : Sd} {H : Hs} (m : PW w W h h' a a' k k' F X Y H) {A6 : Option Addr} {C6 : Nat} {b : List UInt8} (hm : (.slice A6 b.length C6, b) ∈ H) (hL : X.sent.length ≤ 1000) :
    ∃ A1 C1 A8 C8 w8, (W.cell? ⟨h, 2, none⟩ = some (.slice A1 X.sent.length C1) ∧ (W.alloc (.cells #[.slice A6 b.length C6] 30)).cell? ⟨h, 2, none⟩ = some (.slice A1 X.sent.length C1) ∧ w8.cell? ⟨h, 2, none⟩ = some (.slice A1 X.sent.length C1) ∧ w8.frozen? ⟨h, 2, none⟩ = false) ∧
      (Builtin.append_ #[47, 47] 47 #[.slice A1 X.sent.length C1, .slice (some ⟨W.heap.size, 0, none⟩) 1 1]).run Try.prog (W.alloc (.cells #[.slice A6 b.length C6] 30)) = .ok (.slice A8 (X.sent.length + 1) C8) w8 ∧
      Hid (PW w (w8.setCell ⟨h, 2, none⟩ (.slice A8 (X.sent.length + 1) C8)) h h' a a' k k' F ⟨X.s, X.sent ++ [b], X.told, X.outs⟩ Y H) := by
  obtain ⟨col, c, d, m⟩ := m
  obtain ⟨vs, vt, vo, Ls, Lt, Lp, q⟩ := id m.me
  have hheld := m.held _ hm
  have hc1 := m.ne.2.1
  obtain ⟨q1, q2, q3, q4, q5, q6, q7, q8, q9, q10, q11, q12, q13, q14, q15⟩ := q
  have lh := heap_lt q2
  have l1 : ∀ g, blk vs = some g → g < W.heap.size := fun g hg => by obtain ⟨_, z⟩ := q4.block hg; exact heap_lt z
  have l2 : ∀ g, blk vt = some g → g < W.heap.size := fun g hg => by obtain ⟨_, z⟩ := q6.block hg; exact heap_lt z
  have l3 : ∀ g, blk vo = some g → g < W.heap.size := fun g hg => by obtain ⟨_, z, _⟩ := owns_block5 q8 hg; exact heap_lt z
  have ll : Ls.length = X.sent.length := by rw [← q13, List.length_map]
  obtain ⟨A1, C1, e1⟩ := q4.form
  rw [List.length_map, ll] at e1
  obtain ⟨A8, C8, w8, hrun, hR, hch, hbl⟩ := q4.app (by rw [List.length_map, ll]; omega) (A6 := A6) (n6 := b.length) (C6 := C6) 47
  rw [List.length_map, ll] at hrun hR hbl
  have hne : ∀ g, blk vs = some g → g ≠ h := fun g hg e => by have := q5 g hg; rw [e, q3] at this; omega
  have hbx : w8.heap[h]? = some (.cells #[.pointer (some ⟨a, 0, none⟩), .int .i64 k, vs, vt, vo] 60 (0, 0)) := by rw [hch.block h lh (fun e => hne h e rfl)]; exact q2
  have hcs : Chg (fun g => blk vs = some g ∨ g = h) W (w8.setCell ⟨h, 2, none⟩ (.slice A8 (X.sent.length + 1) C8)) := (hch.weak fun _ _ e => .inl e).trans (Chg.setCell _ _ _ (.inr rfl))
  have hS : ∀ g, (blk vs = some g ∨ g = h) → col g = c + 2 ∨ col g = c + 1 := fun g e => e.elim (fun e => .inl (q5 g e)) (fun e => .inr (by rw [e]; exact q3))
  have hcol : ∀ g, g < W.heap.size → colN W col (c + 2) (.slice none 0 0) g = col g := fun g hg => colN_old hg
  have hnx : ∀ g, W.heap.size ≤ g → colN W col (c + 2) (.slice none 0 0) g = c + 2 := fun g hg => colN_new hg (by intro e; cases e)
  refine ⟨A1, C1, A8, C8, w8, ⟨?_, ?_, ?_, frozen_at hbx 2⟩, ?_, _, c, d, m.next hcs (fun g _ e => by rcases hS g e with z | z <;> rw [z] <;> exact ⟨by omega, by omega⟩) hcol ?_⟩
  · rw [← e1]; exact cell_at q2 2
  · rw [← e1, World.cell?_of_block (Below.heap_alloc W _ h lh)]; exact cell_at q2 2
  · rw [← e1]; exact cell_at hbx 2
  · rw [← e1]; exact hrun
  · have keepR : ∀ (v : Value) (xs : List Value) (o : Nat), o ≠ 2 → o ≠ 1 → Ro W 30 v xs → (∀ g, blk v = some g → col g = c + o) → Ro (w8.setCell ⟨h, 2, none⟩ (.slice A8 (X.sent.length + 1) C8)) 30 v xs := fun v xs o h1 h2 hr hc => hr.keep hcs (fun g hg e => by have := hc g hg; rcases hS g e with z | z <;> omega)
    have keepB : ∀ (v : Value) (l : List UInt8), Bs W v l → (∀ g, bk v = some g → col g = 0) → Bs (w8.setCell ⟨h, 2, none⟩ (.slice A8 (X.sent.length + 1) C8)) v l ∧ ∀ g, bk v = some g → colN W col (c + 2) (.slice none 0 0) g = 0 := fun v l hb hc => ⟨hb.keep hcs (fun g hg e => by have := hc g hg; rcases hS g e with z | z <;> omega), fun g hg => by rw [hcol g (hb.lt hg)]; exact hc g hg⟩
    have hnew : Ro (w8.setCell ⟨h, 2, none⟩ (.slice A8 (X.sent.length + 1) C8)) 30 (.slice A8 (X.sent.length + 1) C8) ((Ls ++ [(b, Value.slice A6 b.length C6)]).map Prod.snd) := by
      rw [List.map_append]
      refine hR.keep (Chg.setCell (S := fun g => g = h) w8 ⟨h, 2, none⟩ _ rfl) (fun g hg e => ?_)
      obtain ⟨_, z⟩ := hR.block hg
      rw [e, hbx] at z; cases z
    have hcn : ∀ g, blk (.slice A8 (X.sent.length + 1) C8) = some g → colN W col (c + 2) (.slice none 0 0) g = c + 2 := fun g hg => by
      rcases hbl g hg with z | z
      · rw [hcol g (l1 g z)]; exact q5 g z
      · exact hnx g z
    have hlk := (q1.keep hcs (fun g e z => by rcases hS g e with y | y <;> (have := z.2; omega))).more (O' := fun g => g < (w8.setCell ⟨h, 2, none⟩ (.slice A8 (X.sent.length + 1) C8)).heap.size ∧ colN W col (c + 2) (.slice none 0 0) g = c) (fun g hg => ⟨hcs.lt_of hg.1, by rw [hcol g hg.1]; exact hg.2⟩) (fun g hg => hg.1)
    have hro := owns_keep5 q8 hcs (fun g hg e => by have := q9 g hg; rcases hS g e with z | z <;> omega)
    have hcel : ∀ x ∈ Ls ++ [(b, Value.slice A6 b.length C6)], Bs (w8.setCell ⟨h, 2, none⟩ (.slice A8 (X.sent.length + 1) C8)) x.2 x.1 ∧ ∀ g, bk x.2 = some g → colN W col (c + 2) (.slice none 0 0) g = 0 := fun x hx => by
      rcases List.mem_append.1 hx with hx | hx
      · exact keepB _ _ (q10 x hx).1 (q10 x hx).2
      · simp at hx; subst hx
        exact keepB _ _ hheld.1 hheld.2
    exact ⟨.slice A8 (X.sent.length + 1) C8, vt, vo, Ls ++ [(b, Value.slice A6 b.length C6)], Lt, Lp, hlk, heap_set hbx 2 _, by rw [hcol h lh]; exact q3, hnew, hcn, keepR vt _ 3 (by decide) (by decide) q6 q7, fun g hg => by rw [hcol g (l2 g hg)]; exact q7 g hg, hro, fun g hg => by rw [hcol g (l3 g hg)]; exact q9 g hg, hcel, fun x hx => keepB _ _ (q11 x hx).1 (q11 x hx).2, fun x hx => keepB _ _ (q12 x hx).1 (q12 x hx).2, by simp [q13], q14, q15⟩
theorem pw_told {w W : World} {h h' a a' : Nat} {k k' : Int} {F : Fs} {X Y : Sd} {H : Hs} (m : PW w W h h' a a' k k' F X Y H) {A6 : Option Addr} {C6 : Nat} {b : List UInt8} (hm : (.slice A6 b.length C6, b) ∈ H) (hL : X.told.length ≤ 1000) :
    ∃ A1 C1 A8 C8 w8, (W.cell? ⟨h, 3, none⟩ = some (.slice A1 X.told.length C1) ∧ (W.alloc (.cells #[.slice A6 b.length C6] 30)).cell? ⟨h, 3, none⟩ = some (.slice A1 X.told.length C1) ∧ w8.cell? ⟨h, 3, none⟩ = some (.slice A1 X.told.length C1) ∧ w8.frozen? ⟨h, 3, none⟩ = false) ∧
      (Builtin.append_ #[47, 47] 47 #[.slice A1 X.told.length C1, .slice (some ⟨W.heap.size, 0, none⟩) 1 1]).run Try.prog (W.alloc (.cells #[.slice A6 b.length C6] 30)) = .ok (.slice A8 (X.told.length + 1) C8) w8 ∧
      Hid (PW w (w8.setCell ⟨h, 3, none⟩ (.slice A8 (X.told.length + 1) C8)) h h' a a' k k' F ⟨X.s, X.sent, X.told ++ [b], X.outs⟩ Y H) := by
  obtain ⟨col, c, d, m⟩ := m
  obtain ⟨vs, vt, vo, Ls, Lt, Lp, q⟩ := id m.me
  have hheld := m.held _ hm
  have hc1 := m.ne.2.1
  obtain ⟨q1, q2, q3, q4, q5, q6, q7, q8, q9, q10, q11, q12, q13, q14, q15⟩ := q
  have lh := heap_lt q2
  have l1 : ∀ g, blk vs = some g → g < W.heap.size := fun g hg => by obtain ⟨_, z⟩ := q4.block hg; exact heap_lt z
  have l2 : ∀ g, blk vt = some g → g < W.heap.size := fun g hg => by obtain ⟨_, z⟩ := q6.block hg; exact heap_lt z
  have l3 : ∀ g, blk vo = some g → g < W.heap.size := fun g hg => by obtain ⟨_, z, _⟩ := owns_block5 q8 hg; exact heap_lt z
  have ll : Lt.length = X.told.length := by rw [← q14, List.length_map]
  obtain ⟨A1, C1, e1⟩ := q6.form
  rw [List.length_map, ll] at e1
  obtain ⟨A8, C8, w8, hrun, hR, hch, hbl⟩ := q6.app (by rw [List.length_map, ll]; omega) (A6 := A6) (n6 := b.length) (C6 := C6) 47
  rw [List.length_map, ll] at hrun hR hbl
  have hne : ∀ g, blk vt = some g → g ≠ h := fun g hg e => by have := q7 g hg; rw [e, q3] at this; omega
  have hbx : w8.heap[h]? = some (.cells #[.pointer (some ⟨a, 0, none⟩), .int .i64 k, vs, vt, vo] 60 (0, 0)) := by rw [hch.block h lh (fun e => hne h e rfl)]; exact q2
  have hcs : Chg (fun g => blk vt = some g ∨ g = h) W (w8.setCell ⟨h, 3, none⟩ (.slice A8 (X.told.length + 1) C8)) := (hch.weak fun _ _ e => .inl e).trans (Chg.setCell _ _ _ (.inr rfl))
  have hS : ∀ g, (blk vt = some g ∨ g = h) → col g = c + 3 ∨ col g = c + 1 := fun g e => e.elim (fun e => .inl (q7 g e)) (fun e => .inr (by rw [e]; exact q3))
  have hcol : ∀ g, g < W.heap.size → colN W col (c + 3) (.slice none 0 0) g = col g := fun g hg => colN_old hg
  have hnx : ∀ g, W.heap.size ≤ g → colN W col (c + 3) (.slice none 0 0) g = c + 3 := fun g hg => colN_new hg (by intro e; cases e)
  refine ⟨A1, C1, A8, C8, w8, ⟨?_, ?_, ?_, frozen_at hbx 3⟩, ?_, _, c, d, m.next hcs (fun g _ e => by rcases hS g e with z | z <;> rw [z] <;> exact ⟨by omega, by omega⟩) hcol ?_⟩
  · rw [← e1]; exact cell_at q2 3
  · rw [← e1, World.cell?_of_block (Below.heap_alloc W _ h lh)]; exact cell_at q2 3
  · rw [← e1]; exact cell_at hbx 3
  · rw [← e1]; exact hrun
  · have keepR : ∀ (v : Value) (xs : List Value) (o : Nat), o ≠ 3 → o ≠ 1 → Ro W 30 v xs → (∀ g, blk v = some g → col g = c + o) → Ro (w8.setCell ⟨h, 3, none⟩ (.slice A8 (X.told.length + 1) C8)) 30 v xs := fun v xs o h1 h2 hr hc => hr.keep hcs (fun g hg e => by have := hc g hg; rcases hS g e with z | z <;> omega)
    have keepB : ∀ (v : Value) (l : List UInt8), Bs W v l → (∀ g, bk v = some g → col g = 0) → Bs (w8.setCell ⟨h, 3, none⟩ (.slice A8 (X.told.length + 1) C8)) v l ∧ ∀ g, bk v = some g → colN W col (c + 3) (.slice none 0 0) g = 0 := fun v l hb hc => ⟨hb.keep hcs (fun g hg e => by have := hc g hg; rcases hS g e with z | z <;> omega), fun g hg => by rw [hcol g (hb.lt hg)]; exact hc g hg⟩
    have hnew : Ro (w8.setCell ⟨h, 3, none⟩ (.slice A8 (X.told.length + 1) C8)) 30 (.slice A8 (X.told.length + 1) C8) ((Lt ++ [(b, Value.slice A6 b.length C6)]).map Prod.snd) := by
      rw [List.map_append]
      refine hR.keep (Chg.setCell (S := fun g => g = h) w8 ⟨h, 3, none⟩ _ rfl) (fun g hg e => ?_)
      obtain ⟨_, z⟩ := hR.block hg
      rw [e, hbx] at z; cases z
    have hcn : ∀ g, blk (.slice A8 (X.told.length + 1) C8) = some g → colN W col (c + 3) (.slice none 0 0) g = c + 3 := fun g hg => by
      rcases hbl g hg with z | z
      · rw [hcol g (l2 g z)]; exact q7 g z
      · exact hnx g z
    have hlk := (q1.keep hcs (fun g e z => by rcases hS g e with y | y <;> (have := z.2; omega))).more (O' := fun g => g < (w8.setCell ⟨h, 3, none⟩ (.slice A8 (X.told.length + 1) C8)).heap.size ∧ colN W col (c + 3) (.slice none 0 0) g = c) (fun g hg => ⟨hcs.lt_of hg.1, by rw [hcol g hg.1]; exact hg.2⟩) (fun g hg => hg.1)
    have hro := owns_keep5 q8 hcs (fun g hg e => by have := q9 g hg; rcases hS g e with z | z <;> omega)
    have hcel : ∀ x ∈ Lt ++ [(b, Value.slice A6 b.length C6)], Bs (w8.setCell ⟨h, 3, none⟩ (.slice A8 (X.told.length + 1) C8)) x.2 x.1 ∧ ∀ g, bk x.2 = some g → colN W col (c + 3) (.slice none 0 0) g = 0 := fun x hx => by
      rcases List.mem_append.1 hx with hx | hx
      · exact keepB _ _ (q11 x hx).1 (q11 x hx).2
      · simp at hx; subst hx
        exact keepB _ _ hheld.1 hheld.2
    exact ⟨vs, .slice A8 (X.told.length + 1) C8, vo, Ls, Lt ++ [(b, Value.slice A6 b.length C6)], Lp, hlk, heap_set hbx 3 _, by rw [hcol h lh]; exact q3, keepR vs _ 2 (by decide) (by decide) q4 q5, fun g hg => by rw [hcol g (l1 g hg)]; exact q5 g hg, hnew, hcn, hro, fun g hg => by rw [hcol g (l3 g hg)]; exact q9 g hg, fun x hx => keepB _ _ (q10 x hx).1 (q10 x hx).2, hcel, fun x hx => keepB _ _ (q12 x hx).1 (q12 x hx).2, q13, by simp [q14], q15⟩
theorem infoPk : (Try.prog.info? 32).map (fun i => (i.zero, i.size, i.bytes)) = some (some (.agg #[.int .i64 0, .int .i64 0, .int .i64 0, .int .i64 0, .slice none 0 0]), 5, 56) := by kernel_rfl
theorem pw_outs {w W : World} {h h' a a' : Nat} {k k' : Int} {F : Fs} {X Y : Sd} {H : Hs} (m : PW w W h h' a a' k k' F X Y H) {p : Pkt} {A6 : Option Addr} {C6 : Nat} (hm : (.slice A6 p.load.length C6, p.load) ∈ H) (hL : X.outs.length ≤ 1000) :
    ∃ A1 C1 A8 C8 w8, (W.cell? ⟨h, 4, none⟩ = some (.slice A1 X.outs.length C1) ∧ (W.alloc (.cells #[.int .i64 p.fr, .int .i64 p.to, .int .i64 p.seq, .int .i64 p.ack, .slice A6 p.load.length C6] 32)).cell? ⟨h, 4, none⟩ = some (.slice A1 X.outs.length C1) ∧ w8.cell? ⟨h, 4, none⟩ = some (.slice A1 X.outs.length C1) ∧ w8.frozen? ⟨h, 4, none⟩ = false) ∧
      (Builtin.append_ #[58, 58] 58 #[.slice A1 X.outs.length C1, .slice (some ⟨W.heap.size, 0, none⟩) 1 1]).run Try.prog (W.alloc (.cells #[.int .i64 p.fr, .int .i64 p.to, .int .i64 p.seq, .int .i64 p.ack, .slice A6 p.load.length C6] 32)) = .ok (.slice A8 (X.outs.length + 1) C8) w8 ∧
      Hid (PW w (w8.setCell ⟨h, 4, none⟩ (.slice A8 (X.outs.length + 1) C8)) h h' a a' k k' F ⟨X.s, X.sent, X.told, X.outs ++ [p]⟩ Y H) := by
  obtain ⟨i0, hi0, hz0, hz1, hz2⟩ := info_parts infoPk
  obtain ⟨col, c, d, m⟩ := m
  obtain ⟨vs, vt, vo, Ls, Lt, Lp, q⟩ := id m.me
  have hheld := m.held _ hm
  have hc1 := m.ne.2.1
  obtain ⟨q1, q2, q3, q4, q5, q6, q7, q8, q9, q10, q11, q12, q13, q14, q15⟩ := q
  have lh := heap_lt q2
  have l1 : ∀ g, blk vs = some g → g < W.heap.size := fun g hg => by obtain ⟨_, z⟩ := q4.block hg; exact heap_lt z
  have l2 : ∀ g, blk vt = some g → g < W.heap.size := fun g hg => by obtain ⟨_, z⟩ := q6.block hg; exact heap_lt z
  have l3 : ∀ g, blk vo = some g → g < W.heap.size := fun g hg => by obtain ⟨_, z, _⟩ := owns_block5 q8 hg; exact heap_lt z
  have ll : Lp.length = X.outs.length := by rw [← q15, List.length_map]
  obtain ⟨A1, C1, e1⟩ := owns_form5 q8
  rw [ll] at e1
  obtain ⟨B, hB⟩ : ∃ B, B = W.alloc (.cells #[.int .i64 p.fr, .int .i64 p.to, .int .i64 p.seq, .int .i64 p.ack, .slice A6 p.load.length C6] 32) := ⟨_, rfl⟩
  have hcB : ∀ S : Nat → Prop, Chg S W B := fun S => by rw [hB]; exact Chg.alloc _ _ _
  have hown : B.ownsRow 0 32 5 vo Lp.length (Lp.flatMap cel5) := owns_keep5 q8 (hcB Non) (fun _ _ => id)
  have hnw : ∀ j u, [Value.int .i64 p.fr, .int .i64 p.to, .int .i64 p.seq, .int .i64 p.ack, .slice A6 p.load.length C6][j]? = some u → B.cell? ((⟨W.heap.size, 0, none⟩ : Addr).add j) = some u := by
    intro j u hu
    rw [show (⟨W.heap.size, 0, none⟩ : Addr).add j = ⟨W.heap.size, j, none⟩ by simp only [Addr.add]; split <;> simp_all, hB, cell_at (heap_alloc_new W _)]
    simpa using hu
  obtain ⟨v8, w8, hrun, ho8, hg8, hn8, hl8⟩ := run_append_own_at (P := Try.prog) B 0 58 58 32 i0 (.agg #[.int .i64 0, .int .i64 0, .int .i64 0, .int .i64 0, .slice none 0 0]) 5 56 Try.underlying58 hi0 hz0 hz1 hz2 rfl (by decide) vo Lp.length (Lp.flatMap cel5) hown ⟨W.heap.size, 0, none⟩ 1 1 [.int .i64 p.fr, .int .i64 p.to, .int .i64 p.seq, .int .i64 p.ack, .slice A6 p.load.length C6] rfl hnw (fun u hu => by simp at hu; rcases hu with rfl | rfl | rfl | rfl | rfl <;> rfl)
      (by unfold maxLen; omega) (by omega) (by omega)
  obtain ⟨A8, C8, rfl⟩ := owns_form5 ho8
  rw [ll] at hrun ho8 hl8
  have hch : Chg (fun g => blk vo = some g) W w8 := (hcB _).trans (Chg.of_grown hg8)
  have hbl : ∀ g, blk (.slice A8 (X.outs.length + 1) C8) = some g → blk vo = some g ∨ W.heap.size ≤ g := fun g hg => by
    rcases hl8 with e | e
    · exact .inl (by rw [← hg]; exact e.symm)
    · have e' : some g = some B.heap.size := by rw [← hg]; exact e
      injection e' with e'
      rw [e', hB]; exact .inr (by simp)
  have hne : ∀ g, blk vo = some g → g ≠ h := fun g hg e => by have := q9 g hg; rw [e, q3] at this; omega
  have hbx : w8.heap[h]? = some (.cells #[.pointer (some ⟨a, 0, none⟩), .int .i64 k, vs, vt, vo] 60 (0, 0)) := by rw [hch.block h lh (fun e => hne h e rfl)]; exact q2
  have hcs : Chg (fun g => blk vo = some g ∨ g = h) W (w8.setCell ⟨h, 4, none⟩ (.slice A8 (X.outs.length + 1) C8)) := (hch.weak fun _ _ e => .inl e).trans (Chg.setCell _ _ _ (.inr rfl))
  have hS : ∀ g, (blk vo = some g ∨ g = h) → col g = c + 4 ∨ col g = c + 1 := fun g e => e.elim (fun e => .inl (q9 g e)) (fun e => .inr (by rw [e]; exact q3))
  have hcol : ∀ g, g < W.heap.size → colN W col (c + 4) (.slice none 0 0) g = col g := fun g hg => colN_old hg
  have hnx : ∀ g, W.heap.size ≤ g → colN W col (c + 4) (.slice none 0 0) g = c + 4 := fun g hg => colN_new hg (by intro e; cases e)
  rw [← hB]
  refine ⟨A1, C1, A8, C8, w8, ⟨?_, ?_, ?_, frozen_at hbx 4⟩, ?_, _, c, d, m.next hcs (fun g _ e => by rcases hS g e with z | z <;> rw [z] <;> exact ⟨by omega, by omega⟩) hcol ?_⟩
  · rw [← e1]; exact cell_at q2 4
  · rw [← e1, World.cell?_of_block ((hcB Non).block h lh id)]; exact cell_at q2 4
  · rw [← e1]; exact cell_at hbx 4
  · rw [← e1]; exact hrun
  · have keepR : ∀ (v : Value) (xs : List Value) (o : Nat), o ≠ 4 → o ≠ 1 → Ro W 30 v xs → (∀ g, blk v = some g → col g = c + o) → Ro (w8.setCell ⟨h, 4, none⟩ (.slice A8 (X.outs.length + 1) C8)) 30 v xs := fun v xs o h1 h2 hr hc => hr.keep hcs (fun g hg e => by have := hc g hg; rcases hS g e with z | z <;> omega)
    have keepB : ∀ (v : Value) (l : List UInt8), Bs W v l → (∀ g, bk v = some g → col g = 0) → Bs (w8.setCell ⟨h, 4, none⟩ (.slice A8 (X.outs.length + 1) C8)) v l ∧ ∀ g, bk v = some g → colN W col (c + 4) (.slice none 0 0) g = 0 := fun v l hb hc => ⟨hb.keep hcs (fun g hg e => by have := hc g hg; rcases hS g e with z | z <;> omega), fun g hg => by rw [hcol g (hb.lt hg)]; exact hc g hg⟩
    have hnew : (w8.setCell ⟨h, 4, none⟩ (.slice A8 (X.outs.length + 1) C8)).ownsRow 0 32 5 (.slice A8 (X.outs.length + 1) C8) (Lp ++ [(p, Value.slice A6 p.load.length C6)]).length ((Lp ++ [(p, Value.slice A6 p.load.length C6)]).flatMap cel5) := by
      have hl' : (Lp ++ [(p, Value.slice A6 p.load.length C6)]).length = X.outs.length + 1 := by simp [ll]
      rw [hl', List.flatMap_append]
      refine owns_keep5 ho8 (Chg.setCell (S := fun g => g = h) w8 ⟨h, 4, none⟩ _ rfl) (fun g hg e => ?_)
      obtain ⟨_, z, _⟩ := owns_block5 ho8 hg
      rw [e, hbx] at z; cases z
    have hcn : ∀ g, blk (.slice A8 (X.outs.length + 1) C8) = some g → colN W col (c + 4) (.slice none 0 0) g = c + 4 := fun g hg => by
      rcases hbl g hg with z | z
      · rw [hcol g (l3 g z)]; exact q9 g z
      · exact hnx g z
    have hlk := (q1.keep hcs (fun g e z => by rcases hS g e with y | y <;> (have := z.2; omega))).more (O' := fun g => g < (w8.setCell ⟨h, 4, none⟩ (.slice A8 (X.outs.length + 1) C8)).heap.size ∧ colN W col (c + 4) (.slice none 0 0) g = c) (fun g hg => ⟨hcs.lt_of hg.1, by rw [hcol g hg.1]; exact hg.2⟩) (fun g hg => hg.1)
    have hcel : ∀ x ∈ Lp ++ [(p, Value.slice A6 p.load.length C6)], Bs (w8.setCell ⟨h, 4, none⟩ (.slice A8 (X.outs.length + 1) C8)) x.2 x.1.load ∧ ∀ g, bk x.2 = some g → colN W col (c + 4) (.slice none 0 0) g = 0 := fun x hx => by
      rcases List.mem_append.1 hx with hx | hx
      · exact keepB _ _ (q12 x hx).1 (q12 x hx).2
      · simp at hx; subst hx
        exact keepB _ _ hheld.1 hheld.2
    exact ⟨vs, vt, .slice A8 (X.outs.length + 1) C8, Ls, Lt, Lp ++ [(p, Value.slice A6 p.load.length C6)], hlk, heap_set hbx 4 _, by rw [hcol h lh]; exact q3, keepR vs _ 2 (by decide) (by decide) q4 q5, fun g hg => by rw [hcol g (l1 g hg)]; exact q5 g hg, keepR vt _ 3 (by decide) (by decide) q6 q7, fun g hg => by rw [hcol g (l2 g hg)]; exact q7 g hg, hnew, hcn, fun x hx => keepB _ _ (q10 x hx).1 (q10 x hx).2, fun x hx => keepB _ _ (q11 x hx).1 (q11 x hx).2, hcel, q13, q14, by simp [q15]⟩
end Go.Proofs.Ytpmbkncakbcmbaa
