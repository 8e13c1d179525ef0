/- The contract of OverBytes: it writes over what was lent, and over nothing else. -/
import Derived.Test.YtnonboegnbnepaaDkLb
import Derived.Test.YtnonboegnbnepaaLkN
namespace Go.Proofs.Ytnonboegnbnepaa
open Go.RowKit

def One (g : Nat) : Nat → Prop := fun k => k = g
theorem mark_two (i : Int) (w : World) (hi : 0 ≤ i) (hi' : i < 1000000000000000) :
    Calls Try.prog 34 #[.int .i64 2, .int .i64 i] w fun e w' => e = .returned (.int .i64 (9000027 + i)) ∧ w' = w := by
  go_enter Try.func34, Try.ntmps34
  go_wp2
  go_ret
  exact ⟨rfl, rfl⟩
theorem markB_two (i : Int) (w : World) (hi : 0 ≤ i) (hi' : i < 1000000000000000) :
    Calls Try.prog 29 #[.int .i64 2, .int .i64 i] w fun e w' => e = .returned (.int .u8 (LB.mb (9000027 + i))) ∧ w' = w := by
  have hm := mark_two i w hi hi'
  unfold LB.mb
  generalize 9000027 + i = x at hm ⊢
  go_enter Try.func29, Try.ntmps29
  go_wp2_with fail
  refine hm.mono ?_
  rintro e w' ⟨rfl, rfl⟩
  go_wp2
  go_ret
  exact ⟨rfl, rfl⟩
set_option maxRecDepth 100000 in
set_option maxHeartbeats 1000000 in
theorem over_any (g n : Nat) (l : List UInt8) (w : World) (hL : LB.Lent w g l) (hn : l.length = n) (hm : n ≤ 140737488355000) :
    Calls Try.prog 15 #[.slice (some ⟨g, 0, none⟩) n (n + 12)] w fun e w' => e = .returned (.tuple #[]) ∧ Chg (One g) w w' := by
  have h0 : ∃ cs : Array Value, w.heap[g]? = some (.cells cs 5 (0, 0)) ∧ cs.size = n + 12 := ⟨_, hL, by simp [bv_len, LB.marks_len, hn]⟩
  have H0 : Hid (∃ cs : Array Value, w.heap[g]? = some (.cells cs 5 (0, 0)) ∧ cs.size = n + 12) := h0
  clear h0 hL hn
  go_enter Try.func15, Try.ntmps15
  go_wp2
  go_loopw [3] (fun i wr => ∃ k : Nat, i = .int .i64 k ∧ k ≤ n + 12 ∧ Chg (One g) w wr ∧ ∃ cs : Array Value, wr.heap[g]? = some (.cells cs 5 (0, 0)) ∧ cs.size = n + 12) (fun i _ => n + 12 - (intOf i).toNat)
  case atStart => exact ⟨0, rfl, by omega, Chg.refl _ _, H0.out⟩
  case round =>
    obtain ⟨k, rfl, hk, hc, cs, hg, hs⟩ := hrel
    have HC : Hid (Chg (One g) w wr) := hc
    have HG : Hid (wr.heap[g]? = some (.cells cs 5 (0, 0)) ∧ cs.size = n + 12) := ⟨hg, hs⟩
    by_cases hlt : k < n + 12
    · have ce : wr.cell? ⟨g, k, none⟩ = some (cs[k]'(by omega)) := by rw [cell_at hg]; simp [hs, hlt]
      have cf : wr.frozen? ⟨g, k, none⟩ = false := frozen_at hg k
      generalize cs[k]'(by omega) = x at ce
      have hmk := fun w => markB_two (k : Int) w (by omega) (by omega)
      generalize LB.mb (9000027 + (k : Int)) = B at hmk
      clear hc hg hs
      have HC2 : Hid (Chg (One g) w (wr.setCell ⟨g, k, none⟩ (.int .u8 B)) ∧ ∃ cs : Array Value, (wr.setCell ⟨g, k, none⟩ (.int .u8 B)).heap[g]? = some (.cells cs 5 (0, 0)) ∧ cs.size = n + 12) :=
        ⟨HC.out.trans (Chg.setCell wr ⟨g, k, none⟩ _ rfl), _, heap_set HG.out.1 k _, by rw [Array.size_setIfInBounds]; exact HG.out.2⟩
      go_wp2_with fail
      refine (hmk _).mono ?_
      rintro e w3 ⟨rfl, rfl⟩
      go_wp2
      exact ⟨⟨k + 1, by go_num, by omega, HC2.out.1, HC2.out.2⟩, by simp [intOf]; omega⟩
    · clear hc hg hs
      go_wp2
      go_end0
      exact ⟨rfl, HC.out⟩
/- A packet out of a block. -/
theorem pk_end {fn : Func} {a : Tmp} (hres : fn.results = #[.cell a 32]) {w9 : World} {act : Act} {bx : Nat} {p : Pkt} {A : Option Addr} {C : Nat} {Q : Ending → World → Prop} (ht : act.tmps.getD a undef = .pointer (some ⟨bx, 0, none⟩))
    (hx : w9.heap[bx]? = some (.cells #[.int .i64 p.fr, .int .i64 p.to, .int .i64 p.seq, .int .i64 p.ack, .slice A p.load.length C] 32 (0, 0))) (h : Q (.returned (pkV p A C)) w9) (hd : act.defers = [] := by rfl) : bodyPost Try.prog fn Q Exit.ret act w9 := by
  have y0 := cell_at hx 0
  have y1 := cell_at hx 1
  have y2 := cell_at hx 2
  have y3 := cell_at hx 3
  have y4 := cell_at hx 4
  simp at y0 y1 y2 y3 y4
  have ht' : act.tmps[a]?.getD undef = .pointer (some ⟨bx, 0, none⟩) := by simpa using ht
  exact bodyPost_ret (v := pkV p A C) (by simp [results, hres, ht', go_sem, y0, y1, y2, y3, y4, pkV]) hd h
theorem Lent.chg {S : Nat → Prop} {w w' : World} {g : Nat} {l : List UInt8} (h : LB.Lent w g l) (hc : Chg S w w') (hn : ¬ S g) : LB.Lent w' g l := by
  unfold LB.Lent at *
  rw [hc.block g (heap_lt h) hn]; exact h
theorem Lent.lt {w : World} {g : Nat} {l : List UInt8} (h : LB.Lent w g l) : g < w.heap.size := heap_lt h
/- Packets that are lent. -/
set_option maxRecDepth 100000 in
theorem lentPk_any {w : World} {p : Pkt} {A : Option Addr} {C : Nat} (hx : Bs w (.slice A p.load.length C) p.load) (hm : p.load.length ≤ 140737488355000) :
    Calls Try.prog 16 #[pkV p A C] w fun e w' => ∃ g, e = .returned (pkV p (some ⟨g, 0, none⟩) (p.load.length + 12)) ∧ w.heap.size ≤ g ∧ LB.Lent w' g p.load ∧ Below w.heap.size w w' := by
  obtain ⟨W, hW⟩ : ∃ W, W = (w.alloc (.cells #[.int .i64 p.fr, .int .i64 p.to, .int .i64 p.seq, .int .i64 p.ack, .slice A p.load.length C] 32)).alloc (.cells #[.int .i64 0, .int .i64 0, .int .i64 0, .int .i64 0, .slice none 0 0] 32) := ⟨_, rfl⟩
  have hBW : Below w.heap.size w W := by rw [hW]; exact below2 _ _ _
  have hP : W.heap[w.heap.size]? = some (.cells #[.int .i64 p.fr, .int .i64 p.to, .int .i64 p.seq, .int .i64 p.ack, .slice A p.load.length C] 32 (0, 0)) := by
    rw [hW, Below.heap_alloc _ _ _ (by simp)]; exact heap_alloc_new w _
  have hQ : W.heap[w.heap.size + 1]? = some (.cells #[.int .i64 0, .int .i64 0, .int .i64 0, .int .i64 0, .slice none 0 0] 32 (0, 0)) := by
    have := heap_alloc_new (w.alloc (.cells #[.int .i64 p.fr, .int .i64 p.to, .int .i64 p.seq, .int .i64 p.ack, .slice A p.load.length C] 32)) (.cells #[.int .i64 0, .int .i64 0, .int .i64 0, .int .i64 0, .slice none 0 0] 32)
    rw [hW]; simpa using this
  have hle := LB.lent_any (hx.below' hBW) hm
  have HP : Hid (W.heap[w.heap.size]? = some (.cells #[.int .i64 p.fr, .int .i64 p.to, .int .i64 p.seq, .int .i64 p.ack, .slice A p.load.length C] 32 (0, 0)) ∧ W.heap[w.heap.size + 1]? = some (.cells #[.int .i64 0, .int .i64 0, .int .i64 0, .int .i64 0, .slice none 0 0] 32 (0, 0)) ∧ Below w.heap.size w W) := ⟨hP, hQ, hBW⟩
  obtain ⟨g0, hg0⟩ : ∃ g0, g0 = W.heap.size := ⟨_, rfl⟩
  rw [← hg0] at hle
  have HG0 : Hid (g0 = W.heap.size) := hg0
  rw [hW] at hle
  unfold pkV
  clear hx hP hQ hBW hg0
  go_enter Try.func16, Try.ntmps16
  go_wp2_with fail
  refine hle.mono ?_
  rintro e w1 ⟨rfl, hL, hB⟩
  rw [← hW] at hB
  obtain ⟨bx, hbx⟩ : ∃ bx, bx = w.heap.size := ⟨_, rfl⟩
  obtain ⟨rb, hrb⟩ : ∃ rb, rb = w.heap.size + 1 := ⟨_, rfl⟩
  have HP1 : Hid (w1.heap[bx]? = some (.cells #[.int .i64 p.fr, .int .i64 p.to, .int .i64 p.seq, .int .i64 p.ack, .slice A p.load.length C] 32 (0, 0))) := by unfold Hid; rw [hbx, hB.block _ (by rw [HG0.out]; exact heap_lt HP.out.1)]; exact HP.out.1
  have HQ1 : Hid (w1.heap[rb]? = some (.cells #[.int .i64 0, .int .i64 0, .int .i64 0, .int .i64 0, .slice none 0 0] 32 (0, 0))) := by unfold Hid; rw [hrb, hB.block _ (by rw [HG0.out]; exact heap_lt HP.out.2.1)]; exact HP.out.2.1
  have HB1 : Hid (Below w.heap.size w w1) := HP.out.2.2.trans (hB.mono (by rw [HG0.out]; exact HP.out.2.2.size))
  have HL : Hid (LB.Lent w1 g0 p.load) := hL
  have HNE : Hid (g0 ≠ bx ∧ g0 ≠ rb ∧ w.heap.size ≤ g0 ∧ w.heap.size ≤ bx ∧ w.heap.size ≤ rb) := by
    have h1 := heap_lt HP.out.1
    have h2 := heap_lt HP.out.2.1
    have h3 := HG0.out
    exact ⟨by omega, by omega, by omega, by omega, by omega⟩
  have hne : ¬ rb = bx := by omega
  rw [← hrb, ← hbx]
  clear hle hW HP HG0 hL hB hbx hrb
  have q0 := cell_at HP1.out 0
  have q1 := cell_at HP1.out 1
  have q2 := cell_at HP1.out 2
  have q3 := cell_at HP1.out 3
  have q4 := cell_at HP1.out 4
  have f4 := frozen_at HP1.out
  have x0 := cell_at HQ1.out 0
  have x1 := cell_at HQ1.out 1
  have x2 := cell_at HQ1.out 2
  have x3 := cell_at HQ1.out 3
  have x4 := cell_at HQ1.out 4
  have fx := frozen_at HQ1.out
  simp at q0 q1 q2 q3 q4 x0 x1 x2 x3 x4
  go_wp2_with fail
  have H9 := set_all (w := w1.setCell ⟨bx, 4, none⟩ (.slice (some ⟨g0, 0, none⟩) p.load.length (p.load.length + 12))) (n := rb) (by rw [Below.heap_setCell w1 ⟨bx, 4, none⟩ _ rb (fun e => by simp at e; exact hne e)]; exact HQ1.out) (.int .i64 p.fr) (.int .i64 p.to) (.int .i64 p.seq) (.int .i64 p.ack) (.slice (some ⟨g0, 0, none⟩) p.load.length (p.load.length + 12))
  have hC := (Chg.setCell (S := fun g => g = bx ∨ g = rb) w1 ⟨bx, 4, none⟩ (.slice (some ⟨g0, 0, none⟩) p.load.length (p.load.length + 12)) (.inl rfl)).trans (H9.2.weak fun g _ e => .inr e)
  exact pk_end Try.results16 rfl H9.1 ⟨g0, rfl, HNE.out.2.2.1, Lent.chg HL.out hC (fun e => e.elim HNE.out.1 HNE.out.2.1), HB1.out.trans (hC.below (fun k hk => by rcases hk with rfl | rfl; exact HNE.out.2.2.2.1; exact HNE.out.2.2.2.2) HB1.out.size)⟩
set_option maxRecDepth 100000 in
theorem keptPk_any {w : World} {p : Pkt} {A : Option Addr} {C g : Nat} (hL : LB.Lent w g p.load) (hx : Bs w (.slice A p.load.length C) p.load) (hm : p.load.length ≤ 140737488355000) :
    Calls Try.prog 20 #[pkV p (some ⟨g, 0, none⟩) (p.load.length + 12), pkV p A C] w fun e w' => e = .returned (.bool true) ∧ Below w.heap.size w w' := by
  obtain ⟨W, hW⟩ : ∃ W, W = (w.alloc (.cells #[.int .i64 p.fr, .int .i64 p.to, .int .i64 p.seq, .int .i64 p.ack, .slice (some ⟨g, 0, none⟩) p.load.length (p.load.length + 12)] 32)).alloc (.cells #[.int .i64 p.fr, .int .i64 p.to, .int .i64 p.seq, .int .i64 p.ack, .slice A p.load.length C] 32) := ⟨_, rfl⟩
  have hBW : Below w.heap.size w W := by rw [hW]; exact below2 _ _ _
  have hP : W.heap[w.heap.size]? = some (.cells #[.int .i64 p.fr, .int .i64 p.to, .int .i64 p.seq, .int .i64 p.ack, .slice (some ⟨g, 0, none⟩) p.load.length (p.load.length + 12)] 32 (0, 0)) := by
    rw [hW, Below.heap_alloc _ _ _ (by simp)]; exact heap_alloc_new w _
  have hQ : W.heap[w.heap.size + 1]? = some (.cells #[.int .i64 p.fr, .int .i64 p.to, .int .i64 p.seq, .int .i64 p.ack, .slice A p.load.length C] 32 (0, 0)) := by
    have := heap_alloc_new (w.alloc (.cells #[.int .i64 p.fr, .int .i64 p.to, .int .i64 p.seq, .int .i64 p.ack, .slice (some ⟨g, 0, none⟩) p.load.length (p.load.length + 12)] 32)) (.cells #[.int .i64 p.fr, .int .i64 p.to, .int .i64 p.seq, .int .i64 p.ack, .slice A p.load.length C] 32)
    rw [hW]; simpa using this
  have hsp := samePk_eq ((hL.bs).below' hBW) (hx.below' hBW) (by omega)
  have HP : Hid (W.heap[w.heap.size]? = some (.cells #[.int .i64 p.fr, .int .i64 p.to, .int .i64 p.seq, .int .i64 p.ack, .slice (some ⟨g, 0, none⟩) p.load.length (p.load.length + 12)] 32 (0, 0)) ∧ W.heap[w.heap.size + 1]? = some (.cells #[.int .i64 p.fr, .int .i64 p.to, .int .i64 p.seq, .int .i64 p.ack, .slice A p.load.length C] 32 (0, 0)) ∧ Below w.heap.size w W) := ⟨hP, hQ, hBW⟩
  have HL : Hid (∀ W', Below w.heap.size w W' → LB.Lent W' g p.load ∧ Bs W' (.slice A p.load.length C) p.load) := fun W' hB => ⟨hL.below hB, hx.below' hB⟩
  unfold pkV at hsp ⊢
  rw [hW] at hsp
  clear hL hx hP hQ hBW
  go_enter Try.func20, Try.ntmps20
  go_wp2_with fail
  refine hsp.mono ?_
  rintro e w1 ⟨rfl, hB⟩
  rw [← hW] at hB
  have HB1 : Hid (Below w.heap.size w w1) := HP.out.2.2.trans (hB.mono HP.out.2.2.size)
  have hkp := LB.kept_any g p.load.length (.slice A p.load.length C) p.load w1 (HL.out w1 HB1.out).1 (HL.out w1 HB1.out).2 rfl hm
  have x4 := cell_at (show w1.heap[w.heap.size]? = _ by rw [hB.block _ (heap_lt HP.out.1)]; exact HP.out.1) 4
  have y4 := cell_at (show w1.heap[w.heap.size + 1]? = _ by rw [hB.block _ (heap_lt HP.out.2.1)]; exact HP.out.2.1) 4
  simp at x4 y4
  clear hsp hW hB HP HL
  go_wp2_with fail
  refine hkp.mono ?_
  rintro e w2 ⟨rfl, q, rfl⟩
  go_wp2_with fail
  go_ret
  exact ⟨rfl, below_drewN HB1.out q⟩
end Go.Proofs.Ytnonboegnbnepaa
