/- A packet of a side's row; the beginning of a row. -/
import Derived.Test.YtpmbkncakbcmbaaLkU
namespace Go.Proofs.Ytpmbkncakbcmbaa
set_option linter.unusedVariables false
open Go.RowKit
set_option linter.unusedVariables false

theorem cel5_at (l : List (Pkt × Value)) (j : Nat) (hj : j < l.length) (t : Nat) (ht : t < 5) : (l.flatMap cel5)[j * 5 + t]? = (cel5 (l[j]'hj))[t]? := by
  induction l generalizing j with
  | nil => simp at hj
  | cons x l ih =>
    cases j with
    | zero =>
      rw [List.flatMap_cons, List.getElem?_append_left (by simp [cel5]; omega)]
      simp
    | succ j =>
      rw [List.flatMap_cons, List.getElem?_append_right (by simp [cel5]; omega)]
      have := ih j (by simpa using hj)
      rw [show (j + 1) * 5 + t - (cel5 x).length = j * 5 + t by simp [cel5]; omega, this]
      simp
theorem PW.outAt {w W : World} {h h' a a' : Nat} {k k' : Int} {F : Fs} {X Y : Sd} {H : Hs} (m : PW w W h h' a a' k k' F X Y H) {A3 : Option Addr} {n C3 : Nat} (hc : W.cell? ⟨h, 4, none⟩ = some (.slice A3 n C3)) (i : Nat) (hi : i < X.outs.length) :
    ∃ g A C, A3 = some ⟨g, 0, none⟩ ∧ W.cell? ⟨g, i * 5, none⟩ = some (.int .i64 (X.outs[i]'hi).fr) ∧ W.cell? ⟨g, i * 5 + 1, none⟩ = some (.int .i64 (X.outs[i]'hi).to) ∧ W.cell? ⟨g, i * 5 + 2, none⟩ = some (.int .i64 (X.outs[i]'hi).seq) ∧ W.cell? ⟨g, i * 5 + 3, none⟩ = some (.int .i64 (X.outs[i]'hi).ack) ∧ W.cell? ⟨g, i * 5 + 4, none⟩ = some (.slice A (X.outs[i]'hi).load.length C) ∧
      PW w W h h' a a' k k' F X Y ((.slice A (X.outs[i]'hi).load.length C, (X.outs[i]'hi).load) :: H) := by
  obtain ⟨col, c, d, m⟩ := m
  obtain ⟨vs, vt, vo, Ls, Lt, Lp, q⟩ := id m.me
  have ll : Lp.length = X.outs.length := by rw [← q.outs, List.length_map]
  have hi' : i < Lp.length := by omega
  have he : (Lp[i]'hi').1 = X.outs[i]'hi := by
    have : (Lp.map Prod.fst)[i]? = X.outs[i]? := by rw [q.outs]
    rw [List.getElem?_map, List.getElem?_eq_getElem hi', List.getElem?_eq_getElem hi] at this
    simpa using this
  have hx := q.eo _ (List.getElem_mem hi')
  obtain ⟨A, C, e⟩ := bs_form hx.1
  have hv : vo = .slice A3 n C3 := by
    have := cell_at q.box 4
    rw [hc] at this
    simpa using this.symm
  rcases q.ro.2 with ⟨_, z⟩ | ⟨g, cap, cur, hv', hb, hg, hnc, hcm, hcs, ht⟩
  · omega
  rw [hv] at hv'
  cases hv'
  have cell : ∀ t, t < 5 → W.cell? ⟨g, i * 5 + t, none⟩ = (cel5 (Lp[i]'hi'))[t]? := by
    intro t h5
    rw [cell_at hg, ← cel5_at Lp i hi' t h5, ← ht, List.getElem?_take_of_lt (by omega), Array.getElem?_toList]
  rw [← he]
  refine ⟨g, A, C, rfl, ?_, ?_, ?_, ?_, ?_, col, c, d, m.me, m.ot, m.ne, m.low, m.bel, fun x hx' => ?_, m.fx⟩
  · simpa [cel5] using cell 0 (by omega)
  · simpa [cel5] using cell 1 (by omega)
  · simpa [cel5] using cell 2 (by omega)
  · simpa [cel5] using cell 3 (by omega)
  · have := cell 4 (by omega)
    simp only [cel5, e] at this
    simpa using this
  · rcases List.mem_cons.1 hx' with rfl | hx'
    · rw [e] at hx; exact hx
    · exact m.held x hx'
/- A row of rows of bytes that may be read. -/
def Rr (W : World) (v : Value) (l : List (List UInt8)) : Prop := ∃ L : List (List UInt8 × Value), Ro W 30 v (L.map Prod.snd) ∧ (∀ x ∈ L, Bs W x.2 x.1) ∧ L.map Prod.fst = l
theorem Rr.at {W : World} {A : Option Addr} {n C : Nat} {l : List (List UInt8)} (h : Rr W (.slice A n C) l) (i : Nat) (hi : i < l.length) : ∃ g o A' C', A = some ⟨g, o, none⟩ ∧ W.cell? ⟨g, o + i, none⟩ = some (.slice A' (l[i]'hi).length C') ∧ Bs W (.slice A' (l[i]'hi).length C') (l[i]'hi) := by
  obtain ⟨L, h1, h2, h3⟩ := h
  have hi' : i < L.length := by rw [← h3, List.length_map] at hi; exact hi
  have he : (L[i]'hi').1 = l[i]'hi := by
    have : (L.map Prod.fst)[i]? = l[i]? := by rw [h3]
    rw [List.getElem?_map, List.getElem?_eq_getElem hi', List.getElem?_eq_getElem hi] at this
    simpa using this
  have hx := h2 _ (List.getElem_mem hi')
  obtain ⟨A', C', e⟩ := bs_form hx
  obtain ⟨g, o, rfl, hc⟩ := h1.at i (by simpa using hi')
  rw [← he]
  refine ⟨g, o, A', C', rfl, ?_, by rw [e] at hx; exact hx⟩
  rw [hc]
  simp [e]
theorem Rr.below {W W' : World} {v : Value} {l : List (List UInt8)} (h : Rr W v l) (hB : Below W.heap.size W W') : Rr W' v l := by
  obtain ⟨L, h1, h2, h3⟩ := h
  exact ⟨L, h1.keep (Chg.of_below hB) (fun _ _ => id), fun x hx => (h2 x hx).below' hB, h3⟩
theorem PW.rows {w W : World} {h h' a a' : Nat} {k k' : Int} {F : Fs} {X Y : Sd} {H : Hs} (m : PW w W h h' a a' k k' F X Y H) : ∃ vs vt, W.cell? ⟨h, 2, none⟩ = some vs ∧ W.cell? ⟨h, 3, none⟩ = some vt ∧ Rr W vs X.sent ∧ Rr W vt X.told := by
  obtain ⟨col, c, d, m⟩ := m
  obtain ⟨vs, vt, vo, Ls, Lt, Lp, q⟩ := m.me
  exact ⟨vs, vt, cell_at q.box 2, cell_at q.box 3, ⟨Ls, q.rs, fun x hx => (q.es x hx).1, q.sent⟩, ⟨Lt, q.rt, fun x hx => (q.et x hx).1, q.told⟩⟩
theorem Rr.form {W : World} {v : Value} {l : List (List UInt8)} (h : Rr W v l) : ∃ A C, v = .slice A l.length C := by
  obtain ⟨L, h1, _, h3⟩ := h
  obtain ⟨A, C, e⟩ := h1.form
  exact ⟨A, C, by rw [e, List.length_map, ← h3, List.length_map]⟩
set_option maxRecDepth 100000 in
theorem begins_yes {W : World} {va vb : Value} {la lb : List (List UInt8)} (h1 : Rr W va la) (h2 : Rr W vb lb) (hp : la = lb.take la.length) (hz : ∀ x ∈ lb, x.length ≤ 1048576) (hn : la.length ≤ 1000000) :
    Calls Try.prog 28 #[va, vb] W fun e w' => e = .returned (.bool true) ∧ Below W.heap.size W w' := by
  obtain ⟨A, C, rfl⟩ := h1.form
  obtain ⟨B, D, rfl⟩ := h2.form
  have hle : la.length ≤ lb.length := by
    have := congrArg List.length hp
    simp only [List.length_take] at this
    omega
  have H1 : Hid (Rr W (.slice A la.length C) la) := h1
  have H2 : Hid (Rr W (.slice B lb.length D) lb) := h2
  have HP : Hid (∀ i (h : i < la.length) (h' : i < lb.length), la[i]'h = lb[i]'h') := by
    intro i h h'
    have e1 : la[i]? = (lb.take la.length)[i]? := by rw [← hp]
    rw [List.getElem?_take_of_lt h, List.getElem?_eq_getElem h, List.getElem?_eq_getElem h'] at e1
    simpa using e1
  have HZ : Hid (∀ x ∈ lb, x.length ≤ 1048576) := hz
  obtain ⟨n, hN⟩ : ∃ n, n = la.length := ⟨_, rfl⟩
  obtain ⟨m, hM⟩ : ∃ m, m = lb.length := ⟨_, rfl⟩
  have HN : Hid (n = la.length ∧ m = lb.length) := ⟨hN, hM⟩
  rw [← hN] at hn hle ⊢
  rw [← hM] at hle ⊢
  clear hN hM h1 h2 hp hz
  go_enter Try.func28, Try.ntmps28
  have HLE : Hid (n ≤ m) := hle
  have hd : decide (m < n) = false := decide_eq_false (by omega)
  clear hle
  go_wp2_with fail
  go_loopw [5] (fun i wr => ∃ (k : Nat), k ≤ n ∧ i = .int .i64 k ∧ Hid (Below W.heap.size W wr)) (fun i _ => n - (intOf i).toNat)
  case atStart => exact ⟨0, Nat.zero_le _, rfl, Below.refl _ _⟩
  case round =>
    obtain ⟨k, hk, rfl, HB⟩ := hrel
    by_cases hlt : k < n
    · have ha : k < la.length := by have := HN.out.1; omega
      have hb : k < lb.length := by have := HN.out.2; have := HLE.out; omega
      have hkm : k < m := by have := HLE.out; omega
      obtain ⟨g, o, A1, C1, e1, c1, b1⟩ := (H1.out.below HB.out).at k ha
      obtain ⟨g', o', A2, C2, e2, c2, b2⟩ := (H2.out.below HB.out).at k hb
      have hxy := HP.out k ha hb
      obtain ⟨y, hy⟩ : ∃ y, y = lb[k]'hb := ⟨_, rfl⟩
      rw [hxy, ← hy] at c1 b1
      rw [← hy] at c2 b2
      have hyl : y.length ≤ 1048576 := by rw [hy]; exact HZ.out _ (List.getElem_mem hb)
      have hs := same_any b1.drew b2.drew (by omega)
      rw [decide_eq_true rfl] at hs
      subst e1 e2
      have hS0 : wr.cell? ⟨g, o + k, none⟩ = some (.slice A1 y.length C1) ∧ wr.cell? ⟨g', o' + k, none⟩ = some (.slice A2 y.length C2) := ⟨c1, c2⟩
      clear hy hxy b1 b2 c1 c2
      go_wp2_with fail
      go_region_held3 (fun w' => w'.cell? ⟨g, o + k, none⟩ = some (.slice A1 y.length C1) ∧ w'.cell? ⟨g', o' + k, none⟩ = some (.slice A2 y.length C2))
        (first | exact hS0 | exact hS1 | go_keep)
        (first
          | (go_at_call 19; refine hs.mono ?_; rintro e V ⟨rfl, q, hV⟩; have hBV : Below wr.heap.size wr V := (by rw [hV]; exact below_drewN (Below.refl _ _).drew q); have hS1 : V.cell? ⟨g, o + k, none⟩ = some (.slice A1 y.length C1) ∧ V.cell? ⟨g', o' + k, none⟩ = some (.slice A2 y.length C2) := (⟨by rw [World.cell?_of_block (hBV.block g (World.block_lt_of_cell? wr _ hS0.1))]; exact hS0.1, by rw [World.cell?_of_block (hBV.block g' (World.block_lt_of_cell? wr _ hS0.2))]; exact hS0.2⟩); clear hs hV))
      have HB2 : Hid (Below W.heap.size W V) := HB.out.trans (hBV.mono HB.out.size)
      clear hBV hS0 hS1
      go_wp2_with fail
      go_roundw
      case rel => exact ⟨k + 1, by omega, by go_num, HB2⟩
      case measure => simp [intOf]; omega
    · have hkn : k = n := by omega
      subst hkn
      go_wp2_with fail
      go_ret
      exact ⟨rfl, HB.out⟩
end Go.Proofs.Ytpmbkncakbcmbaa
