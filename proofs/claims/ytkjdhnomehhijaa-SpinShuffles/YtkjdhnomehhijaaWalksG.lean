/- The contract of Shuffle. -/
import Derived.Test.YtkjdhnomehhijaaWalksF
import Derived.Laws.CopyOwn
import Derived.RegionTactic
import Derived.BigRegion
namespace Go.Proofs.Ytkjdhnomehhijaa
open Go.RowKit

def swap (l : List Int) (i j : Nat) : List Int := (l.set i (l.getD j 0)).set j (l.getD i 0)
theorem swap_len (l : List Int) (i j : Nat) : (swap l i j).length = l.length := by simp [swap]
/-- A list shuffled from place m down to 1. -/
def shuf : Nat → Int × Int → List Int → (Int × Int) × List Int
  | 0, z, l => (z, l)
  | m + 1, z, l => shuf m (turn z) (swap l (m + 1) (nx z ((m : Int) + 1 + 1)).toNat)
theorem shuf_len (m : Nat) : ∀ z l, (shuf m z l).2.length = l.length := by
  induction m with
  | zero => intro z l; rfl
  | succ m ih => intro z l; rw [shuf, ih, swap_len]
theorem shuf_rt (m : Nat) : ∀ z l, Rt z → Rt (shuf m z l).1 := by
  induction m with
  | zero => intro z l h; exact h
  | succ m ih => intro z l _; rw [shuf]; exact ih _ _ (rt_turn z)

/-- A block that holds the numbers l, and nothing else. -/
def RowAt (w : World) (g : Nat) (l : List Int) : Prop := w.heap[g]? = some (.cells (l.map (Value.int .i64)).toArray 3 (0, 0))
theorem RowAt.cell {w : World} {g : Nat} {l : List Int} (h : RowAt w g l) (k : Nat) (hk : k < l.length) : w.cell? ⟨g, k, none⟩ = some (.int .i64 (l.getD k 0)) := by
  rw [cell_of_row w g k _ _ _ h]
  simp [hk]
theorem RowAt.thaw {w : World} {g : Nat} {l : List Int} (h : RowAt w g l) (k : Nat) : w.frozen? ⟨g, k, none⟩ = false := frozen_of_row w g k _ _ h
theorem RowAt.lt {w : World} {g : Nat} {l : List Int} (h : RowAt w g l) : g < w.heap.size := by
  rcases Nat.lt_or_ge g w.heap.size with h1 | h1
  · exact h1
  · unfold RowAt at h; rw [Array.getElem?_eq_none h1] at h; cases h
theorem RowAt.keep {w w' : World} {g r : Nat} {l : List Int} (h : RowAt w g l) (hg : w.grownBy w' (some r)) (hr : g ≠ r) : RowAt w' g l := by
  have hlt := h.lt
  unfold RowAt at *
  rw [hg.block g hlt (by simpa using hr)]; exact h
theorem RowAt.keepNone {w w' : World} {g : Nat} {l : List Int} (h : RowAt w g l) (hg : w.grownBy w' none) : RowAt w' g l := by
  have hlt := h.lt
  unfold RowAt at *
  rw [hg.block g hlt (by simp)]; exact h
theorem RowAt.set {w : World} {g : Nat} {l : List Int} (h : RowAt w g l) (k : Nat) (x : Int) : RowAt (w.setCell ⟨g, k, none⟩ (.int .i64 x)) g (l.set k x) := by
  have := heap_setCell_same w g k _ _ (.int .i64 x) h
  unfold RowAt
  rw [this]
  simp [List.map_set]
theorem RowAt.swap {w : World} {g : Nat} {l : List Int} (h : RowAt w g l) (i j : Nat) : RowAt ((w.setCell ⟨g, i, none⟩ (.int .i64 (l.getD j 0))).setCell ⟨g, j, none⟩ (.int .i64 (l.getD i 0))) g (swap l i j) := (h.set i _).set j _
theorem RowAt.lies {w : World} {g : Nat} {l : List Int} (h : RowAt w g l) : Lies w (some ⟨g, 0, none⟩) l := by
  intro k hk
  refine ⟨g, 0, rfl, ?_⟩
  rw [Nat.zero_add, h.cell k hk]
  simp [hk]
theorem SpinAt.lt {w : World} {g : Nat} {z : Int × Int} (h : SpinAt w g z) : g < w.heap.size := by
  rcases Nat.lt_or_ge g w.heap.size with h1 | h1
  · exact h1
  · unfold SpinAt at h; rw [Array.getElem?_eq_none h1] at h; cases h
theorem SpinAt.keep {w w' : World} {g : Nat} {z : Int × Int} {r : Option Nat} (h : SpinAt w g z) (hg : w.grownBy w' r) (hr : some g ≠ r) : SpinAt w' g z := by
  have hlt := h.lt
  unfold SpinAt at *
  rw [hg.block g hlt hr]; exact h
theorem RefAt.lt {w : World} {g : Nat} {z : Int × Int} (h : RefAt w g z) : g < w.heap.size := by
  rcases Nat.lt_or_ge g w.heap.size with h1 | h1
  · exact h1
  · unfold RefAt at h; rw [Array.getElem?_eq_none h1] at h; cases h
theorem RefAt.keep {w w' : World} {g : Nat} {z : Int × Int} {r : Option Nat} (h : RefAt w g z) (hg : w.grownBy w' r) (hr : some g ≠ r) : RefAt w' g z := by
  have hlt := h.lt
  unfold RefAt at *
  rw [hg.block g hlt hr]; exact h
theorem below_grown {w w' : World} (h : Below w.heap.size w w') (r : Option Nat) : w.grownBy w' r := ⟨h.os, h.tape, h.output, h.size, fun k hk _ => h.block k hk⟩
theorem grown_below {w w' : World} (h : w.grownBy w' none) : Below w.heap.size w w' := ⟨h.os, h.tape, h.output, h.size, fun k hk => h.block k hk (by simp)⟩
theorem grown_any {w w' : World} (h : w.grownBy w' none) (r : Option Nat) : w.grownBy w' r := ⟨h.os, h.tape, h.output, h.size, fun k hk _ => h.block k hk (by simp)⟩
/-- A step that writes block g alone, where g is new. -/
theorem grown_new {a b c : World} {g : Nat} {r : Option Nat} (h : a.grownBy b r) (k : b.grownBy c (some g)) (hg : a.heap.size ≤ g) : a.grownBy c r :=
  ⟨k.os.trans h.os, k.tape.trans h.tape, k.output.trans h.output, Nat.le_trans h.size k.size, fun x hx hr => (k.block x (Nat.lt_of_lt_of_le hx h.size) (by simp; omega)).trans (h.block x hx hr)⟩

theorem set_some {w : World} {p q : Addr} {x v : Value} (h : w.cell? q = some v) : ∃ v', (w.setCell p x).cell? q = some v' := by
  by_cases e : p = q
  · subst e; exact ⟨x, World.cell?_setCell_same _ _ _ h⟩
  · exact ⟨v, by rw [World.cell?_setCell_other _ _ _ _ e]; exact h⟩
theorem made_list (n : Nat) : (madeCells (Value.int .i64 0).cells (n * 1)).toList = List.replicate n (Value.int .i64 0) := by
  rw [Nat.mul_one]; exact toList_madeCells_one _ _
theorem row_of_owns {w : World} {base g n : Nat} {xs : List Value} (h : w.ownsRow base 3 1 (.slice (some ⟨g, 0, none⟩) n n) n xs) : w.heap[g]? = some (.cells xs.toArray 3 (0, 0)) := by
  rcases h.2 with ⟨h0, _⟩ | ⟨g', cap, cur, hv, hb, hg, hnc, hcm, hcs, ht⟩
  · cases h0
  · cases hv
    rw [List.take_of_length_le (by simp; omega)] at ht
    rw [← ht, hg]
theorem splice_all (n : Nat) (l : List Int) (h : l.length = n) : splice (List.replicate n (Value.int .i64 0)) 0 (l.map (Value.int .i64)) = l.map (Value.int .i64) := by
  simp [splice, h]
theorem lies_pos {w : World} {a : Option Addr} {l : List Int} (h : Lies w a l) (hp : 0 < (l.map (Value.int .i64)).length) : ∃ ad, a = some ad ∧ ∀ j v, (l.map (Value.int .i64))[j]? = some v → w.cell? (ad.add j) = some v := by
  obtain ⟨b, o, e, _⟩ := h 0 (by simpa using hp)
  subst e
  exact ⟨_, rfl, h.news⟩

/-- A round of shuffling, at place k + 1. -/
theorem shuf_step (K : Nat) (hK : 1 ≤ K) (z : Int × Int) (l : List Int) (j : Nat) (hj : nx z ((K : Int) + 1) = j) : shuf K z l = shuf (K - 1) (turn z) (swap l K j) := by
  obtain ⟨k, rfl⟩ : ∃ k, K = k + 1 := ⟨K - 1, by omega⟩
  rw [show (((k + 1 : Nat) : Int) + 1) = (k : Int) + 1 + 1 by omega] at hj
  rw [shuf, hj]; rfl

set_option maxRecDepth 100000 in
set_option maxHeartbeats 1000000 in
theorem shuffle_any (z : Int × Int) (b n : Nat) (a : Option Addr) (c : Nat) (l : List Int) (w : World) (hz : Rt z) (hs : SpinAt w b z) (hA : Lies w a l) (hn : l.length = n) (hm : n ≤ 1000000) :
    Calls Try.prog 15 #[.pointer (some ⟨b, 0, none⟩), .slice a n c] w fun e w' => e = .returned (.slice (some ⟨w.heap.size, 0, none⟩) n n) ∧ RowAt w' w.heap.size (shuf (n - 1) z l).2 ∧ SpinAt w' b (shuf (n - 1) z l).1 ∧ w.grownBy w' (some b) := by
  obtain ⟨i0, hi, hz0, hz1, hz2⟩ := info_parts Try.info3
  have hsz : (Try.prog.info? 3).map (·.size) = some 1 := by rw [hi]; simp [hz1]
  have HS : Hid (SpinAt w b z) := hs
  have HA : Hid (Lies w a l) := hA
  have HN : Hid (l.length = n) := hn
  have hb1 := hs.cell1
  have hbs := hs.lt
  clear hs hA hn
  go_enter Try.func15, Try.ntmps15
  go_wp2_with (first | (go_at_call 29; refine (there_yes _ _ (by assumption)).mono ?_; rintro e w' ⟨rfl, rfl⟩) | (at_make; refine wpList_make_full _ rfl _ _ 22 rfl w'.heap.size 3 i0 (.int .i64 0) 1 Try.underlying22 hi hz0 hz1 .i64 .i64 _ _ n rfl rfl rfl rfl (by rw [hz2]; omega) (by unfold maxLen; omega) (Nat.le_refl _) ?_; intro w1 hown1 hgrow1; rw [made_list] at hown1) | (refine wpList_copy_splice rfl (.tmp 14) (.tmp 15) 22 22 rfl 3 Try.underlying22 hsz _ _ _ _ _ _ rfl rfl w'.heap.size 0 (List.replicate n (Value.int .i64 0)) 3 (row_of_owns hown1) (l.map (Value.int .i64)) (by have := HN.out; simp; omega) (fun hp => ⟨rfl, lies_pos (HA.out.keep hgrow1) hp⟩) (by have := HN.out; simp; omega) (ints_one l) w'.heap.size w' (grown_below hgrow1) (Nat.le_refl _) ?_; intro w2 HR2 hB2))
  have R2 : RowAt w2 w'.heap.size l := by
    have := HR2.out
    rw [splice_all n l HN.out] at this
    exact this
  have S2 : SpinAt w2 b z := HS.out.keep (below_grown hB2 none) (by simp)
  have G2 : w'.grownBy w2 (some b) := below_grown hB2 _
  clear HR2 hB2 hown1 hgrow1 hb1
  have HR : Hid (RowAt w2 w'.heap.size l) := R2
  have HS2 : Hid (SpinAt w2 b z) := S2
  have HG2 : Hid (w'.grownBy w2 (some b)) := G2
  clear R2 S2 G2
  go_loopw [6] (fun i wr => ∃ (m : Int) (zk : Int × Int) (lk : List Int), i = .int .i64 m ∧ -1 ≤ m ∧ m < n ∧ lk.length = n ∧ shuf m.toNat zk lk = shuf (n - 1) z l ∧ Rt zk ∧ RowAt wr w'.heap.size lk ∧ SpinAt wr b zk ∧ w'.grownBy wr (some b)) (fun i _ => (intOf i + 1).toNat)
  case atStart => exact ⟨(n : Int) - 1, z, l, rfl, by omega, by omega, HN.out, by rw [show ((n : Int) - 1).toNat = n - 1 by omega], hz, HR.out, HS2.out, HG2.out⟩
  case round =>
    obtain ⟨m, zk, lk, rfl, hm1, hm2, hlen, hsh, hzk, hrow, hsp, hgr⟩ := hrel
    clear HR HS2 HG2
    have HR : Hid (RowAt wr w'.heap.size lk) := hrow
    have HP : Hid (SpinAt wr b zk) := hsp
    have HG : Hid (w'.grownBy wr (some b)) := hgr
    have HH : Hid (shuf m.toNat zk lk = shuf (n - 1) z l) := hsh
    have HL : Hid (lk.length = n) := hlen
    clear hrow hsp hgr hsh hlen
    by_cases h1 : 1 ≤ m
    · obtain ⟨K, rfl⟩ : ∃ K : Nat, m = (K : Int) := ⟨m.toNat, by omega⟩
      have nb := nx_bounds zk ((K : Int) + 1) (by omega)
      obtain ⟨j, hj⟩ : ∃ j : Nat, nx zk ((K : Int) + 1) = (j : Int) := ⟨(nx zk ((K : Int) + 1)).toNat, by omega⟩
      rw [hj] at nb
      obtain ⟨_, nb2⟩ := nb
      have N := nextC zk ((K : Int) + 1) b wr hzk HP.out
      rw [hj] at N
      have HJ : Hid (nx zk ((K : Int) + 1) = (j : Int)) := hj
      have HC : Hid (Calls Try.prog 11 #[.pointer (some ⟨b, 0, none⟩), .int .i64 ((K : Int) + 1)] wr fun e w' => e = .returned (.int .i64 (j : Int)) ∧ SpinAt w' b (turn zk) ∧ wr.grownBy w' (some b)) := N
      clear N hj
      go_wp2_with (first | (go_at_call 11; refine HC.out.mono ?_; rintro e w3 ⟨rfl, hs3, hg3⟩))
      have R3 : RowAt w3 w'.heap.size lk := HR.out.keep hg3 (by omega)
      obtain ⟨x, hx⟩ : ∃ x, x = lk.getD K 0 := ⟨_, rfl⟩
      obtain ⟨y, hy⟩ : ∃ y, y = lk.getD j 0 := ⟨_, rfl⟩
      have hKn : K < n := by omega
      have hjn : j < n := by omega
      have ck : w3.cell? ⟨w'.heap.size, K, none⟩ = some (.int .i64 x) := by rw [hx]; exact R3.cell K (by have := HL.out; omega)
      have cj : w3.cell? ⟨w'.heap.size, j, none⟩ = some (.int .i64 y) := by rw [hy]; exact R3.cell j (by have := HL.out; omega)
      have fk := R3.thaw K
      have fj := R3.thaw j
      obtain ⟨v', hv'⟩ := set_some (p := ⟨w'.heap.size, K, none⟩) (x := .int .i64 y) cj
      have W4 : Hid (RowAt ((w3.setCell ⟨w'.heap.size, K, none⟩ (.int .i64 y)).setCell ⟨w'.heap.size, j, none⟩ (.int .i64 x)) w'.heap.size (swap lk K j)) := by
        rw [hx, hy]; exact R3.swap K j
      have S4 : Hid (SpinAt ((w3.setCell ⟨w'.heap.size, K, none⟩ (.int .i64 y)).setCell ⟨w'.heap.size, j, none⟩ (.int .i64 x)) b (turn zk)) :=
        (hs3.keep (grownBy_set _ _ _ _) (by simp; omega)).keep (grownBy_set _ _ _ _) (by simp; omega)
      have G4 : Hid (w'.grownBy ((w3.setCell ⟨w'.heap.size, K, none⟩ (.int .i64 y)).setCell ⟨w'.heap.size, j, none⟩ (.int .i64 x)) (some b)) :=
        grown_new (grown_new (grownBy_trans HG.out hg3) (grownBy_set _ _ _ _) (Nat.le_refl _)) (grownBy_set _ _ _ _) (Nat.le_refl _)
      clear hx hy R3 hs3 hg3 HR HP HG HC
      go_region
      all_goals (try go_wp2)
      all_goals
        go_roundw
        case rel =>
          have hh := HH.out
          rw [Int.toNat_natCast, shuf_step K (by omega) zk lk j HJ.out] at hh
          exact ⟨(K : Int) - 1, turn zk, swap lk K j, rfl, by omega, by omega, by rw [swap_len]; exact HL.out, by rw [show ((K : Int) - 1).toNat = K - 1 by omega]; exact hh, rt_turn _, W4.out, S4.out, grownBy_drewN G4.out 1⟩
        case measure => simp [intOf]
    · go_wp2
      go_ret
      have e0 : m.toNat = 0 := by omega
      have hh := HH.out
      rw [e0, shuf] at hh
      rw [← hh]
      exact ⟨rfl, HR.out, HP.out, HG.out⟩

theorem owns_set {w : World} {base g n cap : Nat} {l : List Int} (h : w.ownsRow base 3 1 (.slice (some ⟨g, 0, none⟩) n cap) n (l.map (Value.int .i64))) (k : Nat) (x : Int) :
    (w.setCell ⟨g, k, none⟩ (.int .i64 x)).ownsRow base 3 1 (.slice (some ⟨g, 0, none⟩) n cap) n ((l.set k x).map (Value.int .i64)) := by
  have := (World.ownsRow.stored h k (.int .i64 x)).1
  rw [List.map_set]; exact this
theorem owns_cell {w : World} {base g n cap : Nat} {l : List Int} (h : w.ownsRow base 3 1 (.slice (some ⟨g, 0, none⟩) n cap) n (l.map (Value.int .i64))) (k : Nat) (hk : k < n) : w.cell? ⟨g, k, none⟩ = some (.int .i64 (l.getD k 0)) := by
  have hl : l.length = n := by simpa using h.1
  rw [World.ownsRow.cellAt h k (by omega)]
  have : k < l.length := by omega
  simp [this]
theorem owns_lt {w : World} {base g n cap : Nat} {xs : List Value} (h : w.ownsRow base 3 1 (.slice (some ⟨g, 0, none⟩) n cap) n xs) : base ≤ g ∧ g < w.heap.size := h.lt g rfl

theorem own_form {w1 : World} {base n : Nat} {v1 : Value} {xs : List Value} (h : w1.ownsRow base 3 1 v1 (0 + n) ([] ++ xs)) (hn : v1 ≠ .slice none 0 0) : ∃ g cap, v1 = .slice (some ⟨g, 0, none⟩) n cap ∧ w1.ownsRow base 3 1 (.slice (some ⟨g, 0, none⟩) n cap) n xs := by
  rw [Nat.zero_add, List.nil_append] at h
  rcases h.2 with ⟨h0, _⟩ | ⟨g, cap, cur, hv, _⟩
  · exact absurd h0 hn
  · exact ⟨g, cap, hv, hv ▸ h⟩

set_option maxRecDepth 100000 in
set_option maxHeartbeats 1000000 in
theorem refShuffle_some (z : Int × Int) (b n : Nat) (ad : Addr) (c : Nat) (l : List Int) (w : World) (hz : Rt z) (hs : RefAt w b z) (hA : Lies w (some ad) l) (hn : l.length = n) (hm : n ≤ 1000000) :
    Calls Try.prog 16 #[.pointer (some ⟨b, 0, none⟩), .slice (some ad) n c] w fun e w' => ∃ g cap, e = .returned (.slice (some ⟨g, 0, none⟩) n cap) ∧ w'.ownsRow w.heap.size 3 1 (.slice (some ⟨g, 0, none⟩) n cap) n ((shuf (n - 1) z l).2.map (Value.int .i64)) ∧ RefAt w' b (shuf (n - 1) z l).1 ∧ w.grownBy w' (some b) := by
  obtain ⟨i0, hi, hz0, hz1, hz2⟩ := info_parts Try.info3
  have HS : Hid (RefAt w b z) := hs
  have HA : Hid (Lies w (some ad) l) := hA
  have HN : Hid (l.length = n) := hn
  have hbs := hs.lt
  clear hs hA hn
  go_enter Try.func16, Try.ntmps16
  go_wp2_with (first | (at_builtin; (refine wpList_append_own _ rfl (.tmp 9) (.tmp 10) 22 rfl w.heap.size 3 i0 (.int .i64 0) 1 8 Try.underlying22 hi hz0 hz1 hz2 rfl (by decide) (.slice (some ⟨w.heap.size, 0, none⟩) 0 0) 0 [] rfl (World.ownsRow_lit w #[] 0 (Nat.le_refl _) (by unfold maxLen; omega) rfl) ad n c (l.map (Value.int .i64)) rfl (by have := HN.out; simp; omega) (HA.out.keep (World.grownBy_alloc w _ none)).news (ints_one l) (by unfold maxLen; omega) (by omega) (by simp) ?_); intro v1 w1 hown1 hgrow1 hnil1; obtain ⟨g, cap, rfl, own⟩ := own_form hown1 (by intro h; simpa using (hnil1.1 h).1); clear hown1 hnil1))
  have HO : Hid (w1.ownsRow w.heap.size 3 1 (.slice (some ⟨g, 0, none⟩) n cap) n (l.map (Value.int .i64))) := own
  have HG1 : Hid (w.grownBy w1 (some b)) := grown_new (grown_any (World.grownBy_alloc w _ none) _) hgrow1 (Nat.le_refl _)
  have HS1 : Hid (RefAt w1 b z) := HS.out.keep (grown_new (World.grownBy_alloc w _ none) hgrow1 (Nat.le_refl _)) (by simp)
  have hg0 := (owns_lt own).1
  clear own hgrow1
  go_loopw [6] (fun i wr => ∃ (m : Int) (zk : Int × Int) (lk : List Int), i = .int .i64 m ∧ -1 ≤ m ∧ m < n ∧ lk.length = n ∧ shuf m.toNat zk lk = shuf (n - 1) z l ∧ Rt zk ∧ wr.ownsRow w.heap.size 3 1 (.slice (some ⟨g, 0, none⟩) n cap) n (lk.map (Value.int .i64)) ∧ RefAt wr b zk ∧ w.grownBy wr (some b)) (fun i _ => (intOf i + 1).toNat)
  case atStart => exact ⟨(n : Int) - 1, z, l, rfl, by omega, by omega, HN.out, by rw [show ((n : Int) - 1).toNat = n - 1 by omega], hz, HO.out, HS1.out, HG1.out⟩
  case round =>
    obtain ⟨m, zk, lk, rfl, hm1, hm2, hlen, hsh, hzk, hrow, hsp, hgr⟩ := hrel
    clear HO HS1 HG1
    have HR : Hid (wr.ownsRow w.heap.size 3 1 (.slice (some ⟨g, 0, none⟩) n cap) n (lk.map (Value.int .i64))) := hrow
    have HP : Hid (RefAt wr b zk) := hsp
    have HG : Hid (w.grownBy wr (some b)) := hgr
    have HH : Hid (shuf m.toNat zk lk = shuf (n - 1) z l) := hsh
    have HL : Hid (lk.length = n) := hlen
    clear hrow hsp hgr hsh hlen
    by_cases h1 : 1 ≤ m
    · obtain ⟨K, rfl⟩ : ∃ K : Nat, m = (K : Int) := ⟨m.toNat, by omega⟩
      have nb := nx_bounds zk ((K : Int) + 1) (by omega)
      obtain ⟨j, hj⟩ : ∃ j : Nat, nx zk ((K : Int) + 1) = (j : Int) := ⟨(nx zk ((K : Int) + 1)).toNat, by omega⟩
      rw [hj] at nb
      obtain ⟨_, nb2⟩ := nb
      have N := refNextC zk ((K : Int) + 1) b wr hzk HP.out
      rw [hj] at N
      have HJ : Hid (nx zk ((K : Int) + 1) = (j : Int)) := hj
      have HC : Hid (Calls Try.prog 12 #[.pointer (some ⟨b, 0, none⟩), .int .i64 ((K : Int) + 1)] wr fun e w' => e = .returned (.int .i64 (j : Int)) ∧ RefAt w' b (turn zk) ∧ wr.grownBy w' (some b)) := N
      clear N hj
      have hKn : K < n := by omega
      have hjn : j < n := by omega
      go_wp2_with fail
      refine HC.out.mono ?_
      rintro e w3 ⟨rfl, hs3, hg3⟩
      have R3 := HR.out.kept hg3 (.inr (by simp [Value.ownBlock]; omega))
      obtain ⟨x, hx⟩ : ∃ x, x = lk.getD K 0 := ⟨_, rfl⟩
      obtain ⟨y, hy⟩ : ∃ y, y = lk.getD j 0 := ⟨_, rfl⟩
      have ck := owns_cell R3 K hKn
      have cj := owns_cell R3 j hjn
      rw [← hx] at ck
      rw [← hy] at cj
      have fk := R3.frozenAt K
      have fj := R3.frozenAt j
      obtain ⟨v', hv'⟩ := set_some (p := ⟨g, K, none⟩) (x := .int .i64 y) cj
      have W4 : Hid (((w3.setCell ⟨g, K, none⟩ (.int .i64 y)).setCell ⟨g, j, none⟩ (.int .i64 x)).ownsRow w.heap.size 3 1 (.slice (some ⟨g, 0, none⟩) n cap) n ((swap lk K j).map (Value.int .i64))) := by
        rw [hx, hy]; exact owns_set (owns_set R3 K _) j _
      have S4 : Hid (RefAt ((w3.setCell ⟨g, K, none⟩ (.int .i64 y)).setCell ⟨g, j, none⟩ (.int .i64 x)) b (turn zk)) :=
        (hs3.keep (grownBy_set _ _ _ _) (by simp; omega)).keep (grownBy_set _ _ _ _) (by simp; omega)
      have G4 : Hid (w.grownBy ((w3.setCell ⟨g, K, none⟩ (.int .i64 y)).setCell ⟨g, j, none⟩ (.int .i64 x)) (some b)) :=
        grown_new (grown_new (grownBy_trans HG.out hg3) (grownBy_set _ _ _ _) hg0) (grownBy_set _ _ _ _) hg0
      clear hx hy R3 hs3 hg3 HR HP HG HC
      go_wp2
      go_roundw
      case rel =>
        have hh := HH.out
        rw [Int.toNat_natCast, shuf_step K (by omega) zk lk j HJ.out] at hh
        exact ⟨(K : Int) - 1, turn zk, swap lk K j, rfl, by omega, by omega, by rw [swap_len]; exact HL.out, by rw [show ((K : Int) - 1).toNat = K - 1 by omega]; exact hh, rt_turn _, W4.out, S4.out, G4.out⟩
      case measure => simp [intOf]
    · go_wp2
      go_ret
      have e0 : m.toNat = 0 := by omega
      have hh := HH.out
      rw [e0, shuf] at hh
      rw [← hh]
      exact ⟨g, cap, rfl, HR.out, HP.out, HG.out⟩

set_option maxRecDepth 100000 in
set_option maxHeartbeats 1000000 in
theorem refShuffle_none (z : Int × Int) (b : Nat) (w : World) (hs : RefAt w b z) :
    Calls Try.prog 16 #[.pointer (some ⟨b, 0, none⟩), .slice none 0 0] w fun e w' => ∃ g cap, e = .returned (.slice (some ⟨g, 0, none⟩) 0 cap) ∧ w'.ownsRow w.heap.size 3 1 (.slice (some ⟨g, 0, none⟩) 0 cap) 0 [] ∧ RefAt w' b z ∧ w.grownBy w' (some b) := by
  obtain ⟨i0, hi, hz0, hz1, hz2⟩ := info_parts Try.info3
  have HS : Hid (RefAt w b z) := hs
  clear hs
  go_enter Try.func16, Try.ntmps16
  go_wp2_with (first | (at_builtin; refine wpList_append_own_none rfl (.tmp 9) (.tmp 10) 22 rfl w.heap.size 3 i0 1 Try.underlying22 hi (.slice (some ⟨w.heap.size, 0, none⟩) 0 0) 0 [] rfl (World.ownsRow_lit w #[] 0 (Nat.le_refl _) (by unfold maxLen; omega) rfl) rfl ?_))
  go_loopw [6] (fun i wr => i = .int .i64 (-1) ∧ wr = w.alloc (.cells #[] 3)) (fun _ _ => 0)
  case atStart => exact ⟨rfl, rfl⟩
  case round =>
    obtain ⟨rfl, rfl⟩ := hrel
    go_wp2
    go_ret
    exact ⟨w.heap.size, 0, rfl, World.ownsRow_lit w #[] 0 (Nat.le_refl _) (by unfold maxLen; omega) rfl, HS.out.keep (World.grownBy_alloc w _ none) (by simp), grown_any (World.grownBy_alloc w _ none) _⟩

theorem shuf_nil (z : Int × Int) : shuf (0 - 1) z [] = (z, []) := rfl
theorem refShuffle_any (z : Int × Int) (b : Nat) (a : Option Addr) (c : Nat) (l : List Int) (w : World) (hz : Rt z) (hs : RefAt w b z) (hA : Lies w a l) (hm : l.length ≤ 1000000) (hc : a = none → c = 0 ∧ l = []) :
    Calls Try.prog 16 #[.pointer (some ⟨b, 0, none⟩), .slice a l.length c] w fun e w' => ∃ g cap, e = .returned (.slice (some ⟨g, 0, none⟩) l.length cap) ∧ w'.ownsRow w.heap.size 3 1 (.slice (some ⟨g, 0, none⟩) l.length cap) l.length ((shuf (l.length - 1) z l).2.map (Value.int .i64)) ∧ RefAt w' b (shuf (l.length - 1) z l).1 ∧ w.grownBy w' (some b) := by
  cases a with
  | none =>
    obtain ⟨rfl, rfl⟩ := hc rfl
    exact refShuffle_none z b w hs
  | some ad => exact refShuffle_some z b l.length ad c l w hz hs hA rfl hm

set_option maxHeartbeats 400000 in
theorem copyC (z : Int × Int) (b : Nat) (w : World) (h : SpinAt w b z) :
    Calls Try.prog 14 #[.pointer (some ⟨b, 0, none⟩)] w fun e w' => e = .returned (.pointer (some ⟨w.heap.size, 0, none⟩)) ∧ w' = w.alloc (.cells #[C z, .bool true] 35) := by
  have c0 : w.cell? ⟨b, 0, none⟩ = some (.complex .f64 (F z.1) (F z.2)) := h.cell0
  have c1 := h.cell1
  clear h
  go_enter Try.func14, Try.ntmps14
  go_wp2_with (first | (go_at_call 29; refine (there_yes _ _ (by assumption)).mono ?_; rintro e w' ⟨rfl, rfl⟩))
  go_ret
  exact ⟨rfl, rfl⟩
theorem spinAt_alloc (w : World) (z : Int × Int) : SpinAt (w.alloc (.cells #[C z, .bool true] 35)) w.heap.size z := heap_alloc_new w _
theorem refAt_alloc (w : World) (z : Int × Int) : RefAt (w.alloc (.cells #[C z] 51)) w.heap.size z := heap_alloc_new w _
end Go.Proofs.Ytkjdhnomehhijaa
