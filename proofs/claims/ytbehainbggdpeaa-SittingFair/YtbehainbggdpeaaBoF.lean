/- The walk of SittingFair. -/
import Derived.Test.YtbehainbggdpeaaBoE
import Derived.Test.YtbehainbggdpeaaBoL
import Derived.Test.YtbehainbggdpeaaBoFm
namespace Go.Proofs.Ytbehainbggdpeaa
set_option linter.unusedSimpArgs false
set_option linter.unusedVariables false
open Go.RowKit Go.MapKept
set_option linter.unusedVariables false
set_option linter.unusedSimpArgs false

/- Ten numbers in memory. -/
def arr (f : Nat → Int) : Array Value := #[.int .i64 (f 0), .int .i64 (f 1), .int .i64 (f 2), .int .i64 (f 3), .int .i64 (f 4), .int .i64 (f 5), .int .i64 (f 6), .int .i64 (f 7), .int .i64 (f 8), .int .i64 (f 9)]
theorem lt10 {P : Nat → Prop} (h0 : P 0) (h1 : P 1) (h2 : P 2) (h3 : P 3) (h4 : P 4) (h5 : P 5) (h6 : P 6) (h7 : P 7) (h8 : P 8) (h9 : P 9) (n : Nat) (hn : n < 10) : P n := by
  have : n = 0 ∨ n = 1 ∨ n = 2 ∨ n = 3 ∨ n = 4 ∨ n = 5 ∨ n = 6 ∨ n = 7 ∨ n = 8 ∨ n = 9 := by omega
  rcases this with rfl | rfl | rfl | rfl | rfl | rfl | rfl | rfl | rfl | rfl <;> assumption
theorem arr_get (f : Nat → Int) (n : Nat) (hn : n < 10) : (arr f)[n]? = some (.int .i64 (f n)) :=
  lt10 (P := fun n => (arr f)[n]? = some (.int .i64 (f n))) rfl rfl rfl rfl rfl rfl rfl rfl rfl rfl n hn
theorem arr_set (f : Nat → Int) (n : Nat) (hn : n < 10) (x : Int) : (arr f).setIfInBounds n (.int .i64 x) = arr (upd f n x) := by
  apply Array.ext_getElem?
  intro i
  rw [Array.getElem?_setIfInBounds]
  by_cases hi : i < 10
  · by_cases e : n = i
    · subst e
      rw [if_pos rfl, if_pos (show n < (arr f).size by show n < 10; exact hi), arr_get _ _ hi]
      simp [upd]
    · rw [if_neg e, arr_get _ _ hi, arr_get _ _ hi]
      unfold upd
      rw [if_neg (fun h => e h.symm)]
  · have h1 : (arr f)[i]? = none := Array.getElem?_eq_none (show 10 ≤ i by omega)
    have h2 : (arr (upd f n x))[i]? = none := Array.getElem?_eq_none (show 10 ≤ i by omega)
    rw [if_neg (by omega), h1, h2]

/- A round of the walk: the book, what is known of it, and the two rows of ten numbers. -/
structure FS (w wr : World) (b m h t : Nat) (now : Int) (S : List Fi) (H T : Nat → Int) : Prop where
  inv : Inv now S H T
  bx : Bx wr b m now S
  hh : wr.heap[h]? = some (.cells (arr H) 37 (0, 0))
  ht : wr.heap[t]? = some (.cells (arr T) 37 (0, 0))
  low : w.heap.size ≤ h ∧ w.heap.size ≤ t ∧ w.heap.size ≤ b ∧ w.heap.size ≤ m
  ne : h ≠ b ∧ h ≠ m ∧ t ≠ b ∧ t ≠ m ∧ h ≠ t
  below : Below w.heap.size w wr
theorem heap_far {w : World} {g k i : Nat} (v : Value) (h : k ≠ g) : (w.setCell ⟨g, i, none⟩ v).heap[k]? = w.heap[k]? := Below.heap_setCell w ⟨g, i, none⟩ v k h
/- Both rows turned: what is known of the sessions is told of the new ones. -/
structure FSraw (w wr : World) (b m h t : Nat) (now : Int) (S : List Fi) (H T : Nat → Int) : Prop where
  bx : Bx wr b m now S
  hh : wr.heap[h]? = some (.cells (arr H) 37 (0, 0))
  ht : wr.heap[t]? = some (.cells (arr T) 37 (0, 0))
  low : w.heap.size ≤ h ∧ w.heap.size ≤ t ∧ w.heap.size ≤ b ∧ w.heap.size ≤ m
  ne : h ≠ b ∧ h ≠ m ∧ t ≠ b ∧ t ≠ m ∧ h ≠ t
  below : Below w.heap.size w wr
theorem FSraw.inv {w wr : World} {b m h t : Nat} {now : Int} {S : List Fi} {H T : Nat → Int} (f : FSraw w wr b m h t now S H T) (hi : Inv now S H T) : FS w wr b m h t now S H T := ⟨hi, f.bx, f.hh, f.ht, f.low, f.ne, f.below⟩
theorem FS.raw {w wr : World} {b m h t : Nat} {now : Int} {S : List Fi} {H T : Nat → Int} (f : FS w wr b m h t now S H T) : FSraw w wr b m h t now S H T := ⟨f.bx, f.hh, f.ht, f.low, f.ne, f.below⟩
theorem FSraw.book {w wr w' : World} {b m h t : Nat} {now now' : Int} {S S' : List Fi} {H T : Nat → Int} (f : FSraw w wr b m h t now S H T) (hx : Bx w' b m now' S') (hc : Chg (Own b m) wr w') : FSraw w w' b m h t now' S' H T := by
  have hl : h < wr.heap.size := heap_lt f.hh
  have tl : t < wr.heap.size := heap_lt f.ht
  have hnh : ¬ Own b m h := fun e => by have := f.ne; rcases e with e | e <;> omega
  have hnt : ¬ Own b m t := fun e => by have := f.ne; rcases e with e | e <;> omega
  exact ⟨hx, by rw [hc.block h hl hnh]; exact f.hh, by rw [hc.block t tl hnt]; exact f.ht, f.low, f.ne, f.below.trans (own_below hc f.low.2.2.1 f.low.2.2.2 f.below.size)⟩
theorem FSraw.nt {w wr : World} {b m h t : Nat} {now : Int} {S : List Fi} {H T : Nat → Int} (f : FSraw w wr b m h t now S H T) : ¬ Own b m t := fun e => by have := f.ne; rcases e with e | e <;> omega
theorem FSraw.drewN {w wr : World} {b m h t : Nat} {now : Int} {S : List Fi} {H T : Nat → Int} (f : FSraw w wr b m h t now S H T) (q : Nat) : FSraw w (wr.drewN q) b m h t now S H T := f.book (f.bx.keep (Chg.drewN Non wr q) id id) (Chg.drewN _ _ _)
theorem FSraw.cellH {w wr : World} {b m h t : Nat} {now : Int} {S : List Fi} {H T : Nat → Int} (f : FSraw w wr b m h t now S H T) (n : Nat) (hn : n < 10) : wr.cell? ⟨h, n, none⟩ = some (.int .i64 (H n)) := by rw [cell_at f.hh, arr_get _ _ hn]
theorem FSraw.cellT {w wr : World} {b m h t : Nat} {now : Int} {S : List Fi} {H T : Nat → Int} (f : FSraw w wr b m h t now S H T) (n : Nat) (hn : n < 10) : wr.cell? ⟨t, n, none⟩ = some (.int .i64 (T n)) := by rw [cell_at f.ht, arr_get _ _ hn]
theorem FSraw.setH {w wr : World} {b m h t : Nat} {now : Int} {S : List Fi} {H T : Nat → Int} (f : FSraw w wr b m h t now S H T) (n : Nat) (hn : n < 10) (x : Int) : FSraw w (wr.setCell ⟨h, n, none⟩ (.int .i64 x)) b m h t now S (upd H n x) T := by
  have hc : Chg (fun k => k = h) wr (wr.setCell ⟨h, n, none⟩ (.int .i64 x)) := Chg.setCell wr ⟨h, n, none⟩ _ rfl
  refine ⟨f.bx.keep hc (fun e => f.ne.1 e.symm) (fun e => f.ne.2.1 e.symm), ?_, ?_, f.low, f.ne, f.below.trans (hc.below (fun k e => by rw [e]; exact f.low.1) f.below.size)⟩
  · have := heap_set f.hh n (.int .i64 x)
    rw [arr_set _ _ hn] at this
    exact this
  · rw [heap_far _ (fun e => f.ne.2.2.2.2 e.symm)]; exact f.ht
theorem FSraw.setT {w wr : World} {b m h t : Nat} {now : Int} {S : List Fi} {H T : Nat → Int} (f : FSraw w wr b m h t now S H T) (n : Nat) (hn : n < 10) (x : Int) : FSraw w (wr.setCell ⟨t, n, none⟩ (.int .i64 x)) b m h t now S H (upd T n x) := by
  have hc : Chg (fun k => k = t) wr (wr.setCell ⟨t, n, none⟩ (.int .i64 x)) := Chg.setCell wr ⟨t, n, none⟩ _ rfl
  refine ⟨f.bx.keep hc (fun e => f.ne.2.2.1 e.symm) (fun e => f.ne.2.2.2.1 e.symm), ?_, ?_, f.low, f.ne, f.below.trans (hc.below (fun k e => by rw [e]; exact f.low.2.1) f.below.size)⟩
  · rw [heap_far _ f.ne.2.2.2.2]; exact f.hh
  · have := heap_set f.ht n (.int .i64 x)
    rw [arr_set _ _ hn] at this
    exact this
set_option maxRecDepth 100000 in
set_option maxHeartbeats 8000000 in
theorem fair_any {w : World} {x : Value} {l : List Do1} (hD : Dos w x l) :
    Calls Try.prog 5 #[x] w fun e w' => e = .returned (.bool true) ∧ Below w.heap.size w w' := by
  obtain ⟨A, C, rfl, hC⟩ := hD.form
  have HD : Hid (Dos w (.slice A l.length C) l) := hD
  have c1 := awake_any w
  clear hD
  go_enter Try.func5, Try.ntmps5
  go_wp2_with fail
  refine c1.mono ?_
  rintro e w1 ⟨rfl, hB1⟩
  have HB1 : Hid (Below w.heap.size w w1) := hB1
  clear c1 hB1
  go_upto_if 18 with fail
  go_cut [0] from 19 to 20 (fun v0 wx => w1 = wx ∧ ∃ N : Nat, N ≤ 200 ∧ N ≤ l.length ∧ v0 = .slice A N C)
  case first =>
    by_cases h : 200 < l.length
    · go_wp2_with fail
      go_meet
      exact ⟨rfl, 200, Nat.le_refl _, by omega, rfl⟩
    · go_wp2_with fail
      go_meet
      exact ⟨rfl, l.length, by omega, Nat.le_refl _, rfl⟩
  case rest =>
  obtain ⟨hw1, N, hN, hNl, rfl⟩ := hcut
  subst hw1
  have HT : Hid (Dos w (.slice A N C) (l.take N)) := HD.out.take N hNl
  have HTL : Hid ((l.take N).length = N) := by show _ = _; rw [List.length_take]; omega
  obtain ⟨lt, hlt⟩ : ∃ lt, l.take N = lt := ⟨_, rfl⟩
  rw [hlt] at HT HTL
  have HN : Hid (N ≤ 200) := hN
  clear hlt hN hNl hC HD
  have c2 := new_any 0 w1
  rw [show clamp 0 = 0 by decide] at c2
  go_wp2_with fail
  refine c2.mono ?_
  rintro e w2 ⟨b, m, rfl, hX, hb, hm, hB2⟩
  have HBM : Hid (w.heap.size ≤ b ∧ w.heap.size ≤ m) := ⟨Nat.le_trans HB1.out.size hb, Nat.le_trans HB1.out.size hm⟩
  have HB2 : Hid (Below w.heap.size w w2) := HB1.out.trans (hB2.mono HB1.out.size)
  have HX2 : Hid (Bx w2 b m 0 []) := hX
  clear c2 hX hb hm hB2
  go_wp2_with fail
  have HF : Hid (∃ W, W = (w2.alloc (.cells (arr fun _ => 0) 37)).alloc (.cells (arr fun _ => 0) 37) ∧ FS w W b m w2.heap.size (w2.heap.size + 1) 0 [] (fun _ => 0) (fun _ => 0)) := by
    refine ⟨_, rfl, Inv.start, (HX2.out.alloc _).alloc _, ?_, ?_, ?_, ?_, (HB2.out.alloc HB2.out.size _).alloc (by have := HB2.out.size; simp; omega) _⟩
    · rw [Below.heap_alloc _ _ _ (by simp)]; exact heap_alloc_new w2 _
    · have := heap_alloc_new (w2.alloc (.cells (arr fun _ => 0) 37)) (.cells (arr fun _ => 0) 37)
      simpa using this
    · have := HBM.out; have := HB2.out.size; omega
    · have := HX2.out.ltb; have := HX2.out.ltm; omega
  have hN200 := HN.out
  obtain ⟨hb, hhb⟩ : ∃ hb, hb = w2.heap.size := ⟨_, rfl⟩
  obtain ⟨tb, htb⟩ : ∃ tb, tb = w2.heap.size + 1 := ⟨_, rfl⟩
  rw [← htb, ← hhb] at HF ⊢
  clear hhb htb
  go_loopw [4, 7] (fun v4 v7 wr => ∃ (i : Nat) (now : Int) (S : List Fi) (H T : Nat → Int), v7 = .int .i64 i ∧ i ≤ N ∧ v4 = .int .i64 now ∧ 0 ≤ now ∧ now ≤ 12 * i ∧ FS w wr b m hb tb now S H T) (fun _ v7 _ => N - (Go.Lib.intOf v7).toNat)
  case atStart =>
    obtain ⟨W, rfl, hf⟩ := HF.out
    exact ⟨0, 0, [], _, _, rfl, Nat.zero_le _, rfl, by omega, by omega, hf⟩
  case round =>
    obtain ⟨i, now, S, H, T, rfl, hi, rfl, hn0, hn1, hf⟩ := hrel
    by_cases hlt : i < N
    · obtain ⟨g, o, rfl, hd0, hok, hg⟩ := HT.out.at i (by rw [HTL.out]; exact hlt)
      have hd := hd0.keep (Chg.of_below hf.below) id
      clear hd0
      generalize (lt[i]'(by rw [HTL.out]; exact hlt)) = x at hd hok
      obtain ⟨op, ses, tmo, nw⟩ := x
      have i1 : (i : Int) < (N : Int) := by omega
      have i2 : (0 : Int) ≤ (i : Int) := by omega
      have d0 := hd.c0
      have d1 := hd.c1
      have d2 := hd.c2
      have d3 := hd.c3
      simp only at d0 d1 d2 d3
      have HFS : Hid (FS w wr b m hb tb now S H T) := hf
      clear hd hok hf hg
      obtain ⟨X, hX⟩ : ∃ X, Go.bits BinOp.and IntKind.i64 ses 65535 = X := ⟨_, rfl⟩
      go_wp2_with fail
      refine (pick_any X 9 (by omega) (by omega) _).mono ?_
      rintro e wz ⟨rfl, hz⟩
      obtain rfl : wr = wz := hz.symm
      obtain ⟨r, hr⟩ : ∃ r : Nat, X % 9 = (r : Int) := ⟨(X % 9).toNat, by omega⟩
      have hr9 : r < 9 := by omega
      rw [hr]
      clear hz hX hr
      go_wp2_with fail
      obtain ⟨s, hs⟩ : ∃ s : Nat, (1 + (r : Int)) = (s : Int) := ⟨1 + r, by omega⟩
      have hs1 : 1 ≤ s := by omega
      have hs9 : s ≤ 9 := by omega
      rw [hs]
      refine (pick_any tmo 40 (by omega) (by omega) _).mono ?_
      rintro e wz ⟨rfl, hz⟩
      obtain rfl : wr = wz := hz.symm
      obtain ⟨r2, hr2⟩ : ∃ r2, tmo % 40 = r2 := ⟨_, rfl⟩
      have hr20 : 0 ≤ r2 ∧ r2 < 40 := by omega
      rw [hr2]
      clear hz hr2 hs hr9
      go_wp2_with fail
      obtain ⟨t, ht⟩ : ∃ t, 1 + r2 = t := ⟨_, rfl⟩
      have ht1 : 1 ≤ t ∧ t ≤ 40 := by omega
      rw [ht]
      refine (pick_any op 5 (by omega) (by omega) _).mono ?_
      rintro e wz ⟨rfl, hz⟩
      obtain rfl : wr = wz := hz.symm
      obtain ⟨p, hp⟩ : ∃ p, op % 5 = p := ⟨_, rfl⟩
      have hp5 : 0 ≤ p ∧ p < 5 := by omega
      rw [hp]
      clear hz hp ht hr20
      have hs1i : (1 : Int) ≤ (s : Int) := by omega
      have hs9i : (s : Int) < 10 := by omega
      have hs0i : (0 : Int) ≤ (s : Int) := by omega
      have hs10 : s < 10 := by omega
      by_cases hp0 : p = 0
      · subst hp0
        have c3 := add_any HFS.out.bx s t (by omega)
        rw [show addE s t = 0 by unfold addE; rw [if_neg (by omega)], show addR now s t S = addS now s t S by unfold addR; rw [if_neg (by omega)]] at c3
        go_wp2_with fail
        refine c3.mono ?_
        rintro e w3 ⟨rfl, hX3, hc3, _⟩
        have hr3 := HFS.out.raw.book hX3 hc3
        have HR3 : Hid (FSraw w w3 b m hb tb now (addS now s t S) H T) := hr3
        have q1 := hr3.cellH s hs10
        have q2 := hr3.cellT s hs10
        have q3 := frozen_at hr3.hh s
        have q4 := frozen_at hr3.ht s
        have q5 : ¬ hb = tb := hr3.ne.2.2.2.2
        have q6 : ¬ tb = hb := fun e => q5 e.symm
        have q7 : hb < w3.heap.size := heap_lt hr3.hh
        have q8 : tb < w3.heap.size := heap_lt hr3.ht
        clear c3 hX3 hc3 hr3 d0 d1 d2 d3
        go_wp2_with fail
        go_roundw
        case rel => exact ⟨i + 1, now, _, _, _, by go_num, by omega, rfl, hn0, by omega, ((HR3.out.setH s hs10 now).setT s hs10 t).inv (HFS.out.inv.add s ⟨hs1, hs9⟩ t ht1 hn0)⟩
        case measure => simp [Go.Lib.intOf]; omega
      · have hb0 : (p == 0) = false := by simpa using hp0
        by_cases hp1 : p = 1
        · have hqq : True := trivial
          subst hp1
          have c3 := touch_any HFS.out.bx.drew s
          rw [HFS.out.inv.isIn s ⟨hs1, hs9⟩] at c3
          have hrD : FSraw w wr.drew b m hb tb now S H T := HFS.out.raw.drewN 1
          have HRD : Hid (FSraw w wr.drew b m hb tb now S H T) := hrD
          have q2 := hrD.cellT s hs10
          obtain ⟨z, hz⟩ : ∃ z, T s = z := ⟨_, rfl⟩
          rw [hz] at q2 c3
          clear hz hrD d0 d1 d2 d3
          by_cases hzp : 0 < z
          · rw [decide_eq_true hzp] at c3
            go_wp2_with fail
            go_region_held3 (fun w' => w'.cell? ⟨tb, s, none⟩ = some (.int .i64 z))
              (first | exact q2 | exact k2 | go_keep)
              ((go_at_call 15; refine c3.mono ?_; rintro e w3 ⟨rfl, hX3, hc3⟩; have hr3 := HRD.out.book hX3 hc3; have k2 : w3.cell? ⟨tb, s, none⟩ = some (.int .i64 z) := (hc3.cell (a := ⟨tb, s, none⟩) (heap_lt HRD.out.ht) HRD.out.nt).trans q2))
            have HR3 : Hid (FSraw w w3 b m hb tb now (touchS now s S) H T) := hr3
            have q1 := hr3.cellH s hs10
            have q3 := frozen_at hr3.hh s
            clear c3 hX3 hc3 hr3 k2 q2
            go_wp2_with fail
            go_roundw
            case rel => exact ⟨i + 1, now, _, _, _, by go_num, by omega, rfl, hn0, by omega, (HR3.out.setH s hs10 now).inv (HFS.out.inv.touch s ⟨hs1, hs9⟩ hn0)⟩
            case measure => simp [Go.Lib.intOf]; omega
          · rw [decide_eq_false hzp] at c3
            go_wp2_with fail
            go_region_held3 (fun w' => w'.cell? ⟨tb, s, none⟩ = some (.int .i64 z))
              (first | exact q2 | exact k2 | go_keep)
              ((go_at_call 15; refine c3.mono ?_; rintro e w3 ⟨rfl, hX3, hc3⟩; have hr3 := HRD.out.book hX3 hc3; have k2 : w3.cell? ⟨tb, s, none⟩ = some (.int .i64 z) := (hc3.cell (a := ⟨tb, s, none⟩) (heap_lt HRD.out.ht) HRD.out.nt).trans q2))
            have HR3 : Hid (FSraw w w3 b m hb tb now (touchS now s S) H T) := hr3
            have q1 := hr3.cellH s hs10
            have q3 := frozen_at hr3.hh s
            clear c3 hX3 hc3 hr3 k2 q2
            go_wp2_with fail
            go_roundw
            case rel => exact ⟨i + 1, now, _, _, _, by go_num, by omega, rfl, hn0, by omega, (HR3.out.setH s hs10 now).inv (HFS.out.inv.touch s ⟨hs1, hs9⟩ hn0)⟩
            case measure => simp [Go.Lib.intOf]; omega
        · have hb1 : (p == 1) = false := by simpa using hp1
          by_cases hp2 : p = 2
          · have hqq : True := trivial
            subst hp2
            have c3 := remove_any HFS.out.bx.drew s
            rw [HFS.out.inv.isIn s ⟨hs1, hs9⟩] at c3
            have hrD : FSraw w wr.drew b m hb tb now S H T := HFS.out.raw.drewN 1
            have HRD : Hid (FSraw w wr.drew b m hb tb now S H T) := hrD
            have q2 := hrD.cellT s hs10
            obtain ⟨z, hz⟩ : ∃ z, T s = z := ⟨_, rfl⟩
            rw [hz] at q2 c3
            clear hz hrD d0 d1 d2 d3
            by_cases hzp : 0 < z
            · rw [decide_eq_true hzp] at c3
              go_wp2_with fail
              go_region_held3 (fun w' => w'.cell? ⟨tb, s, none⟩ = some (.int .i64 z))
                (first | exact q2 | exact k2 | go_keep)
                ((go_at_call 16; refine c3.mono ?_; rintro e w3 ⟨rfl, hX3, hc3⟩; have hr3 := HRD.out.book hX3 hc3; have k2 : w3.cell? ⟨tb, s, none⟩ = some (.int .i64 z) := (hc3.cell (a := ⟨tb, s, none⟩) (heap_lt HRD.out.ht) HRD.out.nt).trans q2))
              have HR3 : Hid (FSraw w w3 b m hb tb now (delL s S) H T) := hr3
              have q1 := hr3.cellT s hs10
              have q3 := frozen_at hr3.ht s
              clear c3 hX3 hc3 hr3 k2 q2
              go_wp2_with fail
              go_roundw
              case rel => exact ⟨i + 1, now, _, _, _, by go_num, by omega, rfl, hn0, by omega, (HR3.out.setT s hs10 0).inv (HFS.out.inv.remove s ⟨hs1, hs9⟩)⟩
              case measure => simp [Go.Lib.intOf]; omega
            · rw [decide_eq_false hzp] at c3
              go_wp2_with fail
              go_region_held3 (fun w' => w'.cell? ⟨tb, s, none⟩ = some (.int .i64 z))
                (first | exact q2 | exact k2 | go_keep)
                ((go_at_call 16; refine c3.mono ?_; rintro e w3 ⟨rfl, hX3, hc3⟩; have hr3 := HRD.out.book hX3 hc3; have k2 : w3.cell? ⟨tb, s, none⟩ = some (.int .i64 z) := (hc3.cell (a := ⟨tb, s, none⟩) (heap_lt HRD.out.ht) HRD.out.nt).trans q2))
              have HR3 : Hid (FSraw w w3 b m hb tb now (delL s S) H T) := hr3
              have q1 := hr3.cellT s hs10
              have q3 := frozen_at hr3.ht s
              clear c3 hX3 hc3 hr3 k2 q2
              go_wp2_with fail
              go_roundw
              case rel => exact ⟨i + 1, now, _, _, _, by go_num, by omega, rfl, hn0, by omega, (HR3.out.setT s hs10 0).inv (HFS.out.inv.remove s ⟨hs1, hs9⟩)⟩
              case measure => simp [Go.Lib.intOf]; omega
          · have hb2 : (p == 2) = false := by simpa using hp2
            obtain ⟨X2, hX2⟩ : ∃ X2, Go.bits BinOp.and IntKind.i64 nw 65535 = X2 := ⟨_, rfl⟩
            go_wp2_with fail
            refine (pick_any X2 12 (by omega) (by omega) _).mono ?_
            rintro e wz ⟨rfl, hz⟩
            obtain rfl : wr = wz := hz.symm
            obtain ⟨r3, hr3⟩ : ∃ r3, X2 % 12 = r3 := ⟨_, rfl⟩
            have hr30 : 0 ≤ r3 ∧ r3 < 12 := by omega
            rw [hr3]
            clear hz hX2 hr3
            have hsmall : now + r3 < 9223372036854775808 := by omega
            have hbig : -9223372036854775808 ≤ now + r3 := by omega
            obtain ⟨n2, hn2⟩ : ∃ n2, now + r3 = n2 := ⟨_, rfl⟩
            have hle : now ≤ n2 := by omega
            have hn22 : n2 ≤ 12 * (i + 1 : Nat) := by omega
            have c4 := tick_any HFS.out.bx n2 (by have := HFS.out.inv.len; omega)
            rw [show tickN now n2 = n2 by unfold tickN late; rw [if_pos (by omega)]; omega] at c4
            /- TAIL -/
            go_wp2_with fail
            refine c4.mono ?_
            rintro e w4 ⟨A4, C4, rfl, ho4, hX4, hc4⟩
            have HR4 : Hid (FSraw w w4 b m hb tb n2 (rest n2 S) H T) := HFS.out.raw.book hX4 hc4
            have HNS4 : Hid (Ns w4 (.slice A4 (told n2 S).length C4) (told n2 S)) := Ns.of_owns ho4
            have HFAR : Hid (∀ k, bk (.slice A4 (told n2 S).length C4) = some k → k ≠ hb ∧ k ≠ tb) := by
              intro k hk
              obtain ⟨_, _, h⟩ := iblk ho4 (bk_blk hk)
              have := heap_lt HFS.out.hh
              have := heap_lt HFS.out.ht
              omega
            have HGON : Hid (∀ g ∈ told n2 S, ∃ s : Nat, g = s ∧ 1 ≤ s ∧ s ≤ 9 ∧ 0 < T s ∧ H s + T s ≤ n2) := fun g hg => HFS.out.inv.gone hg
            have HASC : Hid ((told n2 S).Pairwise (· < ·)) := told_asc HFS.out.inv.up
            have HRNG : Hid (∀ s : Nat, 1 ≤ s → s ≤ 9 → 0 ≤ T s ∧ T s ≤ 40 ∧ 0 ≤ H s ∧ H s ≤ now) := HFS.out.inv.rng
            have HLATE : Hid (∀ s : Nat, 1 ≤ s → s ≤ 9 → 0 < lessT T (told n2 S) s → n2 < H s + lessT T (told n2 S) s + 3) := fun s h1 h2 h3 => HFS.out.inv.late h1 h2 h3
            have HTK : Hid (Inv n2 (rest n2 S) H (lessT T (told n2 S))) := HFS.out.inv.tick n2 hle
            have hGl : (told n2 S).length ≤ 9 := by
              have h1 := HFS.out.inv.len
              have h2 : (told n2 S).length ≤ S.length := by unfold told; rw [List.length_map]; exact List.length_filter_le _ _
              omega
            obtain ⟨R, hR⟩ : ∃ R, rest n2 S = R := ⟨_, rfl⟩
            obtain ⟨G, hG⟩ : ∃ G, told n2 S = G := ⟨_, rfl⟩
            rw [hR] at HR4 HTK
            rw [hG] at HNS4 HFAR HGON HASC HLATE HTK hGl ⊢
            obtain ⟨nG, hnG⟩ : ∃ nG, G.length = nG := ⟨_, rfl⟩
            rw [hnG] at HNS4 HFAR hGl ⊢
            have HNG : Hid (G.length = nG) := hnG
            clear c4 ho4 hX4 hc4 hR hG hnG d0 d1 d2 d3 HFS hn2
            obtain ⟨wO, hwO⟩ : ∃ x, x = wr := ⟨_, rfl⟩
            subst hwO
            go_wp2_with fail
            go_loopw [11] (fun v11 wx => ∃ k : Nat, v11 = .int .i64 k ∧ k ≤ nG ∧ FSraw w wx b m hb tb n2 R H (lessT T (G.take k)) ∧ Ns wx (.slice A4 nG C4) G) (fun v11 _ => nG - (Go.Lib.intOf v11).toNat)
            case atStart => exact ⟨0, rfl, Nat.zero_le _, by rw [List.take_zero, lessT_nil]; exact HR4.out, HNS4.out⟩
            case round =>
              obtain ⟨k, rfl, hk, hfk, hns⟩ := hrel
              by_cases hklt : k < nG
              · have hkG : k < G.length := by rw [HNG.out]; exact hklt
                obtain ⟨b4, o4, rfl, _, x1⟩ := hns.at' k hkG
                obtain ⟨s2, e2, g1, g9, gT, gH⟩ := HGON.out _ (List.getElem_mem hkG)
                have hnot : (s2 : Int) ∉ G.take k := by
                  intro hm
                  obtain ⟨j, hj, hje⟩ := List.getElem_of_mem hm
                  rw [List.getElem_take] at hje
                  have hjk : j < k := by rw [List.length_take] at hj; omega
                  have := List.pairwise_iff_getElem.1 HASC.out j k (by omega) hkG hjk
                  omega
                have hTe : lessT T (G.take k) s2 = T s2 := by unfold lessT; rw [if_neg hnot]
                rw [e2] at x1
                have q1 := hfk.cellH s2 (by omega)
                have q2 := hfk.cellT s2 (by omega)
                rw [hTe] at q2
                have hrg := HRNG.out s2 g1 g9
                have HTN : Hid (lessT T (G.take (k + 1)) = upd (lessT T (G.take k)) s2 0) := by
                  show _ = _
                  rw [List.take_succ_eq_append_getElem hkG, e2, lessT_snoc]
                obtain ⟨z, hz⟩ : ∃ z, T s2 = z := ⟨_, rfl⟩
                obtain ⟨y, hy⟩ : ∃ y, H s2 = y := ⟨_, rfl⟩
                rw [hz] at q2 gT gH hrg
                rw [hy] at q1 gH hrg
                have HFK : Hid (FSraw w wr b m hb tb n2 R H (lessT T (G.take k))) := hfk
                have HNK : Hid (Ns wr (.slice (some ⟨b4, o4, none⟩) nG C4) G) := hns
                have k1 : (k : Int) < (nG : Int) := by omega
                have k2 : (0 : Int) ≤ (k : Int) := by omega
                have k3 : ¬ (s2 : Int) < 1 := by omega
                have k4 : ¬ (s2 : Int) > 9 := by omega
                have k5 : (z == 0) = false := by simp; omega
                have k6 : ¬ n2 < y + z := by omega
                have k7 : IntKind.i64.wrap (y + z) = y + z := Go.IntWalk.i64_in _ (by omega)
                have k8 : (s2 : Int) < 10 := by omega
                have k9 : (0 : Int) ≤ (s2 : Int) := by omega
                have k10 : ¬ (s2 : Int) < 0 := by omega
                have k11 : s2 < 10 := by omega
                have k12 : ¬ z = 0 := by omega
                have k13 : (1 : Int) ≤ (s2 : Int) := by omega
                have k14 : (s2 : Int) ≤ 9 := by omega
                clear hz hy hnot hTe hfk hns hkG e2 hrg gT gH
                go_wp2_with fail
                go_quiet (fail)
                obtain ⟨W, hW⟩ : ∃ W, W = wr.drewN nq := ⟨_, rfl⟩
                have hfW : FSraw w W b m hb tb n2 R H (lessT T (G.take k)) := by rw [hW]; exact HFK.out.drewN nq
                have HFW : Hid (FSraw w W b m hb tb n2 R H (lessT T (G.take k))) := hfW
                have HNW : Hid (Ns W (.slice (some ⟨b4, o4, none⟩) nG C4) G) := by rw [hW]; exact HNK.out.drewN nq
                have q3 := frozen_at hfW.ht s2
                have q4 : W.cell? ⟨tb, s2, none⟩ = some (.int .i64 (lessT T (G.take k) s2)) := hfW.cellT s2 k11
                rw [← hW]
                clear hW hfW x1 q1 q2
                go_wp2_with fail
                go_roundw
                case rel => exact ⟨k + 1, by go_num, by omega, by rw [HTN.out]; exact HFW.out.setT s2 k11 0, HNW.out.keep (Chg.setCell (S := fun j => j = tb) W ⟨tb, s2, none⟩ _ rfl) (fun j hj e => (HFAR.out j hj).2 e)⟩
                case measure => simp [Go.Lib.intOf]; omega
              · have e0 : k = G.length := by rw [HNG.out]; omega
                subst e0
                rw [List.take_length] at hfk
                have HFK : Hid (FSraw w wr b m hb tb n2 R H (lessT T G)) := hfk
                have hkn : ¬ ((G.length : Nat) : Int) < (nG : Int) := by rw [HNG.out]; omega
                clear hns hfk
                obtain ⟨wA, hwA⟩ : ∃ x, x = wr := ⟨_, rfl⟩
                subst hwA
                go_wp2_with fail
                go_loopw [13] (fun v13 wx => ∃ k q : Nat, v13 = .int .i64 k ∧ 1 ≤ k ∧ k ≤ 10 ∧ wx = wA.drewN q) (fun v13 _ => 10 - (Go.Lib.intOf v13).toNat)
                case atStart => exact ⟨1, 0, rfl, by omega, by omega, rfl⟩
                case round =>
                  obtain ⟨k, q, rfl, hk1, hk10, hwr⟩ := hrel
                  have HWR : Hid (wr = wA.drewN q) := hwr
                  have hfr : FSraw w wr b m hb tb n2 R H (lessT T G) := by rw [hwr]; exact HFK.out.drewN q
                  have HFR : Hid (FSraw w wr b m hb tb n2 R H (lessT T G)) := hfr
                  by_cases hklt : k < 10
                  · have q1 := hfr.cellH k hklt
                    have q2 := hfr.cellT k hklt
                    have hrg := HRNG.out k hk1 (by omega)
                    have hlz := HLATE.out k hk1 (by omega)
                    have hle40 : lessT T G k ≤ 40 := by unfold lessT; split <;> omega
                    obtain ⟨z, hz⟩ : ∃ z, lessT T G k = z := ⟨_, rfl⟩
                    obtain ⟨y, hy⟩ : ∃ y, H k = y := ⟨_, rfl⟩
                    rw [hz] at q2 hlz hle40
                    rw [hy] at q1 hlz hrg
                    have k1 : (k : Int) < 10 := by omega
                    have k2 : (0 : Int) ≤ (k : Int) := by omega
                    clear hz hy hfr hwr
                    by_cases hzp : 0 < z
                    · have hzd : decide ((0 : Int) < z) = true := decide_eq_true hzp
                      have k3 : ¬ n2 ≥ y + z + 3 := by have := hlz hzp; omega
                      have k4 : IntKind.i64.wrap (y + z) = y + z := Go.IntWalk.i64_in _ (by omega)
                      have k5 : IntKind.i64.wrap (y + z + 3) = y + z + 3 := Go.IntWalk.i64_in _ (by omega)
                      clear hlz hrg hle40
                      go_wp2_with fail
                      go_quiet (fail)
                      go_wp2_with fail
                      go_roundw
                      case rel => exact ⟨k + 1, q + nq, by go_num, by omega, by omega, by rw [HWR.out]; simp⟩
                      case measure => simp [Go.Lib.intOf]; omega
                    · have hzd : decide ((0 : Int) < z) = false := decide_eq_false hzp
                      clear hlz hrg hle40
                      go_wp2_with fail
                      go_quiet (fail)
                      go_wp2_with fail
                      go_roundw
                      case rel => exact ⟨k + 1, q + nq, by go_num, by omega, by omega, by rw [HWR.out]; simp⟩
                      case measure => simp [Go.Lib.intOf]; omega
                  · clear hfr hwr
                    go_wp2_with fail
                    go_roundw
                    case rel => exact ⟨i + 1, n2, _, _, _, by go_num, by omega, rfl, by omega, by omega, HFR.out.inv HTK.out⟩
                    case measure => simp [Go.Lib.intOf]; omega
    · go_wp2_with fail
      go_ret
      exact ⟨rfl, hf.below⟩
end Go.Proofs.Ytbehainbggdpeaa
