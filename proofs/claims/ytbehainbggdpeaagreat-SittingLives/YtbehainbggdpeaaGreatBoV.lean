/- Rows of steps by the two books: one step. -/
import Derived.Test.YtbehainbggdpeaaGreatBoW
import Derived.Test.YtbehainbggdpeaaGreatBoL
import Derived.Test.YtbehainbggdpeaaGreatBoE
import Derived.Test.YtbehainbggdpeaaGreatBoOm
namespace Go.Proofs.YtbehainbggdpeaaGreat
set_option linter.unusedVariables false
open Go.RowKit Go.MapKept
set_option linter.unusedVariables false

/- Both books hold the sessions S at now. -/
def Tw (B : Nat) (w : World) (b m r : Nat) (now : Int) (S : List Fi) : Prop := (B ≤ b ∧ B ≤ m ∧ B ≤ w.heap.size) ∧ Bx w b m now S ∧ ∃ v, Rk w B r now v S ∧ ∀ g, Own b m g → ¬ Wr r v g
theorem Tw.fin {B b m r : Nat} {v : Value} {now' : Int} {S' : List Fi} {w1 w2 : World} (hB : B ≤ b ∧ B ≤ m ∧ B ≤ w1.heap.size) (hv : ∀ g, Own b m g → ¬ Wr r v g) (hX : Bx w1 b m now' S') (hR : Rn B r v w1 w2 now' S') : Tw B w2 b m r now' S' := by
  obtain ⟨v', k, c, f⟩ := hR
  refine ⟨⟨hB.1, hB.2.1, Nat.le_trans hB.2.2 c.size⟩, hX.keep c (hv b (.inl rfl)) (hv m (.inr rfl)), v', k, fun g hg e => ?_⟩
  rcases e with e | e
  · exact hv g hg (.inl e)
  · rcases f g e with e' | e'
    · exact hv g hg (.inr e')
    · have h1 := hX.ltb
      have h2 := hX.ltm
      rcases hg with rfl | rfl <;> omega
theorem Rn.low {B r : Nat} {v : Value} {w1 w2 : World} {now now' : Int} {S S' : List Fi} (h : Rk w1 B r now v S) (hR : Rn B r v w1 w2 now' S') (hB : B ≤ w1.heap.size) : Below B w1 w2 := by
  obtain ⟨_, _, c, _⟩ := hR
  exact c.below (fun k e => (h.lt k e).1) hB
theorem Tw.below {B b m r : Nat} {now : Int} {S : List Fi} {w w' : World} (h : Tw B w b m r now S) (hb : Below w.heap.size w w') : Tw B w' b m r now S := by
  obtain ⟨hB, hX, v, hK, hv⟩ := h
  exact ⟨⟨hB.1, hB.2.1, Nat.le_trans hB.2.2 hb.size⟩, hX.below hb, v, hK.below hb, hv⟩
theorem tick_left {B r : Nat} {v : Value} {W wa wb : World} {A : Option Addr} {C : Nat} {t : Int} {S' : List Fi} {E : List Int} (hf : ∀ g, W.heap.size ≤ g → ¬ Wr r v g) (h : wa.ownsRow W.heap.size 2 1 (.slice A E.length C) E.length (iv E)) (hr : Rn B r v wa wb t S') : Ns wb (.slice A E.length C) E := by
  obtain ⟨_, _, c, _⟩ := hr
  refine (Ns.of_owns h).keep c fun k hk => hf k ?_
  obtain ⟨cur, hc, hb⟩ := iblk h (bk_blk hk)
  exact hb
theorem len_touch (now k : Int) (S : List Fi) : (touchS now k S).length ≤ S.length + 1 := by
  unfold touchS
  split
  · exact len_insS _ S
  · omega

set_option maxRecDepth 100000 in
set_option maxHeartbeats 4000000 in
theorem step_any {B : Nat} {w : World} {b m r : Nat} {now : Int} {S : List Fi} (h : Tw B w b m r now S) (hL : S.length ≤ 99999) (x : Do1) (hx : DoOk x) :
    Calls Tryz.prog 6 #[.pointer (some ⟨b, 0, none⟩), .pointer (some ⟨r, 0, none⟩), .agg #[.int .i64 x.op, .int .i64 x.ses, .int .i64 x.tmo, .int .i64 x.nw]] w fun e w' => e = .returned (.bool true) ∧ Below B w w' ∧ ∃ now' S', S'.length ≤ S.length + 1 ∧ Tw B w' b m r now' S' := by
  obtain ⟨⟨hb, hm, hB⟩, hX, v, hK, hv⟩ := h
  obtain ⟨op, ses, tmo, nw⟩ := x
  obtain ⟨o1, o2, o3, o4⟩ := hx
  simp only [i64] at o1 o2 o3 o4 ⊢
  obtain ⟨W, hW⟩ : ∃ W, W = (w.alloc (.cells #[.int .i64 op, .int .i64 ses, .int .i64 tmo, .int .i64 nw] 29)).drew := ⟨_, rfl⟩
  have hXW : Bx W b m now S := by rw [hW]; exact (hX.alloc _).drew
  have hKW : Rk W B r now v S := by rw [hW]; exact (hK.alloc _).keep (Chg.drew Non _) (fun _ _ => id)
  have hBl : Below B w W := by rw [hW]; exact ((Below.refl B w).alloc hB _).drew
  have hBW : B ≤ b ∧ B ≤ m ∧ B ≤ W.heap.size := ⟨hb, hm, Nat.le_trans hB hBl.size⟩
  have hbox : W.heap[w.heap.size]? = some (.cells #[.int .i64 op, .int .i64 ses, .int .i64 tmo, .int .i64 nw] 29 (0, 0)) := by rw [hW]; exact heap_alloc_new w _
  have hfree : ¬ (Own b m w.heap.size ∨ Wr r v w.heap.size) := by
    intro e
    have h1 := hX.ltb
    have h2 := hX.ltm
    rcases e with (e | e) | e
    · omega
    · omega
    · have := (hK.lt _ e).2; omega
  have HCC : Hid (∀ {wa : World}, Chg (fun g => Own b m g ∨ Wr r v g) W wa → wa.cell? ⟨w.heap.size, 1, none⟩ = some (.int .i64 ses) ∧ wa.cell? ⟨w.heap.size, 2, none⟩ = some (.int .i64 tmo) ∧ wa.cell? ⟨w.heap.size, 3, none⟩ = some (.int .i64 nw)) := by
    intro wa c
    have hh : wa.heap[w.heap.size]? = _ := (c.block _ (heap_lt hbox) hfree).trans hbox
    exact ⟨cell_at hh 1, cell_at hh 2, cell_at hh 3⟩
  have HKM : Hid (∀ {wa : World}, Chg (Own b m) W wa → B ≤ wa.heap.size ∧ Rk wa B r now v S) := fun c => ⟨Nat.le_trans hBW.2.2 c.size, hKW.keep c fun g hg e => hv g e hg⟩
  have HFIN : Hid (∀ {wa w' : World} {now' : Int} {S' : List Fi}, Bx wa b m now' S' → Chg (Own b m) W wa → Rn B r v wa w' now' S' → Below B w w' ∧ Tw B w' b m r now' S') := by
    intro wa w' now' S' h1 c h2
    have hk := HKM.out c
    exact ⟨(hBl.trans (own_below c hb hm hBW.2.2)).trans (Rn.low hk.2 h2 hk.1), Tw.fin ⟨hb, hm, hk.1⟩ hv h1 h2⟩
  have HRC : Hid (∀ {wa w' : World} {now' : Int} {S' : List Fi}, Chg (Own b m) W wa → Rn B r v wa w' now' S' → Chg (fun g => Own b m g ∨ Wr r v g) W w') := by
    intro wa w' now' S' c h2
    obtain ⟨_, _, c2, _⟩ := h2
    exact (c.weak fun _ _ e => .inl e).trans (c2.weak fun _ _ e => .inr e)
  have HWK : Hid (∀ {wa : World}, Chg (Own b m) W wa → Chg (fun g => Own b m g ∨ Wr r v g) W wa) := fun c => c.weak fun _ _ e => .inl e
  have HNW : Hid (0 ≤ now ∧ now ≤ late) := hX.nw
  have HUP : Hid (asc S ∧ ∀ p ∈ S, 1 ≤ p.tmo ∧ p.tmo ≤ 1000) := ⟨hX.up, fun p hp => ⟨(hX.nums p hp).2.2.1, (hX.nums p hp).2.2.2⟩⟩
  have HLN : Hid (S.length ≤ 99999) := hL
  have HW : Hid (W = (w.alloc (.cells #[.int .i64 op, .int .i64 ses, .int .i64 tmo, .int .i64 nw] 29)).drew) := hW
  have HFR : Hid (∀ g, W.heap.size ≤ g → ¬ Wr r v g) := by
    intro g hg e
    have := (hKW.lt g e).2
    omega
  have hpk := pick_any op 5 (by omega) (by omega) (w.alloc (.cells #[.int .i64 op, .int .i64 ses, .int .i64 tmo, .int .i64 nw] 29))
  have hS0 := HCC.out (Chg.refl _ _)
  have hop0 := Int.emod_nonneg op (show (5 : Int) ≠ 0 by omega)
  have hop1 := Int.emod_lt_of_pos op (show (0 : Int) < 5 by omega)
  generalize op % 5 = o at hpk hop0 hop1
  have HXW : Hid (Bx W b m now S) := hXW
  have HXQ : Hid (Bx (w.alloc (.cells #[.int .i64 op, .int .i64 ses, .int .i64 tmo, .int .i64 nw] 29)) b m now S) := hX.alloc _
  clear hbox hfree hXW hKW hBl hBW hX hK hv o1 o3 o4 hL
  have h2b := o2.2
  clear o2
  rw [hW] at hS0
  clear hW hb hm hB
  go_enter Tryz.func6, Tryz.ntmps6
  go_wp2_with fail
  refine hpk.mono ?_
  rintro e w1 ⟨rfl, rfl⟩
  have hcase : o = 0 ∨ o = 1 ∨ o = 2 ∨ (o = 3 ∨ o = 4) := by omega
  clear hop0 hop1 hpk
  rcases hcase with rfl | rfl | rfl | hs
  · have c1 := add_any HXW.out ses tmo h2b
    have HS : Hid (∀ {wa : World}, Chg (Own b m) W wa → (wa.cell? ⟨w.heap.size, 1, none⟩ = some (.int .i64 ses) ∧ wa.cell? ⟨w.heap.size, 2, none⟩ = some (.int .i64 tmo)) ∧ Calls Tryz.prog 14 #[.pointer (some ⟨r, 0, none⟩), .int .i64 ses, .int .i64 tmo] wa fun e w' => e = .returned (.int .i64 (addE ses tmo)) ∧ Rn B r v wa w' now (addR now ses tmo S) ∧ (w'.cell? ⟨w.heap.size, 1, none⟩ = some (.int .i64 ses) ∧ w'.cell? ⟨w.heap.size, 2, none⟩ = some (.int .i64 tmo))) := by
      intro wa c
      have hk := HKM.out c
      have hc := HCC.out (HWK.out c)
      refine ⟨⟨hc.1, hc.2.1⟩, ?_⟩
      refine (radd_any hk.1 hk.2 HLN.out HUP.out.1 HNW.out ses tmo).mono ?_
      rintro e w' ⟨rfl, hr⟩
      have hc' := HCC.out (HRC.out c hr)
      exact ⟨rfl, hr, hc'.1, hc'.2.1⟩
    have HLS : Hid ((addR now ses tmo S).length ≤ S.length + 1) := (by show _ ≤ _; exact len_addR now ses tmo S)
    rw [HW.out] at c1
    obtain ⟨S', hS'⟩ : ∃ S', addR now ses tmo S = S' := ⟨_, rfl⟩
    obtain ⟨E, hE⟩ : ∃ E, addE ses tmo = E := ⟨_, rfl⟩
    rw [hS', hE] at c1
    rw [hS', hE] at HS
    rw [hS'] at HLS
    clear hS' hE
    have hT0 : ((w.alloc (.cells #[.int .i64 op, .int .i64 ses, .int .i64 tmo, .int .i64 nw] 29)).drew).cell? ⟨w.heap.size, 1, none⟩ = some (.int .i64 ses) ∧ ((w.alloc (.cells #[.int .i64 op, .int .i64 ses, .int .i64 tmo, .int .i64 nw] 29)).drew).cell? ⟨w.heap.size, 2, none⟩ = some (.int .i64 tmo) := ⟨hS0.1, hS0.2.1⟩
    go_wp2_with fail
    go_region_held3 (fun w' => w'.cell? ⟨w.heap.size, 1, none⟩ = some (.int .i64 ses) ∧ w'.cell? ⟨w.heap.size, 2, none⟩ = some (.int .i64 tmo))
      (first | exact hT0 | exact hS1 | exact hS2 | go_keep)
      (first
        | (go_at_call 13; refine c1.mono ?_; rintro e wa ⟨rfl, x1, a1, _⟩; rw [← HW.out] at a1; obtain ⟨hS1, c2⟩ := HS.out a1; have HA : Hid (Bx wa b m now S' ∧ Chg (Own b m) W wa) := ⟨x1, a1⟩; clear x1 a1)
        | (go_at_call 14; refine c2.mono ?_; rintro e wb ⟨rfl, b1, hS2⟩; have HB : Hid (Rn B r v wa wb now S') := b1; clear b1))
    go_wp2_with fail
    go_ret
    exact ⟨by simp, (HFIN.out HA.out.1 HA.out.2 HB.out).1, now, S', HLS.out, (HFIN.out HA.out.1 HA.out.2 HB.out).2⟩
  · have c1 := touch_any HXW.out ses
    have HS : Hid (∀ {wa : World}, Chg (Own b m) W wa → (wa.cell? ⟨w.heap.size, 1, none⟩ = some (.int .i64 ses) ∧ wa.cell? ⟨w.heap.size, 2, none⟩ = some (.int .i64 tmo)) ∧ Calls Tryz.prog 16 #[.pointer (some ⟨r, 0, none⟩), .int .i64 ses] wa fun e w' => e = .returned (.bool (look ses S).isSome) ∧ Rn B r v wa w' now (touchS now ses S) ∧ (w'.cell? ⟨w.heap.size, 1, none⟩ = some (.int .i64 ses) ∧ w'.cell? ⟨w.heap.size, 2, none⟩ = some (.int .i64 tmo))) := by
      intro wa c
      have hk := HKM.out c
      have hc := HCC.out (HWK.out c)
      refine ⟨⟨hc.1, hc.2.1⟩, ?_⟩
      refine (rtouch_any hk.1 hk.2 (by have := HLN.out; omega) HUP.out.1 HUP.out.2 HNW.out ses).mono ?_
      rintro e w' ⟨rfl, hr⟩
      have hc' := HCC.out (HRC.out c hr)
      exact ⟨rfl, hr, hc'.1, hc'.2.1⟩
    have HLS : Hid ((touchS now ses S).length ≤ S.length + 1) := (len_touch now ses S)
    rw [HW.out] at c1
    obtain ⟨S', hS'⟩ : ∃ S', touchS now ses S = S' := ⟨_, rfl⟩
    obtain ⟨E, hE⟩ : ∃ E, (look ses S).isSome = E := ⟨_, rfl⟩
    rw [hS', hE] at c1
    rw [hS', hE] at HS
    rw [hS'] at HLS
    clear hS' hE
    have hT0 : ((w.alloc (.cells #[.int .i64 op, .int .i64 ses, .int .i64 tmo, .int .i64 nw] 29)).drew).cell? ⟨w.heap.size, 1, none⟩ = some (.int .i64 ses) ∧ ((w.alloc (.cells #[.int .i64 op, .int .i64 ses, .int .i64 tmo, .int .i64 nw] 29)).drew).cell? ⟨w.heap.size, 2, none⟩ = some (.int .i64 tmo) := ⟨hS0.1, hS0.2.1⟩
    go_wp2_with fail
    go_region_held3 (fun w' => w'.cell? ⟨w.heap.size, 1, none⟩ = some (.int .i64 ses) ∧ w'.cell? ⟨w.heap.size, 2, none⟩ = some (.int .i64 tmo))
      (first | exact hT0 | exact hS1 | exact hS2 | go_keep)
      (first
        | (go_at_call 15; refine c1.mono ?_; rintro e wa ⟨rfl, x1, a1⟩; rw [← HW.out] at a1; obtain ⟨hS1, c2⟩ := HS.out a1; have HA : Hid (Bx wa b m now S' ∧ Chg (Own b m) W wa) := ⟨x1, a1⟩; clear x1 a1)
        | (go_at_call 16; refine c2.mono ?_; rintro e wb ⟨rfl, b1, hS2⟩; have HB : Hid (Rn B r v wa wb now S') := b1; clear b1))
    go_wp2_with fail
    go_ret
    exact ⟨by simp, (HFIN.out HA.out.1 HA.out.2 HB.out).1, now, S', HLS.out, (HFIN.out HA.out.1 HA.out.2 HB.out).2⟩
  · have c1 := remove_any HXW.out ses
    have HS : Hid (∀ {wa : World}, Chg (Own b m) W wa → (wa.cell? ⟨w.heap.size, 1, none⟩ = some (.int .i64 ses) ∧ wa.cell? ⟨w.heap.size, 2, none⟩ = some (.int .i64 tmo)) ∧ Calls Tryz.prog 18 #[.pointer (some ⟨r, 0, none⟩), .int .i64 ses] wa fun e w' => e = .returned (.bool (look ses S).isSome) ∧ Rn B r v wa w' now (delL ses S) ∧ (w'.cell? ⟨w.heap.size, 1, none⟩ = some (.int .i64 ses) ∧ w'.cell? ⟨w.heap.size, 2, none⟩ = some (.int .i64 tmo))) := by
      intro wa c
      have hk := HKM.out c
      have hc := HCC.out (HWK.out c)
      refine ⟨⟨hc.1, hc.2.1⟩, ?_⟩
      refine (rremove_any hk.1 hk.2 (by have := HLN.out; omega) ses).mono ?_
      rintro e w' ⟨rfl, hr⟩
      have hc' := HCC.out (HRC.out c hr)
      exact ⟨rfl, hr, hc'.1, hc'.2.1⟩
    have HLS : Hid ((delL ses S).length ≤ S.length + 1) := (by have := (del_sub ses S).length_le; show _ ≤ _; omega)
    rw [HW.out] at c1
    obtain ⟨S', hS'⟩ : ∃ S', delL ses S = S' := ⟨_, rfl⟩
    obtain ⟨E, hE⟩ : ∃ E, (look ses S).isSome = E := ⟨_, rfl⟩
    rw [hS', hE] at c1
    rw [hS', hE] at HS
    rw [hS'] at HLS
    clear hS' hE
    have hT0 : ((w.alloc (.cells #[.int .i64 op, .int .i64 ses, .int .i64 tmo, .int .i64 nw] 29)).drew).cell? ⟨w.heap.size, 1, none⟩ = some (.int .i64 ses) ∧ ((w.alloc (.cells #[.int .i64 op, .int .i64 ses, .int .i64 tmo, .int .i64 nw] 29)).drew).cell? ⟨w.heap.size, 2, none⟩ = some (.int .i64 tmo) := ⟨hS0.1, hS0.2.1⟩
    go_wp2_with fail
    go_region_held3 (fun w' => w'.cell? ⟨w.heap.size, 1, none⟩ = some (.int .i64 ses) ∧ w'.cell? ⟨w.heap.size, 2, none⟩ = some (.int .i64 tmo))
      (first | exact hT0 | exact hS1 | exact hS2 | go_keep)
      (first
        | (go_at_call 17; refine c1.mono ?_; rintro e wa ⟨rfl, x1, a1⟩; rw [← HW.out] at a1; obtain ⟨hS1, c2⟩ := HS.out a1; have HA : Hid (Bx wa b m now S' ∧ Chg (Own b m) W wa) := ⟨x1, a1⟩; clear x1 a1)
        | (go_at_call 18; refine c2.mono ?_; rintro e wb ⟨rfl, b1, hS2⟩; have HB : Hid (Rn B r v wa wb now S') := b1; clear b1))
    go_wp2_with fail
    go_ret
    exact ⟨by simp, (HFIN.out HA.out.1 HA.out.2 HB.out).1, now, S', HLS.out, (HFIN.out HA.out.1 HA.out.2 HB.out).2⟩
  · have hT0 : (w.alloc (.cells #[.int .i64 op, .int .i64 ses, .int .i64 tmo, .int .i64 nw] 29)).drew.cell? ⟨w.heap.size, 3, none⟩ = some (.int .i64 nw) := hS0.2.2
    have c1 := tick_any HXW.out nw (by have := HLN.out; omega)
    have HS : Hid (∀ {wa : World}, Chg (Own b m) W wa → (wa.cell? ⟨w.heap.size, 3, none⟩ = some (.int .i64 nw)) ∧ Calls Tryz.prog 20 #[.pointer (some ⟨r, 0, none⟩), .int .i64 nw] wa fun e w' => ∃ A C, e = .returned (.slice A (told (tickN now nw) S).length C) ∧ w'.ownsRow wa.heap.size 2 1 (.slice A (told (tickN now nw) S).length C) (told (tickN now nw) S).length (iv (told (tickN now nw) S)) ∧ Rn B r v wa w' (tickN now nw) (rest (tickN now nw) S) ∧ (w'.cell? ⟨w.heap.size, 3, none⟩ = some (.int .i64 nw))) := by
      intro wa c
      have hk := HKM.out c
      have hc := HCC.out (HWK.out c)
      refine ⟨hc.2.2, ?_⟩
      refine (rtick_any hk.1 hk.2 HLN.out nw).mono ?_
      rintro e w' ⟨A, C, rfl, ho, hr⟩
      exact ⟨A, C, rfl, ho, hr, (HCC.out (HRC.out c hr)).2.2⟩
    have HLS : Hid ((rest (tickN now nw) S).length ≤ S.length + 1 ∧ (told (tickN now nw) S).length ≤ 140737488355328) := by
      have h1 := len_rest (tickN now nw) S
      have h2 := len_told (tickN now nw) S
      have := HLN.out
      exact ⟨by omega, by omega⟩
    rw [HW.out] at c1
    obtain ⟨S', hS'⟩ : ∃ S', rest (tickN now nw) S = S' := ⟨_, rfl⟩
    obtain ⟨E, hE⟩ : ∃ E, told (tickN now nw) S = E := ⟨_, rfl⟩
    obtain ⟨t, ht⟩ : ∃ t, tickN now nw = t := ⟨_, rfl⟩
    rw [hS', hE, ht] at c1
    rw [hS', hE, ht] at HS
    rw [hS', hE] at HLS
    clear hS' hE ht hS0
    rcases hs with rfl | rfl
    all_goals
      go_wp2_with fail
      go_region_held3 (fun w' => w'.cell? ⟨w.heap.size, 3, none⟩ = some (.int .i64 nw))
        (first | exact hT0 | exact hS1 | exact hS2 | exact hS3 | go_keep)
        (first
          | (go_at_call 19; refine c1.mono ?_; rintro e wa ⟨A1, C1, rfl, u1, x1, a1⟩; rw [← HW.out] at a1 u1; obtain ⟨hS1, c2⟩ := HS.out a1; have HA : Hid (Bx wa b m t S' ∧ Chg (Own b m) W wa ∧ wa.ownsRow W.heap.size 2 1 (.slice A1 E.length C1) E.length (iv E)) := ⟨x1, a1, u1⟩; clear x1 a1 u1)
          | (go_at_call 20; refine c2.mono ?_; rintro e wb ⟨A2, C2, rfl, u2, b1, hS2⟩; have HB : Hid (Rn B r v wa wb t S' ∧ Ns wb (.slice A2 E.length C2) E) := ⟨b1, Ns.of_owns u2⟩; have c3 := same_any (tick_left HFR.out HA.out.2.2 HB.out.1) HB.out.2 HLS.out.2; rw [decide_eq_true rfl] at c3; clear u2 b1)
          | (go_at_call 7; refine c3.mono ?_; rintro e wc ⟨rfl, q, rfl⟩; have hS3 : (wb.drewN q).cell? ⟨w.heap.size, 3, none⟩ = some (.int .i64 nw) := by rw [World.cell?_drewN]; exact hS2))
      go_wp2_with fail
      go_ret
      have hf := HFIN.out HA.out.1 HA.out.2.1 HB.out.1
      exact ⟨rfl, below_drewN hf.1 q, t, S', HLS.out.1, hf.2.below (below_drewN (Below.refl _ _) q)⟩
end Go.Proofs.YtbehainbggdpeaaGreat
