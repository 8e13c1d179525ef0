/- The walk of DiskLives. -/
import Derived.Test.YtndjlnlmlgimlaaDfN
namespace Go.Proofs.Ytndjlnlmlgimlaa
open Go.RowKit Go.MapKept

/- The slice v holds the steps l. -/
def Dos (w : World) (v : Value) (l : List Do8) : Prop :=
  ∃ A C, v = .slice A l.length C ∧ l.length ≤ C ∧ (∀ x ∈ l, x.ok) ∧ ∀ j (h : j < l.length), ∃ g o A' C', A = some ⟨g, o, none⟩ ∧ w.cell? ⟨g, o + j * 5, none⟩ = some (.int .i64 (l[j]'h).op) ∧ w.cell? ⟨g, o + j * 5 + 1, none⟩ = some (.string (mkS (l[j]'h).nm)) ∧
    w.cell? ⟨g, o + j * 5 + 2, none⟩ = some (.string (mkS (l[j]'h).tt)) ∧ w.cell? ⟨g, o + j * 5 + 3, none⟩ = some (.slice A' (l[j]'h).b.length C') ∧ w.cell? ⟨g, o + j * 5 + 4, none⟩ = some (.int .i64 (l[j]'h).n) ∧ Bs w (.slice A' (l[j]'h).b.length C') (l[j]'h).b
theorem Dos.at {w : World} {A : Option Addr} {n C : Nat} {l : List Do8} (h : Dos w (.slice A n C) l) (j : Nat) (hj : j < l.length) : ∃ g o A' C', A = some ⟨g, o, none⟩ ∧ w.cell? ⟨g, o + j * 5, none⟩ = some (.int .i64 (l[j]'hj).op) ∧ w.cell? ⟨g, o + j * 5 + 1, none⟩ = some (.string (mkS (l[j]'hj).nm)) ∧
    w.cell? ⟨g, o + j * 5 + 2, none⟩ = some (.string (mkS (l[j]'hj).tt)) ∧ w.cell? ⟨g, o + j * 5 + 3, none⟩ = some (.slice A' (l[j]'hj).b.length C') ∧ w.cell? ⟨g, o + j * 5 + 4, none⟩ = some (.int .i64 (l[j]'hj).n) ∧ Bs w (.slice A' (l[j]'hj).b.length C') (l[j]'hj).b := by
  obtain ⟨A', C', e, _, _, h⟩ := h
  injection e with e
  subst e
  exact h j hj
theorem Dos.ok {w : World} {v : Value} {l : List Do8} (h : Dos w v l) : ∀ x ∈ l, x.ok := by
  obtain ⟨A', C', e, _, h, _⟩ := h; exact h
theorem Dos.take {w : World} {A : Option Addr} {n C : Nat} {l : List Do8} (h : Dos w (.slice A n C) l) (m : Nat) (hm : m ≤ l.length) : Dos w (.slice A m C) (l.take m) ∧ n = l.length ∧ m ≤ C := by
  obtain ⟨A', C', e, h1, h2, h3⟩ := h
  injection e with e1 e2 e3
  subst e1 e3
  refine ⟨⟨A, C, by rw [List.length_take, Nat.min_eq_left hm], by rw [List.length_take]; omega, fun x hx => h2 x (List.mem_of_mem_take hx), fun j hj => ?_⟩, e2, by omega⟩
  have hj' : j < l.length := by rw [List.length_take] at hj; omega
  have := h3 j hj'
  simpa using this
/- Both disks at their beginning. -/
theorem Two.start {w wa wb : World} {d r base : Nat} {room : Int} {v : Value} (h1 : Dx wa d room [] (fun k => k < w.heap.size)) (b1 : Below w.heap.size w wa) (h2 : Rk wb base r room v []) (hv : v = .slice none 0 0) (hb : base = wa.heap.size) (b2 : Below wa.heap.size wa wb) : Two (fun g => g < w.heap.size) Non w wb d r room [] := by
  have s1 := b1.size
  have s2 := b2.size
  have hr : wa.heap.size ≤ r := by have := h2.low; omega
  have hrl := heap_lt h2.cell
  have hdy : Dy wa d room [] (fun k => w.heap.size ≤ k ∧ k < wa.heap.size) := ⟨h1.fewer fun k hk => Nat.lt_of_not_le fun e => hk.2 ⟨e, hk.1⟩, fun k hk => hk.2⟩
  refine ⟨[], _, v, fun k => k = r, hdy.below b2, .refl _, List.Pairwise.nil, ⟨base, [], by omega, h2, rfl, fun g hg => ?_, fun g hg => by omega⟩, fun g hg e => by omega, fun g hg => ⟨fun e => by omega, fun e => ?_⟩, Kp.of_below (b1.trans (b2.mono s1)), fun g hg => hg, fun g hg => hg.elim⟩
  · rcases hg with e | e | ⟨p, hp, _⟩
    · exact e
    · rw [hv] at e; cases e
    · cases hp
  · rcases e with e | e
    · omega
    · rw [hv] at e; cases e
theorem Two.low {w0 w : World} {d r : Nat} {room : Int} {F : List Fi} (h : Two (fun g => g < w0.heap.size) Non w0 w d r room F) : Below w0.heap.size w0 w := Kp.below h.bel (fun _ h => h) (Nat.le_refl _)
set_option maxRecDepth 100000 in
set_option maxHeartbeats 8000000 in
theorem lives_short {w : World} {A : Option Addr} {C : Nat} {l : List Do8} (room : Int) (hr : -9223372036854775808 ≤ room ∧ room < 9223372036854775808) (h : Dos w (.slice A l.length C) l) (hl : l.length ≤ 60) {N C0 : Nat} (hN : (N = l.length ∧ 60 ≥ N) ∨ (60 < N ∧ l.length = 60 ∧ 60 ≤ C ∧ C0 = C)) (hC : C0 = C) :
    Calls Try.prog 3 #[.int .i64 room, .slice A N C0] w fun e w' => e = .returned (.bool true) ∧ Below w.heap.size w w' := by
  subst hC
  have HD : Hid (Dos w (.slice A l.length C0) l) := h
  clear h
  obtain ⟨K, hK⟩ : ∃ K, K = l.length := ⟨_, rfl⟩
  have HK : Hid (K = l.length) := hK
  rw [← hK] at hl hN
  clear hK
  have hnew := new_dx room hr w
  have HRN : Hid (∀ w', Calls Try.prog 6 #[.int .i64 room] w' fun e w'' => ∃ r, e = .returned (.pointer (some ⟨r, 0, none⟩)) ∧ Rk w'' w'.heap.size r (max room 0) (.slice none 0 0) [] ∧ Below w'.heap.size w' w'') := fun w' => rnew_any room hr w'
  clear hr
  go_enter Try.func3, Try.ntmps3
  rcases hN with ⟨rfl, h2⟩ | ⟨h1, rfl, h3, _⟩
  · go_wp2_with fail
    refine hnew.mono ?_
    rintro e wa ⟨d, rfl, hd1, hb1⟩
    have hrn := HRN.out wa
    clear hnew
    go_wp2_with fail
    refine hrn.mono ?_
    rintro e wb ⟨r, rfl, hr1, hb2⟩
    have HTW : Hid (Two (fun g => g < w.heap.size) Non w wb d r (max room 0) []) := Two.start hd1 hb1 hr1 rfl rfl hb2
    clear hrn hd1 hb1 hr1 hb2
    go_wp2_with fail
    go_loopw [7] (fun i wr => ∃ (j : Nat) (F : List Fi), j ≤ N ∧ i = .int .i64 j ∧ F.length ≤ j ∧ Two (fun g => g < w.heap.size) Non w wr d r (max room 0) F) (fun i _ => N - (intOf i).toNat)
    case atStart => exact ⟨0, [], Nat.zero_le _, rfl, by simp, HTW.out⟩
    case round =>
      obtain ⟨j, F, hj, rfl, hF, hT⟩ := hrel
      have HT : Hid (Two (fun g => g < w.heap.size) Non w wr d r (max room 0) F) := hT
      by_cases hlt : j < N
      · have hj' : j < l.length := by have := HK.out; omega
        obtain ⟨x, hx⟩ : ∃ x : Do8, x = l[j]'hj' := ⟨_, rfl⟩
        obtain ⟨g, o, A', C', hA, a0, a1, a2, a3, a4, a5⟩ := HD.out.at j hj'
        rw [← hx] at a0 a1 a2 a3 a4 a5
        have HXK : Hid x.ok := by rw [hx]; exact HD.out.ok _ (List.getElem_mem hj')
        have HLC : Hid (∀ {w' : World}, Below w.heap.size w w' → ∀ {i : Nat} {u : Value}, w.cell? ⟨g, i, none⟩ = some u → w'.cell? ⟨g, i, none⟩ = some u) := by
          intro w' hB i u hu
          rw [World.cell?_of_block (hB.block g (World.block_lt_of_cell? w _ hu))]; exact hu
        have HY : Hid (w.cell? ⟨g, o + j * 5 + 2, none⟩ = some (.string (mkS x.tt))) := a2
        have c0 := HLC.out hT.low a0
        have c1 := HLC.out hT.low a1
        have c2 := HLC.out hT.low a2
        have c3 := HLC.out hT.low a3
        have c4 := HLC.out hT.low a4
        have hst := step_any hT (by omega) x HXK.out (a5.keep (Chg.of_below hT.low) (fun _ _ => id)) (fun k hk => a5.lt hk)
        simp only [stepO, stepC] at hst
        clear hx a0 a1 a2 a3 a4 a5 hT
        subst hA
        go_wp2_with fail
        refine hst.mono ?_
        rintro e w1 ⟨rfl, F', hF', hT1⟩
        have h1 := like_any hT1 (by omega)
        have HT1 : Hid (Two (fun g => g < w.heap.size) Non w w1 d r (max room 0) F') := hT1
        clear hst hT1 c0 c1 c2 c3 c4
        go_wp2_with fail
        refine h1.mono ?_
        rintro e w2 ⟨rfl, hB2⟩
        have hT2 := HT1.out.below hB2
        have HT2 : Hid (Two (fun g => g < w.heap.size) Non w w2 d r (max room 0) F') := hT2
        have y2 := HLC.out hT2.low HY.out
        have h2 := two_read hT2 x.tt
        have HFT : Hid ((getF x.tt F').b.length ≤ 4194304) := two_fit hT2 x.tt
        have HRD : Hid (∀ {w' : World}, Two (fun g => g < w.heap.size) Non w w' d r (max room 0) F' → Calls Try.prog 10 #[.pointer (some ⟨r, 0, none⟩), .string (mkS x.tt)] w' fun e w'' => ∃ A C, e = .returned (.tuple #[.slice A (getF x.tt F').b.length C, .int .i64 (synE F' x.tt)]) ∧ Bs w'' (.slice A (getF x.tt F').b.length C) (getF x.tt F').b ∧ Below w'.heap.size w' w'') := fun hb => two_rread hb (by omega) x.tt
        generalize getF x.tt F' = f at h2 HFT HRD
        generalize synE F' x.tt = se at h2 HRD
        clear h1 hB2 hT2
        go_wp2_with fail
        refine h2.mono ?_
        rintro e w3 ⟨A3, C3, rfl, hb3, hB3⟩
        have hT3 := HT2.out.below hB3
        have y3 := HLC.out hT3.low HY.out
        have h3 := HRD.out hT3
        have HB3 : Hid (Bs w3 (.slice A3 f.b.length C3) f.b ∧ Two (fun g => g < w.heap.size) Non w w3 d r (max room 0) F') := ⟨hb3, hT3⟩
        clear h2 hb3 hB3 hT3 y2
        go_wp2_with fail
        refine h3.mono ?_
        rintro e w4 ⟨A4, C4, rfl, hb4, hB4⟩
        have h4 := same_any (HB3.out.1.keep (Chg.of_below hB4) (fun _ _ => id)) hb4 (by have := HFT.out; omega)
        rw [decide_eq_true rfl] at h4
        have HT4 : Hid (Two (fun g => g < w.heap.size) Non w w4 d r (max room 0) F') := HB3.out.2.below hB4
        clear h3 hb4 hB4 y3
        go_wp2_with fail
        refine h4.mono ?_
        rintro e w5 ⟨rfl, q5, rfl⟩
        clear h4
        go_wp2_with fail
        go_roundw
        case rel => exact ⟨j + 1, F', by omega, by go_num, by omega, HT4.out.below (below_drewN (Below.refl _ _) q5)⟩
        case measure => simp [intOf]; omega
      · go_wp2_with fail
        refine (awake_any _).mono ?_
        rintro e wz ⟨rfl, hbz⟩
        have HB : Hid (Below w.heap.size w wz) := HT.out.low.trans (hbz.mono HT.out.low.size)
        clear hbz hT
        go_wp2_with fail
        go_ret
        exact ⟨rfl, HB.out⟩
  · go_wp2_with fail
    refine hnew.mono ?_
    rintro e wa ⟨d, rfl, hd1, hb1⟩
    have hrn := HRN.out wa
    clear hnew
    go_wp2_with fail
    refine hrn.mono ?_
    rintro e wb ⟨r, rfl, hr1, hb2⟩
    have HTW : Hid (Two (fun g => g < w.heap.size) Non w wb d r (max room 0) []) := Two.start hd1 hb1 hr1 rfl rfl hb2
    clear hrn hd1 hb1 hr1 hb2
    go_wp2_with fail
    go_loopw [7] (fun i wr => ∃ (j : Nat) (F : List Fi), j ≤ 60 ∧ i = .int .i64 j ∧ F.length ≤ j ∧ Two (fun g => g < w.heap.size) Non w wr d r (max room 0) F) (fun i _ => 60 - (intOf i).toNat)
    case atStart => exact ⟨0, [], Nat.zero_le _, rfl, by simp, HTW.out⟩
    case round =>
      obtain ⟨j, F, hj, rfl, hF, hT⟩ := hrel
      have HT : Hid (Two (fun g => g < w.heap.size) Non w wr d r (max room 0) F) := hT
      by_cases hlt : j < 60
      · have hj' : j < l.length := by have := HK.out; omega
        obtain ⟨x, hx⟩ : ∃ x : Do8, x = l[j]'hj' := ⟨_, rfl⟩
        obtain ⟨g, o, A', C', hA, a0, a1, a2, a3, a4, a5⟩ := HD.out.at j hj'
        rw [← hx] at a0 a1 a2 a3 a4 a5
        have HXK : Hid x.ok := by rw [hx]; exact HD.out.ok _ (List.getElem_mem hj')
        have HLC : Hid (∀ {w' : World}, Below w.heap.size w w' → ∀ {i : Nat} {u : Value}, w.cell? ⟨g, i, none⟩ = some u → w'.cell? ⟨g, i, none⟩ = some u) := by
          intro w' hB i u hu
          rw [World.cell?_of_block (hB.block g (World.block_lt_of_cell? w _ hu))]; exact hu
        have HY : Hid (w.cell? ⟨g, o + j * 5 + 2, none⟩ = some (.string (mkS x.tt))) := a2
        have c0 := HLC.out hT.low a0
        have c1 := HLC.out hT.low a1
        have c2 := HLC.out hT.low a2
        have c3 := HLC.out hT.low a3
        have c4 := HLC.out hT.low a4
        have hst := step_any hT (by omega) x HXK.out (a5.keep (Chg.of_below hT.low) (fun _ _ => id)) (fun k hk => a5.lt hk)
        simp only [stepO, stepC] at hst
        clear hx a0 a1 a2 a3 a4 a5 hT
        subst hA
        go_wp2_with fail
        refine hst.mono ?_
        rintro e w1 ⟨rfl, F', hF', hT1⟩
        have h1 := like_any hT1 (by omega)
        have HT1 : Hid (Two (fun g => g < w.heap.size) Non w w1 d r (max room 0) F') := hT1
        clear hst hT1 c0 c1 c2 c3 c4
        go_wp2_with fail
        refine h1.mono ?_
        rintro e w2 ⟨rfl, hB2⟩
        have hT2 := HT1.out.below hB2
        have HT2 : Hid (Two (fun g => g < w.heap.size) Non w w2 d r (max room 0) F') := hT2
        have y2 := HLC.out hT2.low HY.out
        have h2 := two_read hT2 x.tt
        have HFT : Hid ((getF x.tt F').b.length ≤ 4194304) := two_fit hT2 x.tt
        have HRD : Hid (∀ {w' : World}, Two (fun g => g < w.heap.size) Non w w' d r (max room 0) F' → Calls Try.prog 10 #[.pointer (some ⟨r, 0, none⟩), .string (mkS x.tt)] w' fun e w'' => ∃ A C, e = .returned (.tuple #[.slice A (getF x.tt F').b.length C, .int .i64 (synE F' x.tt)]) ∧ Bs w'' (.slice A (getF x.tt F').b.length C) (getF x.tt F').b ∧ Below w'.heap.size w' w'') := fun hb => two_rread hb (by omega) x.tt
        generalize getF x.tt F' = f at h2 HFT HRD
        generalize synE F' x.tt = se at h2 HRD
        clear h1 hB2 hT2
        go_wp2_with fail
        refine h2.mono ?_
        rintro e w3 ⟨A3, C3, rfl, hb3, hB3⟩
        have hT3 := HT2.out.below hB3
        have y3 := HLC.out hT3.low HY.out
        have h3 := HRD.out hT3
        have HB3 : Hid (Bs w3 (.slice A3 f.b.length C3) f.b ∧ Two (fun g => g < w.heap.size) Non w w3 d r (max room 0) F') := ⟨hb3, hT3⟩
        clear h2 hb3 hB3 hT3 y2
        go_wp2_with fail
        refine h3.mono ?_
        rintro e w4 ⟨A4, C4, rfl, hb4, hB4⟩
        have h4 := same_any (HB3.out.1.keep (Chg.of_below hB4) (fun _ _ => id)) hb4 (by have := HFT.out; omega)
        rw [decide_eq_true rfl] at h4
        have HT4 : Hid (Two (fun g => g < w.heap.size) Non w w4 d r (max room 0) F') := HB3.out.2.below hB4
        clear h3 hb4 hB4 y3
        go_wp2_with fail
        refine h4.mono ?_
        rintro e w5 ⟨rfl, q5, rfl⟩
        clear h4
        go_wp2_with fail
        go_roundw
        case rel => exact ⟨j + 1, F', by omega, by go_num, by omega, HT4.out.below (below_drewN (Below.refl _ _) q5)⟩
        case measure => simp [intOf]; omega
      · go_wp2_with fail
        refine (awake_any _).mono ?_
        rintro e wz ⟨rfl, hbz⟩
        have HB : Hid (Below w.heap.size w wz) := HT.out.low.trans (hbz.mono HT.out.low.size)
        clear hbz hT
        go_wp2_with fail
        go_ret
        exact ⟨rfl, HB.out⟩
/- DiskLives is true, of whatever steps. -/
theorem lives_any {w : World} {v : Value} {l : List Do8} (room : Int) (hr : -9223372036854775808 ≤ room ∧ room < 9223372036854775808) (h : Dos w v l) : Calls Try.prog 3 #[.int .i64 room, v] w fun e w' => e = .returned (.bool true) ∧ Below w.heap.size w w' := by
  have h' := h
  obtain ⟨A, C, rfl, hC, _, _⟩ := h'
  by_cases hl : l.length ≤ 60
  · exact lives_short room hr h hl (.inl ⟨rfl, hl⟩) rfl
  · have ht := h.take 60 (by omega)
    have e : (l.take 60).length = 60 := by rw [List.length_take]; omega
    exact lives_short (l := l.take 60) room hr (by rw [e]; exact ht.1) (by omega) (.inr ⟨by omega, e, by omega, rfl⟩) rfl
end Go.Proofs.Ytndjlnlmlgimlaa
