/- Do both disks have the same files? -/
import Derived.Test.YtndjlnlmlgimlaaDfL
namespace Go.Proofs.Ytndjlnlmlgimlaa
open Go.RowKit Go.MapKept

theorem two_rlist {D E : Nat → Prop} {w0 w : World} {d r : Nat} {room : Int} {F : List Fi} (h : Two D E w0 w d r room F) (hl : F.length ≤ 999999) :
    Calls Try.prog 28 #[.pointer (some ⟨r, 0, none⟩)] w fun e w' => ∃ A C, e = .returned (.slice A F.length C) ∧ Txs w' (.slice A F.length C) (F.map (·.nm)) ∧ Below w.heap.size w w' := by
  obtain ⟨G, S, v, B, h⟩ := h
  obtain ⟨base, L, h1, h2, rfl, h4, h5⟩ := h.rx
  refine (rlist_any h2 (by simp at hl; omega)).mono ?_
  rintro e w' ⟨A, C, rfl, ho, hB⟩
  refine ⟨A, C, by simp, ?_, hB⟩
  rw [List.length_map]
  have := Txs.of_owns ho
  rw [List.map_map]
  exact this
theorem two_list {D E : Nat → Prop} {w0 w : World} {d r : Nat} {room : Int} {F : List Fi} (h : Two D E w0 w d r room F) (hl : F.length ≤ 999999) :
    Calls Try.prog 30 #[.pointer (some ⟨d, 0, none⟩)] w fun e w' => ∃ A C, e = .returned (.slice A F.length C) ∧ Txs w' (.slice A F.length C) (F.map (·.nm)) ∧ Below w.heap.size w w' := by
  obtain ⟨G, S, v, B, h⟩ := h
  have hlen := h.perm.length_eq
  refine (list_dx h.dy.1 (by omega)).mono ?_
  rintro e w' ⟨A, C, rfl, ho, hB⟩
  rw [h.up.sorted h.perm] at ho
  refine ⟨A, C, by rw [hlen], ?_, hB⟩
  rw [← hlen]
  exact Txs.of_owns ho
theorem two_used {D E : Nat → Prop} {w0 w : World} {d r : Nat} {room : Int} {F : List Fi} (h : Two D E w0 w d r room F) :
    Calls Try.prog 31 #[.pointer (some ⟨d, 0, none⟩)] w fun e w' => e = .returned (.int .i64 (used F : Nat)) ∧ Below w.heap.size w w' := by
  obtain ⟨G, S, v, B, h⟩ := h
  have := used_dx h.dy.1
  rw [used_perm h.perm] at this
  exact this
theorem two_rused {D E : Nat → Prop} {w0 w : World} {d r : Nat} {room : Int} {F : List Fi} (h : Two D E w0 w d r room F) (hl : F.length ≤ 999999) :
    Calls Try.prog 32 #[.pointer (some ⟨r, 0, none⟩)] w fun e w' => e = .returned (.int .i64 (used F : Nat)) ∧ Below w.heap.size w w' := by
  obtain ⟨G, S, v, B, h⟩ := h
  obtain ⟨base, L, h1, h2, rfl, h4, h5⟩ := h.rx
  refine (rused_any h2 (by simp at hl; omega)).mono ?_
  rintro e w' ⟨rfl, rfl⟩
  exact ⟨rfl, Below.refl _ _⟩
theorem two_read {D E : Nat → Prop} {w0 w : World} {d r : Nat} {room : Int} {F : List Fi} (h : Two D E w0 w d r room F) (k : List UInt8) :
    Calls Try.prog 9 #[.pointer (some ⟨d, 0, none⟩), .string (mkS k)] w fun e w' => ∃ A C, e = .returned (.tuple #[.slice A (getF k F).b.length C, .int .i64 (synE F k)]) ∧ Bs w' (.slice A (getF k F).b.length C) (getF k F).b ∧ Below w.heap.size w w' := by
  obtain ⟨G, S, v, B, h⟩ := h
  have := read_dx h.dy.1 k
  rw [getF_perm h.perm h.up.nodup, synE_perm h.perm h.up] at this
  refine this.mono ?_
  rintro e w' ⟨A, C, rfl, ho, hB⟩
  exact ⟨A, C, rfl, Bs.of_owns ho, hB⟩
theorem two_rread {D E : Nat → Prop} {w0 w : World} {d r : Nat} {room : Int} {F : List Fi} (h : Two D E w0 w d r room F) (hl : F.length ≤ 999999) (k : List UInt8) :
    Calls Try.prog 10 #[.pointer (some ⟨r, 0, none⟩), .string (mkS k)] w fun e w' => ∃ A C, e = .returned (.tuple #[.slice A (getF k F).b.length C, .int .i64 (synE F k)]) ∧ Bs w' (.slice A (getF k F).b.length C) (getF k F).b ∧ Below w.heap.size w w' := by
  obtain ⟨G, S, v, B, h⟩ := h
  obtain ⟨base, L, h1, h2, rfl, h4, h5⟩ := h.rx
  exact rread_any h2 (by simp at hl; omega) k
theorem two_fit {D E : Nat → Prop} {w0 w : World} {d r : Nat} {room : Int} {F : List Fi} (h : Two D E w0 w d r room F) (k : List UInt8) : (getF k F).b.length ≤ 4194304 := by
  obtain ⟨G, S, v, B, h⟩ := h
  obtain ⟨base, L, h1, h2, rfl, h4, h5⟩ := h.rx
  unfold getF
  cases hl : lookF k (L.map Prod.fst) with
  | none => simp
  | some f =>
    obtain ⟨hm, _⟩ := lookF_mem hl
    obtain ⟨p, hp, rfl⟩ := List.mem_map.1 hm
    exact (h2.fits p hp).2
set_option maxRecDepth 100000 in
set_option maxHeartbeats 4000000 in
theorem like_any {D E : Nat → Prop} {w0 w : World} {d r : Nat} {room : Int} {F : List Fi} (h : Two D E w0 w d r room F) (hl : F.length ≤ 999999) :
    Calls Try.prog 8 #[.pointer (some ⟨d, 0, none⟩), .pointer (some ⟨r, 0, none⟩)] w fun e w' => e = .returned (.bool true) ∧ Below w.heap.size w w' := by
  have HT : Hid (∀ {w' : World}, Below w.heap.size w w' → Two D E w0 w' d r room F) := fun hB => h.below hB
  have h1 := two_rlist h hl
  have HL : Hid (F.length ≤ 999999) := hl
  have HNL : Hid ((F.map (·.nm)).length = F.length) := by simp [Hid]
  clear h
  go_enter Try.func8, Try.ntmps8
  go_wp2_with fail
  refine h1.mono ?_
  rintro e w1 ⟨A, C, rfl, htx, hB⟩
  clear h1
  have HX : Hid (∀ {w' : World}, Below w1.heap.size w1 w' → Txs w' (.slice A F.length C) (F.map (·.nm))) := fun hB' => htx.keep (Chg.of_below hB') (fun _ _ => id)
  have HB1 : Hid (Below w.heap.size w w1) := hB
  clear htx hB
  have h2 := two_list (HT.out HB1.out) HL.out
  go_wp2_with fail
  refine h2.mono ?_
  rintro e w2 ⟨A2, C2, rfl, htx2, hB2⟩
  clear h2
  have h3 := texts_any htx2 (HX.out hB2) (by rw [HNL.out]; have := HL.out; omega)
  rw [decide_eq_true rfl] at h3
  have HB2 : Hid (Below w.heap.size w w2) := HB1.out.trans (hB2.mono HB1.out.size)
  have HX2 : Hid (∀ {w' : World}, Below w2.heap.size w2 w' → Txs w' (.slice A F.length C) (F.map (·.nm))) := fun hB' => HX.out (hB2.trans (hB'.mono hB2.size))
  clear htx2 hB2 HX HB1
  go_wp2_with fail
  refine h3.mono ?_
  rintro e w3 ⟨rfl, q3, hw3⟩
  have HB3 : Hid (Below w.heap.size w w3) := by rw [hw3]; exact below_drewN HB2.out q3
  have HX3 : Hid (∀ {w' : World}, Below w3.heap.size w3 w' → Txs w' (.slice A F.length C) (F.map (·.nm))) := fun hB' => HX2.out (by
    have hb : Below w2.heap.size w2 w3 := by rw [hw3]; exact below_drewN (Below.refl _ _) q3
    exact hb.trans (hB'.mono hb.size))
  clear h3 hw3 HX2 HB2
  have h4 := two_used (HT.out HB3.out)
  go_wp2_with fail
  refine h4.mono ?_
  rintro e w4 ⟨rfl, hB4⟩
  have HB4 : Hid (Below w.heap.size w w4) := HB3.out.trans (hB4.mono HB3.out.size)
  have HX4 : Hid (∀ {w' : World}, Below w4.heap.size w4 w' → Txs w' (.slice A F.length C) (F.map (·.nm))) := fun hB' => HX3.out (hB4.trans (hB'.mono hB4.size))
  clear h4 hB4 HX3 HB3
  have h5 := two_rused (HT.out HB4.out) HL.out
  go_wp2_with fail
  refine h5.mono ?_
  rintro e w5 ⟨rfl, hB5⟩
  have HB5 : Hid (Below w.heap.size w w5) := HB4.out.trans (hB5.mono HB4.out.size)
  have HX5 : Hid (∀ {w' : World}, Below w5.heap.size w5 w' → Txs w' (.slice A F.length C) (F.map (·.nm))) := fun hB' => HX4.out (hB5.trans (hB'.mono hB5.size))
  clear h5 hB5 HX4 HB4
  go_wp2_with fail
  obtain ⟨N, hN⟩ : ∃ N, N = F.length := ⟨_, rfl⟩
  have HN : Hid (N = F.length) := hN
  have hN6 : N ≤ 999999 := by have := HL.out; omega
  rw [← hN] at HX5
  rw [← hN]
  clear hN hl
  go_loopw [6] (fun i wr => ∃ (j : Nat), j ≤ N ∧ i = .int .i64 j ∧ Below w5.heap.size w5 wr) (fun i _ => N - (intOf i).toNat)
  case atStart => exact ⟨0, Nat.zero_le _, rfl, Below.refl _ _⟩
  case round =>
    obtain ⟨j, hj, rfl, hB⟩ := hrel
    have HB : Hid (Below w5.heap.size w5 wr) := hB
    have HBW : Hid (Below w.heap.size w wr) := HB5.out.trans (hB.mono HB5.out.size)
    clear hB
    by_cases hlt : j < N
    · have hjF : j < (F.map (·.nm)).length := by rw [HNL.out]; have := HN.out; omega
      obtain ⟨b0, o0, hA, y0⟩ := (HX5.out HB.out).at' j hjF
      have HY : Hid (∀ {w' : World}, Below w5.heap.size w5 w' → w'.cell? ⟨b0, o0 + j, none⟩ = some (.string (mkS ((F.map (·.nm))[j]'hjF)))) := by
        intro w' hw'
        obtain ⟨b1, o1, hA1, y1⟩ := (HX5.out hw').at' j hjF
        rw [hA] at hA1
        cases hA1
        exact y1
      generalize (F.map (·.nm))[j]'hjF = k at y0 HY
      subst hA
      have h6 := two_read (HT.out HBW.out) k
      have HFT : Hid ((getF k F).b.length ≤ 4194304) := two_fit (HT.out HBW.out) k
      have HRD : Hid (∀ {w' : World}, Below w.heap.size w w' → Calls Try.prog 10 #[.pointer (some ⟨r, 0, none⟩), .string (mkS k)] w' fun e w'' => ∃ A C, e = .returned (.tuple #[.slice A (getF k F).b.length C, .int .i64 (synE F k)]) ∧ Bs w'' (.slice A (getF k F).b.length C) (getF k F).b ∧ Below w'.heap.size w' w'') := fun hb => two_rread (HT.out hb) HL.out k
      generalize getF k F = f at h6 HFT HRD
      generalize synE F k = se at h6 HRD
      go_wp2_with fail
      refine h6.mono ?_
      rintro e w6 ⟨A6, C6, rfl, hb6, hB6⟩
      have hB56 : Below w5.heap.size w5 w6 := HB.out.trans (hB6.mono HB.out.size)
      have y6 := HY.out hB56
      have h7 := HRD.out (HBW.out.trans (hB6.mono HBW.out.size))
      have HB6 : Hid (Below w5.heap.size w5 w6 ∧ Bs w6 (.slice A6 f.b.length C6) f.b) := ⟨hB56, hb6⟩
      clear h6 hb6 hB6 hB56 y0
      go_wp2_with fail
      refine h7.mono ?_
      rintro e w7 ⟨A7, C7, rfl, hb7, hB7⟩
      have h8 := same_any (HB6.out.2.keep (Chg.of_below hB7) (fun _ _ => id)) hb7 (by have := HFT.out; omega)
      rw [decide_eq_true rfl] at h8
      have HB7 : Hid (Below w5.heap.size w5 w7) := HB6.out.1.trans (hB7.mono HB6.out.1.size)
      clear h7 hb7 hB7 y6
      go_wp2_with fail
      refine h8.mono ?_
      rintro e w8 ⟨rfl, q8, rfl⟩
      clear h8
      go_wp2_with fail
      go_roundw
      case rel => exact ⟨j + 1, by omega, by go_num, below_drewN HB7.out q8⟩
      case measure => simp [intOf]; omega
    · go_wp2_with fail
      go_ret
      exact ⟨rfl, HBW.out⟩
end Go.Proofs.Ytndjlnlmlgimlaa
