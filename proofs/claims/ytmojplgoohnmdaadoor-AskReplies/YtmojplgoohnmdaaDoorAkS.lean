/- The walk of putMembers. -/
import Derived.Test.YtmojplgoohnmdaaDoorAkR
namespace Go.Proofs.YtmojplgoohnmdaaDoor.AK
set_option linter.unusedVariables false
open Go.RowKit
set_option linter.unusedVariables false

theorem put_below {w w' : World} {base g : Nat} {q q' : Option Nat} {l : List UInt8} (h : WrAt w base g q l) (hg : base ≤ g) (hp : Put g q w w' q') : Below base w w' := by
  obtain ⟨v, h1, h2, h3, h4, hb⟩ := h
  exact hp.chg.below (fun k e => by
    rcases e with e | e
    · omega
    · have := (RowAt.qlt ⟨v, h1, h2, h3, h4, hb⟩ k e).1; omega) hb
theorem WrAt.below {w w' : World} {base g : Nat} {q : Option Nat} {l : List UInt8} (h : WrAt w base g q l) (hb : Below w.heap.size w w') : WrAt w' base g q l := h.keep (Chg.of_below hb) (fun e => e) (fun _ _ e => e)
theorem Put.below {g : Nat} {q : Option Nat} {w w' : World} (h : Below w.heap.size w w') : Put g q w w' q := ⟨(Chg.of_below h).weak (fun _ _ e => e.elim), .inl rfl⟩
theorem nums1 (w : World) (a : Int) : NumsAt (w.alloc (.cells #[.int .i64 a] 2)) w.heap.size [a] := by
  intro j hj
  rw [cell_at (heap_alloc_new w _)]
  simp only [List.length_cons, List.length_nil] at hj
  obtain rfl : j = 0 := by omega
  rfl
theorem nums4 (w : World) (a b c d : Int) : NumsAt (w.alloc (.cells #[.int .i64 a, .int .i64 b, .int .i64 c, .int .i64 d] 2)) w.heap.size [a, b, c, d] := by
  intro j hj
  rw [cell_at (heap_alloc_new w _)]
  simp only [List.length_cons, List.length_nil] at hj
  obtain rfl | rfl | rfl | rfl : j = 0 ∨ j = 1 ∨ j = 2 ∨ j = 3 := by omega
  all_goals rfl
/- One number, in a row of its own. -/
theorem putInts_one {w : World} {base g : Nat} {q : Option Nat} {l : List UInt8} (h : WrAt w base g q l) (hg : base ≤ g) (hl : l.length ≤ 1000000) (a : Int) (ha : I64 a) :
    Calls Tryd.prog 28 #[.pointer (some ⟨g, 0, none⟩), .slice (some ⟨w.heap.size, 0, none⟩) 1 1] (w.alloc (.cells #[.int .i64 a] 2)) fun e w' => e = .returned (.tuple #[]) ∧ ∃ q', WrAt w' base g q' (l ++ numB a) ∧ Put g q w w' q' := by
  have hB : Below w.heap.size w (w.alloc (.cells #[.int .i64 a] 2)) := (Below.refl _ _).alloc (Nat.le_refl _) _
  refine (putInts_any (WrAt.below h hB) hg hl (nums1 w a) (by simp) (by have := RowAt.lt h; omega) (fun e => by have := (RowAt.qlt h _ e).2; omega) (by simp) (fun n hn => by simp at hn; rw [hn]; exact ha)).mono ?_
  rintro e w' ⟨rfl, q', hW, hP⟩
  exact ⟨rfl, q', by simpa [numsB] using hW, (Put.below hB).trans hP⟩
theorem putInts_four {w : World} {base g : Nat} {q : Option Nat} {l : List UInt8} (h : WrAt w base g q l) (hg : base ≤ g) (hl : l.length ≤ 1000000) (a b c d : Int) (ha : I64 a) (hb : I64 b) (hc : I64 c) (hd : I64 d) :
    Calls Tryd.prog 28 #[.pointer (some ⟨g, 0, none⟩), .slice (some ⟨w.heap.size, 0, none⟩) 4 4] (w.alloc (.cells #[.int .i64 a, .int .i64 b, .int .i64 c, .int .i64 d] 2)) fun e w' => e = .returned (.tuple #[]) ∧ ∃ q', WrAt w' base g q' (l ++ (numB a ++ (numB b ++ (numB c ++ numB d)))) ∧ Put g q w w' q' := by
  have hB : Below w.heap.size w (w.alloc (.cells #[.int .i64 a, .int .i64 b, .int .i64 c, .int .i64 d] 2)) := (Below.refl _ _).alloc (Nat.le_refl _) _
  refine (putInts_any (WrAt.below h hB) hg hl (nums4 w a b c d) (by simp) (by have := RowAt.lt h; omega) (fun e => by have := (RowAt.qlt h _ e).2; omega) (by simp) (fun n hn => by
    simp only [List.mem_cons, List.not_mem_nil, or_false] at hn
    rcases hn with rfl | rfl | rfl | rfl
    · exact ha
    · exact hb
    · exact hc
    · exact hd)).mono ?_
  rintro e w' ⟨rfl, q', hW, hP⟩
  exact ⟨rfl, q', by simpa [numsB] using hW, (Put.below hB).trans hP⟩
set_option maxRecDepth 100000 in
set_option maxHeartbeats 4000000 in
theorem putMembers_any {w : World} {base g : Nat} {q : Option Nat} {l : List UInt8} (h : WrAt w base g q l) (hg : base ≤ g) (hl : l.length ≤ 900000) {v : Value} {ms : List Mem} (hM : Mems w v ms) (hMB : ∀ k, bk v = some k → k < base) (hn : ms.length ≤ 7) (hf : ∀ m ∈ ms, MFit m) :
    Calls Tryd.prog 70 #[.pointer (some ⟨g, 0, none⟩), v] w fun e w' => e = .returned (.tuple #[]) ∧ ∃ q', WrAt w' base g q' (l ++ memsQ ms) ∧ Put g q w w' q' := by
  have HM : Hid (Mems w v ms) := hM
  have HF : Hid (∀ m ∈ ms, MFit m) := hf
  have HW : Hid (WrAt w base g q l) := h
  have HMB : Hid (∀ k, bk v = some k → k < base) := hMB
  obtain ⟨A, C, rfl⟩ := hM.form
  clear h hf hM hMB
  generalize hm : ms.length = n at hn HM HMB ⊢
  have HN : Hid (ms.length = n) := hm
  clear hm
  have hwi := putInts_one HW.out hg (by omega) (n : Int) ⟨by omega, by omega⟩
  have hnl := numB_len (n := (n : Int)) ⟨by omega, by omega⟩
  go_enter Tryd.func70, Tryd.ntmps70
  go_wp2_with fail
  refine hwi.mono ?_
  rintro e w1 ⟨rfl, q1, hW1, hP1⟩
  have HW1 : Hid (WrAt w1 base g q1 (l ++ numB n)) := hW1
  have HP1 : Hid (Put g q w w1 q1) := hP1
  have HNL : Hid ((l ++ numB (n : Int)).length ≤ 900010) := by show _ ≤ _; rw [List.length_append]; omega
  clear hwi hW1 hP1 hnl
  go_wp2_with fail
  go_loopw [13] (fun c wr => ∃ (k : Nat) (q' : Option Nat), k ≤ n ∧ c = .int .i64 k ∧ WrAt wr base g q' ((l ++ numB n) ++ memsB (ms.take k)) ∧ Put g q w wr q') (fun c _ => n - (intOf c).toNat)
  case atStart => exact ⟨0, q1, by omega, rfl, by simpa [memsB] using HW1.out, HP1.out⟩
  case round =>
    obtain ⟨k, q', hk, rfl, hWr, hPr⟩ := hrel
    have HWr : Hid (WrAt wr base g q' ((l ++ numB n) ++ memsB (ms.take k))) := hWr
    have HPr : Hid (Put g q w wr q') := hPr
    clear hWr hPr HW1 HP1
    by_cases hlt : k < n
    · have hkl : k < ms.length := by have := HN.out; omega
      obtain ⟨b, o, rfl, hb, z0, z1, z2, z3⟩ := (HM.out.below (put_below HW.out hg HPr.out) HMB.out).at' k hkl
      have hff := HF.out _ (List.getElem_mem hkl)
      have hpl := memsB_len (ms.take k) (fun p hp => HF.out p (List.mem_of_mem_take hp))
      have hplk : (ms.take k).length = k := by rw [List.length_take]; omega
      have HLEN : Hid ((((l ++ numB (n : Int)) ++ memsB (ms.take k))).length ≤ 990000) := by
        show _ ≤ _
        have := HNL.out
        rw [List.length_append]
        rw [hplk] at hpl
        omega
      have HS : Hid (memsB (ms.take (k + 1)) = memsB (ms.take k) ++ memB (ms[k]'hkl)) := by show _ = _; rw [List.take_succ_eq_append_getElem hkl, memsB_snoc]
      clear hpl hplk
      generalize (ms[k]'hkl) = m at z0 z1 z2 z3 hff HS
      obtain ⟨mi, mr, mw, mg⟩ := m
      dsimp only at z0 z1 z2 z3
      have hi := hff.id
      have hro := hff.role
      have hwt := hff.weight
      have hgr := hff.group
      dsimp only at hi hro hwt hgr
      obtain ⟨w2, hw2⟩ : ∃ X, X = wr.alloc (.cells #[.int .i64 mi, .int .u8 mr, .int .i64 mw, .int .i64 mg] 119) := ⟨_, rfl⟩
      have hB2 : Below wr.heap.size wr w2 := by rw [hw2]; exact (Below.refl _ _).alloc (Nat.le_refl _) _
      have hs2 : w2.heap.size = wr.heap.size + 1 := by rw [hw2]; simp
      have hp4 := putInts_four (WrAt.below HWr.out hB2) hg (by have := HLEN.out; omega) mi mr mw mg hi ⟨by omega, by omega⟩ hwt hgr
      have HP2 : Hid (Put g q w w2 q') := HPr.out.trans (Put.below hB2)
      have hwm : wrap64 mr = mr := by unfold wrap64; omega
      rw [hs2, hw2] at hp4
      clear hff hi hro hwt hgr hB2 hs2 HWr HPr
      go_wp2_with fail
      refine hp4.mono ?_
      rintro e w4 ⟨rfl, q4, hW4, hP4⟩
      rw [← hw2] at hP4
      have HW4 : Hid (WrAt w4 base g q4 ((l ++ numB n) ++ memsB (ms.take (k + 1)))) := by
        show WrAt _ _ _ _ _
        rw [HS.out]
        simpa [memB] using hW4
      have HP4 : Hid (Put g q w w4 q4) := HP2.out.trans hP4
      clear hp4 hW4 hP4 HP2 hw2 z0 z1 z2 z3
      go_wp2
      exact ⟨⟨k + 1, q4, by omega, by go_num, HW4.out, HP4.out⟩, by simp [intOf]; omega⟩
    · have hkn : k = n := by omega
      have HE : Hid (((l ++ numB (n : Int)) ++ memsB (ms.take k)) = l ++ memsQ ms) := by
        show _ = _
        unfold memsQ
        rw [hkn, ← HN.out, List.take_length, List.append_assoc]
      rw [HE.out] at HWr
      clear HE
      go_wp2
      go_end0
      exact ⟨rfl, q', HWr.out, HPr.out⟩
end Go.Proofs.YtmojplgoohnmdaaDoor.AK
