/- The walks of Right, of putInts and of putBool. -/
import Derived.Test.YtmojplgoohnmdaaDoorAkP
namespace Go.Proofs.YtmojplgoohnmdaaDoor.AK
set_option linter.unusedVariables false
open Go.RowKit
set_option linter.unusedVariables false

set_option maxRecDepth 100000 in
set_option maxHeartbeats 4000000 in
theorem right_any (f : Qf) (ps : List Qf) (A1 A2 A3 : Option Addr) (c1 c2 c3 : Nat) (w : World) (hL : QL w) (hv : QVal w f ps A1 c1 A2 c2 A3 c3) (hf : AskFit f ps) (hl : f.np ≤ 9223372036854775807) :
    Calls Tryd.prog 11 #[.agg #[.int .u8 f.kind, .int .i64 f.xid, .int .i64 f.session, .int .i64 f.turn, .string (mkS f.path), .slice A1 f.data.length c1, .int .i64 f.flags, .int .i64 f.version, .bool f.watch, .int .u8 f.sort, .int .i64 f.last, .int .i64 f.timeout, .int .i64 f.frm, .slice A2 f.mems.length c2, .slice A3 f.np c3]] w fun e w' => e = .returned (.bool (rightQ f ps)) ∧ Below w.heap.size w w' := by
  obtain ⟨w1, hw1⟩ : ∃ X, X = w.alloc (.cells #[.int .u8 f.kind, .int .i64 f.xid, .int .i64 f.session, .int .i64 f.turn, .string (mkS f.path), .slice A1 f.data.length c1, .int .i64 f.flags, .int .i64 f.version, .bool f.watch, .int .u8 f.sort, .int .i64 f.last, .int .i64 f.timeout, .int .i64 f.frm, .slice A2 f.mems.length c2, .slice A3 f.np c3] 29) := ⟨_, rfl⟩
  have hB1 : Below w.heap.size w w1 := by rw [hw1]; exact (Below.refl _ _).alloc (Nat.le_refl _) _
  have HC1 : Hid (w1.heap[w.heap.size]? = some (.cells #[.int .u8 f.kind, .int .i64 f.xid, .int .i64 f.session, .int .i64 f.turn, .string (mkS f.path), .slice A1 f.data.length c1, .int .i64 f.flags, .int .i64 f.version, .bool f.watch, .int .u8 f.sort, .int .i64 f.last, .int .i64 f.timeout, .int .i64 f.frm, .slice A2 f.mems.length c2, .slice A3 f.np c3] 29 (0, 0))) := by rw [hw1]; exact heap_alloc_new w _
  have HB1 : Hid (Below w.heap.size w w1) := hB1
  have ho := of_any f.kind hf.top.kind w1 (hL.below hB1)
  have hha := have_any (kQ f.kind.toNat) 2048 w1
  rw [show (2048 : Int) = 2 ^ 11 by decide, has_bits hf.top.kind 11 (by decide)] at hha
  obtain ⟨w2, hw2⟩ : ∃ X, X = w1.alloc (.cells #[.int .i64 f.xid, .int .i64 f.session, .int .i64 f.turn] 2) := ⟨_, rfl⟩
  have hs1 : w1.heap.size = w.heap.size + 1 := by rw [hw1]; simp
  have hB2 : Below w.heap.size w w2 := by rw [hw2]; exact hB1.alloc hB1.size _
  have HB2 : Hid (Below w.heap.size w w2) := hB2
  have HC2 : Hid (w2.heap[w.heap.size]? = some (.cells #[.int .u8 f.kind, .int .i64 f.xid, .int .i64 f.session, .int .i64 f.turn, .string (mkS f.path), .slice A1 f.data.length c1, .int .i64 f.flags, .int .i64 f.version, .bool f.watch, .int .u8 f.sort, .int .i64 f.last, .int .i64 f.timeout, .int .i64 f.frm, .slice A2 f.mems.length c2, .slice A3 f.np c3] 29 (0, 0))) := by
    show _ = _
    rw [hw2, Below.heap_alloc _ _ _ (by omega)]; exact HC1.out
  have hz : NumsAt w2 (w.heap.size + 1) [f.xid, f.session, f.turn] := by
    intro j hj
    rw [hw2, ← hs1, cell_at (heap_alloc_new w1 _)]
    simp only [List.length_cons, List.length_nil] at hj
    obtain rfl | rfl | rfl : j = 0 ∨ j = 1 ∨ j = 2 := by omega
    all_goals rfl
  have hfz := fromZero_any hz (by simp)
  have e0 : (([f.xid, f.session, f.turn] : List Int).all fun n => decide (0 ≤ n)) = (decide (0 ≤ f.xid) && (decide (0 ≤ f.session) && decide (0 ≤ f.turn))) := by simp
  rw [e0] at hfz
  simp only [List.length_cons, List.length_nil] at hfz
  have hft := fits_any f ps A1 A2 A3 c1 c2 c3 w2 (hL.below hB2) (hv.grow hB2) hf hl
  unfold rightQ
  generalize has f.kind 11 = H at hha ⊢
  generalize (decide (0 ≤ f.xid) && (decide (0 ≤ f.session) && decide (0 ≤ f.turn))) = Z at hfz ⊢
  generalize (fitQ f && ps.all partQ) = P at hft ⊢
  rw [hw2, hw1] at hfz
  rw [hw1] at ho hha
  clear hB1 hB2 hs1 hz e0 hL hv hf
  go_enter Tryd.func11, Tryd.ntmps11
  go_wp2_with fail
  refine ho.mono ?_
  rintro e w' ⟨rfl, rfl⟩
  clear ho
  go_wp2_with fail
  refine hha.mono ?_
  rintro e w' ⟨rfl, rfl⟩
  clear hha
  as_aux_lemma =>
  cases H with
  | false =>
    clear hfz hft
    go_wp2_with fail
    go_ret
    rw [← hw1]
    exact ⟨rfl, HB1.out⟩
  | true =>
    go_wp2_with fail
    refine hfz.mono ?_
    rintro e w3 ⟨rfl, hw3⟩
    rw [← hw1, ← hw2] at hw3
    subst hw3
    clear hfz hw1 hw2 HB1 HC1
    obtain ⟨z0, z1, z2, z3, z4, z5, z6, z7, z8, z9, z10, z11, z12, z13, z14⟩ := cells15 HC2.out
    as_aux_lemma =>
    cases Z with
    | false =>
      clear hft
      go_wp2_with fail
      go_ret
      exact ⟨rfl, HB2.out⟩
    | true =>
      go_wp2_with fail
      refine hft.mono ?_
      rintro e w4 ⟨rfl, hB4⟩
      have HB4 : Hid (Below w.heap.size w w4) := HB2.out.trans (hB4.mono HB2.out.size)
      clear hft hB4 HB2 HC2 z0 z1 z2 z3 z4 z5 z6 z7 z8 z9 z10 z11 z12 z13 z14
      go_wp2
      go_ret
      exact ⟨rfl, HB4.out⟩
/- Numbers that are put one behind the other. -/
def numsB (ns : List Int) : List UInt8 := ns.flatMap numB
theorem numsB_snoc (ns : List Int) {k : Nat} (h : k < ns.length) : numsB (ns.take (k + 1)) = numsB (ns.take k) ++ numB (ns[k]'h) := by
  unfold numsB
  rw [List.take_succ_eq_append_getElem h, List.flatMap_append]; simp
theorem numsB_len : ∀ (ns : List Int), (∀ n ∈ ns, I64 n) → (numsB ns).length ≤ 10 * ns.length
  | [], _ => by simp [numsB]
  | n :: ns, h => by
    have h1 := numB_len (h n List.mem_cons_self)
    have h2 := numsB_len ns (fun m hm => h m (List.mem_cons_of_mem _ hm))
    have e : numsB (n :: ns) = numB n ++ numsB ns := by simp [numsB]
    rw [e]
    simp only [List.length_append, List.length_cons]; omega
theorem NumsAt.keep {S : Nat → Prop} {w w' : World} {b : Nat} {ns : List Int} (h : NumsAt w b ns) (hb : b < w.heap.size) (hc : Chg S w w') (hs : ¬ S b) : NumsAt w' b ns := fun j hj => by
  rw [hc.cell (a := ⟨b, j, none⟩) hb hs]; exact h j hj
set_option maxRecDepth 100000 in
set_option maxHeartbeats 4000000 in
theorem putInts_any {w : World} {base g : Nat} {q : Option Nat} {l : List UInt8} (h : WrAt w base g q l) (hg : base ≤ g) (hl : l.length ≤ 1000000) {b : Nat} {ns : List Int} (hn : NumsAt w b ns) (hb : b < w.heap.size) (hbg : b ≠ g) (hbq : q ≠ some b) (hlen : ns.length ≤ 100) (hi : ∀ n ∈ ns, I64 n) :
    Calls Tryd.prog 28 #[.pointer (some ⟨g, 0, none⟩), .slice (some ⟨b, 0, none⟩) ns.length ns.length] w fun e w' => e = .returned (.tuple #[]) ∧ ∃ q', WrAt w' base g q' (l ++ numsB ns) ∧ Put g q w w' q' := by
  have HW : Hid (WrAt w base g q l) := h
  have HN : Hid (NumsAt w b ns) := hn
  have HI : Hid (∀ n ∈ ns, I64 n) := hi
  clear h hn hi
  generalize hm : ns.length = n at hlen ⊢
  have HM : Hid (ns.length = n) := hm
  clear hm
  go_enter Tryd.func28, Tryd.ntmps28
  go_wp2_with fail
  go_loopw [8] (fun c wr => ∃ (k : Nat) (q' : Option Nat), k ≤ n ∧ c = .int .i64 k ∧ WrAt wr base g q' (l ++ numsB (ns.take k)) ∧ Put g q w wr q' ∧ q' ≠ some b) (fun c _ => n - (intOf c).toNat)
  case atStart => exact ⟨0, q, by omega, rfl, by simpa [numsB] using HW.out, Put.refl _ _ _, hbq⟩
  case round =>
    obtain ⟨k, q', hk, rfl, hWr, hPr, hqb⟩ := hrel
    have HWr : Hid (WrAt wr base g q' (l ++ numsB (ns.take k))) := hWr
    have HPr : Hid (Put g q w wr q') := hPr
    clear hWr hPr
    by_cases hlt : k < n
    · have hkl : k < ns.length := by have := HM.out; omega
      have hc : wr.cell? ⟨b, k, none⟩ = some (.int .i64 (ns[k]'hkl)) := by
        rw [HPr.out.chg.cell (a := ⟨b, k, none⟩) hb (fun e => by rcases e with e | e; exact hbg e; exact hbq e)]
        exact HN.out k hkl
      have hr := HI.out _ (List.getElem_mem hkl)
      have hnl := numsB_len (ns.take k) (fun m hm => HI.out m (List.mem_of_mem_take hm))
      have hnk : (ns.take k).length = k := by rw [List.length_take]; omega
      have HS : Hid (numsB (ns.take (k + 1)) = numsB (ns.take k) ++ numB (ns[k]'hkl)) := numsB_snoc ns hkl
      generalize (ns[k]'hkl) = x at hc hr HS
      have hx := numB_len hr
      have hwi := wInt_any HWr.out x hr.1 hr.2 (by rw [List.length_append]; rw [hnk] at hnl; omega)
      clear hr hnl hnk hx
      go_wp2_with fail
      refine hwi.mono ?_
      rintro e w6 ⟨rfl, q6, hW6, hP6⟩
      have HW6 : Hid (WrAt w6 base g q6 (l ++ numsB (ns.take (k + 1)))) := by rw [HS.out, ← List.append_assoc]; exact hW6
      have hq6 : q6 ≠ some b := by
        rcases hP6.lies with e | ⟨j, e, hj⟩
        · rw [e]; exact hqb
        · rw [e]; intro e'; cases e'
          have := HPr.out.chg.size
          omega
      have HP6 : Hid (Put g q w w6 q6) := HPr.out.trans hP6
      clear hwi hW6 hP6 HWr HPr hc
      go_wp2
      exact ⟨⟨k + 1, q6, by omega, by go_num, HW6.out, HP6.out, hq6⟩, by simp [intOf]; omega⟩
    · have hkn : k = n := by omega
      have HE : Hid (l ++ numsB (ns.take k) = l ++ numsB ns) := by show _ = _; rw [hkn, ← HM.out, List.take_length]
      rw [HE.out] at HWr
      clear HE
      go_wp2
      go_end0
      exact ⟨rfl, q', HWr.out, HPr.out⟩
set_option maxRecDepth 100000 in
theorem putBool_any {w : World} {base g : Nat} {q : Option Nat} {l : List UInt8} (h : WrAt w base g q l) (hl : l.length ≤ 2000000) (y : Bool) :
    Calls Tryd.prog 69 #[.pointer (some ⟨g, 0, none⟩), .bool y] w fun e w' => e = .returned (.tuple #[]) ∧ ∃ q', WrAt w' base g q' (l ++ [wb y]) ∧ Put g q w w' q' := by
  cases y with
  | true =>
    have hb := wByte_any h 1 (wb true) (by decide) (by omega)
    go_enter Tryd.func69, Tryd.ntmps69
    go_wp2_with fail
    refine hb.mono ?_
    rintro e w2 ⟨rfl, q2, hW, hP⟩
    have HW : Hid _ := hW
    have HP : Hid _ := hP
    clear hb hW hP
    go_wp2
    go_end0
    exact ⟨rfl, q2, HW.out, HP.out⟩
  | false =>
    have hb := wByte_any h 0 (wb false) (by decide) (by omega)
    go_enter Tryd.func69, Tryd.ntmps69
    go_wp2_with fail
    refine hb.mono ?_
    rintro e w2 ⟨rfl, q2, hW, hP⟩
    have HW : Hid _ := hW
    have HP : Hid _ := hP
    clear hb hW hP
    go_wp2
    go_end0
    exact ⟨rfl, q2, HW.out, HP.out⟩
end Go.Proofs.YtmojplgoohnmdaaDoor.AK
