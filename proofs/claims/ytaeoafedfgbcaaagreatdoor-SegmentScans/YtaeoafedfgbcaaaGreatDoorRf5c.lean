/- The walk of the document's own parts. -/
import Derived.Test.YtaeoafedfgbcaaaGreatDoorRfA
import Derived.Test.YtaeoafedfgbcaaaGreatDoorDdP
namespace Go.Proofs.YtaeoafedfgbcaaaGreatDoor.DD
set_option linter.unusedVariables false
open Go.RowKit
set_option linter.unusedVariables false

set_option maxRecDepth 100000 in
set_option maxHeartbeats 4000000 in
theorem rparts_any (all : Bool) {w : World} {v : Value} {ps : List Fl} (h : Prts w w.heap.size v ps) (hl : ps.length ≤ 9223372036854775807) (least most : Nat) (hL : PA.Laid w) :
    Calls Tryz.prog 70 #[v, .int .i64 least, .int .i64 most, .bool all] w fun e w' => e = .returned (.bool (docParts ps least most all)) ∧ Below w.heap.size w w' := by
  have HP : Hid (Prts w w.heap.size v ps) := h
  have HL : Hid (PA.Laid w) := hL
  obtain ⟨A, C, rfl⟩ := h.form
  clear h hL
  unfold docParts
  generalize hX : ps.all (docPart all) = X
  have HX : Hid (ps.all (docPart all) = X) := hX
  clear hX
  generalize hn : ps.length = n at hl HP ⊢
  have HN : Hid (ps.length = n) := hn
  clear hn
  by_cases h1 : least ≤ n
  · by_cases h2 : n ≤ most
    · rw [decide_eq_true h1, decide_eq_true h2, Bool.true_and, Bool.true_and]
      have q1 : ¬ n < least := by omega
      have q2 : ¬ most < n := by omega
      go_enter Tryz.func70, Tryz.ntmps70
      go_wp2_with fail
      clear h1 h2 q1 q2
      go_loopw [9] (fun c wr => ∃ k : Nat, k ≤ n ∧ c = .int .i64 k ∧ (ps.take k).all (docPart all) = true ∧ Below w.heap.size w wr) (fun c _ => n - (intOf c).toNat)
      case atStart => exact ⟨0, by omega, rfl, rfl, Below.refl _ _⟩
      case round =>
        obtain ⟨k, hk, rfl, ht, hB⟩ := hrel
        have HT : Hid ((ps.take k).all (docPart all) = true) := ht
        have HB : Hid (Below w.heap.size w wr) := hB
        clear ht hB
        by_cases hlt : k < n
        · have hkl : k < ps.length := by have := HN.out; omega
          obtain ⟨b, o, rfl, -, -, A1, c1, A2, c2, A3, c3, hcl, -⟩ := (HP.out.below HB.out).at' k hkl
          have HS : Hid ((ps.take (k + 1)).all (docPart all) = docPart all (ps[k]'hkl)) := all_take hkl HT.out
          have HV : Hid (docPart all (ps[k]'hkl) = false → X = false) := fun h => by rw [← HX.out]; exact all_bad hkl h
          generalize (ps[k]'hkl) = f at hcl HS HV
          obtain ⟨z0, z1, z2, z3, z4, z5, z6, z7, z8, z9, z10, z11, z12, z13, z14, z15⟩ := hcl
          obtain ⟨w1, hw1⟩ : ∃ X, X = wr.alloc (.cells #[.int .i64 f.zxid, .int .u8 f.kind, .int .i64 f.session, .int .i64 f.turn, .int .i64 f.xid, .int .i64 f.time, .string (mkS f.path), .slice A1 f.data.length c1, .int .i64 f.owner, .int .i64 f.version, .int .i64 f.cversion, .int .i64 f.timeout, .int .i64 f.err, .int .i64 f.cver, .slice A2 f.mems.length c2, .slice A3 f.np c3] 41) := ⟨_, rfl⟩
          have hB1 : Below wr.heap.size wr w1 := by rw [hw1]; exact (Below.refl _ _).alloc (Nat.le_refl _) _
          have HC1 : Hid (w1.heap[wr.heap.size]? = some (.cells #[.int .i64 f.zxid, .int .u8 f.kind, .int .i64 f.session, .int .i64 f.turn, .int .i64 f.xid, .int .i64 f.time, .string (mkS f.path), .slice A1 f.data.length c1, .int .i64 f.owner, .int .i64 f.version, .int .i64 f.cversion, .int .i64 f.timeout, .int .i64 f.err, .int .i64 f.cver, .slice A2 f.mems.length c2, .slice A3 f.np c3] 41 (0, 0))) := by rw [hw1]; exact heap_alloc_new wr _
          have HB1 : Hid (Below w.heap.size w w1) := HB.out.trans (hB1.mono HB.out.size)
          cases hz : headZ f with
          | false =>
            have hX : X = false := HV.out (by unfold docPart; rw [hz]; rfl)
            subst hX
            have hor : f.zxid ≠ 0 ∨ f.session ≠ 0 ∨ f.turn ≠ 0 ∨ f.xid ≠ 0 ∨ f.time ≠ 0 := by
              unfold headZ at hz
              simp only [Bool.and_eq_false_iff, decide_eq_false_iff_not] at hz
              omega
            clear hz hw1 hB1 HB1 HC1
            by_cases y0 : f.zxid = 0
            case neg =>
              have x0 := (neb _ _ y0).2
              clear hor
              as_aux_lemma =>
              go_wp2_with fail
              go_ret
              exact ⟨rfl, HB.out.alloc HB.out.size _⟩
            have x0 : (f.zxid != 0) = false := by simp [y0]
            by_cases y1 : f.session = 0
            case neg =>
              have x1 := (neb _ _ y1).2
              clear hor
              as_aux_lemma =>
              go_wp2_with fail
              go_ret
              exact ⟨rfl, HB.out.alloc HB.out.size _⟩
            have x1 : (f.session != 0) = false := by simp [y1]
            by_cases y2 : f.turn = 0
            case neg =>
              have x2 := (neb _ _ y2).2
              clear hor
              as_aux_lemma =>
              go_wp2_with fail
              go_ret
              exact ⟨rfl, HB.out.alloc HB.out.size _⟩
            have x2 : (f.turn != 0) = false := by simp [y2]
            by_cases y3 : f.xid = 0
            case neg =>
              have x3 := (neb _ _ y3).2
              clear hor
              as_aux_lemma =>
              go_wp2_with fail
              go_ret
              exact ⟨rfl, HB.out.alloc HB.out.size _⟩
            have x3 : (f.xid != 0) = false := by simp [y3]
            have x4 := (neb f.time 0 (by omega)).2
            clear hor y0 y1 y2 y3
            as_aux_lemma =>
            go_wp2_with fail
            go_ret
            exact ⟨rfl, HB.out.alloc HB.out.size _⟩
          | true =>
            have hn1 := rnode_any f A1 A2 A3 c1 c2 c3 w1 (HL.out.below HB1.out)
            have HQ : Hid (docPart all f = (docNode f && (all || decide (f.kind = 2)))) := by show _ = _; unfold docPart; rw [hz]; rfl
            generalize docNode f = LF at hn1 HQ
            rw [hw1] at hn1
            unfold headZ at hz
            simp only [Bool.and_eq_true, decide_eq_true_eq] at hz
            obtain ⟨⟨⟨⟨y0, y1⟩, y2⟩, y3⟩, y4⟩ := hz
            have x0 : (f.zxid != 0) = false := by simp [y0]
            have x1 : (f.session != 0) = false := by simp [y1]
            have x2 : (f.turn != 0) = false := by simp [y2]
            have x3 : (f.xid != 0) = false := by simp [y3]
            have x4 : (f.time != 0) = false := by simp [y4]
            clear y0 y1 y2 y3 y4 hB1
            as_aux_lemma =>
            go_wp2_with fail
            refine hn1.mono ?_
            rintro e w2 ⟨rfl, hB2⟩
            rw [← hw1] at hB2
            have HB2 : Hid (Below w.heap.size w w2) := HB1.out.trans (hB2.mono HB1.out.size)
            have HC2 : Hid (w2.heap[wr.heap.size]? = some (.cells #[.int .i64 f.zxid, .int .u8 f.kind, .int .i64 f.session, .int .i64 f.turn, .int .i64 f.xid, .int .i64 f.time, .string (mkS f.path), .slice A1 f.data.length c1, .int .i64 f.owner, .int .i64 f.version, .int .i64 f.cversion, .int .i64 f.timeout, .int .i64 f.err, .int .i64 f.cver, .slice A2 f.mems.length c2, .slice A3 f.np c3] 41 (0, 0))) := by show _ = _; rw [hB2.block _ (heap_lt HC1.out)]; exact HC1.out
            clear hn1 hB2 HB1 HC1 hw1 z0 z1 z2 z3 z4 z5 z6 z7 z8 z9 z10 z11 z12 z13 z14 z15 x0 x1 x2 x3 x4
            as_aux_lemma =>
            obtain ⟨z0, z1, z2, z3, z4, z5, z6, z7, z8, z9, z10, z11, z12, z13, z14, z15⟩ := cells16 HC2.out
            cases LF with
            | false =>
              have hX : X = false := HV.out HQ.out
              subst hX
              go_wp2
              go_ret
              exact ⟨rfl, HB2.out⟩
            | true =>
              cases all with
              | true =>
                have HS2 : Hid ((ps.take (k + 1)).all (docPart true) = true) := HS.out.trans HQ.out
                go_wp2
                exact ⟨⟨k + 1, by omega, by go_num, HS2.out, HB2.out⟩, by simp [intOf]; omega⟩
              | false =>
                by_cases k2 : f.kind = 2
                · have HS2 : Hid ((ps.take (k + 1)).all (docPart false) = true) := HS.out.trans (HQ.out.trans (by rw [decide_eq_true k2]; rfl))
                  have q2 : (f.kind != 2) = false := by simp [k2]
                  clear k2
                  go_wp2
                  exact ⟨⟨k + 1, by omega, by go_num, HS2.out, HB2.out⟩, by simp [intOf]; omega⟩
                · have hX : X = false := HV.out (HQ.out.trans (by rw [decide_eq_false k2]; rfl))
                  subst hX
                  have q2 := (neb _ _ k2).2
                  clear k2
                  go_wp2
                  go_ret
                  exact ⟨rfl, HB2.out⟩
        · have hkn : k = n := by omega
          have hX : X = true := by
            rw [← HX.out, ← HT.out, hkn, ← HN.out, List.take_length]
          subst hX
          go_wp2
          go_ret
          exact ⟨rfl, HB.out⟩
    · rw [decide_eq_false h2, Bool.false_and, Bool.and_false]
      have q1 : ¬ (n : Int) < least := by omega
      have q2 : (most : Int) < n := by omega
      go_enter Tryz.func70, Tryz.ntmps70
      go_wp2
      go_ret
      exact ⟨rfl, Below.refl _ _⟩
  · rw [decide_eq_false h1, Bool.false_and]
    have q1 : (n : Int) < least := by omega
    go_enter Tryz.func70, Tryz.ntmps70
    go_wp2
    go_ret
    exact ⟨rfl, Below.refl _ _⟩
end Go.Proofs.YtaeoafedfgbcaaaGreatDoor.DD
