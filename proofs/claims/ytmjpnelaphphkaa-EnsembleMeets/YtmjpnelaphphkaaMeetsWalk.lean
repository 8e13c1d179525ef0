/- The walk of the stage's theorem: any two quorums of a config have a voter in common. -/
import Derived.Test.YtmjpnelaphphkaaEnsE
namespace Go.Proofs.Ytmjpnelaphphkaa
open Go.RowKit

def inBoth (a b : List Int) (m : Mem) : Prop := m.role = 1 ∧ 0 < m.weight ∧ a.contains m.id = true ∧ b.contains m.id = true
set_option maxRecDepth 100000 in
set_option maxHeartbeats 2000000 in
theorem meets_any {w : World} {v x y : Value} {l : List Mem} {a b : List Int} (h : Mems w v l) (ver : Int) (hx : Ns w x a) (hy : Ns w y b) (ha : a.length ≤ 4611686018427387903) (hb : b.length ≤ 4611686018427387903) :
    Calls Try.prog 6 #[.agg #[.int .i64 ver, v], x, y] w fun e w' => e = .returned (.bool true) ∧ Below w.heap.size w w' := by
  have HM : Hid (Mems w v l) := h
  have HX : Hid (Ns w x a) := hx
  have HY : Hid (Ns w y b) := hy
  obtain ⟨A, C, rfl⟩ := h.form
  obtain ⟨A1, C1, rfl⟩ := hx.form
  obtain ⟨A2, C2, rfl⟩ := hy.form
  clear h hx hy
  have hB1 : Below w.heap.size w (w.alloc (.cells #[.int .i64 ver, .slice A l.length C] 25)) := (Below.refl _ _).alloc (Nat.le_refl _) _
  have HF : Hid (∀ w', Below (w.alloc (.cells #[.int .i64 ver, .slice A l.length C] 25)).heap.size (w.alloc (.cells #[.int .i64 ver, .slice A l.length C] 25)) w' → w'.cell? ⟨w.heap.size, 0, none⟩ = some (.int .i64 ver) ∧ w'.cell? ⟨w.heap.size, 1, none⟩ = some (.slice A l.length C) ∧ w.heap.size < w'.heap.size ∧ Below w.heap.size w w') :=
    fun w' h => ⟨by rw [h.cell (p := ⟨w.heap.size, 0, none⟩) (by simp), cell_at (heap_alloc_new w _)]; rfl, by rw [h.cell (p := ⟨w.heap.size, 1, none⟩) (by simp), cell_at (heap_alloc_new w _)]; rfl, Nat.lt_of_lt_of_le (by simp) h.size, hB1.trans (h.mono (by simp))⟩
  by_cases hl : 1000 < a.length + b.length
  · have hl' : (1000 : Int) < a.length + b.length := by omega
    go_enter Try.func6, Try.ntmps6
    go_wp2_with fail
    refine (awake_any _).mono ?_
    rintro e w2 ⟨rfl, hB2⟩
    go_wp2
    go_ret
    exact ⟨rfl, (HF.out w2 hB2).2.2.2⟩
  · have hl' : ¬ (1000 : Int) < a.length + b.length := by omega
    cases hqa : quoB ver l a with
    | false =>
      go_enter Try.func6, Try.ntmps6
      go_wp2_with fail
      refine (awake_any _).mono ?_
      rintro e w2 ⟨rfl, hB2⟩
      obtain ⟨c0, c1, c2, hB2'⟩ := HF.out w2 hB2
      go_wp2_with fail
      have h3 := Quorum_any (HM.out.below' hB2') ver (HX.out.below' hB2') (by omega)
      rw [hqa] at h3
      refine h3.mono ?_
      clear h3
      rintro e w3 ⟨rfl, hB3⟩
      go_wp2
      go_ret
      exact ⟨rfl, hB2'.trans (hB3.mono hB2'.size)⟩
    | true =>
      cases hqb : quoB ver l b with
      | false =>
        go_enter Try.func6, Try.ntmps6
        go_wp2_with fail
        refine (awake_any _).mono ?_
        rintro e w2 ⟨rfl, hB2⟩
        obtain ⟨c0, c1, c2, hB2'⟩ := HF.out w2 hB2
        go_wp2_with fail
        have h3 := Quorum_any (HM.out.below' hB2') ver (HX.out.below' hB2') (by omega)
        rw [hqa] at h3
        refine h3.mono ?_
        clear h3 c0 c1
        rintro e w3 ⟨rfl, hB3⟩
        have hB3a := hB2.trans (hB3.mono hB2.size)
        obtain ⟨c0, c1, c3, hB3'⟩ := HF.out w3 hB3a
        go_wp2_with fail
        have h4 := Quorum_any (HM.out.below' hB3') ver (HY.out.below' hB3') (by omega)
        rw [hqb] at h4
        refine h4.mono ?_
        clear h4
        rintro e w4 ⟨rfl, hB4⟩
        go_wp2
        go_ret
        exact ⟨rfl, hB3'.trans (hB4.mono hB3'.size)⟩
      | true =>
        have hmeet := quo_meet hqa hqb
        have HMT : Hid (∃ m ∈ l, inBoth a b m) := hmeet
        have hch : chk ver l = 0 := by
          have := hqa
          simp only [quoB, Bool.and_eq_true, decide_eq_true_eq] at this
          exact this.1
        have h7 := (chk_ok hch).1
        clear hmeet hch
        go_enter Try.func6, Try.ntmps6
        go_wp2_with fail
        refine (awake_any _).mono ?_
        rintro e w2 ⟨rfl, hB2⟩
        obtain ⟨c0, c1, c2, hB2'⟩ := HF.out w2 hB2
        go_wp2_with fail
        have h3 := Quorum_any (HM.out.below' hB2') ver (HX.out.below' hB2') (by omega)
        rw [hqa] at h3
        refine h3.mono ?_
        clear h3 c0 c1
        rintro e w3 ⟨rfl, hB3⟩
        have hB3a := hB2.trans (hB3.mono hB2.size)
        obtain ⟨c0, c1, c3, hB3'⟩ := HF.out w3 hB3a
        go_wp2_with fail
        have h4 := Quorum_any (HM.out.below' hB3') ver (HY.out.below' hB3') (by omega)
        rw [hqb] at h4
        refine h4.mono ?_
        clear h4 c0 c1
        rintro e w4 ⟨rfl, hB4⟩
        have hB4a := hB3a.trans (hB4.mono hB3a.size)
        clear hqa hqb
        go_wp2_with fail
        go_loopw [7] (fun i wr => ∃ k : Nat, i = .int .i64 k ∧ k ≤ l.length ∧ (∀ m ∈ l.take k, ¬ inBoth a b m) ∧ Below (w.alloc (.cells #[.int .i64 ver, .slice A l.length C] 25)).heap.size (w.alloc (.cells #[.int .i64 ver, .slice A l.length C] 25)) wr) (fun i _ => l.length - (intOf i).toNat)
        case atStart => exact ⟨0, rfl, by omega, fun m hm => by simp at hm, hB4a⟩
        case round =>
          obtain ⟨k, rfl, hk, hno, hB⟩ := hrel
          have HNO : Hid (∀ m ∈ l.take k, ¬ inBoth a b m) := hno
          have HBA : Hid (Below (w.alloc (.cells #[.int .i64 ver, .slice A l.length C] 25)).heap.size (w.alloc (.cells #[.int .i64 ver, .slice A l.length C] 25)) wr) := hB
          obtain ⟨d0, d1, d2, hBw⟩ := HF.out wr hB
          have HBW : Hid (Below w.heap.size w wr) := hBw
          clear hno hB hBw
          by_cases hlt : k < l.length
          · obtain ⟨bb, o, rfl, hbb, m0, m1, m2, m3⟩ := (HM.out.below' HBW.out).at' k hlt
            have HT : Hid (l.take (k + 1) = l.take k ++ [l[k]'hlt]) := take_snoc hlt
            generalize (l[k]'hlt) = m at m0 m1 m2 m3 HT
            obtain ⟨mi, mr, mw, mg⟩ := m
            dsimp only at m0 m1 m2 m3
            have HXr : Hid (∀ o, Ns (wr.alloc o) (.slice A1 a.length C1) a) := fun o => (HX.out.below' HBW.out).below' ((Below.refl _ _).alloc (Nat.le_refl _) _)
            have HYr : Hid (∀ o, Ns (wr.alloc o) (.slice A2 b.length C2) b) := fun o => (HY.out.below' HBW.out).below' ((Below.refl _ _).alloc (Nat.le_refl _) _)
            have HNEXT : Hid (¬ inBoth a b ⟨mi, mr, mw, mg⟩ → ∀ m ∈ l.take (k + 1), ¬ inBoth a b m) := fun hn m hm => by
              rw [HT.out] at hm
              rcases List.mem_append.1 hm with h | h
              · exact HNO.out m h
              · have : m = ⟨mi, mr, mw, mg⟩ := by simpa using h
                rw [this]; exact hn
            by_cases h1 : mr = 1
            · subst h1
              by_cases h2 : 0 < mw
              · cases h3 : a.contains mi with
                | false =>
                  have hA := has_any (HXr.out (.cells #[.int .i64 mi, .int .u8 1, .int .i64 mw, .int .i64 mg] 30)) mi (by omega)
                  rw [h3] at hA
                  have HE : Hid (∀ m ∈ l.take (k + 1), ¬ inBoth a b m) := HNEXT.out (fun h => by have := h.2.2.1; rw [h3] at this; cases this)
                  clear h3
                  go_wp2_with fail
                  refine hA.mono ?_
                  rintro e w5 ⟨rfl, rfl⟩
                  clear hA
                  go_wp2
                  exact ⟨⟨k + 1, by go_num, by omega, HE.out, HBA.out.alloc HBA.out.size _⟩, by simp [intOf]; omega⟩
                | true =>
                  have hA := has_any (HXr.out (.cells #[.int .i64 mi, .int .u8 1, .int .i64 mw, .int .i64 mg] 30)) mi (by omega)
                  rw [h3] at hA
                  cases h4 : b.contains mi with
                  | false =>
                    have hBB := has_any (HYr.out (.cells #[.int .i64 mi, .int .u8 1, .int .i64 mw, .int .i64 mg] 30)) mi (by omega)
                    rw [h4] at hBB
                    have HE : Hid (∀ m ∈ l.take (k + 1), ¬ inBoth a b m) := HNEXT.out (fun h => by have := h.2.2.2; rw [h4] at this; cases this)
                    clear h3 h4
                    go_wp2_with fail
                    refine hA.mono ?_
                    rintro e w5 ⟨rfl, rfl⟩
                    clear hA
                    go_wp2_with fail
                    refine hBB.mono ?_
                    rintro e w5 ⟨rfl, rfl⟩
                    clear hBB
                    go_wp2
                    exact ⟨⟨k + 1, by go_num, by omega, HE.out, HBA.out.alloc HBA.out.size _⟩, by simp [intOf]; omega⟩
                  | true =>
                    have hBB := has_any (HYr.out (.cells #[.int .i64 mi, .int .u8 1, .int .i64 mw, .int .i64 mg] 30)) mi (by omega)
                    rw [h4] at hBB
                    clear h3 h4
                    go_wp2_with fail
                    refine hA.mono ?_
                    rintro e w5 ⟨rfl, rfl⟩
                    clear hA
                    go_wp2_with fail
                    refine hBB.mono ?_
                    rintro e w5 ⟨rfl, rfl⟩
                    clear hBB
                    go_wp2
                    go_ret
                    exact ⟨rfl, HBW.out.alloc HBW.out.size _⟩
              · have HE : Hid (∀ m ∈ l.take (k + 1), ¬ inBoth a b m) := HNEXT.out (fun h => h2 h.2.1)
                go_wp2
                exact ⟨⟨k + 1, by go_num, by omega, HE.out, HBA.out.alloc HBA.out.size _⟩, by simp [intOf]; omega⟩
            · have h1b : (mr == 1) = false := by simpa using h1
              have HE : Hid (∀ m ∈ l.take (k + 1), ¬ inBoth a b m) := HNEXT.out (fun h => h1 h.1)
              clear h1
              go_wp2
              exact ⟨⟨k + 1, by go_num, by omega, HE.out, HBA.out.alloc HBA.out.size _⟩, by simp [intOf]; omega⟩
          · exfalso
            have hkk : k = l.length := by omega
            subst hkk
            obtain ⟨m, hm, hin⟩ := HMT.out
            have := HNO.out m (by rw [List.take_length]; exact hm)
            exact this hin
end Go.Proofs.Ytmjpnelaphphkaa
