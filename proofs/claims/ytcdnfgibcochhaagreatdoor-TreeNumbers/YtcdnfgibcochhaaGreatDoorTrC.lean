/- Trees: making one; bytes and texts copied; a node put. -/
import Derived.Test.YtcdnfgibcochhaaGreatDoorTrB
import Derived.Test.YtcdnfgibcochhaaGreatDoorTrN
import Derived.Test.YtcdnfgibcochhaaGreatDoorDdR
import Derived.Test.YtcdnfgibcochhaaGreatDoorShelf2
import Derived.Lib.LazyBuf
namespace Go.Proofs.YtcdnfgibcochhaaGreatDoor
set_option linter.unusedVariables false
open Go.RowKit Go.MapKept
set_option linter.unusedVariables false

theorem eqlB (w : World) (A : Option Addr) (n c : Nat) : (binOp .eql 24 (.slice A n c) (.slice none 0 0)).run Tryz.prog w = .ok (.bool A.isNone) w := Go.run_eql_slice_nil w 24 5 A n c Tryz.underlying24
theorem new_own5 (W : World) : (W.alloc (.cells #[] 5)).ownsRow W.heap.size 5 1 (.slice (some ⟨W.heap.size, 0, none⟩) 0 0) 0 (bv []) :=
  ⟨rfl, .inr ⟨W.heap.size, 0, #[], rfl, Nat.le_refl _, heap_alloc_new W _, Nat.le_refl _, by unfold maxLen; omega, rfl, rfl⟩⟩
set_option maxRecDepth 100000 in
theorem bclone_any {w : World} {A : Option Addr} {n c : Nat} {l : List UInt8} (h : Bs w (.slice A n c) l) (hn : n = l.length) (hl : l.length ≤ 140737488355328) :
    Calls Tryz.prog 62 #[.slice A n c] w fun e w' => ∃ A' C', e = .returned (.slice A' n C') ∧ w'.ownsRow w.heap.size 5 1 (.slice A' n C') n (bv l) ∧ Below w.heap.size w w' := by
  subst hn
  have he := eqlB w A l.length c
  cases A with
  | none =>
    have hl0 : l = [] := by
      rcases h with ⟨e, rfl⟩ | ⟨ad, c, e, rfl⟩ | ⟨h0, b, o, c, e, _⟩
      · rfl
      · rfl
      · cases e
    subst hl0
    clear he
    have he := eqlB
    clear h hl
    go_enter Tryz.func62, Tryz.ntmps62
    go_wp2_with fail
    go_ret
    exact ⟨none, 0, rfl, World.ownsRow_nil _ _ _ _, Below.refl _ _⟩
  | some ad =>
    simp only [Option.isNone_some] at he
    have HX : Hid (Bs w (.slice (some ad) l.length c) l) := h
    clear h
    go_enter Tryz.func62, Tryz.ntmps62
    go_wp2_with (first
      | (at_builtin; refine wpList_app rfl (.tmp 5) (.tmp 6) rfl _ _ rfl rfl (new_own5 w) (HX.out.alloc _) (by simp) (by simp; omega) ?_; intro A9 C9 w9 ho9 hg9 hl9 hn9)
      | fail)
    go_ret
    simp only [List.length_nil, Nat.zero_add, List.nil_append] at ho9
    exact ⟨A9, C9, by simp, ho9, (lay1 _ _).trans ((Chg.of_grown hg9).below (fun k hk => by cases hk; exact Nat.le_refl _) (by simp))⟩
set_option maxRecDepth 100000 in
theorem sclone_any (s : List UInt8) (hs : s.length ≤ 281474976710656) (w : World) : Calls Tryz.prog 61 #[.string (mkS s)] w fun e w' => e = .returned (.string (mkS s)) ∧ Below w.heap.size w w' := by
  have hc := Tryz.stringslite_Clone (mkS s) w (by simpa [mkS, ByteArray.size] using hs)
  go_enter Tryz.func61, Tryz.ntmps61
  go_wp2_with fail
  refine hc.mono ?_
  rintro e w1 ⟨rfl, hB⟩
  clear hc
  have HB : Hid _ := hB
  clear hB
  go_wp2_with fail
  go_ret
  exact ⟨rfl, HB.out⟩
set_option maxRecDepth 100000 in
theorem new_tr (w : World) : Calls Tryz.prog 11 #[] w fun e w' => ∃ t m n, e = .returned (.pointer (some ⟨t, 0, none⟩)) ∧ Tr w' t m n [⟨[47], [], zeroSt⟩] [] ∧ (∀ k, Wt t m n k → w.heap.size ≤ k) ∧ Below w.heap.size w w' := by
  have hmm := @run_makeMap Tryz.prog
  have hm0 : MapIs (w.alloc (.map #[] 0)) w.heap.size [] := ⟨#[], 0, heap_alloc_new w _, rfl, by simp, by simp, by simp⟩
  obtain ⟨w1, hrun, h1, c1, s1⟩ := hm0.update (⟨[47], [], zeroSt⟩, .slice none 0 0)
  have hrun' : (Instr.mapUpdate 35 (.map (some w.heap.size)) (.string { data := #[47] }) (.agg #[.slice none 0 0, .int .i64 0, .int .i64 0, .int .i64 0, .int .i64 0, .int .i64 0, .int .i64 0, .int .i64 0, .int .i64 0, .int .i64 0, .int .i64 0])).run Tryz.prog (w.alloc (.map #[] 0)) = _ := hrun
  have HF : Hid (MapIs w1 w.heap.size (putL (⟨[47], [], zeroSt⟩, .slice none 0 0) []) ∧ Chg (fun k => k = w.heap.size) (w.alloc (.map #[] 0)) w1 ∧ w1.heap.size = w.heap.size + 1) := ⟨h1, c1, by rw [s1]; simp⟩
  clear hrun hm0 h1 c1 s1
  go_enter Tryz.func11, Tryz.ntmps11
  go_wp2_with fail
  go_ret
  obtain ⟨h1, c1, s1⟩ := HF.out
  have hB1 : Below w.heap.size w w1 := (lay1 w (.map #[] 0)).trans (c1.below (fun k hk => by omega) (by simp))
  have hB2 : Below w1.heap.size w1 ((w1.alloc (.map #[] 0)).alloc (.cells #[.map (some w.heap.size), .map (some w1.heap.size)] 38)) := ((Below.refl _ _).alloc (Nat.le_refl _) _).alloc (by simp) _
  refine ⟨w1.heap.size + 1, w.heap.size, w1.heap.size, by simp, ⟨[(⟨[47], [], zeroSt⟩, .slice none 0 0)], [], ⟨?_, ?_, ?_, by omega, ?_, ?_⟩, rfl, rfl⟩, ?_, hB1.trans (hB2.mono (by omega))⟩
  · have := heap_alloc_new (w1.alloc (.map #[] 0)) (.cells #[.map (some w.heap.size), .map (some w1.heap.size)] 38)
    simpa using this
  · exact h1.keep (Chg.of_below hB2) (fun e => e)
  · exact ⟨#[], 0, by rw [Below.heap_alloc _ _ _ (by simp)]; exact heap_alloc_new w1 _, rfl, by simp, by simp, by simp⟩
  · intro p hp
    simp at hp
    subst hp
    exact World.ownsRow_nil _ _ _ _
  · intro p hp
    simp at hp
    subst hp
    exact ⟨by simp, rfl, rfl⟩
  · rintro k (rfl | rfl | rfl) <;> omega
end Go.Proofs.YtcdnfgibcochhaaGreatDoor
