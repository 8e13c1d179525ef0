/- The walks of a disk's small functions. -/
import Derived.Test.YtndjlnlmlgimlaaDkB
import Derived.Laws.Cover3
namespace Go.Proofs.Ytndjlnlmlgimlaa
open Go.RowKit Go.MapKept

theorem cell_at {w : World} {g T : Nat} {cs : Array Value} {fr : Nat × Nat} (h : w.heap[g]? = some (.cells cs T fr)) (i : Nat) : w.cell? ⟨g, i, none⟩ = cs[i]? := by
  simp [World.cell?, h]
theorem frozen_at {w : World} {g T : Nat} {cs : Array Value} (h : w.heap[g]? = some (.cells cs T (0, 0))) (i : Nat) : w.frozen? ⟨g, i, none⟩ = false := by
  simp [World.frozen?, h]


theorem neqM (w : World) (m : Option Nat) : (binOp .neq 43 (.map m) (.map none)).run Try.prog w = .ok (.bool (!m.isNone)) w := run_neq_map_nil w 43 9 58 m undM
theorem eqlS (w : World) (A : Option Addr) (n c : Nat) : (binOp .eql 28 (.slice A n c) (.slice none 0 0)).run Try.prog w = .ok (.bool A.isNone) w := Go.run_eql_slice_nil w 28 5 A n c Try.underlying28

/- No disk, or one that nobody made. -/
def NoDisk (w : World) (v : Value) : Prop := v = .pointer none ∨ ∃ d, v = .pointer (some ⟨d, 0, none⟩) ∧ w.cell? ⟨d, 0, none⟩ = some (.map none)

set_option maxRecDepth 100000 in
theorem there_no {w : World} {v : Value} (h : NoDisk w v) : Calls Try.prog 36 #[v] w fun e w' => e = .returned (.bool false) ∧ w' = w := by
  have hm := neqM
  rcases h with rfl | ⟨d, rfl, h⟩
  · go_enter Try.func36, Try.ntmps36
    go_wp2_with fail
    go_ret
    exact ⟨rfl, rfl⟩
  · go_enter Try.func36, Try.ntmps36
    go_wp2_with fail
    go_ret
    exact ⟨rfl, rfl⟩
set_option maxRecDepth 100000 in
theorem there_any {w : World} {d m : Nat} (h : w.cell? ⟨d, 0, none⟩ = some (.map (some m))) : Calls Try.prog 36 #[.pointer (some ⟨d, 0, none⟩)] w fun e w' => e = .returned (.bool true) ∧ w' = w := by
  have hm := neqM
  go_enter Try.func36, Try.ntmps36
  go_wp2_with fail
  go_ret
  exact ⟨rfl, rfl⟩

/- bytes.Clone of no slice, and of one. -/
set_option maxRecDepth 100000 in
theorem clone_nil (w : World) : Calls Try.prog 34 #[.slice none 0 0] w fun e w' => e = .returned (.slice none 0 0) ∧ w' = w := by
  have hn := eqlS
  go_enter Try.func34, Try.ntmps34
  go_wp2_with fail
  go_ret
  exact ⟨rfl, rfl⟩
set_option maxRecDepth 100000 in
theorem clone_some {w : World} {A : Addr} {n c : Nat} {l : List UInt8} (h : Bs w (.slice (some A) n c) l) (hn : l.length ≤ 140737488355328) :
    Calls Try.prog 34 #[.slice (some A) n c] w fun e w' => ∃ A' C', e = .returned (.slice A' n C') ∧ w'.ownsRow w.heap.size 5 1 (.slice A' n C') n (bv l) ∧ Below w.heap.size w w' := by
  have he := eqlS
  have HN : Hid (n = l.length) := by
    rcases h with ⟨hv, _⟩ | ⟨ad, c, hv, hl⟩ | ⟨h0, b, o, c, hv, _⟩ <;> cases hv
    · subst hl; exact rfl
    · exact rfl
  have HX : Hid (Bs w (.slice (some A) n c) l) := h
  clear h
  have HO : Hid ((w.alloc (.cells #[] 5)).ownsRow w.heap.size 5 1 (.slice (some ⟨w.heap.size, 0, none⟩) 0 0) 0 (bv [])) :=
    ⟨rfl, .inr ⟨w.heap.size, 0, #[], rfl, Nat.le_refl _, heap_alloc_new w _, Nat.le_refl _, by unfold maxLen; omega, rfl, rfl⟩⟩
  go_enter Try.func34, Try.ntmps34
  go_wp2_with (at_builtin; refine wpList_app rfl (.tmp 5) (.tmp 6) rfl _ _ rfl rfl HO (HX.alloc _) (by simp) (by simpa using hn) ?_; intro A1 C1 w1 ho1 hg1 hl1 hn1)
  go_ret
  have hn2 := HN.out
  have e1 : ([] : List UInt8).length + l.length = n := by rw [hn2]; simp
  simp only [e1, List.nil_append] at ho1
  refine ⟨A1, C1, by rw [hn2]; rfl, ho1, ?_⟩
  · refine (Below.refl w.heap.size w).alloc (Nat.le_refl _) (.cells #[] 5) |>.trans ?_
    exact (Chg.of_grown hg1).below (fun k hk => by cases hk; exact Nat.le_refl _) (by simp)
set_option maxRecDepth 100000 in
theorem inName_any (c : UInt8) (w : World) : Calls Try.prog 43 #[.int .u8 (c.toNat : Int)] w fun e w' => e = .returned (.bool (inN c)) ∧ w' = w := by
  go_enter Try.func43, Try.ntmps43
  go_wp2_with fail
  all_goals
    go_ret
    refine ⟨congrArg (fun b => Ending.returned (Value.bool b)) ?_, rfl⟩
    rw [Bool.eq_iff_iff]
    simp [inN]
    omega
theorem mkS_size (t : List UInt8) : (mkS t).size = t.length := by simp [mkS, ByteArray.size]
theorem mkS_get (t : List UInt8) (i : Nat) (h : i < t.length) (hs : i < (mkS t).size) : (mkS t)[i]'hs = t[i]'h := by
  simp [mkS, ByteArray.getElem_eq_getElem_data]
theorem all_of (t : List UInt8) (h : ∀ j (hj : j < t.length), inN (t[j]'hj) = true) : t.all inN = true := by
  rw [List.all_eq_true]
  intro x hx
  obtain ⟨j, hj, rfl⟩ := List.getElem_of_mem hx
  exact h j hj
theorem all_not (t : List UInt8) (j : Nat) (hj : j < t.length) (h : inN (t[j]'hj) = false) : t.all inN = false := by
  rw [List.all_eq_false]
  exact ⟨_, List.getElem_mem hj, by simp [h]⟩
set_option maxRecDepth 100000 in
theorem isName_any (l : List UInt8) (b : Bool) (hb : nameB l = b) (w : World) : Calls Try.prog 38 #[.string (mkS l)] w fun e w' => e = .returned (.bool b) ∧ w' = w := by
  have hs := mkS_size l
  by_cases h0 : l.length = 0
  · have hf : b = false := by rw [← hb]; simp [nameB, h0]
    clear hb
    subst hf
    go_enter Try.func38, Try.ntmps38
    go_wp2_with fail
    go_ret
    exact ⟨rfl, rfl⟩
  by_cases h1 : 30 < l.length
  · have hf : b = false := by rw [← hb]; simp [nameB]; omega
    clear hb
    subst hf
    go_enter Try.func38, Try.ntmps38
    go_wp2_with fail
    go_ret
    exact ⟨rfl, rfl⟩
  have HB : Hid (nameB l = b) := hb
  clear hb
  go_enter Try.func38, Try.ntmps38
  go_wp2_with fail
  go_loopw [14] (fun i wr => ∃ pos : Nat, i = .int .i64 pos ∧ pos ≤ l.length ∧ (∀ j (hj : j < l.length), j < pos → inN (l[j]'hj) = true) ∧ wr = w) (fun i _ => l.length - (intOf i).toNat)
  case atStart => exact ⟨0, rfl, by omega, fun j _ h => by omega, rfl⟩
  case round =>
    obtain ⟨pos, rfl, hle, hok, rfl⟩ := hrel
    by_cases hp : pos < l.length
    · have hp' : pos < (mkS l).size := by rw [mkS_size]; exact hp
      have hg := mkS_get l pos hp hp'
      go_wp2_with fail
      refine (inName_any _ _).mono ?_
      rintro e w1 ⟨rfl, rfl⟩
      cases hi : inN (l[pos]'hp)
      · have hf : b = false := by rw [← HB.out]; simp [nameB, all_not l pos hp hi]
        clear HB
        subst hf
        go_wp2_with fail
        go_ret
        exact ⟨rfl, rfl⟩
      · go_wp2_with fail
        go_roundw
        case rel =>
          refine ⟨pos + 1, rfl, by omega, fun j hj hlt => ?_, trivial⟩
          rcases Nat.lt_succ_iff_lt_or_eq.1 hlt with e | e
          · exact hok j hj e
          · subst e; exact hi
        case measure => simp [intOf]; omega
    · have hf : b = true := by
        rw [← HB.out]; simp only [nameB, Bool.and_eq_true, decide_eq_true_eq]
        exact ⟨⟨by omega, by omega⟩, all_of l fun j hj => hok j hj (by omega)⟩
      clear HB
      subst hf
      go_wp2_with fail
      go_ret
      exact ⟨rfl, rfl⟩
theorem stamped_none : Stamped #[] 0 := ⟨by simp, by simp, by simp⟩
theorem dsk_new (room : Int) (h : 0 ≤ room ∧ room < 9223372036854775808) (w : World) :
    Dsk ((w.alloc (.map #[] 0)).alloc (.cells #[.map (some w.heap.size), .int .i64 room] 45)) w.heap.size (w.heap.size + 1) room [] (fun k => w.heap.size ≤ k ∧ k < ((w.alloc (.map #[] 0)).alloc (.cells #[.map (some w.heap.size), .int .i64 room] 45)).heap.size) := by
  refine ⟨w.heap.size, [], rfl, ⟨?_, ⟨#[], 0, ?_, rfl, stamped_none⟩, by simp, .nil, by simp, h, by simpa [used] using h.1, by omega, Nat.le_refl _⟩, ?_, fun k hk => hk⟩
  · have := heap_alloc_new (w.alloc (.map #[] 0)) (.cells #[.map (some w.heap.size), .int .i64 room] 45)
    simpa using this
  · rw [Below.heap_alloc _ _ _ (by simp)]; exact heap_alloc_new w _
  · rintro k (rfl | rfl | ⟨p, hp, _⟩)
    · simp
    · simp; omega
    · cases hp
theorem below2 (w : World) (o o' : Obj) : Below w.heap.size w ((w.alloc o).alloc o') := ((Below.refl _ _).alloc (Nat.le_refl _) o).alloc (by simp) o'
set_option maxRecDepth 100000 in
theorem new_any (room : Int) (h : -9223372036854775808 ≤ room ∧ room < 9223372036854775808) (w : World) : Calls Try.prog 5 #[.int .i64 room] w fun e w' => e = .returned (.pointer (some ⟨w.heap.size + 1, 0, none⟩)) ∧ Dsk w' w.heap.size (w.heap.size + 1) (max room 0) [] (fun k => w.heap.size ≤ k ∧ k < w'.heap.size) ∧ Below w.heap.size w w' := by
  have hmm := @run_makeMap Try.prog
  go_enter Try.func5, Try.ntmps5
  go_wp2_with fail
  · go_ret
    refine ⟨rfl, ?_, below2 _ _ _⟩
    rw [show max room 0 = 0 by omega]
    exact dsk_new 0 (by omega) w
  · go_ret
    refine ⟨rfl, ?_, below2 _ _ _⟩
    rw [show max room 0 = room by omega]
    exact dsk_new room (by omega) w
theorem cell_lt {w : World} {d : Nat} {x : Value} (h : w.cell? ⟨d, 0, none⟩ = some x) : d < w.heap.size := by
  rcases Nat.lt_or_ge d w.heap.size with h1 | h1
  · exact h1
  · simp [World.cell?, Array.getElem?_eq_none h1] at h
theorem NoDisk.below {w w' : World} {v : Value} (h : NoDisk w v) (hb : Below w.heap.size w w') : NoDisk w' v := by
  rcases h with h | ⟨d, rfl, hc⟩
  · exact .inl h
  · exact .inr ⟨d, rfl, by rw [World.cell?_of_block (hb.block d (cell_lt hc))]; exact hc⟩
theorem NoDisk.alloc {w : World} {v : Value} (h : NoDisk w v) (o : Obj) : NoDisk (w.alloc o) v := h.below ((Below.refl _ _).alloc (Nat.le_refl _) o)
set_option maxRecDepth 100000 in
theorem find_no {w : World} {v : Value} (h : NoDisk w v) (k : Value) : Calls Try.prog 33 #[v, k] w fun e w' => e = .returned (.tuple #[.agg #[.slice none 0 0, .int .i64 0], .int .i64 1]) ∧ Below w.heap.size w w' := by
  go_enter Try.func33, Try.ntmps33
  go_wp2_with fail
  refine (there_no (h.alloc _)).mono ?_
  rintro e w1 ⟨rfl, rfl⟩
  go_wp2_with fail
  refine bodyPost_ret (v := .tuple #[.agg #[.slice none 0 0, .int .i64 0], .int .i64 1]) (by simp [results, Try.results33, go_sem]) rfl ⟨rfl, (Below.refl _ _).alloc (Nat.le_refl _) _⟩
set_option maxRecDepth 100000 in
theorem find_some {w : World} {base d m : Nat} {room : Int} {L : List Fv} (h : Dk w base d m room L) (k : List UInt8) {f : Fi} {A : Option Addr} {n C : Nat} (hp : look k L = some (f, .slice A n C)) :
    Calls Try.prog 33 #[.pointer (some ⟨d, 0, none⟩), .string (mkS k)] w fun e w' => e = .returned (.tuple #[.agg #[.slice A n C, .int .i64 (f.sy : Int)], .int .i64 0]) ∧ Below w.heap.size w w' := by
  have hA := h.alloc (.cells #[.slice none 0 0, .int .i64 0] 58)
  have hc0 := cell_at hA.cell 0
  simp at hc0
  have hlk := hA.map.lookup k true
  rw [hp] at hlk
  simp only [if_true, valOf, Option.getD_some, Option.isSome_some] at hlk
  go_enter Try.func33, Try.ntmps33
  go_wp2_with fail
  refine (there_any hc0).mono ?_
  rintro e w1 ⟨rfl, rfl⟩
  clear hA hp
  go_wp2_with fail
  refine bodyPost_ret (v := .tuple #[.agg #[.slice A n C, .int .i64 (f.sy : Int)], .int .i64 0]) (by simp [results, Try.results33, go_sem]) rfl ⟨rfl, below2 _ _ _⟩
set_option maxRecDepth 100000 in
theorem find_none {w : World} {base d m : Nat} {room : Int} {L : List Fv} (h : Dk w base d m room L) (k : List UInt8) (hp : look k L = none) :
    Calls Try.prog 33 #[.pointer (some ⟨d, 0, none⟩), .string (mkS k)] w fun e w' => e = .returned (.tuple #[.agg #[.slice none 0 0, .int .i64 0], .int .i64 6]) ∧ Below w.heap.size w w' := by
  have hA := h.alloc (.cells #[.slice none 0 0, .int .i64 0] 58)
  have hc0 := cell_at hA.cell 0
  simp at hc0
  have hlk := hA.map.lookup k true
  rw [hp] at hlk
  simp only [if_true, valOf, zeroFv, Option.getD_none, Option.isSome_none] at hlk
  go_enter Try.func33, Try.ntmps33
  go_wp2_with fail
  refine (there_any hc0).mono ?_
  rintro e w1 ⟨rfl, rfl⟩
  clear hA hp
  go_wp2_with fail
  refine bodyPost_ret (v := .tuple #[.agg #[.slice none 0 0, .int .i64 0], .int .i64 6]) (by simp [results, Try.results33, go_sem]) rfl ⟨rfl, below2 _ _ _⟩
end Go.Proofs.Ytndjlnlmlgimlaa
