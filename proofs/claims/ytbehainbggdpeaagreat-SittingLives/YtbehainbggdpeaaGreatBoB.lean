/- The walks of a book's calls but Tick and All. -/
import Derived.Test.YtbehainbggdpeaaGreatBoM
import Derived.Laws.Cover3
import Derived.Carry
import Derived.Deep.RegionHeld3
import Derived.Lib.QuietBelow
namespace Go.Proofs.YtbehainbggdpeaaGreat
set_option linter.unusedSimpArgs false
set_option linter.unusedVariables false
open Go.RowKit Go.MapKept
set_option linter.unusedVariables false
set_option linter.unusedSimpArgs false

theorem neqM (w : World) (m : Option Nat) : (binOp .neq 37 (.map m) (.map none)).run Tryz.prog w = .ok (.bool (!m.isNone)) w := run_neq_map_nil w 37 2 53 m undM
theorem below2 (w : World) (o o' : Obj) : Below w.heap.size w ((w.alloc o).alloc o') := ((Below.refl _ _).alloc (Nat.le_refl _) o).alloc (by simp) o'
theorem cell_lt {w : World} {d : Nat} {i : Nat} {x : Value} (h : w.cell? ⟨d, i, none⟩ = some x) : d < w.heap.size := by
  rcases Nat.lt_or_ge d w.heap.size with h1 | h1
  · exact h1
  · simp [World.cell?, Array.getElem?_eq_none h1] at h

/- No book, or one that nobody made. -/
def NoBook (w : World) (v : Value) : Prop := v = .pointer none ∨ ∃ d, v = .pointer (some ⟨d, 0, none⟩) ∧ w.cell? ⟨d, 1, none⟩ = some (.map none)
theorem NoBook.below {w w' : World} {v : Value} (h : NoBook w v) (hb : Below w.heap.size w w') : NoBook w' v := by
  rcases h with h | ⟨d, rfl, hc⟩
  · exact .inl h
  · exact .inr ⟨d, rfl, by rw [World.cell?_of_block (hb.block d (cell_lt hc))]; exact hc⟩
theorem NoBook.alloc {w : World} {v : Value} (h : NoBook w v) (o : Obj) : NoBook (w.alloc o) v := h.below ((Below.refl _ _).alloc (Nat.le_refl _) o)

set_option maxRecDepth 100000 in
theorem there_no {w : World} {v : Value} (h : NoBook w v) : Calls Tryz.prog 21 #[v] w fun e w' => e = .returned (.bool false) ∧ w' = w := by
  have hm := neqM
  rcases h with rfl | ⟨d, rfl, h⟩
  · go_enter Tryz.func21, Tryz.ntmps21
    go_wp2_with fail
    go_ret
    exact ⟨rfl, rfl⟩
  · go_enter Tryz.func21, Tryz.ntmps21
    go_wp2_with fail
    go_ret
    exact ⟨rfl, rfl⟩
set_option maxRecDepth 100000 in
theorem there_any {w : World} {d m : Nat} (h : w.cell? ⟨d, 1, none⟩ = some (.map (some m))) : Calls Tryz.prog 21 #[.pointer (some ⟨d, 0, none⟩)] w fun e w' => e = .returned (.bool true) ∧ w' = w := by
  have hm := neqM
  go_enter Tryz.func21, Tryz.ntmps21
  go_wp2_with fail
  go_ret
  exact ⟨rfl, rfl⟩

/- A book in memory: its time, its map; its sessions, rising. -/
structure Bx (w : World) (b m : Nat) (now : Int) (S : List Fi) : Prop where
  cell : w.heap[b]? = some (.cells #[.int .i64 now, .map (some m)] 39 (0, 0))
  map : ∃ L, MapIs w m L ∧ L.Perm S
  up : asc S
  nums : ∀ p ∈ S, 1 ≤ p.nm ∧ p.nm < 9223372036854775808 ∧ 1 ≤ p.tmo ∧ p.tmo ≤ 1000
  nw : 0 ≤ now ∧ now ≤ late
abbrev Own (b m : Nat) : Nat → Prop := fun k => k = b ∨ k = m
theorem Bx.ne {w : World} {b m : Nat} {now : Int} {S : List Fi} (h : Bx w b m now S) : b ≠ m := by
  obtain ⟨L, ⟨es, clock, hb, _⟩, _⟩ := h.map
  intro e
  have := h.cell
  rw [e, hb] at this
  cases this
theorem Bx.ltb {w : World} {b m : Nat} {now : Int} {S : List Fi} (h : Bx w b m now S) : b < w.heap.size := heap_lt h.cell
theorem Bx.ltm {w : World} {b m : Nat} {now : Int} {S : List Fi} (h : Bx w b m now S) : m < w.heap.size := by
  obtain ⟨L, h1, _⟩ := h.map
  exact h1.lt
theorem Bx.keep {T : Nat → Prop} {w w' : World} {b m : Nat} {now : Int} {S : List Fi} (h : Bx w b m now S) (hc : Chg T w w') (hb : ¬ T b) (hm : ¬ T m) : Bx w' b m now S := by
  obtain ⟨L, h1, h2⟩ := h.map
  exact ⟨by rw [hc.block b h.ltb hb]; exact h.cell, ⟨L, h1.keep hc hm, h2⟩, h.up, h.nums, h.nw⟩
theorem Bx.below {w w' : World} {b m : Nat} {now : Int} {S : List Fi} (h : Bx w b m now S) (hc : Below w.heap.size w w') : Bx w' b m now S := h.keep (Chg.of_below hc) (fun e => e) (fun e => e)
theorem Bx.alloc {w : World} {b m : Nat} {now : Int} {S : List Fi} (h : Bx w b m now S) (o : Obj) : Bx (w.alloc o) b m now S := h.keep (Chg.alloc Non w o) (fun e => e) (fun e => e)
theorem Bx.drew {w : World} {b m : Nat} {now : Int} {S : List Fi} (h : Bx w b m now S) : Bx w.drew b m now S := h.keep (Chg.drew Non w) (fun e => e) (fun e => e)
theorem Bx.names {w : World} {b m : Nat} {now : Int} {S : List Fi} (h : Bx w b m now S) {L : List Fv} (hL : L.Perm S) : (L.map fun p => p.nm).Nodup := (hL.map _).nodup_iff.2 h.up.names
theorem Bx.nowc {w : World} {b m : Nat} {now : Int} {S : List Fi} (h : Bx w b m now S) : w.cell? ⟨b, 0, none⟩ = some (.int .i64 now) := by
  have := cell_at h.cell 0; simpa using this
theorem Bx.mapc {w : World} {b m : Nat} {now : Int} {S : List Fi} (h : Bx w b m now S) : w.cell? ⟨b, 1, none⟩ = some (.map (some m)) := by
  have := cell_at h.cell 1; simpa using this
theorem Bx.put {w w' : World} {b m : Nat} {now : Int} {S : List Fi} (h : Bx w b m now S) {L : List Fv} {p : Fi} (hL : L.Perm S) (hm : MapIs w' m (putL p L)) (hc : Chg (fun k => k = m) w w') (hp : 1 ≤ p.nm ∧ p.nm < 9223372036854775808 ∧ 1 ≤ p.tmo ∧ p.tmo ≤ 1000) : Bx w' b m now (insS p S) := by
  refine ⟨by rw [hc.block b h.ltb h.ne]; exact h.cell, ⟨_, hm, put_perm hL h.up⟩, asc_insS h.up, fun q hq => ?_, h.nw⟩
  rcases (mem_insS h.up).1 hq with rfl | ⟨hq, _⟩
  · exact hp
  · exact h.nums q hq
theorem Bx.del {w w' : World} {b m : Nat} {now : Int} {S : List Fi} (h : Bx w b m now S) {L : List Fv} {k : Int} (hL : L.Perm S) (hm : MapIs w' m (delL k L)) (hc : Chg (fun k => k = m) w w') : Bx w' b m now (delL k S) :=
  ⟨by rw [hc.block b h.ltb h.ne]; exact h.cell, ⟨_, hm, del_perm hL h.up⟩, asc_delL h.up, fun q hq => h.nums q ((del_sub k S).subset hq), h.nw⟩
theorem stamped_none : Stamped #[] 0 := ⟨by simp, by simp, by simp⟩
theorem bx_new (now : Int) (h : 0 ≤ now ∧ now ≤ late) (w : World) :
    Bx ((w.alloc (.map #[] 0)).alloc (.cells #[.int .i64 now, .map (some w.heap.size)] 39)) (w.heap.size + 1) w.heap.size now [] := by
  refine ⟨?_, ⟨[], ⟨#[], 0, ?_, rfl, stamped_none⟩, .nil⟩, .nil, (fun p hp => by cases hp), h⟩
  · have := heap_alloc_new (w.alloc (.map #[] 0)) (.cells #[.int .i64 now, .map (some w.heap.size)] 39)
    simpa using this
  · rw [Below.heap_alloc _ _ _ (by simp)]; exact heap_alloc_new w _

set_option maxRecDepth 100000 in
theorem new_any (n : Int) (w : World) : Calls Tryz.prog 4 #[.int .i64 n] w fun e w' => ∃ b m, e = .returned (.pointer (some ⟨b, 0, none⟩)) ∧ Bx w' b m (clamp n) [] ∧ w.heap.size ≤ b ∧ w.heap.size ≤ m ∧ Below w.heap.size w w' := by
  have hmm := @run_makeMap Tryz.prog
  go_enter Tryz.func4, Tryz.ntmps4
  go_wp2_with fail
  all_goals
    go_ret
    refine ⟨w.heap.size + 1, rfl, w.heap.size, ?_, by omega, Nat.le_refl _, below2 _ _ _⟩
  · rw [show clamp n = 0 by unfold clamp late; omega]
    exact bx_new 0 (by unfold late; omega) w
  · rw [show clamp n = 1152921504606846976 by unfold clamp late; omega]
    exact bx_new _ (by unfold late; omega) w
  · rw [show clamp n = n by unfold clamp late; omega]
    exact bx_new _ (by unfold late; omega) w

set_option maxRecDepth 100000 in
theorem find_no {w : World} {v : Value} (h : NoBook w v) (k : Value) : Calls Tryz.prog 28 #[v, k] w fun e w' => e = .returned (.tuple #[.agg #[.int .i64 0, .int .i64 0], .bool false]) ∧ Below w.heap.size w w' := by
  go_enter Tryz.func28, Tryz.ntmps28
  go_wp2_with fail
  refine (there_no (h.alloc _)).mono ?_
  rintro e w1 ⟨rfl, rfl⟩
  go_wp2_with fail
  refine bodyPost_ret (v := .tuple #[.agg #[.int .i64 0, .int .i64 0], .bool false]) (by simp [results, Tryz.results28, go_sem]) rfl ⟨rfl, (Below.refl _ _).alloc (Nat.le_refl _) _⟩
set_option maxRecDepth 100000 in
theorem find_any {w : World} {b m : Nat} {now : Int} {S : List Fi} (h : Bx w b m now S) (k : Int) :
    Calls Tryz.prog 28 #[.pointer (some ⟨b, 0, none⟩), .int .i64 k] w fun e w' => e = .returned (.tuple #[valOf ((look k S).getD zeroFv), .bool (look k S).isSome]) ∧ Below w.heap.size w w' := by
  have hA := h.alloc (.cells #[.int .i64 0, .int .i64 0] 53)
  have hc1 := hA.mapc
  obtain ⟨L, hL, hp⟩ := hA.map
  have hlk := hL.lookup k true
  rw [look_perm hp (hA.names hp) k] at hlk
  simp only [if_true] at hlk
  obtain ⟨t, en, hv⟩ : ∃ t en, valOf ((look k S).getD zeroFv) = .agg #[.int .i64 t, .int .i64 en] := ⟨_, _, rfl⟩
  obtain ⟨o, ho⟩ : ∃ o, (look k S).isSome = o := ⟨_, rfl⟩
  rw [hv, ho] at hlk ⊢
  clear hv ho hL hp
  go_enter Tryz.func28, Tryz.ntmps28
  go_wp2_with fail
  refine (there_any hc1).mono ?_
  rintro e w1 ⟨rfl, rfl⟩
  clear hA
  go_wp2_with fail
  refine bodyPost_ret (v := .tuple #[.agg #[.int .i64 t, .int .i64 en], .bool o]) (by simp [results, Tryz.results28, go_sem]) rfl ⟨rfl, below2 _ _ _⟩
set_option maxRecDepth 100000 in
theorem roundUp_any (t : Int) (h : 0 ≤ t ∧ t ≤ 1152921504606848000) (w : World) : Calls Tryz.prog 53 #[.int .i64 t] w fun e w' => e = .returned (.int .i64 (rup t)) ∧ w' = w := by
  go_enter Tryz.func53, Tryz.ntmps53
  go_wp2_with fail
  go_ret
  refine ⟨?_, rfl⟩
  have : rup t = (t + 4 - 1) / 4 * 4 := by unfold rup; omega
  rw [this]; rfl
set_option maxRecDepth 100000 in
theorem hear_any {w : World} {b m : Nat} {now : Int} {S : List Fi} (h : Bx w b m now S) (s t : Int) (hs : 1 ≤ s ∧ s < 9223372036854775808) (ht : 1 ≤ t ∧ t ≤ 1000) :
    Calls Tryz.prog 26 #[.pointer (some ⟨b, 0, none⟩), .int .i64 s, .int .i64 t] w fun e w' => e = .returned (.tuple #[]) ∧ Bx w' b m now (addS now s t S) ∧ Chg (Own b m) w w' ∧ w'.heap.size = w.heap.size := by
  have hD := h.drew
  have hc0 := hD.nowc
  have hc1 := hD.mapc
  have hc0' := h.nowc
  have hc1' := h.mapc
  obtain ⟨L, hL, hp⟩ := hD.map
  have hnw := h.nw
  unfold late at hnw
  have hru := fun W => roundUp_any (now + t) (by omega) W
  obtain ⟨w3, hrun, hm3, hc3, hs3⟩ := hL.update (hear now s t)
  simp only [valOf, hear] at hrun
  obtain ⟨en, hen⟩ : ∃ en, rup (now + t) = en := ⟨_, rfl⟩
  have HEN : Hid (rup (now + t) = en) := hen
  rw [hen] at hrun hru
  have hb1 : now + t < 9223372036854775808 := by omega
  have hb2 : -9223372036854775808 ≤ now + t := by omega
  have HX : Hid (Bx w b m now S ∧ L.Perm S ∧ MapIs w3 m (putL (hear now s t) L) ∧ Chg (fun k => k = m) w.drew w3 ∧ w3.heap.size = w.drew.heap.size) := ⟨h, hp, hm3, hc3, hs3⟩
  have hk0 : w3.cell? ⟨b, 0, none⟩ = some (.int .i64 now) := (hc3.cell (a := ⟨b, 0, none⟩) hD.ltb hD.ne).trans hc0
  have hk1 : w3.cell? ⟨b, 1, none⟩ = some (.map (some m)) := (hc3.cell (a := ⟨b, 1, none⟩) hD.ltb hD.ne).trans hc1
  have hw1 : IntKind.i64.wrap (now + t) = now + t := Go.IntWalk.i64_in _ (by omega)
  clear hm3 hc3 hs3 hen h hD hp hL
  go_enter Tryz.func26, Tryz.ntmps26
  go_wp2_with fail
  go_region_held3 (fun w' => w'.cell? ⟨b, 0, none⟩ = some (.int .i64 now) ∧ w'.cell? ⟨b, 1, none⟩ = some (.map (some m)))
    (first | exact ⟨hc0, hc1⟩ | exact ⟨hk0, hk1⟩ | go_keep)
    ((go_at_call 53; refine (hru _).mono ?_; rintro e w' ⟨rfl, rfl⟩))
  go_end0
  obtain ⟨h, hp, hm3, hc3, hs3⟩ := HX.out
  refine ⟨rfl, ?_, ?_, hs3⟩
  · exact h.drew.put hp hm3 hc3 (by show 1 ≤ s ∧ s < 9223372036854775808 ∧ 1 ≤ t ∧ t ≤ 1000; omega)
  · exact (Chg.drew _ w).trans (hc3.weak fun k _ e => .inr e)

/- Add. -/
set_option maxRecDepth 100000 in
theorem add_no {w : World} {v : Value} (h : NoBook w v) (s t : Value) : Calls Tryz.prog 13 #[v, s, t] w fun e w' => e = .returned (.int .i64 1) ∧ w' = w := by
  have hth := there_no h
  go_enter Tryz.func13, Tryz.ntmps13
  go_wp2_with fail
  refine hth.mono ?_
  rintro e w1 ⟨rfl, rfl⟩
  go_wp2_with fail
  go_ret
  exact ⟨rfl, rfl⟩
set_option maxRecDepth 100000 in
theorem add_bad {w : World} {b m : Nat} {now : Int} {S : List Fi} (h : Bx w b m now S) (s t : Int) (hb : s < 1 ∨ t < 1 ∨ 1000 < t) :
    Calls Tryz.prog 13 #[.pointer (some ⟨b, 0, none⟩), .int .i64 s, .int .i64 t] w fun e w' => e = .returned (.int .i64 2) ∧ w' = w := by
  have hth := there_any h.mapc
  clear h
  by_cases h1 : s < 1
  · go_enter Tryz.func13, Tryz.ntmps13
    go_wp2_with fail
    refine hth.mono ?_
    rintro e w1 ⟨rfl, rfl⟩
    go_wp2_with fail
    go_ret
    exact ⟨rfl, rfl⟩
  · by_cases h2 : t < 1
    · go_enter Tryz.func13, Tryz.ntmps13
      go_wp2_with fail
      refine hth.mono ?_
      rintro e w1 ⟨rfl, rfl⟩
      go_wp2_with fail
      go_ret
      exact ⟨rfl, rfl⟩
    · have h3 : t > 1000 := by omega
      go_enter Tryz.func13, Tryz.ntmps13
      go_wp2_with fail
      refine hth.mono ?_
      rintro e w1 ⟨rfl, rfl⟩
      go_wp2_with fail
      go_ret
      exact ⟨rfl, rfl⟩
set_option maxRecDepth 100000 in
theorem add_good {w : World} {b m : Nat} {now : Int} {S : List Fi} (h : Bx w b m now S) (s t : Int) (hs : 1 ≤ s ∧ s < 9223372036854775808) (ht : 1 ≤ t ∧ t ≤ 1000) :
    Calls Tryz.prog 13 #[.pointer (some ⟨b, 0, none⟩), .int .i64 s, .int .i64 t] w fun e w' => e = .returned (.int .i64 0) ∧ Bx w' b m now (addS now s t S) ∧ Chg (Own b m) w w' ∧ w'.heap.size = w.heap.size := by
  have hth := there_any h.mapc
  have hhe := hear_any h s t hs ht
  clear h
  have h1 : ¬ s < 1 := by omega
  have h2 : ¬ t < 1 := by omega
  have h3 : ¬ t > 1000 := by omega
  go_enter Tryz.func13, Tryz.ntmps13
  go_wp2_with fail
  refine hth.mono ?_
  rintro e w1 ⟨rfl, rfl⟩
  go_wp2_with fail
  refine hhe.mono ?_
  rintro e w2 ⟨rfl, hb2, hc2, hs2⟩
  have HX : Hid (Bx w2 b m now (addS now s t S) ∧ Chg (Own b m) w1 w2 ∧ w2.heap.size = w1.heap.size) := ⟨hb2, hc2, hs2⟩
  clear hb2 hc2 hs2 hhe
  go_wp2_with fail
  go_ret
  exact ⟨rfl, HX.out⟩
theorem add_any {w : World} {b m : Nat} {now : Int} {S : List Fi} (h : Bx w b m now S) (s t : Int) (hs : s < 9223372036854775808) :
    Calls Tryz.prog 13 #[.pointer (some ⟨b, 0, none⟩), .int .i64 s, .int .i64 t] w fun e w' => e = .returned (.int .i64 (addE s t)) ∧ Bx w' b m now (addR now s t S) ∧ Chg (Own b m) w w' ∧ w'.heap.size = w.heap.size := by
  by_cases hb : s < 1 ∨ t < 1 ∨ 1000 < t
  · refine (add_bad h s t hb).mono ?_
    rintro e w' ⟨rfl, rfl⟩
    unfold addE addR
    rw [if_pos hb, if_pos hb]
    exact ⟨rfl, h, Chg.refl _ _, rfl⟩
  · refine (add_good h s t (by omega) (by omega)).mono ?_
    rintro e w' ⟨rfl, h2⟩
    unfold addE addR
    rw [if_neg hb, if_neg hb]
    exact ⟨rfl, h2⟩

/- Touch. -/
set_option maxRecDepth 100000 in
theorem touch_no {w : World} {v : Value} (h : NoBook w v) (s : Value) : Calls Tryz.prog 15 #[v, s] w fun e w' => e = .returned (.bool false) ∧ Below w.heap.size w w' := by
  have hf := find_no h s
  go_enter Tryz.func15, Tryz.ntmps15
  go_wp2_with fail
  refine hf.mono ?_
  rintro e w1 ⟨rfl, hB⟩
  clear hf
  go_wp2_with fail
  go_ret
  exact ⟨rfl, hB.alloc hB.size _⟩
set_option maxRecDepth 100000 in
theorem touch_any {w : World} {b m : Nat} {now : Int} {S : List Fi} (h : Bx w b m now S) (s : Int) :
    Calls Tryz.prog 15 #[.pointer (some ⟨b, 0, none⟩), .int .i64 s] w fun e w' => e = .returned (.bool (look s S).isSome) ∧ Bx w' b m now (touchS now s S) ∧ Chg (Own b m) w w' := by
  have hf := find_any h s
  have HX : Hid (Bx w b m now S) := h
  cases hq : look s S with
  | none =>
    have hu : touchS now s S = S := by unfold touchS; rw [hq]
    rw [hq] at hf
    rw [hu]
    simp only [Option.getD_none, Option.isSome_none, valOf, zeroFv] at hf ⊢
    clear h hq hu
    go_enter Tryz.func15, Tryz.ntmps15
    go_wp2_with fail
    refine hf.mono ?_
    rintro e w1 ⟨rfl, hB⟩
    clear hf
    have HB : Hid (Below w.heap.size w w1) := hB
    clear hB
    go_wp2_with fail
    go_ret
    have hB2 := HB.out.alloc HB.out.size (.cells #[.int .i64 0, .int .i64 0] 53)
    exact ⟨rfl, HX.out.below hB2, (Chg.of_below hB2).weak fun _ _ e => e.elim⟩
  | some q =>
    obtain ⟨hqm, hqn⟩ := look_some hq
    have hqr := h.nums q hqm
    have hu : touchS now s S = addS now s q.tmo S := by unfold touchS; rw [hq]; rfl
    rw [hq] at hf
    rw [hu]
    simp only [Option.getD_some, Option.isSome_some, valOf] at hf ⊢
    obtain ⟨t, ht⟩ : ∃ t, q.tmo = t := ⟨_, rfl⟩
    obtain ⟨en, hen⟩ : ∃ en, q.en = en := ⟨_, rfl⟩
    rw [hqn, ht] at hqr
    rw [ht, hen] at hf
    rw [ht]
    clear h hq hu ht hen hqm hqn
    go_enter Tryz.func15, Tryz.ntmps15
    go_wp2_with fail
    refine hf.mono ?_
    rintro e w1 ⟨rfl, hB⟩
    clear hf
    have hB2 := hB.alloc hB.size (.cells #[.int .i64 t, .int .i64 en] 53)
    have hhe := hear_any (HX.out.below hB2) s t ⟨hqr.1, hqr.2.1⟩ ⟨hqr.2.2.1, hqr.2.2.2⟩
    have HB2 : Hid (Below w.heap.size w (w1.alloc (.cells #[.int .i64 t, .int .i64 en] 53))) := hB2
    clear hB hB2 hqr
    go_wp2_with fail
    refine hhe.mono ?_
    rintro e w2 ⟨rfl, hb2, hc2, hs2⟩
    have HX2 : Hid (Bx w2 b m now (addS now s t S) ∧ Chg (Own b m) (w1.alloc (.cells #[.int .i64 t, .int .i64 en] 53)) w2) := ⟨hb2, hc2⟩
    clear hb2 hc2 hs2 hhe
    go_wp2_with fail
    go_ret
    exact ⟨rfl, HX2.out.1, ((Chg.of_below HB2.out).weak fun _ _ e => e.elim).trans HX2.out.2⟩

/- Remove. -/
set_option maxRecDepth 100000 in
theorem remove_no {w : World} {v : Value} (h : NoBook w v) (s : Value) : Calls Tryz.prog 17 #[v, s] w fun e w' => e = .returned (.bool false) ∧ Below w.heap.size w w' := by
  have hf := find_no h s
  go_enter Tryz.func17, Tryz.ntmps17
  go_wp2_with fail
  refine hf.mono ?_
  rintro e w1 ⟨rfl, hB⟩
  clear hf
  go_wp2_with fail
  go_ret
  exact ⟨rfl, hB.alloc hB.size _⟩
set_option maxRecDepth 100000 in
theorem remove_any {w : World} {b m : Nat} {now : Int} {S : List Fi} (h : Bx w b m now S) (s : Int) :
    Calls Tryz.prog 17 #[.pointer (some ⟨b, 0, none⟩), .int .i64 s] w fun e w' => e = .returned (.bool (look s S).isSome) ∧ Bx w' b m now (delL s S) ∧ Chg (Own b m) w w' := by
  have hf := find_any h s
  have HX : Hid (Bx w b m now S) := h
  cases hq : look s S with
  | none =>
    have hu : delL s S = S := by
      have := look_none.1 hq
      clear hf h HX hq
      induction S with
      | nil => rfl
      | cons x S ih => unfold delL; rw [if_neg (this x (.head _)), ih (fun q hq => this q (.tail _ hq))]
    rw [hq] at hf
    rw [hu]
    simp only [Option.getD_none, Option.isSome_none, valOf, zeroFv] at hf ⊢
    clear h hq hu
    go_enter Tryz.func17, Tryz.ntmps17
    go_wp2_with fail
    refine hf.mono ?_
    rintro e w1 ⟨rfl, hB⟩
    clear hf
    have HB : Hid (Below w.heap.size w w1) := hB
    clear hB
    go_wp2_with fail
    go_ret
    have hB2 := HB.out.alloc HB.out.size (.cells #[.int .i64 0, .int .i64 0] 53)
    exact ⟨rfl, HX.out.below hB2, (Chg.of_below hB2).weak fun _ _ e => e.elim⟩
  | some q =>
    rw [hq] at hf
    simp only [Option.getD_some, Option.isSome_some, valOf] at hf ⊢
    obtain ⟨t, ht⟩ : ∃ t, q.tmo = t := ⟨_, rfl⟩
    obtain ⟨en, hen⟩ : ∃ en, q.en = en := ⟨_, rfl⟩
    rw [ht, hen] at hf
    clear h hq ht hen
    go_enter Tryz.func17, Tryz.ntmps17
    go_wp2_with fail
    refine hf.mono ?_
    rintro e w1 ⟨rfl, hB⟩
    clear hf
    have hB2 := hB.alloc hB.size (.cells #[.int .i64 t, .int .i64 en] 53)
    have hX2 := HX.out.below hB2
    have hc1 := hX2.mapc
    obtain ⟨L, hL, hp⟩ := hX2.map
    have HM : Hid (MapIs (w1.alloc (.cells #[.int .i64 t, .int .i64 en] 53)) m L) := hL
    have HP : Hid (L.Perm S) := hp
    have HX2 : Hid (Bx (w1.alloc (.cells #[.int .i64 t, .int .i64 en] 53)) b m now S) := hX2
    have HB2 : Hid (Below w.heap.size w (w1.alloc (.cells #[.int .i64 t, .int .i64 en] 53))) := hB2
    clear hB hB2 hX2 hL hp
    go_wp2_with (first
      | (at_delete; refine wpList_del rfl _ _ rfl s rfl rfl HM.out ?_; intro w2 hm2 hc2 hs2)
      | fail)
    go_ret
    exact ⟨rfl, HX2.out.del HP.out hm2 hc2, ((Chg.of_below HB2.out).weak fun _ _ e => e.elim).trans (hc2.weak fun k _ e => .inr e)⟩
end Go.Proofs.YtbehainbggdpeaaGreat
