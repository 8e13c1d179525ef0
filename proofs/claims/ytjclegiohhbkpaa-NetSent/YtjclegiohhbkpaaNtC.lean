/- The walks of a net's small functions. -/
import Derived.Test.YtjclegiohhbkpaaNtB
import Derived.Laws.Cover3
namespace Go.Proofs.Ytjclegiohhbkpaa
open Go.RowKit Go.MapKept

theorem cell_at {w : World} {g T : Nat} {cs : Array Value} {fr : Nat × Nat} (h : w.heap[g]? = some (.cells cs T fr)) (i : Nat) : w.cell? ⟨g, i, none⟩ = cs[i]? := by
  simp [World.cell?, h]
theorem frozen_at {w : World} {g T : Nat} {cs : Array Value} (h : w.heap[g]? = some (.cells cs T (0, 0))) (i : Nat) : w.frozen? ⟨g, i, none⟩ = false := by
  simp [World.frozen?, h]
theorem neqM (w : World) (m : Option Nat) : (binOp .neq 38 (.map m) (.map none)).run Try.prog w = .ok (.bool (!m.isNone)) w := run_neq_map_nil w 38 56 42 m undM
theorem eqlS (w : World) (A : Option Addr) (n c : Nat) : (binOp .eql 27 (.slice A n c) (.slice none 0 0)).run Try.prog w = .ok (.bool A.isNone) w := Go.run_eql_slice_nil w 27 5 A n c Try.underlying27

/- No net, or one that nobody made. -/
def NoNet (w : World) (v : Value) : Prop := v = .pointer none ∨ ∃ d, v = .pointer (some ⟨d, 0, none⟩) ∧ w.cell? ⟨d, 0, none⟩ = some (.map none)
theorem cell_lt {w : World} {d : Nat} {x : Value} (h : w.cell? ⟨d, 0, none⟩ = some x) : d < w.heap.size := by
  rcases Nat.lt_or_ge d w.heap.size with h1 | h1
  · exact h1
  · simp [World.cell?, Array.getElem?_eq_none h1] at h
theorem NoNet.below {w w' : World} {v : Value} (h : NoNet w v) (hb : Below w.heap.size w w') : NoNet w' v := by
  rcases h with h | ⟨d, rfl, hc⟩
  · exact .inl h
  · exact .inr ⟨d, rfl, by rw [World.cell?_of_block (hb.block d (cell_lt hc))]; exact hc⟩
theorem NoNet.alloc {w : World} {v : Value} (h : NoNet w v) (o : Obj) : NoNet (w.alloc o) v := h.below ((Below.refl _ _).alloc (Nat.le_refl _) o)

set_option maxRecDepth 100000 in
theorem there_no {w : World} {v : Value} (h : NoNet w v) : Calls Try.prog 29 #[v] w fun e w' => e = .returned (.bool false) ∧ w' = w := by
  have hm := neqM
  rcases h with rfl | ⟨d, rfl, h⟩
  · go_enter Try.func29, Try.ntmps29
    go_wp2_with fail
    go_ret
    exact ⟨rfl, rfl⟩
  · go_enter Try.func29, Try.ntmps29
    go_wp2_with fail
    go_ret
    exact ⟨rfl, rfl⟩
set_option maxRecDepth 100000 in
theorem there_any {w : World} {d m : Nat} (h : w.cell? ⟨d, 0, none⟩ = some (.map (some m))) : Calls Try.prog 29 #[.pointer (some ⟨d, 0, none⟩)] w fun e w' => e = .returned (.bool true) ∧ w' = w := by
  have hm := neqM
  go_enter Try.func29, Try.ntmps29
  go_wp2_with fail
  go_ret
  exact ⟨rfl, rfl⟩

/- bytes.Clone of no slice, and of one. -/
set_option maxRecDepth 100000 in
theorem clone_nil (w : World) : Calls Try.prog 39 #[.slice none 0 0] w fun e w' => e = .returned (.slice none 0 0) ∧ w' = w := by
  have hn := eqlS
  go_enter Try.func39, Try.ntmps39
  go_wp2_with fail
  go_ret
  exact ⟨rfl, rfl⟩
set_option maxRecDepth 100000 in
theorem clone_some {w : World} {A : Addr} {n c : Nat} {l : List UInt8} (h : Bs w (.slice (some A) n c) l) (hn : l.length ≤ 140737488355328) :
    Calls Try.prog 39 #[.slice (some A) n c] w fun e w' => ∃ A' C', e = .returned (.slice A' n C') ∧ w'.ownsRow w.heap.size 5 1 (.slice A' n C') n (bv l) ∧ Below w.heap.size w w' := by
  have he := eqlS
  have HN : Hid (n = l.length) := by
    rcases h with ⟨hv, _⟩ | ⟨ad, c, hv, hl⟩ | ⟨h0, b, o, c, hv, _⟩ <;> cases hv
    · subst hl; exact rfl
    · exact rfl
  have HX : Hid (Bs w (.slice (some A) n c) l) := h
  clear h
  have HO : Hid ((w.alloc (.cells #[] 5)).ownsRow w.heap.size 5 1 (.slice (some ⟨w.heap.size, 0, none⟩) 0 0) 0 (bv [])) :=
    ⟨rfl, .inr ⟨w.heap.size, 0, #[], rfl, Nat.le_refl _, heap_alloc_new w _, Nat.le_refl _, by unfold maxLen; omega, rfl, rfl⟩⟩
  go_enter Try.func39, Try.ntmps39
  go_wp2_with (at_builtin; refine wpList_app rfl (.tmp 5) (.tmp 6) rfl _ _ rfl rfl HO (HX.alloc _) (by simp) (by simpa using hn) ?_; intro A1 C1 w1 ho1 hg1 hl1 hn1)
  go_ret
  have hn2 := HN.out
  have e1 : ([] : List UInt8).length + l.length = n := by rw [hn2]; simp
  simp only [e1, List.nil_append] at ho1
  refine ⟨A1, C1, by rw [hn2]; rfl, ho1, ?_⟩
  · refine (Below.refl w.heap.size w).alloc (Nat.le_refl _) (.cells #[] 5) |>.trans ?_
    exact (Chg.of_grown hg1).below (fun k hk => by cases hk; exact Nat.le_refl _) (by simp)
theorem bs_form {w : World} {x : Value} {l : List UInt8} (h : Bs w x l) : ∃ A C, x = .slice A l.length C := by
  rcases h with ⟨rfl, rfl⟩ | ⟨ad, c, rfl, rfl⟩ | ⟨_, b, o, c, rfl, _⟩
  · exact ⟨none, 0, rfl⟩
  · exact ⟨_, _, rfl⟩
  · exact ⟨_, _, rfl⟩
theorem clone_any {w : World} {x : Value} {l : List UInt8} (h : Bs w x l) (hn : l.length ≤ 140737488355328) :
    Calls Try.prog 39 #[x] w fun e w' => ∃ A' C', e = .returned (.slice A' l.length C') ∧ w'.ownsRow w.heap.size 5 1 (.slice A' l.length C') l.length (bv l) ∧ Below w.heap.size w w' := by
  obtain ⟨A, C, rfl⟩ := bs_form h
  cases A with
  | some A => exact clone_some h hn
  | none =>
    have h0 : l = [] ∧ C = 0 := by
      rcases h with ⟨hv, hl⟩ | ⟨ad, c, hv, _⟩ | ⟨_, b, o, c, hv, _⟩
      · injection hv with _ _ h3; exact ⟨hl, h3⟩
      · injection hv with h1; cases h1
      · injection hv with h1; cases h1
    obtain ⟨rfl, rfl⟩ := h0
    refine (clone_nil w).mono ?_
    rintro e w' ⟨rfl, rfl⟩
    exact ⟨none, 0, rfl, World.ownsRow_nil _ _ _ _, Below.refl _ _⟩

theorem stamped_none : Stamped #[] 0 := ⟨by simp, by simp, by simp⟩
theorem below2 (w : World) (o o' : Obj) : Below w.heap.size w ((w.alloc o).alloc o') := ((Below.refl _ _).alloc (Nat.le_refl _) o).alloc (by simp) o'
set_option maxRecDepth 100000 in
theorem new_any (w : World) : Calls Try.prog 6 #[] w fun e w' => ∃ n, e = .returned (.pointer (some ⟨n, 0, none⟩)) ∧ Nx w' n [] (fun k => k < w.heap.size) ∧ Below w.heap.size w w' := by
  have hmm := @run_makeMap Try.prog
  go_enter Try.func6, Try.ntmps6
  go_wp2_with fail
  go_ret
  refine ⟨_, rfl, ⟨w.heap.size, w.heap.size, [], by simp; omega, ⟨?_, ⟨#[], 0, ?_, rfl, stamped_none⟩, by simp, by simp, by simp, by simp, by simp, by simp, by omega, Nat.le_refl _⟩, fun k => rfl, ?_, fun g hg => by simp; omega⟩, below2 _ _ _⟩
  · have := heap_alloc_new (w.alloc (.map #[] 0)) (.cells #[.map (some w.heap.size)] 40)
    simpa using this
  · rw [Below.heap_alloc _ _ _ (by simp)]; exact heap_alloc_new w _
  · rintro g hg (rfl | rfl | ⟨p, hp, _⟩ | ⟨p, hp, _⟩)
    · omega
    · omega
    · cases hp
    · cases hp

theorem valAt_form {w : World} {base n m : Nat} {L : List Bg} (h : Nk w base n m L) {l : List Pk} (hf : Fit L l) (k : Int × Int) : ∃ A C, valAt k L = .slice A (bagOf l k).length C := by
  unfold valAt
  cases hq : look k L with
  | none => rw [hf.none hq]; exact ⟨none, 0, rfl⟩
  | some q =>
    obtain ⟨A, C, hv⟩ := owns_formT (h.bags q (look_some hq).1)
    refine ⟨A, C, ?_⟩
    rw [← hf.at hq, List.length_map]
    exact hv
set_option maxRecDepth 100000 in
theorem count_no {w : World} {v : Value} (h : NoNet w v) (a b : Value) : Calls Try.prog 9 #[v, a, b] w fun e w' => e = .returned (.int .i64 0) ∧ Below w.heap.size w w' := by
  go_enter Try.func9, Try.ntmps9
  go_wp2_with fail
  refine (there_no h).mono ?_
  rintro e w1 ⟨rfl, rfl⟩
  go_wp2_with fail
  go_ret
  exact ⟨rfl, Below.refl _ _⟩
set_option maxRecDepth 100000 in
theorem count_nk {w : World} {base n m : Nat} {L : List Bg} (h : Nk w base n m L) {l : List Pk} (hf : Fit L l) (k : Int × Int) :
    Calls Try.prog 9 #[.pointer (some ⟨n, 0, none⟩), .int .i64 k.1, .int .i64 k.2] w fun e w' => e = .returned (.int .i64 (bagOf l k).length) ∧ Below w.heap.size w w' := by
  have hc0 := cell_at h.cell 0
  simp at hc0
  have hlk := h.map.lookup k
  obtain ⟨A, C, hv⟩ := valAt_form h hf k
  rw [hv] at hlk
  simp only [keyV] at hlk
  go_enter Try.func9, Try.ntmps9
  go_wp2_with fail
  refine (there_any hc0).mono ?_
  rintro e w1 ⟨rfl, rfl⟩
  go_wp2_with fail
  go_ret
  exact ⟨rfl, Below.refl _ _⟩
theorem count_any {w : World} {n : Nat} {l : List Pk} {T : Nat → Prop} (h : Nx w n l T) (k : Int × Int) :
    Calls Try.prog 9 #[.pointer (some ⟨n, 0, none⟩), .int .i64 k.1, .int .i64 k.2] w fun e w' => e = .returned (.int .i64 (bagOf l k).length) ∧ Below w.heap.size w w' := by
  obtain ⟨base, m, L, h1, h2, h3, h4, h5⟩ := h
  exact count_nk h2 h3 k

theorem Nk.drewN {w : World} {base n m : Nat} {L : List Bg} (h : Nk w base n m L) (q : Nat) : Nk (w.drewN q) base n m L := h.keep (Chg.drewN Non w q) (fun _ _ => id)
abbrev kB (k : Int × Int) : Obj := .cells #[.int .i64 k.1, .int .i64 k.2] 56
theorem below1 (w : World) (o : Obj) : Below w.heap.size w (w.alloc o) := (Below.refl _ _).alloc (Nat.le_refl _) o
set_option maxRecDepth 100000 in
theorem find_no {w : World} {v : Value} (h : NoNet w v) (k : Int × Int) (at_ : Value) : Calls Try.prog 33 #[v, keyV k, at_] w fun e w' => e = .returned (.tuple #[.slice none 0 0, .bool false]) ∧ Below w.heap.size w w' := by
  have hA := h.alloc (kB k)
  simp only [keyV] at hA ⊢
  go_enter Try.func33, Try.ntmps33
  go_wp2_with fail
  refine (there_no hA).mono ?_
  rintro e w1 ⟨rfl, rfl⟩
  go_wp2_with fail
  go_ret2
  exact ⟨rfl, below1 _ _⟩
set_option maxRecDepth 100000 in
theorem find_out {w : World} {base n m : Nat} {L : List Bg} (h0 : Nk w base n m L) {l : List Pk} (hf : Fit L l) (k : Int × Int) (i : Int) (hi : ¬ (0 ≤ i ∧ i < (bagOf l k).length)) :
    Calls Try.prog 33 #[.pointer (some ⟨n, 0, none⟩), keyV k, .int .i64 i] w fun e w' => e = .returned (.tuple #[.slice none 0 0, .bool false]) ∧ Below w.heap.size w w' := by
  have h := h0.alloc (kB k)
  have hc0 := cell_at h.cell 0
  simp at hc0
  have hlk := fun q => (h.drewN q).map.lookup k
  obtain ⟨A, C, hv⟩ := valAt_form h hf k
  rw [hv] at hlk
  clear hv h h0
  simp only [keyV] at hlk ⊢
  go_enter Try.func33, Try.ntmps33
  go_wp2_with fail
  refine (there_any hc0).mono ?_
  rintro e w1 ⟨rfl, rfl⟩
  go_wp2_with fail
  go_quiet (fail)
  by_cases h0 : i < 0
  · go_wp2_with fail
    go_ret2
    exact ⟨rfl, below_drewN (below1 _ _) _⟩
  · have h1 : ((bagOf l k).length : Int) ≤ i := by omega
    go_wp2_with fail
    go_ret2
    exact ⟨rfl, below_drewN (below1 _ _) _⟩
/- The slice of a bag that has packets. -/
theorem bag_form {w : World} {base n m : Nat} {L : List Bg} (h : Nk w base n m L) {k : Int × Int} {q : Bg} (hq : look k L = some q) : ∃ g cap cur, q.v = .slice (some ⟨g, 0, none⟩) q.ps.length cap ∧ base ≤ g ∧ w.heap[g]? = some (.cells cur 27 (0, 0)) ∧ q.ps.length ≤ cap ∧ cap ≤ maxLen ∧ cur.size = cap ∧ ∀ i (hi : i < q.ps.length), w.cell? ⟨g, i, none⟩ = some (q.ps[i]'hi).2 := by
  have ho := h.bags q (look_some hq).1
  have hf := h.fits q (look_some hq).1
  rcases ho.2 with ⟨_, h0⟩ | ⟨g, cap, cur, hv, hb, hg, hc, hm, hs, ht⟩
  · omega
  · refine ⟨g, cap, cur, hv, hb, hg, hc, hm, by simpa using hs, fun i hi => ?_⟩
    have := ho.cells (g := g) (by rw [hv]; rfl) i (q.ps[i]'hi).2 (by simp [hi])
    rw [show (⟨g, 0, none⟩ : Addr).add i = ⟨g, i, none⟩ by simp only [Addr.add]; split <;> simp_all] at this
    exact this
theorem cellB {w : World} {g k : Nat} {v : Value} (h : w.cell? ⟨g, k, none⟩ = some v) (hg : g < w.heap.size) (o : Obj) : (w.alloc o).cell? ⟨g, k, none⟩ = some v := by
  rw [(Chg.alloc Non w o).cell (a := ⟨g, k, none⟩) hg id]; exact h
set_option maxRecDepth 100000 in
theorem find_in {w : World} {base n m : Nat} {L : List Bg} (h0 : Nk w base n m L) {k : Int × Int} {q : Bg} (hq : look k L = some q) (i : Nat) (hi : i < q.ps.length) :
    Calls Try.prog 33 #[.pointer (some ⟨n, 0, none⟩), keyV k, .int .i64 i] w fun e w' => e = .returned (.tuple #[(q.ps[i]'hi).2, .bool true]) ∧ Below w.heap.size w w' := by
  have h := h0.alloc (kB k)
  have hc0 := cell_at h.cell 0
  simp at hc0
  have hlk := fun q => (h.drewN q).map.lookup k
  have hle := (h.fits q (look_some hq).1).2.1
  obtain ⟨g, cap, cur, hv, hb, hg, hc, hm, hs, ht⟩ := bag_form h hq
  have hv' : valAt k L = .slice (some ⟨g, 0, none⟩) q.ps.length cap := by simp [valAt, hq, hv]
  rw [hv'] at hlk
  have hx := ht i hi
  obtain ⟨A, C, hA⟩ := owns_formT (h.rows q (look_some hq).1 (q.ps[i]'hi) (List.getElem_mem hi))
  rw [hA] at hx ⊢
  generalize (q.ps[i]'hi).1.length = N at hx
  clear hv hv' ht hg hA h h0 hq
  generalize q.ps.length = M at *
  simp only [keyV] at hlk ⊢
  go_enter Try.func33, Try.ntmps33
  go_wp2_with fail
  refine (there_any hc0).mono ?_
  rintro e w1 ⟨rfl, rfl⟩
  go_wp2_with fail
  go_quiet (fail)
  go_wp2_with fail
  go_ret2
  exact ⟨rfl, below_drewN (below1 _ _) _⟩
end Go.Proofs.Ytjclegiohhbkpaa
