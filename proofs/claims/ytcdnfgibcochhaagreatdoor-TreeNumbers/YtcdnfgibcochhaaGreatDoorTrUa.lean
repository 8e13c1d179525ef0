/- A row of deeds as it comes in. Trees: Get of a node that is there. -/
import Derived.Test.YtcdnfgibcochhaaGreatDoorDdIn
import Derived.Test.YtcdnfgibcochhaaGreatDoorTrPa
import Derived.Test.YtcdnfgibcochhaaGreatDoorTrEa
import Derived.Test.YtcdnfgibcochhaaGreatDoorTrMb
namespace Go.Proofs.YtcdnfgibcochhaaGreatDoor.DD
set_option linter.unusedVariables false
open Go.ChangeShapes Go.WideShapes Go.ChangeAt Go.RowKit
set_option linter.unusedVariables false

structure El2 where
  p : Fl × List Fl
  A1 : Option Addr
  c1 : Nat
  A2 : Option Addr
  c2 : Nat
  A3 : Option Addr
  c3 : Nat
def ev2 (e : El2) : List Value := [.int .i64 e.p.1.zxid, .int .u8 e.p.1.kind, .int .i64 e.p.1.session, .int .i64 e.p.1.turn, .int .i64 e.p.1.xid, .int .i64 e.p.1.time, .string (mkS e.p.1.path), .slice e.A1 e.p.1.data.length e.c1, .int .i64 e.p.1.owner, .int .i64 e.p.1.version, .int .i64 e.p.1.cversion, .int .i64 e.p.1.timeout, .int .i64 e.p.1.err, .int .i64 e.p.1.cver, .slice e.A2 e.p.1.mems.length e.c2, .slice e.A3 e.p.1.np e.c3]
theorem ev2_len (e : El2) : (ev2 e).length = 16 := rfl
abbrev DV (w : World) (e : El2) : Prop := DVal w e.p.1 e.p.2 e.A1 e.c1 e.A2 e.c2 e.A3 e.c3
/- Deeds side by side from a place on. -/
def Rowed (w : World) (A : Option Addr) (els : List El2) (C : Nat) : Prop :=
  els = [] ∨ ∃ b o, A = some ⟨b, o, none⟩ ∧ b < w.heap.size ∧ els.length ≤ C ∧ ∀ (i : Nat) (h : i < els.length) (j : Nat), j < 16 → w.cell? ⟨b, o + i * 16 + j, none⟩ = (ev2 (els[i]'h))[j]?
set_option maxRecDepth 100000 in
theorem deeds_in {H : Type} {enc : TypeId × Value → H} {W : World} {fuel : Nat} {v : Value} {x : DataW H × List MemPlace}
    (hf : DataW.trod enc Tryz.prog W 0 (fun _ => true) true fuel 29 [v] = some x) :
    ∃ (els : List El2) (A : Option Addr) (C : Nat), v = .slice A els.length C ∧ (els = [] → C = 0 ∨ ∃ b o, A = some ⟨b, o, none⟩ ∨ True) ∧ Rowed W A els C ∧ (∀ e ∈ els, DV W e ∧ DedFit e.p.1 e.p.2 ∧ e.p.1.np ≤ 9223372036854775807) ∧ els.length ≤ 9223372036854775807 ∧ (A = none → els = [] ∧ C = 0) := by
  rcases Go.Deep.open_slice Tryz.underlying29 hf with ⟨hcs, hx⟩ | ⟨ad, N, cap, m, n, D, Pl, hcs, _, hl, hmx, hm, hx, hel⟩
  · simp at hcs
    subst hcs
    exact ⟨[], none, 0, rfl, fun _ => .inl rfl, .inl rfl, fun e he => (nomatch he), by simp, fun _ => ⟨rfl, rfl⟩⟩
  · simp at hcs
    subst hcs
    simp only [if_true] at hm
    subst hm
    have hmL : maxLen = 9223372036854775807 := rfl
    by_cases h0 : 0 < N
    · obtain ⟨cs0, hc0, _⟩ := hel 0 (by omega)
      obtain ⟨b, o, spot⟩ := ad
      rw [deed_cells] at hel hc0
      have hsp : spot = none := spot_of (n := 0) hc0
      subst hsp
      have key : ∀ i, i < N → ∃ e : El2, (∀ j, j < 16 → W.cell? ⟨b, o + i * 16 + j, none⟩ = (ev2 e)[j]?) ∧ DV W e ∧ DedFit e.p.1 e.p.2 ∧ e.p.1.np ≤ 9223372036854775807 := by
        intro i hi
        obtain ⟨cs', hc1, hc2⟩ := hel i (by omega)
        rw [plain_add] at hc1
        obtain ⟨f, ps, A1, A2, A3, c1, c2, c3, rfl, g1, g2, g3⟩ := deed_in hc2
        obtain ⟨-, hc⟩ := cells_at hc1
        exact ⟨⟨(f, ps), A1, c1, A2, c2, A3, c3⟩, hc, g1, g2, g3⟩
      obtain ⟨l, hll, hp⟩ := list_of _ N key
      subst hll
      refine ⟨l, some ⟨b, o, none⟩, _, rfl, fun _ => .inr ⟨b, o, .inr trivial⟩, .inr ⟨b, o, rfl, ?_, by omega, fun i hi => (hp i hi).1⟩, fun e he => ?_, by omega, fun h => by cases h⟩
      · have hz := (hp 0 h0).1 0 (by omega)
        exact World.block_lt_of_cell? W _ (hz.trans rfl)
      · obtain ⟨j, hj, rfl⟩ := List.getElem_of_mem he
        exact (hp j hj).2
    · have hl0 : N = 0 := by omega
      subst hl0
      exact ⟨[], some ad, _, rfl, fun _ => .inr ⟨0, 0, .inr trivial⟩, .inl rfl, fun e he => (nomatch he), by simp, fun h => by cases h⟩
theorem Rowed.grow {w w' : World} {A : Option Addr} {els : List El2} {C : Nat} (h : Rowed w A els C) (hb : Below w.heap.size w w') : Rowed w' A els C := by
  rcases h with h | ⟨b, o, h1, h2, h3, h4⟩
  · exact .inl h
  · exact .inr ⟨b, o, h1, Nat.lt_of_lt_of_le h2 hb.size, h3, fun i hi j hj => (hb.cell (p := ⟨b, o + i * 16 + j, none⟩) h2).trans (h4 i hi j hj)⟩
theorem Rowed.deed {w : World} {A : Option Addr} {els : List El2} {C : Nat} (h : Rowed w A els C) (k : Nat) (hk : k < els.length) : ∃ b o, A = some ⟨b, o, none⟩ ∧ b < w.heap.size ∧ els.length ≤ C ∧ DCells w b (o + k * 16) (els[k]'hk).p.1 (els[k]'hk).A1 (els[k]'hk).c1 (els[k]'hk).A2 (els[k]'hk).c2 (els[k]'hk).A3 (els[k]'hk).c3 := by
  rcases h with h | ⟨b, o, h1, h2, h3, h4⟩
  · subst h; simp at hk
  · exact ⟨b, o, h1, h2, h3, h4 k hk 0 (by omega), h4 k hk 1 (by omega), h4 k hk 2 (by omega), h4 k hk 3 (by omega), h4 k hk 4 (by omega), h4 k hk 5 (by omega), h4 k hk 6 (by omega), h4 k hk 7 (by omega), h4 k hk 8 (by omega), h4 k hk 9 (by omega), h4 k hk 10 (by omega), h4 k hk 11 (by omega), h4 k hk 12 (by omega), h4 k hk 13 (by omega), h4 k hk 14 (by omega), h4 k hk 15 (by omega)⟩
theorem Rowed.len {w : World} {A : Option Addr} {els : List El2} {C : Nat} (h : Rowed w A els C) (hn : els ≠ []) : els.length ≤ C := by
  rcases h with h | ⟨_, _, _, _, h3, _⟩
  · exact absurd h hn
  · exact h3
theorem Rowed.take {w : World} {A : Option Addr} {els : List El2} {C : Nat} (h : Rowed w A els C) (m : Nat) (hm : m ≤ els.length) : Rowed w A (els.take m) C := by
  rcases h with h | ⟨b, o, h1, h2, h3, h4⟩
  · exact .inl (by rw [h]; simp)
  · refine .inr ⟨b, o, h1, h2, by rw [List.length_take]; omega, fun i hi j hj => ?_⟩
    have hi' : i < els.length := by rw [List.length_take] at hi; omega
    rw [List.getElem_take]
    exact h4 i hi' j hj
end Go.Proofs.YtcdnfgibcochhaaGreatDoor.DD
namespace Go.Proofs.YtcdnfgibcochhaaGreatDoor
set_option linter.unusedVariables false
open Go.RowKit Go.MapKept
theorem Tr.nams {w : World} {t m n : Nat} {N : List Fi} {S : List Si.Fi} (h : Tr w t m n N S) : nam N ∧ Si.nam S := by
  obtain ⟨L, K, hT, rfl, rfl⟩ := h
  have h1 := hT.nodes.names
  have h2 := hT.seats.names
  unfold nam Si.nam
  rw [List.map_map, List.map_map]
  exact ⟨h1, h2⟩
theorem Tr.far {w w' : World} {t m n t' m' n' : Nat} {N N' : List Fi} {S S' : List Si.Fi} (h : Tr w t m n N S) (h' : Tr w t' m' n' N' S') (hd : ∀ k, Wt t m n k → ¬ Wt t' m' n' k) (hc : Chg (Mn m' n') w w') : Tr w' t m n N S := by
  obtain ⟨L, K, hT, h1, h2⟩ := h
  obtain ⟨L', K', hT', _, _⟩ := h'
  have up : ∀ k, Mn m' n' k → Wt t' m' n' k := fun k e => by rcases e with e | e; exact .inr (.inl e); exact .inr (.inr e)
  exact ⟨L, K, hT.keep hc (fun k hk e => hd k hk (up k e)) (fun p hp k hk e => hT.bs_ne hT' hp hk (up k e)), h1, h2⟩
theorem Tr.same {w : World} {t m n t' m' n' : Nat} {N N' : List Fi} {S S' : List Si.Fi} (h : Tr w t m n N S) (h' : Tr w t' m' n' N' S') (hN : ∀ k, lookF k N = lookF k N') (hS : ∀ k, Si.lookF k S = Si.lookF k S') :
    Calls Tryz.prog 10 #[.pointer (some ⟨t, 0, none⟩), .pointer (some ⟨t', 0, none⟩)] w fun e w' => e = .returned (.bool true) ∧ Below w.heap.size w w' := by
  have n1 := h.nams
  have n2 := h'.nams
  have p1 := (alike_perm n1.1 n2.1 hN).length_eq
  have p2 := (Si.alike_perm n1.2 n2.2 hS).length_eq
  obtain ⟨L, K, hT, rfl, rfl⟩ := h
  obtain ⟨L', K', hT', rfl, rfl⟩ := h'
  refine same_yes hT hT' (by simpa using p1) (fun p hp => ?_) (by simpa using p2) (fun p hp => ?_)
  · have e1 := look_in n1.1 (List.mem_map.2 ⟨p, hp, rfl⟩)
    rw [hN, ← look_F] at e1
    cases hl : look p.1.nm L' with
    | none => rw [hl] at e1; simp at e1
    | some v =>
      rw [hl] at e1
      obtain ⟨v1, v2⟩ := v
      simp only [Option.map_some, Option.some.injEq] at e1
      exact ⟨v2, by rw [e1]⟩
  · have e1 := Si.look_in n1.2 (List.mem_map.2 ⟨p, hp, rfl⟩)
    rw [hS, ← Si.look_F] at e1
    cases hl : Si.look p.1.nm K' with
    | none => rw [hl] at e1; simp at e1
    | some v =>
      rw [hl] at e1
      obtain ⟨v1, v2⟩ := v
      obtain ⟨q1, q2⟩ := p
      simp only [Option.map_some, Option.some.injEq] at e1
      rw [e1]
end Go.Proofs.YtcdnfgibcochhaaGreatDoor

namespace Go.Proofs.YtcdnfgibcochhaaGreatDoor
set_option linter.unusedSimpArgs false
set_option linter.unusedVariables false
open Go.RowKit Go.MapKept
set_option linter.unusedVariables false
set_option linter.unusedSimpArgs false

set_option maxRecDepth 100000 in
set_option maxHeartbeats 8000000 in
theorem get_yes {w : World} {t m n : Nat} {L : List Fv} {K : List Si.Fv} (h : Tk w t m n L K) (hL : PA.Laid w) (hlen : L.length ≤ 1000000) (p : List UInt8) (hp : p.length ≤ 1000000) {q : Fi} {A : Option Addr} {C : Nat} (hq : look p L = some (q, .slice A q.b.length C)) :
    Calls Tryz.prog 14 #[.pointer (some ⟨t, 0, none⟩), .string (mkS p)] w fun e w' => ∃ A' C', e = .returned (.tuple #[.agg (toldA p q A' C' ((L.map fun q => q.1.nm).filter (kid p)).length), .bool true]) ∧ w'.ownsRow w.heap.size 5 1 (.slice A' q.b.length C') q.b.length (bv q.b) ∧ Below w.heap.size w w' := by
  have hfit := h.fits _ (look_some hq).1
  have hbs := Bs.of_owns (h.bs _ (look_some hq).1)
  simp only at hfit hbs
  obtain ⟨kN, hkN⟩ : ∃ kN, kN = ((L.map fun q => q.1.nm).filter (kid p)).length := ⟨_, rfl⟩
  have hkl : kN ≤ 1000000 := by
    rw [hkN]
    have := List.length_filter_le (kid p) (L.map fun q => q.1.nm)
    rw [List.length_map] at this
    omega
  rw [← hkN]
  have hf := find_yes (h.alloc (.cells zeroA.toArray 47)) p hq
  go_enter Tryz.func14, Tryz.ntmps14
  go_wp2_with fail
  refine hf.mono ?_
  rintro e w1 ⟨rfl, hb1⟩
  have HB1 : Hid (Below (w.alloc (.cells zeroA.toArray 47)).heap.size (w.alloc (.cells zeroA.toArray 47)) w1) := hb1
  obtain ⟨W, hW⟩ : ∃ W, W = (w1.alloc (.cells #[.slice A q.b.length C, .int .i64 q.st.cz, .int .i64 q.st.mz, .int .i64 q.st.pz, .int .i64 q.st.ct, .int .i64 q.st.mt, .int .i64 q.st.ver, .int .i64 q.st.cv, .int .i64 q.st.own, .int .i64 q.st.len, .int .i64 q.st.chd] 77)).drew := ⟨_, rfl⟩
  have HW : Hid (W = (w1.alloc (.cells #[.slice A q.b.length C, .int .i64 q.st.cz, .int .i64 q.st.mz, .int .i64 q.st.pz, .int .i64 q.st.ct, .int .i64 q.st.mt, .int .i64 q.st.ver, .int .i64 q.st.cv, .int .i64 q.st.own, .int .i64 q.st.len, .int .i64 q.st.chd] 77)).drew) := hW
  have hBw1 : Below w.heap.size w w1 := (lay1 _ _).trans (hb1.mono (by simp))
  have hBW : Below w.heap.size w W := by rw [hW]; exact (hBw1.trans ((lay1 _ _).mono hBw1.size)).drew
  have hs1 : w.heap.size + 1 ≤ w1.heap.size := by have := hb1.size; simpa using this
  have hsz : W.heap.size = w1.heap.size + 1 := by rw [hW]; simp
  have hb0 : W.heap[w1.heap.size]? = some (.cells #[.slice A q.b.length C, .int .i64 q.st.cz, .int .i64 q.st.mz, .int .i64 q.st.pz, .int .i64 q.st.ct, .int .i64 q.st.mt, .int .i64 q.st.ver, .int .i64 q.st.cv, .int .i64 q.st.own, .int .i64 q.st.len, .int .i64 q.st.chd] 77 (0, 0)) := by rw [hW]; exact heap_alloc_new w1 _
  have hbz : W.heap[w.heap.size]? = some (.cells zeroA.toArray 47 (0, 0)) := by
    rw [hW]
    refine ((lay1 w1 _).block _ (by omega)).trans ?_
    rw [hb1.block _ (by simp)]
    exact heap_alloc_new w _
  have HS : Hid (∀ {w' : World}, Below W.heap.size W w' → w'.cell? ⟨w1.heap.size, 0, none⟩ = some (.slice A q.b.length C) ∧ w'.cell? ⟨w1.heap.size, 1, none⟩ = some (.int .i64 q.st.cz) ∧ w'.cell? ⟨w1.heap.size, 2, none⟩ = some (.int .i64 q.st.mz) ∧ w'.cell? ⟨w1.heap.size, 3, none⟩ = some (.int .i64 q.st.pz) ∧ w'.cell? ⟨w1.heap.size, 4, none⟩ = some (.int .i64 q.st.ct) ∧ w'.cell? ⟨w1.heap.size, 5, none⟩ = some (.int .i64 q.st.mt) ∧ w'.cell? ⟨w1.heap.size, 6, none⟩ = some (.int .i64 q.st.ver) ∧ w'.cell? ⟨w1.heap.size, 7, none⟩ = some (.int .i64 q.st.cv) ∧ w'.cell? ⟨w1.heap.size, 8, none⟩ = some (.int .i64 q.st.own) ∧ w'.cell? ⟨w1.heap.size, 9, none⟩ = some (.int .i64 q.st.len) ∧ w'.cell? ⟨w1.heap.size, 10, none⟩ = some (.int .i64 q.st.chd)) := by
    intro w' hb
    have hb' : w'.heap[w1.heap.size]? = some (.cells #[.slice A q.b.length C, .int .i64 q.st.cz, .int .i64 q.st.mz, .int .i64 q.st.pz, .int .i64 q.st.ct, .int .i64 q.st.mt, .int .i64 q.st.ver, .int .i64 q.st.cv, .int .i64 q.st.own, .int .i64 q.st.len, .int .i64 q.st.chd] 77 (0, 0)) := by rw [hb.block _ (by omega)]; exact hb0
    exact ⟨cell_at hb' 0, cell_at hb' 1, cell_at hb' 2, cell_at hb' 3, cell_at hb' 4, cell_at hb' 5, cell_at hb' 6, cell_at hb' 7, cell_at hb' 8, cell_at hb' 9, cell_at hb' 10⟩
  have HT : Hid (∀ {w' : World}, Below W.heap.size W w' → w'.there w.heap.size 0 12) := by
    intro w' hb
    have hb' : w'.heap[w.heap.size]? = some (.cells zeroA.toArray 47 (0, 0)) := by rw [hb.block _ (by omega)]; exact hbz
    exact there_of (cs := zeroA) hb'
  have HSS : Hid (∀ {w' : World}, (w'.cell? ⟨w1.heap.size, 0, none⟩ = some (.slice A q.b.length C) ∧ w'.cell? ⟨w1.heap.size, 1, none⟩ = some (.int .i64 q.st.cz) ∧ w'.cell? ⟨w1.heap.size, 2, none⟩ = some (.int .i64 q.st.mz) ∧ w'.cell? ⟨w1.heap.size, 3, none⟩ = some (.int .i64 q.st.pz) ∧ w'.cell? ⟨w1.heap.size, 4, none⟩ = some (.int .i64 q.st.ct) ∧ w'.cell? ⟨w1.heap.size, 5, none⟩ = some (.int .i64 q.st.mt) ∧ w'.cell? ⟨w1.heap.size, 6, none⟩ = some (.int .i64 q.st.ver) ∧ w'.cell? ⟨w1.heap.size, 7, none⟩ = some (.int .i64 q.st.cv) ∧ w'.cell? ⟨w1.heap.size, 8, none⟩ = some (.int .i64 q.st.own) ∧ w'.cell? ⟨w1.heap.size, 9, none⟩ = some (.int .i64 q.st.len) ∧ w'.cell? ⟨w1.heap.size, 10, none⟩ = some (.int .i64 q.st.chd)) → ∀ A2 C2, (fun w' : World => w'.cell? ⟨w1.heap.size, 0, none⟩ = some (.slice A q.b.length C) ∧ w'.cell? ⟨w1.heap.size, 1, none⟩ = some (.int .i64 q.st.cz) ∧ w'.cell? ⟨w1.heap.size, 2, none⟩ = some (.int .i64 q.st.mz) ∧ w'.cell? ⟨w1.heap.size, 3, none⟩ = some (.int .i64 q.st.pz) ∧ w'.cell? ⟨w1.heap.size, 4, none⟩ = some (.int .i64 q.st.ct) ∧ w'.cell? ⟨w1.heap.size, 5, none⟩ = some (.int .i64 q.st.mt) ∧ w'.cell? ⟨w1.heap.size, 6, none⟩ = some (.int .i64 q.st.ver) ∧ w'.cell? ⟨w1.heap.size, 7, none⟩ = some (.int .i64 q.st.cv) ∧ w'.cell? ⟨w1.heap.size, 8, none⟩ = some (.int .i64 q.st.own) ∧ w'.cell? ⟨w1.heap.size, 9, none⟩ = some (.int .i64 q.st.len) ∧ w'.cell? ⟨w1.heap.size, 10, none⟩ = some (.int .i64 q.st.chd)) (w'.setCells w.heap.size 0 (toldA p q A2 C2 kN).toList)) := by
    intro w' hc A2 C2
    have hx : ∀ j, (w'.setCells w.heap.size 0 (toldA p q A2 C2 kN).toList).cell? ⟨w1.heap.size, j, none⟩ = w'.cell? ⟨w1.heap.size, j, none⟩ := fun j => World.cell?_setCells_out w.heap.size _ 0 w' ⟨w1.heap.size, j, none⟩ (fun hb _ => by simp at hb; omega)
    simp only [hx]
    exact hc
  have HST : Hid (∀ {w' : World}, Below W.heap.size W w' → (w'.cell? ⟨w1.heap.size, 0, none⟩ = some (.slice A q.b.length C) ∧ w'.cell? ⟨w1.heap.size, 1, none⟩ = some (.int .i64 q.st.cz) ∧ w'.cell? ⟨w1.heap.size, 2, none⟩ = some (.int .i64 q.st.mz) ∧ w'.cell? ⟨w1.heap.size, 3, none⟩ = some (.int .i64 q.st.pz) ∧ w'.cell? ⟨w1.heap.size, 4, none⟩ = some (.int .i64 q.st.ct) ∧ w'.cell? ⟨w1.heap.size, 5, none⟩ = some (.int .i64 q.st.mt) ∧ w'.cell? ⟨w1.heap.size, 6, none⟩ = some (.int .i64 q.st.ver) ∧ w'.cell? ⟨w1.heap.size, 7, none⟩ = some (.int .i64 q.st.cv) ∧ w'.cell? ⟨w1.heap.size, 8, none⟩ = some (.int .i64 q.st.own) ∧ w'.cell? ⟨w1.heap.size, 9, none⟩ = some (.int .i64 q.st.len) ∧ w'.cell? ⟨w1.heap.size, 10, none⟩ = some (.int .i64 q.st.chd)) → ∀ A2 C2, ∃ w3, (storeVar 47 ⟨w.heap.size, 0, none⟩ (.agg (toldA p q A2 C2 kN))).run Tryz.prog w' = .ok () w3 ∧ w3 = w'.setCells w.heap.size 0 (toldA p q A2 C2 kN).toList ∧ (fun w' : World => w'.cell? ⟨w1.heap.size, 0, none⟩ = some (.slice A q.b.length C) ∧ w'.cell? ⟨w1.heap.size, 1, none⟩ = some (.int .i64 q.st.cz) ∧ w'.cell? ⟨w1.heap.size, 2, none⟩ = some (.int .i64 q.st.mz) ∧ w'.cell? ⟨w1.heap.size, 3, none⟩ = some (.int .i64 q.st.pz) ∧ w'.cell? ⟨w1.heap.size, 4, none⟩ = some (.int .i64 q.st.ct) ∧ w'.cell? ⟨w1.heap.size, 5, none⟩ = some (.int .i64 q.st.mt) ∧ w'.cell? ⟨w1.heap.size, 6, none⟩ = some (.int .i64 q.st.ver) ∧ w'.cell? ⟨w1.heap.size, 7, none⟩ = some (.int .i64 q.st.cv) ∧ w'.cell? ⟨w1.heap.size, 8, none⟩ = some (.int .i64 q.st.own) ∧ w'.cell? ⟨w1.heap.size, 9, none⟩ = some (.int .i64 q.st.len) ∧ w'.cell? ⟨w1.heap.size, 10, none⟩ = some (.int .i64 q.st.chd)) w3) := by
    intro w' hb hc A2 C2
    exact ⟨_, run_storeVar_mid (P := Tryz.prog) w' w.heap.size 0 47 (toldA p q A2 C2 kN) (HT.out hb) infoN (oneT p q A2 C2 kN), rfl, HSS.out hc A2 C2⟩
  have hc1 : Calls Tryz.prog 41 #[.pointer (some ⟨t, 0, none⟩), .string (mkS p)] W fun e w' => ∃ A5 C5, e = .returned (.slice A5 kN C5) ∧ Below W.heap.size W w' := by
    refine (children_any (h.below hBW) (hL.below hBW) hlen p).mono ?_
    rintro e w2 ⟨ns, A5, C5, rfl, hpm, ho5, hb2⟩
    exact ⟨A5, C5, by rw [hkN, hpm.length_eq], hb2⟩
  have HC2 : Hid (∀ {w2 : World}, Below W.heap.size W w2 → Calls Tryz.prog 40 #[.agg (nodeA q A C), .string (mkS p), .int .i64 kN] w2 fun e w3 => ∃ A' C', e = .returned (.agg (toldA p q A' C' kN)) ∧ Below W.heap.size W w3 ∧ w3.ownsRow w.heap.size 5 1 (.slice A' q.b.length C') q.b.length (bv q.b) ∧ ∀ b, Value.ownBlock (.slice A' q.b.length C') = some b → w.heap.size + 1 ≤ b) := by
    intro w2 hb2
    refine (tell_any ((hbs.keep (Chg.of_below hBW) (fun _ _ => id)).keep (Chg.of_below hb2) (fun _ _ => id)) hfit.1 p hp kN hkl).mono ?_
    rintro e w3 ⟨A', C', rfl, ho, hb⟩
    have := hb2.size
    refine ⟨A', C', rfl, hb2.trans (hb.mono hb2.size), owns_base ho (by omega), fun b hb' => ?_⟩
    obtain ⟨_, _, hle⟩ := towns_block ho hb'
    omega
  have hS0 := HS.out (Below.refl _ W)
  rw [hW] at hc1 hS0
  have HBW : Hid (Below w.heap.size w W) := hBW
  clear hf hb1 hW hBW hBw1 hb0 hbz h hsz hq hp hkl hkN hbs hfit hL hlen hs1 HB1
  go_wp2_with fail
  go_region_held3 (fun w' => w'.cell? ⟨w1.heap.size, 0, none⟩ = some (.slice A q.b.length C) ∧ w'.cell? ⟨w1.heap.size, 1, none⟩ = some (.int .i64 q.st.cz) ∧ w'.cell? ⟨w1.heap.size, 2, none⟩ = some (.int .i64 q.st.mz) ∧ w'.cell? ⟨w1.heap.size, 3, none⟩ = some (.int .i64 q.st.pz) ∧ w'.cell? ⟨w1.heap.size, 4, none⟩ = some (.int .i64 q.st.ct) ∧ w'.cell? ⟨w1.heap.size, 5, none⟩ = some (.int .i64 q.st.mt) ∧ w'.cell? ⟨w1.heap.size, 6, none⟩ = some (.int .i64 q.st.ver) ∧ w'.cell? ⟨w1.heap.size, 7, none⟩ = some (.int .i64 q.st.cv) ∧ w'.cell? ⟨w1.heap.size, 8, none⟩ = some (.int .i64 q.st.own) ∧ w'.cell? ⟨w1.heap.size, 9, none⟩ = some (.int .i64 q.st.len) ∧ w'.cell? ⟨w1.heap.size, 10, none⟩ = some (.int .i64 q.st.chd))
    (first | exact hS0 | exact hS1 | exact hS2 | exact hS3 | go_keep)
    (first
      | (go_at_call 41; refine hc1.mono ?_; rintro e w2 ⟨A5, C5, rfl, hb1⟩; rw [← HW.out] at hb1; have hS1 := HS.out hb1; have hc2 := HC2.out hb1; clear hc1 hb1)
      | (go_at_call 40; refine hc2.mono ?_; rintro e w3 ⟨A2, C2, rfl, hb2, ho2, hn2⟩; have hS2 := HS.out hb2; obtain ⟨w4, hst, hw3, hS3⟩ := HST.out hb2 hS2 A2 C2; have HW3 : Hid _ := hw3; clear hw3; simp [go_sem, toldA] at hst; have HF : Hid _ := And.intro hb2 (And.intro ho2 hn2); clear hc2 hb2 ho2 hn2))
  clear hst hS0 hS1 hS2 hS3
  go_wp2_with fail
  obtain ⟨hb2, ho2, hn2⟩ := HF.out
  have hthr := HT.out hb2
  refine bodyPost_ret (results_row2 _ _ _ Tryz.results14 w.heap.size rfl (.bool true) rfl (toldA p q A2 C2 kN).toList _ ?_ Tryz.underlying47 rfl (by kernel_rfl)) rfl ⟨A2, C2, rfl, ?_, ?_⟩
  · rw [HW3.out]
    exact World.rangeAt_setCells_same _ _ _ (toldA p q A2 C2 kN).toList hthr
  · rw [HW3.out]
    exact tset_owns ho2 (fun b hb => by have := hn2 b hb; omega)
  · rw [HW3.out]
    exact below_cells (Nat.le_refl _) _ _ _ (HBW.out.trans (hb2.mono HBW.out.size))
end Go.Proofs.YtcdnfgibcochhaaGreatDoor
