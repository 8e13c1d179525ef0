/- The walk of getReply where there is no list, no data and no config. -/
import Derived.Test.YtmojplgoohnmdaaDoorRpC
import Derived.Test.YtmojplgoohnmdaaDoorAkH
import Derived.Deep.MidRow
namespace Go.Proofs.YtmojplgoohnmdaaDoor.AK
set_option linter.unusedSimpArgs false
set_option linter.unusedVariables false
open Go.RowKit
set_option linter.unusedVariables false
set_option linter.unusedSimpArgs false

structure GR (w0 w : World) (g : Nat) (q : Option Nat) (r : Rd) (pd : Nat) (cs : Array Value) : Prop where
  rd : Rdr w g q r
  d : w.heap[pd]? = some (.cells cs 43 (0, 0))
  res : w.heap[w0.heap.size]? = some (.cells #[.int .u8 0, .int .i64 0, .int .i64 0, .int .i64 0, .int .i64 0, .int .i64 0, .string ⟨#[]⟩, .slice none 0 0, .int .i64 0, .int .i64 0, .int .i64 0, .int .i64 0, .int .i64 0, .int .i64 0, .int .i64 0, .int .i64 0, .int .i64 0, .int .i64 0, .slice none 0 0, .int .i64 0, .slice none 0 0, .slice none 0 0] 43 (0, 0))
  chg : Chg (One g) w0 w
  gg : g < w0.heap.size
  pp : w0.heap.size < pd
  qq : ∀ k, q = some k → k < w0.heap.size
theorem GR.read {w0 w w' : World} {g pd : Nat} {q : Option Nat} {r r' : Rd} {cs : Array Value} (h : GR w0 w g q r pd cs) (hr : Rdr w' g q r') (hc : Chg (One g) w w') : GR w0 w' g q r' pd cs :=
  ⟨hr, by rw [hc.block _ (heap_lt h.d) (fun e => by have := h.pp; have := h.gg; unfold One at e; omega)]; exact h.d, by rw [hc.block _ (heap_lt h.res) (fun e => by have := h.gg; unfold One at e; omega)]; exact h.res, h.chg.trans hc, h.gg, h.pp, h.qq⟩
theorem GR.turn {w0 w w' : World} {g pd : Nat} {q : Option Nat} {r : Rd} {cs cs' : Array Value} (h : GR w0 w g q r pd cs) (hc : Chg (fun k => k = pd) w w') (hd : w'.heap[pd]? = some (.cells cs' 43 (0, 0))) : GR w0 w' g q r pd cs' :=
  ⟨h.rd.keep hc (fun e => by have := h.pp; have := h.gg; omega) (fun k hk e => by have := h.qq k hk; have := h.pp; omega), hd, by rw [hc.block _ (heap_lt h.res) (fun e => by have := h.pp; omega)]; exact h.res, h.chg.trans' hc (fun i hi e => by have := h.pp; omega), h.gg, h.pp, h.qq⟩
theorem GR.set {w0 w : World} {g pd : Nat} {q : Option Nat} {r : Rd} {cs : Array Value} (h : GR w0 w g q r pd cs) (j : Nat) (v : Value) : GR w0 (w.setCell ⟨pd, j, none⟩ v) g q r pd (cs.setIfInBounds j v) :=
  h.turn (Chg.setCell w ⟨pd, j, none⟩ v rfl) (heap_set h.d j v)
theorem GR.below {w0 w w' : World} {g pd : Nat} {q : Option Nat} {r : Rd} {cs : Array Value} (h : GR w0 w g q r pd cs) (hb : Below w.heap.size w w') : GR w0 w' g q r pd cs :=
  h.read (h.rd.keep (Chg.of_below hb) (fun e => e) (fun _ _ e => e)) ((Chg.of_below hb).weak fun _ _ e => e.elim)
theorem GR.other {w0 w w' : World} {g pd ps : Nat} {q : Option Nat} {r : Rd} {cs : Array Value} (h : GR w0 w g q r pd cs) (hc : Chg (fun k => k = ps) w w') (h1 : w0.heap.size < ps) (h2 : ps ≠ pd) : GR w0 w' g q r pd cs :=
  ⟨h.rd.keep hc (fun e => by have := h.gg; omega) (fun k hk e => by have := h.qq k hk; omega), by rw [hc.block _ (heap_lt h.d) (fun e => h2 e.symm)]; exact h.d, by rw [hc.block _ (heap_lt h.res) (fun e => by omega)]; exact h.res, h.chg.trans' hc (fun i hi e => by omega), h.gg, h.pp, h.qq⟩
theorem bs_zero {w : World} {A : Option Addr} {C : Nat} (h : Bs w (.slice A 0 C) []) (w' : World) : Bs w' (.slice A 0 C) [] := by
  rcases h with h | h | ⟨h0, _⟩
  · exact .inl h
  · exact .inr (.inl h)
  · simp at h0
theorem thereL {w : World} {p : Nat} {cs : Array Value} {T : TypeId} (h : w.heap[p]? = some (.cells cs T (0, 0))) (o n : Nat) (hn : o + n ≤ cs.size) : w.there p o n := by
  intro j hj
  refine ⟨?_, frozen_at h _⟩
  rw [cell_at h]
  have : o + j < cs.size := by omega
  simp [this]
def setA (cs : Array Value) (o : Nat) : List Value → Array Value
  | [] => cs
  | v :: r => setA (cs.setIfInBounds o v) (o + 1) r
theorem setL (p : Nat) (T : TypeId) : ∀ (vs : List Value) (w : World) (o : Nat) (cs : Array Value), w.heap[p]? = some (.cells cs T (0, 0)) → (w.setCells p o vs).heap[p]? = some (.cells (setA cs o vs) T (0, 0)) ∧ Chg (fun k => k = p) w (w.setCells p o vs)
  | [], w, o, cs, h => ⟨h, Chg.refl _ _⟩
  | v :: r, w, o, cs, h => by
    have h1 : (w.setCell ⟨p, o, none⟩ v).heap[p]? = some (.cells (cs.setIfInBounds o v) T (0, 0)) := heap_set h o v
    have h2 := setL p T r (w.setCell ⟨p, o, none⟩ v) (o + 1) _ h1
    have e : w.setCells p o (v :: r) = (w.setCell ⟨p, o, none⟩ v).setCells p (o + 1) r := rfl
    rw [e]
    exact ⟨h2.1, Chg.trans (Chg.setCell w ⟨p, o, none⟩ v rfl) h2.2⟩
theorem setA_eq : ∀ (vs : List Value) (cs : Array Value) (o : Nat), o + vs.length = cs.size → setA cs o vs = (cs.toList.take o ++ vs).toArray
  | [], cs, o, h => by
    simp only [List.length_nil, Nat.add_zero] at h
    show cs = _
    rw [h, List.append_nil, ← Array.length_toList, List.take_length]
  | v :: r, cs, o, h => by
    simp only [List.length_cons] at h
    have h1 := setA_eq r (cs.setIfInBounds o v) (o + 1) (by simp; omega)
    show setA (cs.setIfInBounds o v) (o + 1) r = _
    rw [h1]
    congr 1
    have hlo : o < (cs.setIfInBounds o v).toList.length := by simp; omega
    rw [List.take_succ_eq_append_getElem hlo]
    simp only [Array.toList_setIfInBounds, List.getElem_set_self, List.append_assoc, List.singleton_append]
    rw [List.take_set_of_le (Nat.le_refl o)]
theorem setL0 {w : World} {p : Nat} {T : TypeId} {cs : Array Value} (h : w.heap[p]? = some (.cells cs T (0, 0))) (vs : List Value) (hl : vs.length = cs.size) : (w.setCells p 0 vs).heap[p]? = some (.cells vs.toArray T (0, 0)) ∧ Chg (fun k => k = p) w (w.setCells p 0 vs) := by
  have h1 := setL p T vs w 0 cs h
  rw [setA_eq vs cs 0 (by omega), List.take_zero, List.nil_append] at h1
  exact h1
def stA (v : Nat → Int) : Array Value := #[.int .i64 (v 0), .int .i64 (v 1), .int .i64 (v 2), .int .i64 (v 3), .int .i64 (v 4), .int .i64 (v 5), .int .i64 (v 6), .int .i64 (v 7), .int .i64 (v 8), .int .i64 (v 9)]
theorem stA_get (v : Nat → Int) (n : Nat) (hn : n < 10) : (stA v)[n]? = some (.int .i64 (v n)) := by
  rcases n with _ | _ | _ | _ | _ | _ | _ | _ | _ | _ | n <;> first | rfl | omega
theorem stA_set (v v' : Nat → Int) (n : Nat) (hn : n < 10) (h1 : ∀ i, i ≠ n → v' i = v i) : (stA v).setIfInBounds n (.int .i64 (v' n)) = stA v' := by
  have hs : ((stA v).setIfInBounds n (.int .i64 (v' n))).size = 10 := by simp [stA]
  apply Array.ext
  · rw [hs]; rfl
  · intro i hi hi2
    rw [hs] at hi
    apply Option.some.inj
    rw [← Array.getElem?_eq_getElem, ← Array.getElem?_eq_getElem, stA_get v' i hi, Array.getElem?_setIfInBounds]
    by_cases e : n = i
    · subst e; simp [stA, hn]
    · rw [if_neg e, stA_get v i hi, h1 i (fun x => e x.symm)]
theorem cells10 {w : World} {b : Nat} {v0 v1 v2 v3 v4 v5 v6 v7 v8 v9 : Value} {T : TypeId} {fr : Nat × Nat} (h : w.heap[b]? = some (.cells #[v0, v1, v2, v3, v4, v5, v6, v7, v8, v9] T fr)) : w.cell? ⟨b, 0, none⟩ = some v0 ∧ w.cell? ⟨b, 1, none⟩ = some v1 ∧ w.cell? ⟨b, 2, none⟩ = some v2 ∧ w.cell? ⟨b, 3, none⟩ = some v3 ∧ w.cell? ⟨b, 4, none⟩ = some v4 ∧ w.cell? ⟨b, 5, none⟩ = some v5 ∧ w.cell? ⟨b, 6, none⟩ = some v6 ∧ w.cell? ⟨b, 7, none⟩ = some v7 ∧ w.cell? ⟨b, 8, none⟩ = some v8 ∧ w.cell? ⟨b, 9, none⟩ = some v9 := by
  refine ⟨?_, ?_, ?_, ?_, ?_, ?_, ?_, ?_, ?_, ?_⟩ <;> (rw [cell_at h]; rfl)
theorem infoSt : (Tryd.prog.info? 37).map (·.size) = some 10 := by kernel_rfl
theorem setA_mid (u0 u1 u2 u3 u4 u5 u6 u7 u8 u9 u10 u11 u12 u13 u14 u15 u16 u17 u18 u19 u20 u21 v0 v1 v2 v3 v4 v5 v6 v7 v8 v9 : Value) : setA #[u0, u1, u2, u3, u4, u5, u6, u7, u8, u9, u10, u11, u12, u13, u14, u15, u16, u17, u18, u19, u20, u21] 8 [v0, v1, v2, v3, v4, v5, v6, v7, v8, v9] = #[u0, u1, u2, u3, u4, u5, u6, u7, v0, v1, v2, v3, v4, v5, v6, v7, v8, v9, u18, u19, u20, u21] := by
  simp [setA]
theorem results_row {P : Program} {fn : Func} {tmps : Array Value} {w : World} (a : Tmp) (ty : TypeId) (hres : fn.results = #[.cell a ty]) (b : Nat) (ht : tmps.getD a undef = .pointer (some ⟨b, 0, none⟩)) (cs : List Value) (d : TypeDesc) (hc : w.rangeAt b 0 cs)
    (hu : P.underlying ty = some d) (hd : d.isRow = true) (hi : (P.info? ty).map (·.size) = some cs.length) : (results fn tmps).run P w = .ok (.agg cs.toArray) w := by
  rw [Array.getD_eq_getD_getElem?] at ht
  have hl : (loadCells ⟨b, 0, none⟩ cs.length).run P w = .ok cs.toArray w :=
    run_loadCells_list (P := P) w ⟨b, 0, none⟩ cs (fun j v hv => by rw [Addr.add_mid]; exact hc j v hv)
  unfold loadCells at hl
  cases hq : P.info? ty with
  | none => simp [hq] at hi
  | some i =>
    have hs : i.size = cs.length := by simpa [hq] using hi
    have hagg : (isAgg ty).run P w = .ok true w := by
      unfold isAgg
      rw [Sem.run_bind, run_underlying hu w]
      cases d <;> simp_all
    have hsz : (sizeOf ty).run P w = .ok cs.length w := by simp [sizeOf, typeInfo, hq, hs, Sem.run_bind]
    unfold results
    rw [hres]
    simp [go_sem, ht, hagg, hsz, hl]
theorem results_row2 {P : Program} {fn : Func} {tmps : Array Value} {w : World} (a t : Tmp) (ty : TypeId) (hres : fn.results = #[.cell a ty, .tmp t]) (b : Nat) (ht : tmps.getD a undef = .pointer (some ⟨b, 0, none⟩)) (v : Value) (hv : tmps.getD t undef = v) (cs : List Value) (d : TypeDesc) (hc : w.rangeAt b 0 cs)
    (hu : P.underlying ty = some d) (hd : d.isRow = true) (hi : (P.info? ty).map (·.size) = some cs.length) : (results fn tmps).run P w = .ok (.tuple #[.agg cs.toArray, v]) w := by
  rw [Array.getD_eq_getD_getElem?] at ht hv
  have hl : (loadCells ⟨b, 0, none⟩ cs.length).run P w = .ok cs.toArray w :=
    run_loadCells_list (P := P) w ⟨b, 0, none⟩ cs (fun j v hv => by rw [Addr.add_mid]; exact hc j v hv)
  unfold loadCells at hl
  cases hq : P.info? ty with
  | none => simp [hq] at hi
  | some i =>
    have hs : i.size = cs.length := by simpa [hq] using hi
    have hagg : (isAgg ty).run P w = .ok true w := by
      unfold isAgg
      rw [Sem.run_bind, run_underlying hu w]
      cases d <;> simp_all
    have hsz : (sizeOf ty).run P w = .ok cs.length w := by simp [sizeOf, typeInfo, hq, hs, Sem.run_bind]
    unfold results
    rw [hres]
    simp [go_sem, ht, hv, hagg, hsz, hl]
set_option maxRecDepth 100000 in
set_option maxHeartbeats 2000000 in
theorem stat_any (v : Nat → Int) (w : World) : Calls Tryd.prog 92 #[.agg (stA v)] w fun e w' => e = .returned (.agg (stA v)) ∧ Below w.heap.size w w' := by
  unfold stA
  go_enter Tryd.func92, Tryd.ntmps92
  go_wp2
  refine bodyPost_ret (v := .agg #[.int .i64 (v 0), .int .i64 (v 1), .int .i64 (v 2), .int .i64 (v 3), .int .i64 (v 4), .int .i64 (v 5), .int .i64 (v 6), .int .i64 (v 7), .int .i64 (v 8), .int .i64 (v 9)]) (by simp [results, Tryd.results92, go_sem]) rfl ?_
  exact ⟨rfl, ((Below.refl _ _).alloc (Nat.le_refl _) _).alloc (by simp) _⟩
set_option maxRecDepth 100000 in
set_option maxHeartbeats 8000000 in
theorem getReply_plain {w : World} {g : Nat} {q : Option Nat} {r r1 r2 r3 r4 r5 r6 r7 r9 r10 : Rd} (t : Nat → Rd) (b : Nat → Int) (h : Rdr w g q r) (hq : ∀ k, q = some k → k < w.heap.size) {kb : UInt8} {a1 a2 a3 a4 a5 : Int} {p : List UInt8} (e0 : rdByte r = (kb, r1)) (e1 : rdInt r1 = (a1, r2)) (e2 : rdInt r2 = (a2, r3)) (e3 : rdInt r3 = (a3, r4)) (e4 : rdInt r4 = (a4, r5)) (e5 : rdInt r5 = (a5, r6)) (e6 : rdText r6 220 = (p, r7)) (e7 : rdText r7 1000 = ([], t 0)) (fs : ∀ i, i < 10 → rdInt (t i) = (b i, t (i + 1))) (e8 : rdCount (t 10) 500 = (0, r9)) (e9 : rdText r9 1048576 = ([], r10)) :
    Calls Tryd.prog 57 #[.pointer (some ⟨g, 0, none⟩)] w fun e w' => ∃ AD CD, e = .returned (.agg #[.int .u8 (kb.toNat : Nat), .int .i64 a1, .int .i64 a2, .int .i64 a3, .int .i64 a4, .int .i64 a5, .string (mkS p), .slice AD 0 CD, .int .i64 (b 0), .int .i64 (b 1), .int .i64 (b 2), .int .i64 (b 3), .int .i64 (b 4), .int .i64 (b 5), .int .i64 (b 6), .int .i64 (b 7), .int .i64 (b 8), .int .i64 (b 9), .slice none 0 0, .int .i64 0, .slice none 0 0, .slice none 0 0]) ∧ (∀ w'', Bs w'' (.slice AD 0 CD) []) ∧ Rdr w' g q r10 ∧ Chg (One g) w w' := by
  obtain ⟨w1, hw1⟩ : ∃ X, X = w.alloc (.cells #[.int .u8 0, .int .i64 0, .int .i64 0, .int .i64 0, .int .i64 0, .int .i64 0, .string ⟨#[]⟩, .slice none 0 0, .int .i64 0, .int .i64 0, .int .i64 0, .int .i64 0, .int .i64 0, .int .i64 0, .int .i64 0, .int .i64 0, .int .i64 0, .int .i64 0, .slice none 0 0, .int .i64 0, .slice none 0 0, .slice none 0 0] 43) := ⟨_, rfl⟩
  have hB1 : Below w.heap.size w w1 := by rw [hw1]; exact (Below.refl _ _).alloc (Nat.le_refl _) _
  have HC1 : Hid (w1.heap[w.heap.size]? = some (.cells #[.int .u8 0, .int .i64 0, .int .i64 0, .int .i64 0, .int .i64 0, .int .i64 0, .string ⟨#[]⟩, .slice none 0 0, .int .i64 0, .int .i64 0, .int .i64 0, .int .i64 0, .int .i64 0, .int .i64 0, .int .i64 0, .int .i64 0, .int .i64 0, .int .i64 0, .slice none 0 0, .int .i64 0, .slice none 0 0, .slice none 0 0] 43 (0, 0))) := by rw [hw1]; exact heap_alloc_new w _
  have HR1 : Hid (Rdr w1 g q r) := h.keep (Chg.of_below hB1) (fun e => e) (fun _ _ e => e)
  have HB1 : Hid (Below w.heap.size w w1) := hB1
  have HG : Hid (g < w.heap.size) := h.lt
  have HQ : Hid (∀ k, q = some k → k < w.heap.size) := hq
  have HFS : Hid (∀ i, i < 10 → rdInt (t i) = (b i, t (i + 1))) := fs
  have HE1 : Hid _ := e1
  have HE2 : Hid _ := e2
  have HE3 : Hid _ := e3
  have HE4 : Hid _ := e4
  have HE5 : Hid _ := e5
  have HE6 : Hid _ := e6
  have HE7 : Hid _ := e7
  have HE8 : Hid _ := e8
  have HE9 : Hid _ := e9
  have hc := rByte_any HR1.out
  rw [e0, hw1] at hc
  dsimp only at hc
  clear h hq hB1 fs e0 e1 e2 e3 e4 e5 e6 e7 e8 e9
  go_enter Tryd.func57, Tryd.ntmps57
  go_wp2_with fail
  refine hc.mono ?_
  rintro e w2 ⟨rfl, hR2, hC2⟩
  rw [← hw1] at hC2
  have hal := heap_alloc_new w2 (.cells #[.int .u8 0, .int .i64 0, .int .i64 0, .int .i64 0, .int .i64 0, .int .i64 0, .string ⟨#[]⟩, .slice none 0 0, .int .i64 0, .int .i64 0, .int .i64 0, .int .i64 0, .int .i64 0, .int .i64 0, .int .i64 0, .int .i64 0, .int .i64 0, .int .i64 0, .slice none 0 0, .int .i64 0, .slice none 0 0, .slice none 0 0] 43 (0, 0))
  obtain ⟨w3, hw3⟩ : ∃ X, X = (w2.alloc (.cells #[.int .u8 0, .int .i64 0, .int .i64 0, .int .i64 0, .int .i64 0, .int .i64 0, .string ⟨#[]⟩, .slice none 0 0, .int .i64 0, .int .i64 0, .int .i64 0, .int .i64 0, .int .i64 0, .int .i64 0, .int .i64 0, .int .i64 0, .int .i64 0, .int .i64 0, .slice none 0 0, .int .i64 0, .slice none 0 0, .slice none 0 0] 43)).setCells w2.heap.size 0 [.int .u8 (kb.toNat : Nat), .int .i64 0, .int .i64 0, .int .i64 0, .int .i64 0, .int .i64 0, .string ⟨#[]⟩, .slice none 0 0, .int .i64 0, .int .i64 0, .int .i64 0, .int .i64 0, .int .i64 0, .int .i64 0, .int .i64 0, .int .i64 0, .int .i64 0, .int .i64 0, .slice none 0 0, .int .i64 0, .slice none 0 0, .slice none 0 0] := ⟨_, rfl⟩
  have hs3 := setL0 hal [.int .u8 (kb.toNat : Nat), .int .i64 0, .int .i64 0, .int .i64 0, .int .i64 0, .int .i64 0, .string ⟨#[]⟩, .slice none 0 0, .int .i64 0, .int .i64 0, .int .i64 0, .int .i64 0, .int .i64 0, .int .i64 0, .int .i64 0, .int .i64 0, .int .i64 0, .int .i64 0, .slice none 0 0, .int .i64 0, .slice none 0 0, .slice none 0 0] rfl
  rw [← hw3] at hs3
  have hd3 : w3.heap[w2.heap.size]? = some (.cells #[.int .u8 (kb.toNat : Nat), .int .i64 0, .int .i64 0, .int .i64 0, .int .i64 0, .int .i64 0, .string ⟨#[]⟩, .slice none 0 0, .int .i64 0, .int .i64 0, .int .i64 0, .int .i64 0, .int .i64 0, .int .i64 0, .int .i64 0, .int .i64 0, .int .i64 0, .int .i64 0, .slice none 0 0, .int .i64 0, .slice none 0 0, .slice none 0 0] 43 (0, 0)) := hs3.1
  have hB3 : Below w2.heap.size w2 w3 := ((Below.refl _ _).alloc (Nat.le_refl _) _).trans (hs3.2.below (fun k e => by omega) (by simp))
  have hth := thereL hal 0 22 (by decide)
  have hon : (#[.int .u8 (kb.toNat : Nat), .int .i64 0, .int .i64 0, .int .i64 0, .int .i64 0, .int .i64 0, .string ⟨#[]⟩, .slice none 0 0, .int .i64 0, .int .i64 0, .int .i64 0, .int .i64 0, .int .i64 0, .int .i64 0, .int .i64 0, .int .i64 0, .int .i64 0, .int .i64 0, .slice none 0 0, .int .i64 0, .slice none 0 0, .slice none 0 0] : Array Value).all (·.oneCell') = true := all_oneCell_toArray (by intro v hv; simp only [List.mem_cons, List.not_mem_nil, or_false] at hv; rcases hv with rfl | rfl | rfl | rfl | rfl | rfl | rfl | rfl | rfl | rfl | rfl | rfl | rfl | rfl | rfl | rfl | rfl | rfl | rfl | rfl | rfl | rfl <;> rfl)
  have HE : Hid ((w2.alloc (.cells #[.int .u8 0, .int .i64 0, .int .i64 0, .int .i64 0, .int .i64 0, .int .i64 0, .string ⟨#[]⟩, .slice none 0 0, .int .i64 0, .int .i64 0, .int .i64 0, .int .i64 0, .int .i64 0, .int .i64 0, .int .i64 0, .int .i64 0, .int .i64 0, .int .i64 0, .slice none 0 0, .int .i64 0, .slice none 0 0, .slice none 0 0] 43)).setCells w2.heap.size 0 (#[.int .u8 (kb.toNat : Nat), .int .i64 0, .int .i64 0, .int .i64 0, .int .i64 0, .int .i64 0, .string ⟨#[]⟩, .slice none 0 0, .int .i64 0, .int .i64 0, .int .i64 0, .int .i64 0, .int .i64 0, .int .i64 0, .int .i64 0, .int .i64 0, .int .i64 0, .int .i64 0, .slice none 0 0, .int .i64 0, .slice none 0 0, .slice none 0 0] : Array Value).toList = w3) := hw3.symm
  have HG3 : Hid (GR w w3 g q r1 w2.heap.size #[.int .u8 (kb.toNat : Nat), .int .i64 0, .int .i64 0, .int .i64 0, .int .i64 0, .int .i64 0, .string ⟨#[]⟩, .slice none 0 0, .int .i64 0, .int .i64 0, .int .i64 0, .int .i64 0, .int .i64 0, .int .i64 0, .int .i64 0, .int .i64 0, .int .i64 0, .int .i64 0, .slice none 0 0, .int .i64 0, .slice none 0 0, .slice none 0 0]) := by
    have hc1 : w2.heap[w.heap.size]? = some (.cells #[.int .u8 0, .int .i64 0, .int .i64 0, .int .i64 0, .int .i64 0, .int .i64 0, .string ⟨#[]⟩, .slice none 0 0, .int .i64 0, .int .i64 0, .int .i64 0, .int .i64 0, .int .i64 0, .int .i64 0, .int .i64 0, .int .i64 0, .int .i64 0, .int .i64 0, .slice none 0 0, .int .i64 0, .slice none 0 0, .slice none 0 0] 43 (0, 0)) := by rw [hC2.block _ (heap_lt HC1.out) (fun e => by have := HG.out; unfold One at e; omega)]; exact HC1.out
    exact ⟨hR2.keep (Chg.of_below hB3) (fun e => e) (fun _ _ e => e), hd3, by rw [hB3.block _ (heap_lt hc1)]; exact hc1, (((Chg.of_below HB1.out).weak (fun _ _ e => e.elim)).trans hC2).trans ((Chg.of_below hB3).weak (fun _ _ e => e.elim)), HG.out, heap_lt hc1, HQ.out⟩
  clear hc hR2 hC2 hB3 hs3 hd3 hal hw1 HR1 HC1 HB1 w1 hw3
  have hc := rInt_any HG3.out.rd
  rw [HE1.out] at hc
  dsimp only at hc
  go_wp2_with (refine wpList_store_mid rfl 43 _ _ rfl w2.heap.size 0 #[.int .u8 (kb.toNat : Nat), .int .i64 0, .int .i64 0, .int .i64 0, .int .i64 0, .int .i64 0, .string ⟨#[]⟩, .slice none 0 0, .int .i64 0, .int .i64 0, .int .i64 0, .int .i64 0, .int .i64 0, .int .i64 0, .int .i64 0, .int .i64 0, .int .i64 0, .int .i64 0, .slice none 0 0, .int .i64 0, .slice none 0 0, .slice none 0 0] rfl rfl hth infoR hon ?_; rw [HE.out])
  refine hc.mono ?_
  clear HE hth hon
  rintro e w4 ⟨rfl, hR, hC⟩
  have HG3b : Hid (GR w w4 g q r2 w2.heap.size #[.int .u8 (kb.toNat : Nat), .int .i64 0, .int .i64 0, .int .i64 0, .int .i64 0, .int .i64 0, .string ⟨#[]⟩, .slice none 0 0, .int .i64 0, .int .i64 0, .int .i64 0, .int .i64 0, .int .i64 0, .int .i64 0, .int .i64 0, .int .i64 0, .int .i64 0, .int .i64 0, .slice none 0 0, .int .i64 0, .slice none 0 0, .slice none 0 0]) := HG3.out.read hR hC
  clear hc hR hC HG3  w3
  generalize w2.heap.size = pd at HG3b ⊢
  clear w2
  obtain ⟨w5, hw5⟩ : ∃ X, X = w4.setCell ⟨pd, 1, none⟩ (.int .i64 a1) := ⟨_, rfl⟩
  have HG5 : Hid (GR w w5 g q r2 pd #[.int .u8 (kb.toNat : Nat), .int .i64 a1, .int .i64 0, .int .i64 0, .int .i64 0, .int .i64 0, .string ⟨#[]⟩, .slice none 0 0, .int .i64 0, .int .i64 0, .int .i64 0, .int .i64 0, .int .i64 0, .int .i64 0, .int .i64 0, .int .i64 0, .int .i64 0, .int .i64 0, .slice none 0 0, .int .i64 0, .slice none 0 0, .slice none 0 0]) := by rw [hw5]; exact HG3b.out.set 1 (.int .i64 a1)
  have y1 := (cells22 HG3b.out.d).2.1
  have x1 := frozen_at HG3b.out.d 1
  have hc := rInt_any HG5.out.rd
  rw [HE2.out, hw5] at hc
  dsimp only at hc
  go_wp2_with fail
  refine hc.mono ?_
  rintro e w6 ⟨rfl, hR, hC⟩
  rw [← hw5] at hC
  have HG5b : Hid (GR w w6 g q r3 pd #[.int .u8 (kb.toNat : Nat), .int .i64 a1, .int .i64 0, .int .i64 0, .int .i64 0, .int .i64 0, .string ⟨#[]⟩, .slice none 0 0, .int .i64 0, .int .i64 0, .int .i64 0, .int .i64 0, .int .i64 0, .int .i64 0, .int .i64 0, .int .i64 0, .int .i64 0, .int .i64 0, .slice none 0 0, .int .i64 0, .slice none 0 0, .slice none 0 0]) := HG5.out.read hR hC
  clear hc hR hC HG5 hw5 w5
  obtain ⟨w7, hw7⟩ : ∃ X, X = w6.setCell ⟨pd, 2, none⟩ (.int .i64 a2) := ⟨_, rfl⟩
  have HG7 : Hid (GR w w7 g q r3 pd #[.int .u8 (kb.toNat : Nat), .int .i64 a1, .int .i64 a2, .int .i64 0, .int .i64 0, .int .i64 0, .string ⟨#[]⟩, .slice none 0 0, .int .i64 0, .int .i64 0, .int .i64 0, .int .i64 0, .int .i64 0, .int .i64 0, .int .i64 0, .int .i64 0, .int .i64 0, .int .i64 0, .slice none 0 0, .int .i64 0, .slice none 0 0, .slice none 0 0]) := by rw [hw7]; exact HG5b.out.set 2 (.int .i64 a2)
  have y2 := (cells22 HG5b.out.d).2.2.1
  have x2 := frozen_at HG5b.out.d 2
  have hc := rInt_any HG7.out.rd
  rw [HE3.out, hw7] at hc
  dsimp only at hc
  go_wp2_with fail
  refine hc.mono ?_
  rintro e w8 ⟨rfl, hR, hC⟩
  rw [← hw7] at hC
  have HG7b : Hid (GR w w8 g q r4 pd #[.int .u8 (kb.toNat : Nat), .int .i64 a1, .int .i64 a2, .int .i64 0, .int .i64 0, .int .i64 0, .string ⟨#[]⟩, .slice none 0 0, .int .i64 0, .int .i64 0, .int .i64 0, .int .i64 0, .int .i64 0, .int .i64 0, .int .i64 0, .int .i64 0, .int .i64 0, .int .i64 0, .slice none 0 0, .int .i64 0, .slice none 0 0, .slice none 0 0]) := HG7.out.read hR hC
  clear hc hR hC HG7 hw7 w7
  obtain ⟨w9, hw9⟩ : ∃ X, X = w8.setCell ⟨pd, 3, none⟩ (.int .i64 a3) := ⟨_, rfl⟩
  have HG9 : Hid (GR w w9 g q r4 pd #[.int .u8 (kb.toNat : Nat), .int .i64 a1, .int .i64 a2, .int .i64 a3, .int .i64 0, .int .i64 0, .string ⟨#[]⟩, .slice none 0 0, .int .i64 0, .int .i64 0, .int .i64 0, .int .i64 0, .int .i64 0, .int .i64 0, .int .i64 0, .int .i64 0, .int .i64 0, .int .i64 0, .slice none 0 0, .int .i64 0, .slice none 0 0, .slice none 0 0]) := by rw [hw9]; exact HG7b.out.set 3 (.int .i64 a3)
  have y3 := (cells22 HG7b.out.d).2.2.2.1
  have x3 := frozen_at HG7b.out.d 3
  have hc := rInt_any HG9.out.rd
  rw [HE4.out, hw9] at hc
  dsimp only at hc
  go_wp2_with fail
  refine hc.mono ?_
  rintro e w10 ⟨rfl, hR, hC⟩
  rw [← hw9] at hC
  have HG9b : Hid (GR w w10 g q r5 pd #[.int .u8 (kb.toNat : Nat), .int .i64 a1, .int .i64 a2, .int .i64 a3, .int .i64 0, .int .i64 0, .string ⟨#[]⟩, .slice none 0 0, .int .i64 0, .int .i64 0, .int .i64 0, .int .i64 0, .int .i64 0, .int .i64 0, .int .i64 0, .int .i64 0, .int .i64 0, .int .i64 0, .slice none 0 0, .int .i64 0, .slice none 0 0, .slice none 0 0]) := HG9.out.read hR hC
  clear hc hR hC HG9 hw9 w9
  obtain ⟨w11, hw11⟩ : ∃ X, X = w10.setCell ⟨pd, 4, none⟩ (.int .i64 a4) := ⟨_, rfl⟩
  have HG11 : Hid (GR w w11 g q r5 pd #[.int .u8 (kb.toNat : Nat), .int .i64 a1, .int .i64 a2, .int .i64 a3, .int .i64 a4, .int .i64 0, .string ⟨#[]⟩, .slice none 0 0, .int .i64 0, .int .i64 0, .int .i64 0, .int .i64 0, .int .i64 0, .int .i64 0, .int .i64 0, .int .i64 0, .int .i64 0, .int .i64 0, .slice none 0 0, .int .i64 0, .slice none 0 0, .slice none 0 0]) := by rw [hw11]; exact HG9b.out.set 4 (.int .i64 a4)
  have y4 := (cells22 HG9b.out.d).2.2.2.2.1
  have x4 := frozen_at HG9b.out.d 4
  have hc := rInt_any HG11.out.rd
  rw [HE5.out, hw11] at hc
  dsimp only at hc
  go_wp2_with fail
  refine hc.mono ?_
  rintro e w12 ⟨rfl, hR, hC⟩
  rw [← hw11] at hC
  have HG11b : Hid (GR w w12 g q r6 pd #[.int .u8 (kb.toNat : Nat), .int .i64 a1, .int .i64 a2, .int .i64 a3, .int .i64 a4, .int .i64 0, .string ⟨#[]⟩, .slice none 0 0, .int .i64 0, .int .i64 0, .int .i64 0, .int .i64 0, .int .i64 0, .int .i64 0, .int .i64 0, .int .i64 0, .int .i64 0, .int .i64 0, .slice none 0 0, .int .i64 0, .slice none 0 0, .slice none 0 0]) := HG11.out.read hR hC
  clear hc hR hC HG11 hw11 w11
  obtain ⟨w13, hw13⟩ : ∃ X, X = w12.setCell ⟨pd, 5, none⟩ (.int .i64 a5) := ⟨_, rfl⟩
  have HG13 : Hid (GR w w13 g q r6 pd #[.int .u8 (kb.toNat : Nat), .int .i64 a1, .int .i64 a2, .int .i64 a3, .int .i64 a4, .int .i64 a5, .string ⟨#[]⟩, .slice none 0 0, .int .i64 0, .int .i64 0, .int .i64 0, .int .i64 0, .int .i64 0, .int .i64 0, .int .i64 0, .int .i64 0, .int .i64 0, .int .i64 0, .slice none 0 0, .int .i64 0, .slice none 0 0, .slice none 0 0]) := by rw [hw13]; exact HG11b.out.set 5 (.int .i64 a5)
  have y5 := (cells22 HG11b.out.d).2.2.2.2.2.1
  have x5 := frozen_at HG11b.out.d 5
  have hc := rText_any HG13.out.rd 220
  rw [HE6.out, hw13] at hc
  dsimp only at hc
  go_wp2_with fail
  refine hc.mono ?_
  rintro e w14 ⟨rfl, hR, hC⟩
  rw [← hw13] at hC
  have HG13b : Hid (GR w w14 g q r7 pd #[.int .u8 (kb.toNat : Nat), .int .i64 a1, .int .i64 a2, .int .i64 a3, .int .i64 a4, .int .i64 a5, .string ⟨#[]⟩, .slice none 0 0, .int .i64 0, .int .i64 0, .int .i64 0, .int .i64 0, .int .i64 0, .int .i64 0, .int .i64 0, .int .i64 0, .int .i64 0, .int .i64 0, .slice none 0 0, .int .i64 0, .slice none 0 0, .slice none 0 0]) := HG13.out.read hR hC
  clear hc hR hC HG13 hw13 w13
  obtain ⟨w15, hw15⟩ : ∃ X, X = w14.setCell ⟨pd, 6, none⟩ (.string (mkS p)) := ⟨_, rfl⟩
  have HG15 : Hid (GR w w15 g q r7 pd #[.int .u8 (kb.toNat : Nat), .int .i64 a1, .int .i64 a2, .int .i64 a3, .int .i64 a4, .int .i64 a5, .string (mkS p), .slice none 0 0, .int .i64 0, .int .i64 0, .int .i64 0, .int .i64 0, .int .i64 0, .int .i64 0, .int .i64 0, .int .i64 0, .int .i64 0, .int .i64 0, .slice none 0 0, .int .i64 0, .slice none 0 0, .slice none 0 0]) := by rw [hw15]; exact HG13b.out.set 6 (.string (mkS p))
  have y6 := (cells22 HG13b.out.d).2.2.2.2.2.2.1
  have x6 := frozen_at HG13b.out.d 6
  have hc := rBytes_any HG15.out.rd 1000
  rw [HE7.out, hw15] at hc
  dsimp only at hc
  go_wp2_with fail
  refine hc.mono ?_
  rintro e w16 ⟨v, wv, rfl, hN, hR, hC, hwv⟩
  obtain ⟨AD, CD, hAD⟩ := bs_form hN.bs
  have hAD' : v = .slice AD 0 CD := hAD
  subst hAD'
  have HBD : Hid (∀ w'', Bs w'' (.slice AD 0 CD) []) := fun w'' => bs_zero hN.bs w''
  clear hAD hN hwv wv
  rw [← hw15] at hC
  have HG15b : Hid (GR w w16 g q (t 0) pd #[.int .u8 (kb.toNat : Nat), .int .i64 a1, .int .i64 a2, .int .i64 a3, .int .i64 a4, .int .i64 a5, .string (mkS p), .slice none 0 0, .int .i64 0, .int .i64 0, .int .i64 0, .int .i64 0, .int .i64 0, .int .i64 0, .int .i64 0, .int .i64 0, .int .i64 0, .int .i64 0, .slice none 0 0, .int .i64 0, .slice none 0 0, .slice none 0 0]) := HG15.out.read hR hC
  clear hc hR hC HG15 hw15 w15
  obtain ⟨w17, hw17⟩ : ∃ X, X = w16.setCell ⟨pd, 7, none⟩ (.slice AD 0 CD) := ⟨_, rfl⟩
  have HG17 : Hid (GR w w17 g q (t 0) pd #[.int .u8 (kb.toNat : Nat), .int .i64 a1, .int .i64 a2, .int .i64 a3, .int .i64 a4, .int .i64 a5, .string (mkS p), .slice AD 0 CD, .int .i64 0, .int .i64 0, .int .i64 0, .int .i64 0, .int .i64 0, .int .i64 0, .int .i64 0, .int .i64 0, .int .i64 0, .int .i64 0, .slice none 0 0, .int .i64 0, .slice none 0 0, .slice none 0 0]) := by rw [hw17]; exact HG15b.out.set 7 (.slice AD 0 CD)
  have y7 := (cells22 HG15b.out.d).2.2.2.2.2.2.2.1
  have x7 := frozen_at HG15b.out.d 7
  have hsz17 : w17.heap.size = w16.heap.size := by rw [hw17]; simp
  obtain ⟨w18, hw18⟩ : ∃ X, X = w17.alloc (.cells #[.int .i64 0, .int .i64 0, .int .i64 0, .int .i64 0, .int .i64 0, .int .i64 0, .int .i64 0, .int .i64 0, .int .i64 0, .int .i64 0] 123) := ⟨_, rfl⟩
  have hB18 : Below w17.heap.size w17 w18 := by rw [hw18]; exact (Below.refl _ _).alloc (Nat.le_refl _) _
  have HS18 : Hid (w18.heap[w16.heap.size]? = some (.cells (stA fun i => if i < 0 then b i else 0) 123 (0, 0))) := by
    show _ = _
    rw [← hsz17, hw18]
    exact heap_alloc_new w17 _
  have HG18 : Hid (GR w w18 g q (t 0) pd #[.int .u8 (kb.toNat : Nat), .int .i64 a1, .int .i64 a2, .int .i64 a3, .int .i64 a4, .int .i64 a5, .string (mkS p), .slice AD 0 CD, .int .i64 0, .int .i64 0, .int .i64 0, .int .i64 0, .int .i64 0, .int .i64 0, .int .i64 0, .int .i64 0, .int .i64 0, .int .i64 0, .slice none 0 0, .int .i64 0, .slice none 0 0, .slice none 0 0]) := HG17.out.below hB18
  have HPS : Hid (w.heap.size < w16.heap.size ∧ w16.heap.size ≠ pd) := ⟨by have := HG15b.out.pp; have := heap_lt HG15b.out.d; omega, by have := heap_lt HG15b.out.d; omega⟩
  rw [hw18, hw17] at HS18 HG18
  go_wp2_with fail
  clear hw18 hw17 hB18 hsz17 HG17 HG15b w17 w18 y7 x7
  generalize w16.heap.size = ps at HS18 HPS ⊢
  go_loopw [5, 30] (fun _ c wr => ∃ k : Nat, k ≤ 10 ∧ c = .int .i64 k ∧ GR w wr g q (t k) pd #[.int .u8 (kb.toNat : Nat), .int .i64 a1, .int .i64 a2, .int .i64 a3, .int .i64 a4, .int .i64 a5, .string (mkS p), .slice AD 0 CD, .int .i64 0, .int .i64 0, .int .i64 0, .int .i64 0, .int .i64 0, .int .i64 0, .int .i64 0, .int .i64 0, .int .i64 0, .int .i64 0, .slice none 0 0, .int .i64 0, .slice none 0 0, .slice none 0 0] ∧ wr.heap[ps]? = some (.cells (stA fun i => if i < k then b i else 0) 123 (0, 0))) (fun _ c _ => 10 - (intOf c).toNat)
  case atStart => exact ⟨0, by omega, rfl, HG18.out, HS18.out⟩
  case round =>
    obtain ⟨k, hk, rfl, hGr, hSr⟩ := hrel
    have HGr : Hid (GR w wr g q (t k) pd #[.int .u8 (kb.toNat : Nat), .int .i64 a1, .int .i64 a2, .int .i64 a3, .int .i64 a4, .int .i64 a5, .string (mkS p), .slice AD 0 CD, .int .i64 0, .int .i64 0, .int .i64 0, .int .i64 0, .int .i64 0, .int .i64 0, .int .i64 0, .int .i64 0, .int .i64 0, .int .i64 0, .slice none 0 0, .int .i64 0, .slice none 0 0, .slice none 0 0]) := hGr
    have HSr : Hid (wr.heap[ps]? = some (.cells (stA fun i => if i < k then b i else 0) 123 (0, 0))) := hSr
    clear hGr hSr HG18 HS18
    by_cases hlt : k < 10
    · have hc := rInt_any HGr.out.rd
      rw [HFS.out k hlt] at hc
      dsimp only at hc
      go_wp2_with fail
      refine hc.mono ?_
      rintro e w20 ⟨rfl, hR, hC⟩
      have HG20 : Hid (GR w w20 g q (t (k + 1)) pd #[.int .u8 (kb.toNat : Nat), .int .i64 a1, .int .i64 a2, .int .i64 a3, .int .i64 a4, .int .i64 a5, .string (mkS p), .slice AD 0 CD, .int .i64 0, .int .i64 0, .int .i64 0, .int .i64 0, .int .i64 0, .int .i64 0, .int .i64 0, .int .i64 0, .int .i64 0, .int .i64 0, .slice none 0 0, .int .i64 0, .slice none 0 0, .slice none 0 0]) := HGr.out.read hR hC
      have HS20 : Hid (w20.heap[ps]? = some (.cells (stA fun i => if i < k then b i else 0) 123 (0, 0))) := by
        show _ = _
        rw [hC.block _ (heap_lt HSr.out) (fun e => by have := HPS.out.1; have := HGr.out.gg; unfold One at e; omega)]
        exact HSr.out
      have hcn : w20.cell? ⟨ps, k, none⟩ = some (.int .i64 (if k < k then b k else 0)) := by rw [cell_at HS20.out k]; exact stA_get _ k hlt
      have hfn : w20.frozen? ⟨ps, k, none⟩ = false := frozen_at HS20.out k
      clear hc hR hC HGr HSr
      go_wp2_with fail
      have hch : Chg (fun j => j = ps) w20 (w20.setCell ⟨ps, k, none⟩ (.int .i64 (b k))) := Chg.setCell w20 ⟨ps, k, none⟩ _ rfl
      refine ⟨⟨k + 1, by omega, by go_num, HG20.out.other hch HPS.out.1 HPS.out.2, ?_⟩, by simp [intOf]; omega⟩
      rw [heap_set HS20.out k]
      have := stA_set (fun i => if i < k then b i else 0) (fun i => if i < k + 1 then b i else 0) k hlt (fun i hi => by
        by_cases h1 : i < k
        · simp [h1, show i < k + 1 by omega]
        · simp [h1, show ¬ i < k + 1 by omega])
      rw [if_pos (show k < k + 1 by omega)] at this
      rw [this]
    · have hk10 : k = 10 := by omega
      subst hk10
      have hst : (stA fun i => if i < 10 then b i else 0) = stA b := by unfold stA; simp
      rw [hst] at HSr
      have HSt : Hid (wr.heap[ps]? = some (.cells #[.int .i64 (b 0), .int .i64 (b 1), .int .i64 (b 2), .int .i64 (b 3), .int .i64 (b 4), .int .i64 (b 5), .int .i64 (b 6), .int .i64 (b 7), .int .i64 (b 8), .int .i64 (b 9)] 123 (0, 0))) := HSr.out
      clear HSr hst hlt hk
      have hsa : Calls Tryd.prog 92 #[.agg #[.int .i64 (b 0), .int .i64 (b 1), .int .i64 (b 2), .int .i64 (b 3), .int .i64 (b 4), .int .i64 (b 5), .int .i64 (b 6), .int .i64 (b 7), .int .i64 (b 8), .int .i64 (b 9)]] wr fun e w' => e = .returned (.agg #[.int .i64 (b 0), .int .i64 (b 1), .int .i64 (b 2), .int .i64 (b 3), .int .i64 (b 4), .int .i64 (b 5), .int .i64 (b 6), .int .i64 (b 7), .int .i64 (b 8), .int .i64 (b 9)]) ∧ Below wr.heap.size wr w' := stat_any b wr
      obtain ⟨s0, s1, s2, s3, s4, s5, s6, s7, s8, s9⟩ := cells10 HSt.out
      go_wp2_with fail
      refine hsa.mono ?_
      rintro e w21 ⟨rfl, hB21⟩
      have HG21 : Hid (GR w w21 g q (t 10) pd #[.int .u8 (kb.toNat : Nat), .int .i64 a1, .int .i64 a2, .int .i64 a3, .int .i64 a4, .int .i64 a5, .string (mkS p), .slice AD 0 CD, .int .i64 0, .int .i64 0, .int .i64 0, .int .i64 0, .int .i64 0, .int .i64 0, .int .i64 0, .int .i64 0, .int .i64 0, .int .i64 0, .slice none 0 0, .int .i64 0, .slice none 0 0, .slice none 0 0]) := HGr.out.below hB21
      clear hsa hB21 HGr HSt s0 s1 s2 s3 s4 s5 s6 s7 s8 s9
      obtain ⟨w22, hw22⟩ : ∃ X, X = w21.setCells pd 8 [.int .i64 (b 0), .int .i64 (b 1), .int .i64 (b 2), .int .i64 (b 3), .int .i64 (b 4), .int .i64 (b 5), .int .i64 (b 6), .int .i64 (b 7), .int .i64 (b 8), .int .i64 (b 9)] := ⟨_, rfl⟩
      have hs22 := setL pd 43 [.int .i64 (b 0), .int .i64 (b 1), .int .i64 (b 2), .int .i64 (b 3), .int .i64 (b 4), .int .i64 (b 5), .int .i64 (b 6), .int .i64 (b 7), .int .i64 (b 8), .int .i64 (b 9)] w21 8 _ HG21.out.d
      rw [← hw22] at hs22
      have HG22 : Hid (GR w w22 g q (t 10) pd #[.int .u8 (kb.toNat : Nat), .int .i64 a1, .int .i64 a2, .int .i64 a3, .int .i64 a4, .int .i64 a5, .string (mkS p), .slice AD 0 CD, .int .i64 (b 0), .int .i64 (b 1), .int .i64 (b 2), .int .i64 (b 3), .int .i64 (b 4), .int .i64 (b 5), .int .i64 (b 6), .int .i64 (b 7), .int .i64 (b 8), .int .i64 (b 9), .slice none 0 0, .int .i64 0, .slice none 0 0, .slice none 0 0]) := HG21.out.turn hs22.2 (by rw [hs22.1, setA_mid])
      have hth := thereL HG21.out.d 8 10 (show 8 + 10 ≤ 22 by decide)
      have hon : (#[.int .i64 (b 0), .int .i64 (b 1), .int .i64 (b 2), .int .i64 (b 3), .int .i64 (b 4), .int .i64 (b 5), .int .i64 (b 6), .int .i64 (b 7), .int .i64 (b 8), .int .i64 (b 9)] : Array Value).all (·.oneCell') = true := all_oneCell_toArray (by intro v hv; simp only [List.mem_cons, List.not_mem_nil, or_false] at hv; rcases hv with rfl | rfl | rfl | rfl | rfl | rfl | rfl | rfl | rfl | rfl <;> rfl)
      have HE : Hid (w21.setCells pd 8 (#[.int .i64 (b 0), .int .i64 (b 1), .int .i64 (b 2), .int .i64 (b 3), .int .i64 (b 4), .int .i64 (b 5), .int .i64 (b 6), .int .i64 (b 7), .int .i64 (b 8), .int .i64 (b 9)] : Array Value).toList = w22) := hw22.symm
      clear hs22 hw22
      have hc := rCount_any HG22.out.rd 500
      rw [HE8.out] at hc
      dsimp only at hc
      go_wp2_with (refine wpList_store_mid rfl 37 _ _ rfl pd 8 #[.int .i64 (b 0), .int .i64 (b 1), .int .i64 (b 2), .int .i64 (b 3), .int .i64 (b 4), .int .i64 (b 5), .int .i64 (b 6), .int .i64 (b 7), .int .i64 (b 8), .int .i64 (b 9)] rfl rfl hth infoSt hon ?_; rw [HE.out])
      refine hc.mono ?_
      rintro e w23 ⟨rfl, hR, hC⟩
      have HG23 : Hid (GR w w23 g q r9 pd #[.int .u8 (kb.toNat : Nat), .int .i64 a1, .int .i64 a2, .int .i64 a3, .int .i64 a4, .int .i64 a5, .string (mkS p), .slice AD 0 CD, .int .i64 (b 0), .int .i64 (b 1), .int .i64 (b 2), .int .i64 (b 3), .int .i64 (b 4), .int .i64 (b 5), .int .i64 (b 6), .int .i64 (b 7), .int .i64 (b 8), .int .i64 (b 9), .slice none 0 0, .int .i64 0, .slice none 0 0, .slice none 0 0]) := HG22.out.read hR hC
      clear hc hR hC HG22 HG21 HE hth hon w22
      have hc := rBytes_any HG23.out.rd 1048576
      rw [HE9.out] at hc
      dsimp only at hc
      go_wp2_with fail
      refine wp_loop_rounds 1 ?_
      rw [rounds_succ]
      go_wp2_with fail
      refine hc.mono ?_
      rintro e w24 ⟨v, wv, rfl, hN, hR, hC, hwv⟩
      have HG24 : Hid (GR w w24 g q r10 pd #[.int .u8 (kb.toNat : Nat), .int .i64 a1, .int .i64 a2, .int .i64 a3, .int .i64 a4, .int .i64 a5, .string (mkS p), .slice AD 0 CD, .int .i64 (b 0), .int .i64 (b 1), .int .i64 (b 2), .int .i64 (b 3), .int .i64 (b 4), .int .i64 (b 5), .int .i64 (b 6), .int .i64 (b 7), .int .i64 (b 8), .int .i64 (b 9), .slice none 0 0, .int .i64 0, .slice none 0 0, .slice none 0 0]) := HG23.out.read hR hC
      have hge := Go.Proofs.YtmojplgoohnmdaaDoor.get_any hN.bs (by simp)
      have hcf : cfgOf [] = none := by decide +kernel
      rw [hcf] at hge
      obtain ⟨AV, CV, hAV⟩ := bs_form hN.bs
      subst hAV
      clear hc hR hC hN hwv HG23 hcf wv
      go_wp2_with fail
      refine hge.mono ?_
      rintro e w25 ⟨rfl, hB25⟩
      have HG25 : Hid (GR w w25 g q r10 pd #[.int .u8 (kb.toNat : Nat), .int .i64 a1, .int .i64 a2, .int .i64 a3, .int .i64 a4, .int .i64 a5, .string (mkS p), .slice AD 0 CD, .int .i64 (b 0), .int .i64 (b 1), .int .i64 (b 2), .int .i64 (b 3), .int .i64 (b 4), .int .i64 (b 5), .int .i64 (b 6), .int .i64 (b 7), .int .i64 (b 8), .int .i64 (b 9), .slice none 0 0, .int .i64 0, .slice none 0 0, .slice none 0 0]) := HG24.out.below hB25
      clear hge hB25 HG24 w24
      obtain ⟨z0, z1, z2, z3, z4, z5, z6, z7, z8, z9, z10, z11, z12, z13, z14, z15, z16, z17, z18, z19, z20, z21⟩ := cells22 HG25.out.d
      have f19 := frozen_at HG25.out.d 19
      have f20 := frozen_at HG25.out.d 20
      obtain ⟨w26, hw26⟩ : ∃ X, X = (w25.setCell ⟨pd, 19, none⟩ (.int .i64 0)).setCell ⟨pd, 20, none⟩ (.slice none 0 0) := ⟨_, rfl⟩
      have HG26 : Hid (GR w w26 g q r10 pd #[.int .u8 (kb.toNat : Nat), .int .i64 a1, .int .i64 a2, .int .i64 a3, .int .i64 a4, .int .i64 a5, .string (mkS p), .slice AD 0 CD, .int .i64 (b 0), .int .i64 (b 1), .int .i64 (b 2), .int .i64 (b 3), .int .i64 (b 4), .int .i64 (b 5), .int .i64 (b 6), .int .i64 (b 7), .int .i64 (b 8), .int .i64 (b 9), .slice none 0 0, .int .i64 0, .slice none 0 0, .slice none 0 0]) := by rw [hw26]; exact (HG25.out.set 19 (.int .i64 0)).set 20 (.slice none 0 0)
      have hra := rangeL HG26.out.d
      obtain ⟨w27, hw27⟩ : ∃ X, X = w26.setCells w.heap.size 0 [.int .u8 (kb.toNat : Nat), .int .i64 a1, .int .i64 a2, .int .i64 a3, .int .i64 a4, .int .i64 a5, .string (mkS p), .slice AD 0 CD, .int .i64 (b 0), .int .i64 (b 1), .int .i64 (b 2), .int .i64 (b 3), .int .i64 (b 4), .int .i64 (b 5), .int .i64 (b 6), .int .i64 (b 7), .int .i64 (b 8), .int .i64 (b 9), .slice none 0 0, .int .i64 0, .slice none 0 0, .slice none 0 0] := ⟨_, rfl⟩
      have hs27 := setL0 HG26.out.res [.int .u8 (kb.toNat : Nat), .int .i64 a1, .int .i64 a2, .int .i64 a3, .int .i64 a4, .int .i64 a5, .string (mkS p), .slice AD 0 CD, .int .i64 (b 0), .int .i64 (b 1), .int .i64 (b 2), .int .i64 (b 3), .int .i64 (b 4), .int .i64 (b 5), .int .i64 (b 6), .int .i64 (b 7), .int .i64 (b 8), .int .i64 (b 9), .slice none 0 0, .int .i64 0, .slice none 0 0, .slice none 0 0] rfl
      rw [← hw27] at hs27
      have hth := thereL HG26.out.res 0 22 (show 0 + 22 ≤ 22 by decide)
      have hon : (#[.int .u8 (kb.toNat : Nat), .int .i64 a1, .int .i64 a2, .int .i64 a3, .int .i64 a4, .int .i64 a5, .string (mkS p), .slice AD 0 CD, .int .i64 (b 0), .int .i64 (b 1), .int .i64 (b 2), .int .i64 (b 3), .int .i64 (b 4), .int .i64 (b 5), .int .i64 (b 6), .int .i64 (b 7), .int .i64 (b 8), .int .i64 (b 9), .slice none 0 0, .int .i64 0, .slice none 0 0, .slice none 0 0] : Array Value).all (·.oneCell') = true := all_oneCell_toArray (by intro v hv; simp only [List.mem_cons, List.not_mem_nil, or_false] at hv; rcases hv with rfl | rfl | rfl | rfl | rfl | rfl | rfl | rfl | rfl | rfl | rfl | rfl | rfl | rfl | rfl | rfl | rfl | rfl | rfl | rfl | rfl | rfl <;> rfl)
      have HE : Hid (w26.setCells w.heap.size 0 (#[.int .u8 (kb.toNat : Nat), .int .i64 a1, .int .i64 a2, .int .i64 a3, .int .i64 a4, .int .i64 a5, .string (mkS p), .slice AD 0 CD, .int .i64 (b 0), .int .i64 (b 1), .int .i64 (b 2), .int .i64 (b 3), .int .i64 (b 4), .int .i64 (b 5), .int .i64 (b 6), .int .i64 (b 7), .int .i64 (b 8), .int .i64 (b 9), .slice none 0 0, .int .i64 0, .slice none 0 0, .slice none 0 0] : Array Value).toList = w27) := hw27.symm
      have HR27 : Hid (Rdr w27 g q r10) := HG26.out.rd.keep hs27.2 (fun e => by have := HG26.out.gg; omega) (fun k hk e => by have := HG26.out.qq k hk; omega)
      have HC27 : Hid (Chg (One g) w w27) := HG26.out.chg.trans' hs27.2 (fun i hi e => by omega)
      have HD27 : Hid (w27.heap[w.heap.size]? = some (.cells #[.int .u8 (kb.toNat : Nat), .int .i64 a1, .int .i64 a2, .int .i64 a3, .int .i64 a4, .int .i64 a5, .string (mkS p), .slice AD 0 CD, .int .i64 (b 0), .int .i64 (b 1), .int .i64 (b 2), .int .i64 (b 3), .int .i64 (b 4), .int .i64 (b 5), .int .i64 (b 6), .int .i64 (b 7), .int .i64 (b 8), .int .i64 (b 9), .slice none 0 0, .int .i64 0, .slice none 0 0, .slice none 0 0] 43 (0, 0))) := hs27.1
      clear hs27 hw27 HG26 HG25
      rw [hw26] at hra hth
      have HE' : Hid (((w25.setCell ⟨pd, 19, none⟩ (.int .i64 0)).setCell ⟨pd, 20, none⟩ (.slice none 0 0)).setCells w.heap.size 0 (#[.int .u8 (kb.toNat : Nat), .int .i64 a1, .int .i64 a2, .int .i64 a3, .int .i64 a4, .int .i64 a5, .string (mkS p), .slice AD 0 CD, .int .i64 (b 0), .int .i64 (b 1), .int .i64 (b 2), .int .i64 (b 3), .int .i64 (b 4), .int .i64 (b 5), .int .i64 (b 6), .int .i64 (b 7), .int .i64 (b 8), .int .i64 (b 9), .slice none 0 0, .int .i64 0, .slice none 0 0, .slice none 0 0] : Array Value).toList = w27) := by rw [← hw26]; exact HE.out
      clear HE hw26 w26
      go_wp2_with (first | (refine wpList_load_mid rfl 43 _ rfl pd 0 rfl [.int .u8 (kb.toNat : Nat), .int .i64 a1, .int .i64 a2, .int .i64 a3, .int .i64 a4, .int .i64 a5, .string (mkS p), .slice AD 0 CD, .int .i64 (b 0), .int .i64 (b 1), .int .i64 (b 2), .int .i64 (b 3), .int .i64 (b 4), .int .i64 (b 5), .int .i64 (b 6), .int .i64 (b 7), .int .i64 (b 8), .int .i64 (b 9), .slice none 0 0, .int .i64 0, .slice none 0 0, .slice none 0 0] _ hra Tryd.underlying43 rfl infoR ?_) | (refine wpList_store_mid rfl 43 _ _ rfl w.heap.size 0 #[.int .u8 (kb.toNat : Nat), .int .i64 a1, .int .i64 a2, .int .i64 a3, .int .i64 a4, .int .i64 a5, .string (mkS p), .slice AD 0 CD, .int .i64 (b 0), .int .i64 (b 1), .int .i64 (b 2), .int .i64 (b 3), .int .i64 (b 4), .int .i64 (b 5), .int .i64 (b 6), .int .i64 (b 7), .int .i64 (b 8), .int .i64 (b 9), .slice none 0 0, .int .i64 0, .slice none 0 0, .slice none 0 0] rfl rfl hth infoR hon ?_; rw [HE'.out]))
      refine bodyPost_ret (results_row _ _ Tryd.results57 w.heap.size rfl [.int .u8 (kb.toNat : Nat), .int .i64 a1, .int .i64 a2, .int .i64 a3, .int .i64 a4, .int .i64 a5, .string (mkS p), .slice AD 0 CD, .int .i64 (b 0), .int .i64 (b 1), .int .i64 (b 2), .int .i64 (b 3), .int .i64 (b 4), .int .i64 (b 5), .int .i64 (b 6), .int .i64 (b 7), .int .i64 (b 8), .int .i64 (b 9), .slice none 0 0, .int .i64 0, .slice none 0 0, .slice none 0 0] _ (rangeL HD27.out) Tryd.underlying43 rfl infoR) rfl ?_
      exact ⟨AD, CD, rfl, HBD.out, HR27.out, HC27.out⟩
end Go.Proofs.YtmojplgoohnmdaaDoor.AK
