/- Trees: Seat. Trees: nodes taken behind more deeds or fewer: as mathematics. -/
import Derived.Test.YtcdnfgibcochhaaGreatDoorTrLb
import Derived.Test.YtcdnfgibcochhaaGreatDoorTrWa
import Derived.Test.YtcdnfgibcochhaaGreatDoorTrE
import Derived.Test.YtcdnfgibcochhaaGreatDoorTrGa
import Derived.Test.YtcdnfgibcochhaaGreatDoorTrPb
namespace Go.Proofs.YtcdnfgibcochhaaGreatDoor
set_option linter.unusedSimpArgs false
set_option linter.unusedVariables false
set_option linter.unusedSimpArgs false
set_option linter.unusedVariables false
open Go.RowKit Go.MapKept

def sitV (q : Si.Fi) : List Value := [.int .i64 q.nm, .int .i64 q.tmo, .int .i64 q.turn]
/- Sittings side by side. -/
def RowS (w : World) (A : Option Addr) (l : List Si.Fi) (C : Nat) : Prop :=
  l = [] ∨ ∃ b o, A = some ⟨b, o, none⟩ ∧ b < w.heap.size ∧ l.length ≤ C ∧ ∀ (i : Nat) (h : i < l.length) (j : Nat), j < 3 → w.cell? ⟨b, o + i * 3 + j, none⟩ = (sitV (l[i]'h))[j]?
theorem RowS.below {w w' : World} {A : Option Addr} {l : List Si.Fi} {C : Nat} (h : RowS w A l C) (hB : Below w.heap.size w w') : RowS w' A l C := by
  rcases h with h | ⟨b, o, h1, h2, h3, h4⟩
  · exact .inl h
  · exact .inr ⟨b, o, h1, Nat.lt_of_lt_of_le h2 hB.size, h3, fun i h j hj => by rw [hB.cell (p := ⟨b, o + i * 3 + j, none⟩) h2]; exact h4 i h j hj⟩
theorem RowS.at {w : World} {A : Option Addr} {l : List Si.Fi} {C : Nat} (h : RowS w A l C) (i : Nat) (hi : i < l.length) : ∃ b o, A = some ⟨b, o, none⟩ ∧ b < w.heap.size ∧ l.length ≤ C ∧ w.cell? ⟨b, o + i * 3, none⟩ = some (.int .i64 (l[i]'hi).nm) ∧ w.cell? ⟨b, o + i * 3 + 1, none⟩ = some (.int .i64 (l[i]'hi).tmo) ∧ w.cell? ⟨b, o + i * 3 + 2, none⟩ = some (.int .i64 (l[i]'hi).turn) := by
  rcases h with h | ⟨b, o, h1, h2, h3, h4⟩
  · subst h; simp at hi
  · exact ⟨b, o, h1, h2, h3, h4 i hi 0 (by omega), h4 i hi 1 (by omega), h4 i hi 2 (by omega)⟩
def seatF (l : List Si.Fi) : List Si.Fi := l.foldl (fun S q => if 0 < q.nm then Si.putF q S else S) []
theorem seatF_take (l : List Si.Fi) (k : Nat) (hk : k < l.length) : seatF (l.take (k + 1)) = if 0 < (l[k]'hk).nm then Si.putF (l[k]'hk) (seatF (l.take k)) else seatF (l.take k) := by
  unfold seatF
  rw [List.take_add_one, List.getElem?_eq_getElem hk, List.foldl_append]
  rfl
theorem Tk.reseat {w : World} {t m n n' : Nat} {L : List Fv} {K : List Si.Fv} (h : Tk w t m n L K) (hm : n' = w.heap.size) : Tk ((w.alloc (.map #[] 0)).setCell ⟨t, 1, none⟩ (.map (some n'))) t m n' L [] := by
  subst hm
  have htl := theap_lt h.cell
  have hml := h.nodes.lt
  have hne : m ≠ t := by
    intro e
    obtain ⟨es, c, hb, _⟩ := h.nodes
    rw [e, h.cell] at hb; cases hb
  have h1 : (w.alloc (.map #[] 0)).heap[t]? = some (.cells #[.map (some m), .map (some n)] 38 (0, 0)) := by rw [Below.heap_alloc _ _ _ htl]; exact h.cell
  have hc : Chg (fun k => k = t) (w.alloc (.map #[] 0)) ((w.alloc (.map #[] 0)).setCell ⟨t, 1, none⟩ (.map (some w.heap.size))) := Chg.setCell _ _ _ rfl
  refine ⟨?_, (h.nodes.keep (Chg.alloc Non w _) id).keep hc hne, ?_, by omega, fun p hp => ?_, h.fits⟩
  · have := heap_set h1 1 (.map (some w.heap.size))
    simpa using this
  · exact Si.MapIs.keep ⟨#[], 0, heap_alloc_new w _, rfl, by simp, by simp, by simp⟩ hc (by omega)
  · refine towns_keep (towns_keep (h.bs p hp) (Chg.alloc Non w _) (fun _ _ => id)) hc (fun k hk e => ?_)
    obtain ⟨cu, hcu, _⟩ := towns_block (h.bs p hp) hk
    rw [e, h.cell] at hcu
    simp at hcu
set_option maxRecDepth 100000 in
set_option maxHeartbeats 8000000 in
theorem seat_any {w : World} {t m n : Nat} {N : List Fi} {S : List Si.Fi} (h : Tr w t m n N S) {A : Option Addr} {l : List Si.Fi} {C : Nat} (hr : RowS w A l C) (hlen : l.length ≤ 1000000) :
    Calls Tryz.prog 21 #[.pointer (some ⟨t, 0, none⟩), .slice A l.length C] w fun e w' =>
      e = .returned (.tuple #[]) ∧ ∃ n', w.heap.size ≤ n' ∧ Tr w' t m n' N (seatF l) ∧ Chg (fun k => k = t) w w' := by
  obtain ⟨L, K, hT, rfl, rfl⟩ := h
  have hth := there_yes (cell_at hT.cell 0)
  have HT0 : Hid (Tk w t m n L K) := hT
  have HR : Hid (RowS w A l C) := hr
  have hT1 := hT.alloc (.map #[] 0)
  have hc1 : (w.alloc (.map #[] 0)).cell? ⟨t, 1, none⟩ = some (.map (some n)) := by rw [cell_at hT1.cell]; rfl
  have hf1 : (w.alloc (.map #[] 0)).frozen? ⟨t, 1, none⟩ = false := frozen_at hT1.cell 1
  have hT2 := hT.reseat (n' := w.heap.size) rfl
  obtain ⟨n', hn'⟩ : ∃ n', n' = w.heap.size := ⟨_, rfl⟩
  have HN' : Hid (n' = w.heap.size) := hn'
  obtain ⟨w2, hw2⟩ : ∃ w2, w2 = (w.alloc (.map #[] 0)).setCell ⟨t, 1, none⟩ (.map (some w.heap.size)) := ⟨_, rfl⟩
  rw [← hw2, ← hn'] at hT2
  have HT2 : Hid (Tr w2 t m n' (L.map Prod.fst) []) := ⟨L, [], hT2, rfl, rfl⟩
  have HC2 : Hid (Chg (fun k => k = t) w w2) := by
    rw [hw2]
    exact (Chg.alloc _ _ _).trans (Chg.setCell _ _ _ rfl)
  have HW2 : Hid (w2 = (w.alloc (.map #[] 0)).setCell ⟨t, 1, none⟩ (.map (some w.heap.size))) := hw2
  have HTR0 : Hid (Tr w t m n (L.map Prod.fst) (K.map Prod.fst)) := ⟨L, K, hT, rfl, rfl⟩
  have hmm := @run_makeMap Tryz.prog
  clear hT hr hT1 hT2 hw2 hn'
  go_enter Tryz.func21, Tryz.ntmps21
  go_wp2_with fail
  refine hth.mono ?_
  rintro e w1 ⟨rfl, hw1⟩
  obtain rfl : w = w1 := hw1.symm
  clear hth
  go_upto_region 2 with fail
  rw [← HW2.out]
  clear hc1 hf1
  go_wp2_with fail
  go_loopg [15] l.length (fun g v15 wr => ∃ k : Nat, k ≤ l.length ∧ g = l.length - k ∧ v15 = .int .i64 (k : Int) ∧ Tr wr t m n' (L.map Prod.fst) (seatF (l.take k)) ∧ Chg (fun k => k = t) w wr)
  case atStart => exact ⟨0, Nat.zero_le _, rfl, rfl, HT2.out, HC2.out⟩
  case round =>
    obtain ⟨k, hk, hg, rfl, hTr, hCr⟩ := hrel
    have HG : Hid (gk = l.length - k) := hg
    have HTR : Hid (Tr wr t m n' (L.map Prod.fst) (seatF (l.take k))) := hTr
    have HCR : Hid (Chg (fun k => k = t) w wr) := hCr
    clear hg hTr hCr
    by_cases hlt : k < l.length
    case neg =>
      have hke : k = l.length := by omega
      have HKE : Hid (k = l.length) := hke
      clear hke
      go_wp2_with fail
      go_end0
      refine ⟨rfl, n', by rw [HN'.out]; exact Nat.le_refl _, ?_, HCR.out⟩
      have := HTR.out
      rw [HKE.out, List.take_of_length_le (Nat.le_refl _)] at this
      exact this
    case pos =>
    obtain ⟨b, o, rfl, hb, _, a0, a1, a2⟩ := HR.out.at k hlt
    have c0 := cell_t HTR0.out HCR.out a0 (fun a e => by cases e)
    have c1 := cell_t HTR0.out HCR.out a1 (fun a e => by cases e)
    have c2 := cell_t HTR0.out HCR.out a2 (fun a e => by cases e)
    have hst := seatF_take l k hlt
    obtain ⟨q, hq⟩ : ∃ q, q = l[k]'hlt := ⟨_, rfl⟩
    rw [← hq] at c0 c1 c2 hst
    have HST : Hid (seatF (l.take (k + 1)) = if 0 < q.nm then Si.putF q (seatF (l.take k)) else seatF (l.take k)) := hst
    have i0 : ¬ (k : Int) < 0 := by omega
    have i1 : (k : Int) < (l.length : Int) := by omega
    have i2 : (0 : Int) ≤ (k : Int) := by omega
    have i3 : (k : Int).toNat = k := by omega
    clear a0 a1 a2 hst hq hb
    by_cases hq0 : 0 < q.nm
    · have HQ0 : Hid (0 < q.nm) := hq0
      obtain ⟨W, hW⟩ : ∃ W, W = (wr.alloc (.cells #[.int .i64 q.nm, .int .i64 q.tmo, .int .i64 q.turn] 57)).drew := ⟨_, rfl⟩
      obtain ⟨Lr, Kr, hTk, hLr, hKr⟩ := HTR.out
      have hbW : Below wr.heap.size wr W := by rw [hW]; exact (lay1 _ _).drew
      have hTW := hTk.below hbW
      obtain ⟨w3, hrun, h3, c3, s3⟩ := hTW.seats.update (q, ())
      have hbx : W.heap[wr.heap.size]? = some (.cells #[.int .i64 q.nm, .int .i64 q.tmo, .int .i64 q.turn] 57 (0, 0)) := by rw [hW]; exact heap_alloc_new wr _
      have HF : Hid (Tr w3 t m n' (L.map Prod.fst) (seatF (l.take (k + 1))) ∧ Chg (fun k => k = t) w w3) := by
        refine ⟨⟨Lr, _, hTW.seat h3 c3, hLr, ?_⟩, ?_⟩
        · rw [Si.put_F, hKr, HST.out, if_pos HQ0.out]
        · have h1 : Chg (fun k => k = t) w W := HCR.out.trans ((Chg.of_below hbW).none_to)
          exact h1.trans' c3 (fun i hi e => by have := HN'.out; omega)
      have HS : Hid (∀ {w' : World}, Chg (fun k => k = n') W w' → w'.cell? ⟨t, 1, none⟩ = some (.map (some n')) ∧ w'.cell? ⟨wr.heap.size, 0, none⟩ = some (.int .i64 q.nm) ∧ w'.cell? ⟨wr.heap.size, 1, none⟩ = some (.int .i64 q.tmo) ∧ w'.cell? ⟨wr.heap.size, 2, none⟩ = some (.int .i64 q.turn)) := by
        intro w' hc
        have htn : t ≠ n' := by
          intro e
          obtain ⟨es, c, hb, _⟩ := hTk.seats
          have := hTk.cell
          rw [e, hb] at this; cases this
        have hnl := hTk.seats.lt
        have ht : w'.heap[t]? = some (.cells #[.map (some m), .map (some n')] 38 (0, 0)) := by
          rw [hc.block t (theap_lt hTW.cell) htn]; exact hTW.cell
        have hb' : w'.heap[wr.heap.size]? = some (.cells #[.int .i64 q.nm, .int .i64 q.tmo, .int .i64 q.turn] 57 (0, 0)) := by rw [hc.block _ (theap_lt hbx) (by omega)]; exact hbx
        exact ⟨cell_at ht 1, cell_at hb' 0, cell_at hb' 1, cell_at hb' 2⟩
      have hS0 := HS.out (Chg.refl _ W)
      have hS1 := HS.out c3
      have hrun' : (Instr.mapUpdate 36 (.map (some n')) (.int .i64 q.nm) (.agg #[.int .i64 q.nm, .int .i64 q.tmo, .int .i64 q.turn])).run Tryz.prog W = .ok () w3 := hrun
      rw [hW] at hS0 hrun'
      clear hTk hW hbx hTW hrun h3 c3 s3 HS hLr hKr hbW
      go_wp2_with fail
      go_region_held3 (fun w' => w'.cell? ⟨t, 1, none⟩ = some (.map (some n')) ∧ w'.cell? ⟨wr.heap.size, 0, none⟩ = some (.int .i64 q.nm) ∧ w'.cell? ⟨wr.heap.size, 1, none⟩ = some (.int .i64 q.tmo) ∧ w'.cell? ⟨wr.heap.size, 2, none⟩ = some (.int .i64 q.turn))
        (first | exact hS0 | exact hS1 | go_keep)
        (fail)
      clear hS0 hS1 hrun'
      go_wp2_with fail
      go_roundg (l.length - (k + 1))
      case measure => have := HG.out; omega
      case rel => exact ⟨k + 1, by omega, rfl, by go_num, HF.out.1, HF.out.2⟩
    · have HQ0 : Hid (¬ 0 < q.nm) := hq0
      go_wp2_with fail
      go_roundg (l.length - (k + 1))
      case measure => have := HG.out; omega
      case rel =>
        refine ⟨k + 1, by omega, rfl, by go_num, ?_, HCR.out.trans (Chg.alloc _ _ _)⟩
        rw [HST.out, if_neg (by have := HQ0.out; omega)]
        obtain ⟨Lr, Kr, hTk, hLr, hKr⟩ := HTR.out
        exact ⟨Lr, Kr, hTk.alloc _, hLr, hKr⟩
end Go.Proofs.YtcdnfgibcochhaaGreatDoor

namespace Go.Proofs.YtcdnfgibcochhaaGreatDoor
set_option linter.unusedSimpArgs false
set_option linter.unusedVariables false
set_option linter.unusedSimpArgs false
set_option linter.unusedVariables false
open Go.RowKit Go.MapKept

theorem find_eq {l : List (List UInt8)} {p : List UInt8} : l.find? (fun x => decide (x = p)) = if p ∈ l then some p else none := by
  induction l with
  | nil => simp
  | cons x l ih =>
    rw [List.find?_cons]
    by_cases h : x = p
    · rw [decide_eq_true h, if_pos (by rw [h]; exact .head _), h]
    · rw [decide_eq_false h, ih]
      by_cases h2 : p ∈ l
      · rw [if_pos h2, if_pos (.tail _ h2)]
      · rw [if_neg h2, if_neg (fun e => by rcases List.mem_cons.1 e with e | e; exact h e.symm; exact h2 e)]
theorem at_all {Q : List Al} {N : List Fi} (hQ : Q.map (·.q) = allF N) (p : List UInt8) : (atF Q p).map (·.q) = (lookF p N).map (toldF (N.map (·.nm))) := by
  have h1 : (atF Q p).map (·.q) = (Q.map (·.q)).find? fun q => decide (q.nm = p) := by
    rw [List.find?_map]; rfl
  rw [h1, hQ]
  unfold allF
  rw [List.find?_map]
  have h2 : ((fun q : Fi => decide (q.nm = p)) ∘ fun p => toldF (N.map (·.nm)) ((lookF p N).getD ⟨p, [], zeroSt⟩)) = fun x => decide (x = p) := by
    funext x
    show decide (((lookF x N).getD ⟨x, [], zeroSt⟩).nm = p) = _
    cases h : lookF x N with
    | none => rfl
    | some q => rw [show ((some q).getD ⟨x, [], zeroSt⟩ : Fi) = q from rfl, (look_nm h).1]
  rw [h2, find_eq]
  cases hl : lookF p N with
  | none =>
    rw [if_neg (fun e => by
      obtain ⟨q, hq⟩ := name_look.1 ((sortP_is _).mem_iff.1 e)
      rw [hl] at hq; cases hq)]
    rfl
  | some q =>
    rw [if_pos ((sortP_is _).mem_iff.2 (name_look.2 ⟨q, hl⟩))]
    simp [hl]
theorem bare_told {q : Fi} (h : GoodF q) (names : List (List UInt8)) : (⟨(toldF names q).nm, (toldF names q).b, bare (toldF names q).st⟩ : Fi) = q := by
  obtain ⟨nm, b, ⟨cz, mz, pz, ct, mt, ver, cv, own, len, chd⟩⟩ := q
  have h1 := h.len
  have h2 := h.chd
  simp only at h1 h2
  subst h1 h2
  rfl
theorem told_ok {q : Fi} (h : GoodF q) (names : List (List UInt8)) : nodeOk (toldF names q) = true := by
  unfold nodeOk
  rw [show (toldF names q).nm = q.nm from rfl, h.rt, show (toldF names q).b = q.b from rfl, decide_eq_true h.bl, decide_eq_true]
  · rfl
  · apply Int.not_lt.1
    rw [stMin, mn_neg]
    have a1 := h.cz; have a2 := h.mz; have a3 := h.pz; have a4 := h.ct; have a5 := h.mt; have a6 := h.ver; have a7 := h.cv; have a8 := h.own
    simp only [toldF, List.mem_cons, List.not_mem_nil, or_false, not_or, not_exists, not_and]
    refine ⟨by omega, ?_⟩
    rintro y (rfl | rfl | rfl | rfl | rfl | rfl | rfl | rfl | rfl) <;> omega
/- What is loaded is what stands there. -/
theorem load_fold (k : List UInt8) : ∀ (l : List Fi) (N : List Fi), nam l → lookF k (l.foldl (fun N q => putF ⟨q.nm, q.b, bare q.st⟩ N) N) = match lookF k l with | some q => some ⟨q.nm, q.b, bare q.st⟩ | none => lookF k N
  | [], N, _ => rfl
  | x :: l, N, hn => by
    have hn' : x.nm ∉ l.map (·.nm) ∧ nam l := by unfold nam at hn ⊢; simpa using hn
    rw [List.foldl_cons, load_fold k l _ hn'.2, look_put]
    by_cases h : x.nm = k
    · have h1 : lookF k l = none := look_no (by rw [← h]; exact hn'.1)
      have h2 : lookF k (x :: l) = some x := by unfold lookF; rw [if_pos h]
      rw [h1, h2]
      simp [h]
    · have h2 : lookF k (x :: l) = lookF k l := by conv => lhs; unfold lookF; rw [if_neg h]
      rw [h2]
      cases lookF k l with
      | some q => rfl
      | none => simp only; rw [if_neg (fun e => h e.symm)]
theorem load_look {l : List Fi} (hn : nam l) (k : List UInt8) : lookF k (loadF l) = (lookF k l).map fun q => ⟨q.nm, q.b, bare q.st⟩ := by
  unfold loadF
  rw [load_fold k l [] hn]
  cases lookF k l <;> rfl
/- The rows that are chosen: for each path the node as one of the states has it. -/
def nthS (St : List Sl) (c : Nat) : List Al := ((St[c]?).map (·.Q)).getD []
def rowsQ (St : List Sl) (paths : List (List UInt8)) (cs : List Nat) : List Al := (paths.zip cs).filterMap fun pc => atF (nthS St pc.2) pc.1
theorem atF_nm {Q : List Al} {p : List UInt8} {x : Al} (h : atF Q p = some x) : x.q.nm = p ∧ x ∈ Q := by
  refine ⟨?_, List.mem_of_find?_eq_some h⟩
  have := List.find?_some h
  simpa using this
theorem rows_sub (St : List Sl) : ∀ (paths : List (List UInt8)) (cs : List Nat), ((rowsQ St paths cs).map (·.q.nm)).Sublist paths
  | [], _ => by simp [rowsQ]
  | p :: ps, [] => by simp [rowsQ]
  | p :: ps, c :: cs => by
    have ih := rows_sub St ps cs
    unfold rowsQ at ih ⊢
    rw [List.zip_cons_cons, List.filterMap_cons]
    cases h : atF (nthS St c) p with
    | none => exact ih.cons _
    | some x =>
      simp only [h, List.map_cons]
      rw [(atF_nm h).1]
      exact ih.cons_cons _
theorem rows_look (St : List Sl) (k : List UInt8) : ∀ (paths : List (List UInt8)) (cs : List Nat), paths.Nodup → cs.length = paths.length → k ∈ paths → ∃ c ∈ cs, lookF k ((rowsQ St paths cs).map (·.q)) = (atF (nthS St c) k).map (·.q)
  | [], _, _, _, h => by simp at h
  | p :: ps, [], _, hl, _ => by simp at hl
  | p :: ps, c :: cs, hn, hl, hk => by
    obtain ⟨hn1, hn2⟩ := List.nodup_cons.1 hn
    have hsub := rows_sub St ps cs
    by_cases h : k = p
    · subst h
      refine ⟨c, .head _, ?_⟩
      unfold rowsQ
      rw [List.zip_cons_cons, List.filterMap_cons]
      cases ha : atF (nthS St c) k with
      | none =>
        simp only [ha, Option.map_none]
        refine look_no fun e => hn1 (hsub.subset ?_)
        rw [List.map_map] at e
        exact e
      | some x =>
        simp only [ha, List.map_cons, Option.map_some]
        unfold lookF
        rw [if_pos (atF_nm ha).1]
    · have hk' : k ∈ ps := by
        rcases List.mem_cons.1 hk with e | e
        · exact absurd e h
        · exact e
      obtain ⟨c', hc, he⟩ := rows_look St k ps cs hn2 (by simpa using hl) hk'
      refine ⟨c', .tail _ hc, ?_⟩
      rw [← he]
      unfold rowsQ
      rw [List.zip_cons_cons, List.filterMap_cons]
      cases ha : atF (nthS St c) p with
      | none => rfl
      | some x =>
        simp only [ha, List.map_cons]
        conv => lhs; unfold lookF
        rw [if_neg (by rw [(atF_nm ha).1]; exact fun e => h e.symm)]
theorem rows_mem {St : List Sl} {x : Al} : ∀ {paths : List (List UInt8)} {cs : List Nat}, x ∈ rowsQ St paths cs → ∃ c ∈ cs, x ∈ nthS St c := by
  intro paths cs h
  unfold rowsQ at h
  obtain ⟨⟨p, c⟩, h1, h2⟩ := List.mem_filterMap.1 h
  exact ⟨c, (List.of_mem_zip h1).2, (atF_nm h2).2⟩
/- What holds of the states: each tells the nodes of its tree. -/
def States (St : List Sl) (P : List (Fl × List Fl)) (from_ : Nat) : Prop := ∀ c (h : c < St.length), (St[c]'h).Q.map (·.q) = allF (runN (P.take (from_ + c)) [rootF])
theorem States.at {St : List Sl} {P : List (Fl × List Fl)} {f : Nat} (h : States St P f) (c : Nat) (hc : c < St.length) : (nthS St c).map (·.q) = allF (runN (P.take (f + c)) [rootF]) := by
  have := h c hc
  unfold nthS
  rw [List.getElem?_eq_getElem hc]
  exact this
theorem gr (P : List (Fl × List Fl)) : GoodT (runN P [rootF]) := goodRun P goodRoot
theorem root_le {p : List UInt8} (h : PA.right p = true) (hne : p ≠ [47]) : [47] < p := by
  have hh : p.head? = some 47 := by
    simp only [PA.right, Bool.and_eq_true, decide_eq_true_eq] at h
    exact h.2.1
  cases p with
  | nil => cases hh
  | cons a r =>
    simp only [List.head?_cons, Option.some.injEq] at hh
    subst hh
    cases r with
    | nil => exact absurd rfl hne
    | cons b r => rw [List.cons_lt_cons_iff]; exact .inr ⟨rfl, by simp⟩
structure Chosen (St : List Sl) (P : List (Fl × List Fl)) (f : Nat) (cs : List Nat) : Prop where
  st : States St P f
  ne : St ≠ []
  len : cs.length = (pathsF (St.map nms)).length
  lt : ∀ c ∈ cs, c < St.length
theorem Chosen.names {St : List Sl} {P : List (Fl × List Fl)} {f : Nat} {cs : List Nat} (h : Chosen St P f cs) {p : List UInt8} : p ∈ pathsF (St.map nms) ↔ ∃ c, c < St.length ∧ ∃ q, lookF p (runN (P.take (f + c)) [rootF]) = some q := by
  have hnm : ∀ c (hc : c < St.length), p ∈ nms (St[c]'hc) ↔ ∃ q, lookF p (runN (P.take (f + c)) [rootF]) = some q := by
    intro c hc
    have h1 : nms (St[c]'hc) = sortP ((runN (P.take (f + c)) [rootF]).map (·.nm)) := by
      rw [← allF_nm, ← h.st c hc, List.map_map]; rfl
    rw [h1, (sortP_is _).mem_iff, name_look]
  rw [pathsF_mem]
  constructor
  · rintro ⟨l, hl, hp⟩
    obtain ⟨s, hs, rfl⟩ := List.mem_map.1 hl
    obtain ⟨c, hc, rfl⟩ := List.getElem_of_mem hs
    exact ⟨c, hc, (hnm c hc).1 hp⟩
  · rintro ⟨c, hc, hq⟩
    exact ⟨nms (St[c]'hc), List.mem_map.2 ⟨_, List.getElem_mem hc, rfl⟩, (hnm c hc).2 hq⟩
theorem paths_nd (L : List (List (List UInt8))) : (pathsF L).Nodup := (pathsF_up L).imp fun {a b} h e => by rw [e] at h; exact plt_irrefl _ h
/- Each path's node is as one of the states has it. -/
theorem Chosen.look {St : List Sl} {P : List (Fl × List Fl)} {f : Nat} {cs : List Nat} (h : Chosen St P f cs) (k : List UInt8) :
    ∃ c, c < St.length ∧ lookF k (loadF ((rowsQ St (pathsF (St.map nms)) cs).map (·.q))) = lookF k (runN (P.take (f + c)) [rootF]) := by
  have hsub := rows_sub St (pathsF (St.map nms)) cs
  have hn : nam ((rowsQ St (pathsF (St.map nms)) cs).map (·.q)) := by
    unfold nam
    rw [List.map_map]
    exact hsub.nodup (paths_nd _)
  rw [load_look hn]
  by_cases hk : k ∈ pathsF (St.map nms)
  · obtain ⟨c, hc, he⟩ := rows_look St k _ cs (paths_nd _) h.len hk
    have hcl := h.lt c hc
    refine ⟨c, hcl, ?_⟩
    rw [he, at_all (h.st.at c hcl) k]
    cases hl : lookF k (runN (P.take (f + c)) [rootF]) with
    | none => rfl
    | some q =>
      simp only [Option.map_some]
      rw [bare_told ((gr _).all q (look_nm hl).2)]
  · have h0 : 0 < St.length := List.length_pos_iff.2 h.ne
    refine ⟨0, h0, ?_⟩
    rw [look_no (fun e => hk (hsub.subset (by rw [List.map_map] at e; exact e)))]
    cases hl : lookF k (runN (P.take (f + 0)) [rootF]) with
    | none => rfl
    | some q => exact absurd (h.names.2 ⟨0, h0, q, hl⟩) hk
theorem Chosen.fine {St : List Sl} {P : List (Fl × List Fl)} {f : Nat} {cs : List Nat} (h : Chosen St P f cs) : areF ((rowsQ St (pathsF (St.map nms)) cs).map (·.q)) = true ∧ ∀ x ∈ rowsQ St (pathsF (St.map nms)) cs, GoodF ⟨x.q.nm, x.q.b, bare x.q.st⟩ := by
  have hall : ∀ x ∈ rowsQ St (pathsF (St.map nms)) cs, ∃ (names : List (List UInt8)) (q : Fi), GoodF q ∧ x.q = toldF names q := by
    intro x hx
    obtain ⟨c, hc, hm⟩ := rows_mem hx
    have hcl := h.lt c hc
    have h1 := h.st.at c hcl
    have : x.q ∈ allF (runN (P.take (f + c)) [rootF]) := by rw [← h1]; exact List.mem_map.2 ⟨x, hm, rfl⟩
    unfold allF at this
    obtain ⟨p, hp, he⟩ := List.mem_map.1 this
    obtain ⟨q, hq⟩ := name_look.1 ((sortP_is _).mem_iff.1 hp)
    rw [hq] at he
    exact ⟨_, q, (gr _).all q (look_nm hq).2, he.symm⟩
  have hsub := rows_sub St (pathsF (St.map nms)) cs
  have hrt : [47] ∈ pathsF (St.map nms) := by
    have h0 : 0 < St.length := List.length_pos_iff.2 h.ne
    exact h.names.2 ⟨0, h0, name_look.1 (gr _).root⟩
  have hup := pathsF_up (St.map nms)
  obtain ⟨ps, hps⟩ : ∃ ps, pathsF (St.map nms) = [47] :: ps := by
    cases hp : pathsF (St.map nms) with
    | nil => rw [hp] at hrt; simp at hrt
    | cons x ps =>
      rw [hp] at hrt hup
      by_cases hx : x = [47]
      · exact ⟨ps, by rw [hx]⟩
      · exfalso
        have hxr : PA.right x = true := by
          obtain ⟨c, hc, q, hq⟩ := h.names.1 (show x ∈ pathsF (St.map nms) by rw [hp]; exact .head _)
          have := ((gr _).all q (look_nm hq).2).rt
          rwa [(look_nm hq).1] at this
        have h1 := root_le hxr hx
        rcases List.mem_cons.1 hrt with e | e
        · exact hx e.symm
        · exact plt_irrefl _ (plt_trans h1 ((List.pairwise_cons.1 hup).1 _ e))
  obtain ⟨c, cs', hcs⟩ : ∃ c cs', cs = c :: cs' := by
    cases hc : cs with
    | nil => have := h.len; rw [hc, hps] at this; simp at this
    | cons c cs' => exact ⟨c, cs', rfl⟩
  have hcl : c < St.length := h.lt c (by rw [hcs]; exact .head _)
  obtain ⟨q0, hq0⟩ := name_look.1 (gr (P.take (f + c))).root
  have hat := at_all (h.st.at c hcl) [47]
  rw [hq0] at hat
  obtain ⟨x0, hx0, hx0q⟩ : ∃ x0, atF (nthS St c) [47] = some x0 ∧ x0.q.nm = [47] := by
    cases ha : atF (nthS St c) [47] with
    | none => rw [ha] at hat; cases hat
    | some x => exact ⟨x, rfl, (atF_nm ha).1⟩
  have hrows : rowsQ St (pathsF (St.map nms)) cs = x0 :: rowsQ St ps cs' := by
    rw [hps, hcs]
    unfold rowsQ
    rw [List.zip_cons_cons, List.filterMap_cons]
    simp only [hx0]
  refine ⟨areF_of ?_ ?_ ?_ ?_, ?_⟩
  · rw [hrows]; exact hx0q
  · rw [hrows]; simp
  · rw [List.pairwise_map]
    have := hup.sublist hsub
    rw [List.pairwise_map] at this
    exact this
  · intro q hq
    obtain ⟨x, hx, rfl⟩ := List.mem_map.1 hq
    obtain ⟨names, q, hg, he⟩ := hall x hx
    rw [he]; exact told_ok hg names
  · intro x hx
    obtain ⟨names, q, hg, he⟩ := hall x hx
    rw [he, bare_told hg]; exact hg
theorem take_drop_cat {α : Type} (P : List α) {a b c : Nat} (h1 : a ≤ b) (h2 : b ≤ c) : (P.take c).drop a = (P.take b).drop a ++ (P.take c).drop b := by
  have e : ∀ T : List α, T.drop a = (T.take b).drop a ++ T.drop b := by
    intro T
    conv => lhs; rw [← List.take_append_drop b T]
    rw [List.drop_append]
    congr 1
    by_cases h : a ≤ T.length
    · have : a - (T.take b).length = 0 := by rw [List.length_take]; omega
      rw [this, List.drop_zero]
    · rw [List.drop_eq_nil_of_le (show T.length ≤ b by omega)]; simp
  rw [e (P.take c), List.take_take, Nat.min_eq_left h2]
theorem run_cat (P : List (Fl × List Fl)) {a b : Nat} (h : a ≤ b) (N : List Fi) (S : List Si.Fi) : runN ((P.take b).drop a) (runN (P.take a) N) = runN (P.take b) N ∧ runS ((P.take b).drop a) (runS (P.take a) S) = runS (P.take b) S := by
  rw [← runN_app, ← runS_app]
  have : P.take a ++ (P.take b).drop a = P.take b := by
    have := List.take_append_drop a (P.take b)
    rwa [List.take_take, Nat.min_eq_left h] at this
  rw [this]; exact ⟨rfl, rfl⟩
theorem Chosen.again {St : List Sl} {P : List (Fl × List Fl)} {f t : Nat} {cs : List Nat} (h : Chosen St P f cs) (hl : f + St.length = t + 1) (k : List UInt8) :
    lookF k (runN ((P.take t).drop f) (loadF ((rowsQ St (pathsF (St.map nms)) cs).map (·.q)))) = lookF k (runN (P.take t) [rootF]) := by
  obtain ⟨c, hc, he⟩ := h.look k
  have hsub := rows_sub St (pathsF (St.map nms)) cs
  have hM : nam (loadF ((rowsQ St (pathsF (St.map nms)) cs).map (·.q))) := by
    unfold loadF
    generalize (rowsQ St (pathsF (St.map nms)) cs).map (·.q) = l
    have : ∀ (l : List Fi) (N : List Fi), nam N → nam (l.foldl (fun N q => putF ⟨q.nm, q.b, bare q.st⟩ N) N) := by
      intro l
      induction l with
      | nil => intro N h; exact h
      | cons x l ih => intro N h; exact ih _ (nam_put _ h)
    exact this l [] (by simp [nam])
  rw [take_drop_cat P (a := f) (b := f + c) (c := t) (by omega) (by omega), runN_app]
  have h1 := run_cat P (a := f) (b := f + c) (by omega) [rootF] []
  have h2 := run_cat P (a := f + c) (b := t) (by omega) [rootF] []
  rw [againN (N := runN (P.take f) [rootF]) hM (gr _).nm (by rw [he, h1.1]), h1.1, h2.1]
namespace Si
set_option linter.unusedSimpArgs false
set_option linter.unusedVariables false
structure GoodS (S : List Fi) : Prop where
  nm : nam S
  pos : ∀ q ∈ S, 0 < q.nm
theorem mem_putF {p : Fi} : ∀ {N : List Fi} {q : Fi}, q ∈ putF p N → q = p ∨ q ∈ N
  | [], q, h => by simp [putF] at h; exact .inl h
  | x :: N, q, h => by
    unfold putF at h
    split at h
    · rcases List.mem_cons.1 h with h | h
      · exact .inl h
      · exact .inr (.tail _ h)
    · rcases List.mem_cons.1 h with h | h
      · exact .inr (by rw [h]; exact .head _)
      · exact (mem_putF h).imp id (.tail _)
theorem GoodS.put {S : List Fi} (h : GoodS S) {p : Fi} (hp : 0 < p.nm) : GoodS (putF p S) :=
  ⟨nam_put p h.nm, fun q hq => by rcases mem_putF hq with rfl | hq; exact hp; exact h.pos q hq⟩
theorem GoodS.ap {S : List Fi} (h : GoodS S) (f : Go.Proofs.YtcdnfgibcochhaaGreatDoor.Fl) (ps : List Go.Proofs.YtcdnfgibcochhaaGreatDoor.Fl) : GoodS (apS f ps S) := by
  unfold apS
  cases hr : rightD f ps with
  | false => exact h
  | true =>
    simp only [if_true]
    have hz : 0 < f.zxid := by
      simp only [rightD, Bool.and_eq_true, decide_eq_true_eq] at hr
      exact hr.1.1.2
    have h1 : GoodS (doS f S) := by
      unfold doS
      split
      · exact h.put hz
      · split
        · exact ⟨nam_del _ h.nm, fun q hq => h.pos q ((sub_del _ S).subset hq)⟩
        · exact h
    unfold turnS
    cases hl : lookF f.session (doS f S) with
    | none => exact h1
    | some q => exact h1.put (h1.pos q (look_nm hl).2)
theorem goodS_run : ∀ (P : List (Go.Proofs.YtcdnfgibcochhaaGreatDoor.Fl × List Go.Proofs.YtcdnfgibcochhaaGreatDoor.Fl)) {S : List Fi}, GoodS S → GoodS (runS P S)
  | [], _, h => h
  | p :: P, _, h => goodS_run P (h.ap p.1 p.2)
theorem gs (P : List (Go.Proofs.YtcdnfgibcochhaaGreatDoor.Fl × List Go.Proofs.YtcdnfgibcochhaaGreatDoor.Fl)) : GoodS (runS P []) := goodS_run P ⟨by simp [nam], by simp⟩
def sitsF (S : List Fi) : List Fi := (sortS (S.map (·.nm))).map fun k => (lookF k S).getD ⟨k, 0, 0⟩
theorem name_look {N : List Fi} {k : Int} : k ∈ N.map (·.nm) ↔ ∃ q, lookF k N = some q := by
  constructor
  · intro h
    cases hq : lookF k N with
    | some q => exact ⟨q, rfl⟩
    | none =>
      exfalso
      induction N with
      | nil => simp at h
      | cons x N ih =>
        unfold lookF at hq
        split at hq
        · cases hq
        · next hx =>
          rw [List.map_cons] at h
          rcases List.mem_cons.1 h with h | h
          · exact hx h.symm
          · exact ih h hq
  · rintro ⟨q, hq⟩
    obtain ⟨h1, h2⟩ := look_nm hq
    exact List.mem_map.2 ⟨q, h2, h1⟩
theorem sits_nm (S : List Fi) : (sitsF S).map (·.nm) = sortS (S.map (·.nm)) := by
  unfold sitsF
  rw [List.map_map]
  conv => rhs; rw [← List.map_id (sortS (S.map (·.nm)))]
  apply List.map_congr_left
  intro p hp
  show ((lookF p S).getD ⟨p, 0, 0⟩).nm = p
  cases h : lookF p S with
  | none => rfl
  | some q => exact (look_nm h).1
theorem look_map (S : List Fi) (k : Int) : ∀ l : List Int, lookF k (l.map fun k => (lookF k S).getD ⟨k, 0, 0⟩) = if k ∈ l then some ((lookF k S).getD ⟨k, 0, 0⟩) else none
  | [] => by simp [lookF]
  | x :: l => by
    have hx : ((lookF x S).getD ⟨x, 0, 0⟩).nm = x := by
      cases h : lookF x S with
      | none => rfl
      | some q => exact (look_nm h).1
    rw [List.map_cons]
    conv => lhs; unfold lookF
    rw [hx, look_map S k l]
    by_cases h : x = k
    · rw [if_pos h, if_pos (by rw [h]; exact .head _), h]
    · rw [if_neg h]
      by_cases h2 : k ∈ l
      · rw [if_pos h2, if_pos (.tail _ h2)]
      · rw [if_neg h2, if_neg (fun e => by rcases List.mem_cons.1 e with e | e; exact h e.symm; exact h2 e)]
theorem sits_look (S : List Fi) (k : Int) : lookF k (sitsF S) = lookF k S := by
  unfold sitsF
  rw [look_map]
  have hm : k ∈ sortS (S.map (·.nm)) ↔ k ∈ S.map (·.nm) := (List.mergeSort_perm _ _).mem_iff
  cases hl : lookF k S with
  | none =>
    rw [if_neg (fun e => by
      obtain ⟨q, hq⟩ := name_look.1 (hm.1 e)
      rw [hl] at hq; cases hq)]
  | some q => rw [if_pos (hm.2 (name_look.2 ⟨q, hl⟩))]; rfl
theorem seat_fold (k : Int) : ∀ (l : List Fi) (N : List Fi), nam l → (∀ q ∈ l, 0 < q.nm) → lookF k (l.foldl (fun S q => if 0 < q.nm then putF q S else S) N) = match lookF k l with | some q => some q | none => lookF k N
  | [], N, _, _ => rfl
  | x :: l, N, hn, hp => by
    have hn' : x.nm ∉ l.map (·.nm) ∧ nam l := by unfold nam at hn ⊢; simpa using hn
    rw [List.foldl_cons, seat_fold k l _ hn'.2 (fun q hq => hp q (.tail _ hq)), if_pos (hp x (.head _)), look_put]
    by_cases h : x.nm = k
    · have h1 : lookF k l = none := look_no (by rw [← h]; exact hn'.1)
      have h2 : lookF k (x :: l) = some x := by unfold lookF; rw [if_pos h]
      rw [h1, h2]
      simp [h]
    · have h2 : lookF k (x :: l) = lookF k l := by conv => lhs; unfold lookF; rw [if_neg h]
      rw [h2]
      cases lookF k l with
      | some q => rfl
      | none => simp only; rw [if_neg (fun e => h e.symm)]
theorem seat_look {S : List Fi} (h : GoodS S) (k : Int) : lookF k (seatF (sitsF S)) = lookF k S := by
  have hn : nam (sitsF S) := by
    unfold nam
    rw [sits_nm]
    exact (List.mergeSort_perm _ _).nodup_iff.2 h.nm
  have hp : ∀ q ∈ sitsF S, 0 < q.nm := by
    intro q hq
    have : q.nm ∈ (sitsF S).map (·.nm) := List.mem_map.2 ⟨q, hq, rfl⟩
    rw [sits_nm] at this
    have hm : q.nm ∈ sortS (S.map (·.nm)) ↔ q.nm ∈ S.map (·.nm) := (List.mergeSort_perm _ _).mem_iff
    obtain ⟨q', h1, h2⟩ := List.mem_map.1 (hm.1 this)
    rw [← h2]; exact h.pos q' h1
  unfold seatF
  rw [seat_fold k _ [] hn hp, sits_look]
  cases lookF k S <;> rfl
theorem seat_nam (l : List Fi) : nam (seatF l) := by
  have : ∀ (l : List Fi) (N : List Fi), nam N → nam (l.foldl (fun S q => if 0 < q.nm then putF q S else S) N) := by
    intro l
    induction l with
    | nil => intro N h; exact h
    | cons x l ih =>
      intro N h
      rw [List.foldl_cons]
      apply ih
      split
      · exact nam_put _ h
      · exact h
  exact this l [] (by simp [nam])
/- The sittings of a state behind f deeds or more, up to t. -/
theorem again_sits (P : List (Go.Proofs.YtcdnfgibcochhaaGreatDoor.Fl × List Go.Proofs.YtcdnfgibcochhaaGreatDoor.Fl)) {f c t : Nat} (h1 : f ≤ c) (h2 : c ≤ t) (k : Int) : lookF k (runS ((P.take t).drop f) (seatF (sitsF (runS (P.take c) [])))) = lookF k (runS (P.take t) []) := by
  rw [take_drop_cat P h1 h2, runS_app]
  have e1 := run_cat P (a := f) (b := c) h1 [] []
  have e2 := run_cat P (a := c) (b := t) h2 [] []
  rw [againS (N := runS (P.take f) []) (seat_nam _) (gs _).nm (by rw [seat_look (gs _), e1.2]), e1.2, e2.2]
end Si
end Go.Proofs.YtcdnfgibcochhaaGreatDoor
