/- What one round of Scan does to what it holds: a deed more, an end more, the last zxid and the place. -/
import Derived.Test.YtogikhondibifaaDoorSgB
namespace Go.Proofs.YtogikhondibifaaDoor.DD
set_option linter.unusedVariables false
open Go.RowKit
set_option linter.unusedVariables false

structure Rw (N : Nat) (els : List El2) (es : List Value) (vd ve : Value) (z t : Int) (W : World) : Prop where
  bd : Boxed W N 35 vd
  be : Boxed W (N + 1) 39 ve
  rd : W.ownsRow (N + 7) 37 16 vd els.length (evd2 els)
  re : W.ownsRow (N + 7) 3 1 ve es.length es
  at' : ∀ e ∈ els, EAt W (RB N vd ve) e
  la : Boxed W (N + 2) 24 (.int .i64 z)
  too : Boxed W (N + 3) 3 (.int .i64 t)
theorem Sc.rw' {l : List UInt8} {N t : Nat} {its : List It} {els : List El2} {vd ve : Value} {W : World} (h : Sc l N t its els vd ve W) : Rw N els ((endsF 0 its).map nI) vd ve (lastZ 0 its) t W := by
  have e1 : els.length = its.length := by rw [← h.el, List.length_map]
  have e2 : ((endsF 0 its).map nI).length = its.length := by rw [List.length_map, endsF_len]
  exact ⟨h.bd, h.be, by rw [e1]; exact h.rd, by rw [e2]; exact h.re, h.at', h.la, h.too⟩
theorem Rw.sc {l : List UInt8} {N t : Nat} {its : List It} {els : List El2} {vd ve : Value} {W : World} (h : Rw N els ((endsF 0 its).map nI) vd ve (lastZ 0 its) t W) (he : els.map El2.p = its) (tt : t = (catI its).length) (tl : t ≤ l.length) (sc : scanF l 0 = its ++ scanF (l.drop t) (lastZ 0 its)) : Sc l N t its els vd ve W := by
  have e1 : els.length = its.length := by rw [← he, List.length_map]
  have e2 : ((endsF 0 its).map nI).length = its.length := by rw [List.length_map, endsF_len]
  have h1 := h.rd
  have h2 := h.re
  rw [e1] at h1
  rw [e2] at h2
  exact ⟨he, h.bd, h.be, h1, h2, h.at', h.la, h.too, tt, tl, sc⟩
theorem Rw.apart {N : Nat} {els : List El2} {es : List Value} {vd ve : Value} {z t : Int} {W : World} (h : Rw N els es vd ve z t W) (k : Nat) (h1 : vd.ownBlock = some k) : ve.ownBlock ≠ some k := by
  intro h2
  obtain ⟨c1, g1⟩ := own_cells h.rd h1
  obtain ⟨c2, g2⟩ := own_cells h.re h2
  rw [g1] at g2
  cases g2
theorem keeps_chg {S : Nat → Prop} {W W' : World} (hc : Chg S W W') (h : ∀ k o, S k → W.heap[k]? = some o → o.isCells = true) : KeepsOthers W W' :=
  ⟨hc.size, fun k o hk ho => (hc.block k (Array.getElem?_eq_some_iff.1 hk).1 (fun e => by rw [h k o e hk] at ho; cases ho)).trans hk⟩
theorem keeps_own {W W' : World} {base T size n : Nat} {v : Value} {xs : List Value} (h : W.ownsRow base T size v n xs) (hc : Chg (fun i => v.ownBlock = some i) W W') : KeepsOthers W W' :=
  keeps_chg hc (fun k o e hk => by obtain ⟨c, hg⟩ := own_cells h e; rw [hg] at hk; cases hk; rfl)
/- A deed more. -/
theorem Rw.deed {N : Nat} {els : List El2} {es : List Value} {vd ve : Value} {z t : Int} {W W6 : World} (h : Rw N els es vd ve z t W) {g cap : Nat} {e0 : El2} (ho : W6.ownsRow (N + 7) 37 16 (.slice (some ⟨g, 0, none⟩) (els.length + 1) cap) (els.length + 1) (evd2 els ++ ev2 e0)) (hc : Chg (fun i => vd.ownBlock = some i) W W6) (hg : vd.ownBlock = some g ∨ W.heap.size ≤ g) (hN : N + 7 ≤ W.heap.size) (he : EAt W (RB N vd ve) e0) :
    Rw N (els ++ [e0]) es (.slice (some ⟨g, 0, none⟩) (els.length + 1) cap) ve z t (W6.setCell ⟨N, 0, none⟩ (.slice (some ⟨g, 0, none⟩) (els.length + 1) cap)) ∧ Boxed W6 N 35 vd ∧ KeepsOthers W (W6.setCell ⟨N, 0, none⟩ (.slice (some ⟨g, 0, none⟩) (els.length + 1) cap)) ∧ Chg (fun i => vd.ownBlock = some i ∨ i = N) W (W6.setCell ⟨N, 0, none⟩ (.slice (some ⟨g, 0, none⟩) (els.length + 1) cap)) := by
  have hlt : ∀ k, vd.ownBlock = some k → N + 7 ≤ k ∧ k < W.heap.size := h.rd.lt
  have hgN : N + 7 ≤ g := by
    rcases hg with e | e
    · exact (hlt g e).1
    · omega
  have b6 : Boxed W6 N 35 vd := boxed_chg h.bd hc (fun e => by have := (hlt _ e).1; omega)
  have c7 : Chg (fun i => vd.ownBlock = some i ∨ i = N) W (W6.setCell ⟨N, 0, none⟩ (.slice (some ⟨g, 0, none⟩) (els.length + 1) cap)) := (hc.weak (fun _ _ e => .inl e)).trans (Chg.setCell W6 ⟨N, 0, none⟩ _ (.inr rfl))
  have key : ∀ e, EAt W (RB N vd ve) e → EAt (W6.setCell ⟨N, 0, none⟩ (.slice (some ⟨g, 0, none⟩) (els.length + 1) cap)) (RB N (.slice (some ⟨g, 0, none⟩) (els.length + 1) cap) ve) e := by
    intro e he
    refine he.keep c7 (fun k hk hn => ⟨fun e => ?_, fun e => ?_⟩)
    · rcases e with e | e
      · exact hn (.inr (.inl e))
      · exact hn (.inl ⟨by omega, by omega⟩)
    · rcases e with e | e | e
      · exact hn (.inl e)
      · have e' : g = k := Option.some.inj e
        subst e'
        rcases hg with q | q
        · exact hn (.inr (.inl q))
        · omega
      · exact hn (.inr (.inr e))
  refine ⟨⟨b6.set _, boxed_chg h.be c7 (fun e => ?_), ?_, ?_, fun e he' => ?_, boxed_chg h.la c7 (fun e => ?_), boxed_chg h.too c7 (fun e => ?_)⟩, b6, (keeps_own h.rd hc).trans (KeepsOthers.setCell _ _ _), c7⟩
  · rcases e with e | e
    · have := (hlt _ e).1; omega
    · omega
  · rw [List.length_append, evd2_app]
    exact owns_keep ho (Chg.setCell (S := fun k => k = N) W6 ⟨N, 0, none⟩ _ rfl) (fun k hk e => by have e' : g = k := Option.some.inj hk; omega)
  · refine owns_keep h.re c7 (fun k hk e => ?_)
    rcases e with e | e
    · exact h.apart k e hk
    · have := (h.re.lt k hk).1; omega
  · rcases List.mem_append.1 he' with q | q
    · exact key e (h.at' e q)
    · rw [List.mem_singleton.1 q]; exact key _ he
  · rcases e with e | e
    · have := (hlt _ e).1; omega
    · omega
  · rcases e with e | e
    · have := (hlt _ e).1; omega
    · omega
/- An end more. -/
theorem Rw.fin {N : Nat} {els : List El2} {es : List Value} {vd ve : Value} {z t : Int} {W W6 : World} (h : Rw N els es vd ve z t W) {g cap : Nat} {n : Int} (ho : W6.ownsRow (N + 7) 3 1 (.slice (some ⟨g, 0, none⟩) (es.length + 1) cap) (es.length + 1) (es ++ [.int .i64 n])) (hc : Chg (fun i => ve.ownBlock = some i) W W6) (hg : ve.ownBlock = some g ∨ W.heap.size ≤ g) (hN : N + 7 ≤ W.heap.size) :
    Rw N els (es ++ [.int .i64 n]) vd (.slice (some ⟨g, 0, none⟩) (es.length + 1) cap) z t (W6.setCell ⟨N + 1, 0, none⟩ (.slice (some ⟨g, 0, none⟩) (es.length + 1) cap)) ∧ Boxed W6 (N + 1) 39 ve ∧ KeepsOthers W (W6.setCell ⟨N + 1, 0, none⟩ (.slice (some ⟨g, 0, none⟩) (es.length + 1) cap)) ∧ Chg (fun i => ve.ownBlock = some i ∨ i = N + 1) W (W6.setCell ⟨N + 1, 0, none⟩ (.slice (some ⟨g, 0, none⟩) (es.length + 1) cap)) := by
  have hlt : ∀ k, ve.ownBlock = some k → N + 7 ≤ k ∧ k < W.heap.size := h.re.lt
  have hgN : N + 7 ≤ g := by
    rcases hg with e | e
    · exact (hlt g e).1
    · omega
  have b6 : Boxed W6 (N + 1) 39 ve := boxed_chg h.be hc (fun e => by have := (hlt _ e).1; omega)
  have c7 : Chg (fun i => ve.ownBlock = some i ∨ i = N + 1) W (W6.setCell ⟨N + 1, 0, none⟩ (.slice (some ⟨g, 0, none⟩) (es.length + 1) cap)) := (hc.weak (fun _ _ e => .inl e)).trans (Chg.setCell W6 ⟨N + 1, 0, none⟩ _ (.inr rfl))
  have far : ∀ j, j < 4 → j ≠ 1 → ¬ (ve.ownBlock = some (N + j) ∨ N + j = N + 1) := by
    intro j hj h1 e
    rcases e with e | e
    · have := (hlt _ e).1; omega
    · omega
  refine ⟨⟨boxed_chg h.bd c7 (far 0 (by omega) (by omega)), b6.set _, ?_, ?_, fun e he => ?_, boxed_chg h.la c7 (far 2 (by omega) (by omega)), boxed_chg h.too c7 (far 3 (by omega) (by omega))⟩, b6, (keeps_own h.re hc).trans (KeepsOthers.setCell _ _ _), c7⟩
  · refine owns_keep h.rd c7 (fun k hk e => ?_)
    rcases e with e | e
    · exact h.apart k hk e
    · have := (h.rd.lt k hk).1; omega
  · rw [List.length_append]
    exact owns_keep ho (Chg.setCell (S := fun k => k = N + 1) W6 ⟨N + 1, 0, none⟩ _ rfl) (fun k hk e => by have e' : g = k := Option.some.inj hk; omega)
  · refine (h.at' e he).keep c7 (fun k hk hn => ⟨fun e => ?_, fun e => ?_⟩)
    · rcases e with e | e
      · exact hn (.inr (.inr e))
      · exact hn (.inl ⟨by omega, by omega⟩)
    · rcases e with e | e | e
      · exact hn (.inl e)
      · exact hn (.inr (.inl e))
      · have e' : g = k := Option.some.inj e
        subst e'
        rcases hg with q | q
        · exact hn (.inr (.inr q))
        · omega
/- The last zxid, and how far. -/
theorem Rw.last {N : Nat} {els : List El2} {es : List Value} {vd ve : Value} {z t : Int} {W : World} (h : Rw N els es vd ve z t W) (z' t' : Int) :
    Rw N els es vd ve z' t' ((W.setCell ⟨N + 2, 0, none⟩ (.int .i64 z')).setCell ⟨N + 3, 0, none⟩ (.int .i64 t')) ∧ KeepsOthers W ((W.setCell ⟨N + 2, 0, none⟩ (.int .i64 z')).setCell ⟨N + 3, 0, none⟩ (.int .i64 t')) ∧ Chg (fun i => i = N + 2 ∨ i = N + 3) W ((W.setCell ⟨N + 2, 0, none⟩ (.int .i64 z')).setCell ⟨N + 3, 0, none⟩ (.int .i64 t')) := by
  have c7 : Chg (fun i => i = N + 2 ∨ i = N + 3) W ((W.setCell ⟨N + 2, 0, none⟩ (.int .i64 z')).setCell ⟨N + 3, 0, none⟩ (.int .i64 t')) := (Chg.setCell W ⟨N + 2, 0, none⟩ _ (.inl rfl)).trans (Chg.setCell _ ⟨N + 3, 0, none⟩ _ (.inr rfl))
  have c2 : Chg (fun i => i = N + 2) W (W.setCell ⟨N + 2, 0, none⟩ (.int .i64 z')) := Chg.setCell W ⟨N + 2, 0, none⟩ _ rfl
  refine ⟨⟨boxed_chg h.bd c7 (by omega), boxed_chg h.be c7 (by omega), owns_keep h.rd c7 (fun k hk e => by have := (h.rd.lt k hk).1; omega), owns_keep h.re c7 (fun k hk e => by have := (h.re.lt k hk).1; omega), fun e he => (h.at' e he).keep c7 (fun k hk hn => ⟨fun e => hn (.inl ⟨by omega, by omega⟩), hn⟩), (h.la.set _).other (by omega) _, (boxed_chg h.too c2 (by omega)).set _⟩, (KeepsOthers.setCell _ _ _).trans (KeepsOthers.setCell _ _ _), c7⟩
theorem Sc.next {l b : List UInt8} {N t : Nat} {its : List It} {els : List El2} {vd ve : Value} {W : World} (h : Sc l N t its els vd ve W) {f : Fl} {ps : List Fl} (hu : unframe (l.drop t) = some b) (hd : deedOf b = some (f, ps)) (hz : ¬ f.zxid ≤ lastZ 0 its) {e0 : El2} (he : e0.p = (f, ps)) {vd' ve' : Value} {W' : World}
    (hR : Rw N (els ++ [e0]) ((endsF 0 its).map nI ++ [.int .i64 ((t : Int) + (8 + (b.length : Int)))]) vd' ve' f.zxid ((t : Int) + (8 + (b.length : Int))) W') : Sc l N (t + (8 + b.length)) (its ++ [(f, ps)]) (els ++ [e0]) vd' ve' W' := by
  obtain ⟨d1, d2, d3⟩ := (deedOf_iff b f ps).1 hd
  have hl := (unframe_whole hu).2.2
  rw [List.length_drop] at hl
  have hi : (itB (f, ps)).length = 8 + b.length := by rw [itB_len, d1]
  have e1 : ((endsF 0 (its ++ [(f, ps)])).map nI) = (endsF 0 its).map nI ++ [.int .i64 ((t : Int) + (8 + (b.length : Int)))] := by
    rw [endsF_app, List.map_append, hi, ← h.tt]
    simp [nI]
  refine Rw.sc ?_ ?_ ?_ ?_ ?_
  · rw [e1, lastZ_app]
    have : ((t + (8 + b.length) : Nat) : Int) = (t : Int) + (8 + (b.length : Int)) := by omega
    rw [this]
    exact hR
  · rw [List.map_append, h.el]
    show its ++ [e0.p] = _
    rw [he]
  · rw [catI_app, catI_one, List.length_append, ← h.tt, hi]
  · have := h.tl
    omega
  · rw [lastZ_app, h.sc, scanF_step hu hd hz, List.append_assoc, List.drop_drop]
    rfl
theorem set_comm (w : World) (a b : Addr) (u v : Value) (h : a.block ≠ b.block) : (w.setCell a u).setCell b v = (w.setCell b v).setCell a u := by
  have e : ((w.setCell a u).setCell b v).heap = ((w.setCell b v).setCell a u).heap := by
    apply Array.ext_getElem?
    intro i
    simp only [World.setCell, Array.getElem?_modify]
    by_cases h1 : a.block = i
    · by_cases h2 : b.block = i
      · exact absurd (h1.trans h2.symm) h
      · simp [h1, h2]
    · by_cases h2 : b.block = i
      · simp [h1, h2]
      · simp [h1, h2]
  show World.mk _ _ _ _ _ = World.mk _ _ _ _ _
  congr 1
theorem set_setCells (w : World) (a : Addr) (u : Value) (g : Nat) (h : a.block ≠ g) : ∀ (us : List Value) (o : Nat) (w : World), (w.setCell a u).setCells g o us = (w.setCells g o us).setCell a u
  | [], _, _ => rfl
  | v :: us, o, w => by
    show ((w.setCell a u).setCell ⟨g, o, none⟩ v).setCells g (o + 1) us = _
    rw [set_comm w a ⟨g, o, none⟩ u v h, set_setCells w a u g h us (o + 1)]
    rfl
theorem chain16 (w : World) (g o : Nat) (v0 v1 v2 v3 v4 v5 v6 v7 v8 v9 v10 v11 v12 v13 v14 v15 : Value) : ((((((((((((((((w.setCell ⟨g, o, none⟩ v0).setCell ⟨g, o + 1, none⟩ v1).setCell ⟨g, o + 2, none⟩ v2).setCell ⟨g, o + 3, none⟩ v3).setCell ⟨g, o + 4, none⟩ v4).setCell ⟨g, o + 5, none⟩ v5).setCell ⟨g, o + 6, none⟩ v6).setCell ⟨g, o + 7, none⟩ v7).setCell ⟨g, o + 8, none⟩ v8).setCell ⟨g, o + 9, none⟩ v9).setCell ⟨g, o + 10, none⟩ v10).setCell ⟨g, o + 11, none⟩ v11).setCell ⟨g, o + 12, none⟩ v12).setCell ⟨g, o + 13, none⟩ v13).setCell ⟨g, o + 14, none⟩ v14).setCell ⟨g, o + 15, none⟩ v15) = w.setCells g o [v0, v1, v2, v3, v4, v5, v6, v7, v8, v9, v10, v11, v12, v13, v14, v15] := rfl
theorem at_world {Q : Exit → Act → World → Prop} {e : Exit} {a : Act} {w w' : World} (h : w = w') (hq : Q e a w') : Q e a w := h ▸ hq
theorem at_then {K : Act → World → Prop} {Q : Exit → Act → World → Prop} {a : Act} {w w' : World} (h : w = w') (hq : Exit.then K Q .normal a w') : Exit.then K Q .normal a w := h ▸ hq
end Go.Proofs.YtogikhondibifaaDoor.DD
