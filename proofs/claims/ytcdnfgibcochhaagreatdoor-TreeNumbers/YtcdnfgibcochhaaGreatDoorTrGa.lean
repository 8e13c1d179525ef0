/- The walk of TreeTwice. Trees: what deeds have made may be all nodes of a tree; a deed done again changes nothing, whatever stood there between. -/
import Derived.Test.YtcdnfgibcochhaaGreatDoorTrUa
import Derived.Test.YtcdnfgibcochhaaGreatDoorTrAk
import Derived.Test.YtcdnfgibcochhaaGreatDoorTrPa
import Derived.Test.YtcdnfgibcochhaaGreatDoorTrLb
namespace Go.Proofs.YtcdnfgibcochhaaGreatDoor
set_option linter.unusedSimpArgs false
set_option linter.unusedVariables false
open Go.RowKit Go.MapKept
set_option linter.unusedVariables false
set_option linter.unusedSimpArgs false

/- A tree, and one that it parts from nowhere. -/
def Li (N M : List Fi) (S R : List Si.Fi) : Prop := (∀ k, lookF k N = lookF k M) ∧ ∀ k, Si.lookF k S = Si.lookF k R
def apN (f : Fl) (ps : List Fl) (N : List Fi) : List Fi := if rightD f ps then deN f ps N else N
def apS (f : Fl) (ps : List Fl) (S : List Si.Fi) : List Si.Fi := if rightD f ps then turnS f.session f.turn (doS f S) else S
theorem Li.twice {N M : List Fi} {S R : List Si.Fi} (h : Li N M S R) (f : Fl) (ps : List Fl) (n1 : nam N) (n2 : nam M) (n3 : Si.nam S) (n4 : Si.nam R) : Li (apN f ps N) (apN f ps (apN f ps M)) (apS f ps S) (apS f ps (apS f ps R)) := by
  unfold apN apS
  cases hr : rightD f ps with
  | false => simpa using h
  | true =>
    simp only [if_true]
    exact ⟨fun k => (deN_act f ps).twice n1 n2 h.1 k, fun k => (Si.sit_act f).twice n3 n4 h.2 k⟩
theorem mn_below {w w' : World} {B t m n : Nat} (hc : Chg (Mn m n) w w') (hl : ∀ k, Wt t m n k → B ≤ k) (hB : B ≤ w.heap.size) : Below B w w' := hc.below (fun k e => by rcases e with rfl | rfl; exact hl _ (.inr (.inl rfl)); exact hl _ (.inr (.inr rfl))) hB
set_option maxRecDepth 100000 in
set_option maxHeartbeats 400000 in
theorem great_any (w : World) (f : Fl) (A1 A2 A3 : Option Addr) (c1 c2 c3 : Nat) (hn : f.np ≤ 9223372036854775807) : Calls Tryz.prog 29 #[.agg (dA f A1 A2 A3 c1 c2 c3)] w fun e w' => e = .returned (.bool (decide (60 < f.np))) ∧ Below w.heap.size w w' := by
  have hb := lay1 w (.cells (dA f A1 A2 A3 c1 c2 c3) 31)
  have HB : Hid (Below w.heap.size w (w.alloc (.cells (dA f A1 A2 A3 c1 c2 c3) 31))) := hb
  clear hb
  simp only [dA] at HB ⊢
  generalize f.np = k at *
  have hd : decide ((60 : Int) < (k : Int)) = decide (60 < k) := by simp only [decide_eq_decide]; omega
  go_enter Tryz.func29, Tryz.ntmps29
  go_wp2_with fail
  go_ret
  exact ⟨by first | rfl | simp [hd] | (rw [← hd]; rfl) | (rw [← hd]; simp), HB.out⟩
end Go.Proofs.YtcdnfgibcochhaaGreatDoor

namespace Go.Proofs.YtcdnfgibcochhaaGreatDoor
set_option linter.unusedSimpArgs false
set_option linter.unusedVariables false
set_option linter.unusedSimpArgs false
set_option linter.unusedVariables false
open Go.RowKit Go.MapKept

structure GoodF (q : Fi) : Prop where
  rt : PA.right q.nm = true
  bl : q.b.length ≤ 1000
  cz : 0 ≤ q.st.cz
  mz : 0 ≤ q.st.mz
  pz : 0 ≤ q.st.pz
  ct : 0 ≤ q.st.ct
  mt : 0 ≤ q.st.mt
  ver : 0 ≤ q.st.ver
  cv : 0 ≤ q.st.cv
  own : 0 ≤ q.st.own
  len : q.st.len = 0
  chd : q.st.chd = 0
structure GoodT (N : List Fi) : Prop where
  nm : nam N
  all : ∀ q ∈ N, GoodF q
  root : [47] ∈ N.map (·.nm)
theorem mem_putF {p : Fi} : ∀ {N : List Fi} {q : Fi}, q ∈ putF p N → q = p ∨ q ∈ N
  | [], q, h => by simp [putF] at h; exact .inl h
  | x :: N, q, h => by
    unfold putF at h
    split at h
    · rcases List.mem_cons.1 h with h | h
      · exact .inl h
      · exact .inr (.tail _ h)
    · rcases List.mem_cons.1 h with h | h
      · exact .inr (by rw [h]; exact .head _)
      · exact (mem_putF h).imp id (.tail _)
theorem name_look {N : List Fi} {k : List UInt8} : k ∈ N.map (·.nm) ↔ ∃ q, lookF k N = some q := by
  constructor
  · intro h
    cases hq : lookF k N with
    | some q => exact ⟨q, rfl⟩
    | none =>
      exfalso
      induction N with
      | nil => simp at h
      | cons x N ih =>
        unfold lookF at hq
        split at hq
        · cases hq
        · next hx =>
          rw [List.map_cons] at h
          rcases List.mem_cons.1 h with h | h
          · exact hx h.symm
          · exact ih h hq
  · rintro ⟨q, hq⟩
    obtain ⟨h1, h2⟩ := look_nm hq
    exact List.mem_map.2 ⟨q, h2, h1⟩
theorem GoodT.put {N : List Fi} (h : GoodT N) {p : Fi} (hp : GoodF p) : GoodT (putF p N) := by
  refine ⟨nam_put p h.nm, fun q hq => ?_, ?_⟩
  · rcases mem_putF hq with rfl | hq
    · exact hp
    · exact h.all q hq
  · rw [name_look]
    obtain ⟨q, hq⟩ := name_look.1 h.root
    rw [look_put]
    split
    · exact ⟨_, rfl⟩
    · exact ⟨_, hq⟩
theorem GoodT.del {N : List Fi} (h : GoodT N) {k : List UInt8} (hk : k ≠ [47]) : GoodT (delF k N) := by
  refine ⟨nam_del k h.nm, fun q hq => h.all q ((sub_del k N).subset hq), ?_⟩
  rw [name_look]
  obtain ⟨q, hq⟩ := name_look.1 h.root
  rw [look_del _ _ h.nm, if_neg (fun e => hk e.symm)]
  exact ⟨_, hq⟩
theorem GoodT.par {N : List Fi} (h : GoodT N) (f : Fl) (hc : 0 ≤ f.cversion) (hz : 0 ≤ f.zxid) : GoodT (parN f N) := by
  unfold parN
  cases hq : lookF (PA.parentS f.path) N with
  | none => exact h
  | some q =>
    have g := h.all q (look_nm hq).2
    exact h.put ⟨g.rt, g.bl, g.cz, g.mz, hz, g.ct, g.mt, g.ver, hc, g.own, g.len, g.chd⟩
theorem leaf_all {f : Fl} (h : leafB f = true) : (f.kind = 1 ∨ f.kind = 2 ∨ f.kind = 3) ∧ f.data.length ≤ 1000 ∧ PA.right f.path = true ∧ (f.kind = 3 ∨ f.path ≠ [47]) ∧ 0 ≤ f.owner ∧ 0 ≤ f.version ∧ 0 ≤ f.cversion := by
  simp only [leafB, comB, numsB, isNode, Bool.and_eq_true, Bool.or_eq_true, decide_eq_true_eq] at h
  obtain ⟨⟨⟨h1, ⟨h2, h3⟩, h4⟩, h5⟩, h6⟩ := h
  exact ⟨by omega, h3, h5, h6, h4.1.1.1.1, h4.1.1.1.2, h4.1.1.2⟩
theorem GoodT.doN {N : List Fi} (h : GoodT N) (f : Fl) (hf : leafB f = true) (hz : 0 ≤ f.zxid) (ht : 0 ≤ f.time) : GoodT (doN f N) := by
  obtain ⟨hk, hd, hr, hp, ho, hv, hc⟩ := leaf_all hf
  unfold Go.Proofs.YtcdnfgibcochhaaGreatDoor.doN
  by_cases h1 : f.kind = 1
  · rw [if_pos h1]
    exact (h.put ⟨hr, hd, hz, hz, hz, ht, ht, Int.le_refl _, Int.le_refl _, ho, rfl, rfl⟩).par f hc hz
  rw [if_neg h1]
  by_cases h2 : f.kind = 2
  · rw [if_pos h2]
    exact (h.del (by rcases hp with hp | hp; omega; exact hp)).par f hc hz
  rw [if_neg h2, if_pos (by omega)]
  unfold setN
  cases hq : lookF f.path N with
  | none => exact h
  | some q =>
    have g := h.all q (look_nm hq).2
    exact h.put ⟨hr, hd, g.cz, hz, g.pz, g.ct, ht, hv, g.cv, g.own, rfl, rfl⟩
theorem GoodT.doPs (f : Fl) (hz : 0 ≤ f.zxid) (ht : 0 ≤ f.time) : ∀ (ps : List Fl) {N : List Fi}, GoodT N → (∀ p ∈ ps, leafB p = true) → GoodT (doPs f ps N)
  | [], N, h, _ => h
  | p :: ps, N, h, hp => GoodT.doPs f hz ht ps (h.doN (ptF f p) (by have := hp p (.head _); exact this) hz ht) (fun q hq => hp q (.tail _ hq))
theorem GoodT.deN {N : List Fi} (h : GoodT N) (f : Fl) (ps : List Fl) (hr : rightD f ps = true) : GoodT (deN f ps N) := by
  have hr' := hr
  simp only [rightD, headB, Bool.and_eq_true, decide_eq_true_eq] at hr'
  obtain ⟨⟨⟨⟨⟨⟨⟨hz, _⟩, _⟩, _⟩, ht⟩, _⟩, _⟩, hfit⟩ := hr'
  unfold fitsB at hfit
  unfold Go.Proofs.YtcdnfgibcochhaaGreatDoor.deN
  by_cases hn : isNode f.kind = true
  · rw [if_pos hn] at hfit
    have hk := (leaf_all hfit).1
    rw [if_neg (by omega)]
    exact h.doN f hfit hz ht
  · rw [if_neg hn] at hfit
    have hn' : ¬ (f.kind = 1 ∨ f.kind = 2 ∨ f.kind = 3) := by simpa [isNode, or_assoc] using hn
    simp only [Bool.and_eq_true] at hfit
    obtain ⟨hc, hk⟩ := hfit
    unfold kindB at hk
    by_cases k58 : f.kind = 5 ∨ f.kind = 8
    · rw [if_pos k58]
      refine GoodT.doPs f hz ht ps h fun p hp => ?_
      rcases k58 with k5 | k8
      · rw [if_neg (by omega), if_pos k5] at hk
        simp only [Bool.and_eq_true, decide_eq_true_eq, List.all_eq_true] at hk
        have := hk.2 p hp
        simp only [partB, Bool.and_eq_true] at this
        exact this.2
      · rw [if_neg (by omega), if_neg (by omega), if_neg (by omega), if_neg (by omega), if_pos k8] at hk
        simp only [Bool.and_eq_true, decide_eq_true_eq, List.all_eq_true] at hk
        have := hk.2 p hp
        simp only [partB, Bool.and_eq_true] at this
        exact this.2
    · rw [if_neg k58]
      unfold Go.Proofs.YtcdnfgibcochhaaGreatDoor.doN
      rw [if_neg (by omega), if_neg (by omega), if_neg (by omega)]
      exact h
theorem GoodT.apN {N : List Fi} (h : GoodT N) (f : Fl) (ps : List Fl) : GoodT (apN f ps N) := by
  unfold Go.Proofs.YtcdnfgibcochhaaGreatDoor.apN
  cases hr : rightD f ps with
  | false => exact h
  | true => exact h.deN f ps hr
abbrev rootF : Fi := ⟨[47], [], zeroSt⟩
theorem goodRoot : GoodT [rootF] := ⟨by simp [nam], fun q hq => by
  rw [List.mem_singleton] at hq
  subst hq
  exact ⟨by decide, by decide, by decide, by decide, by decide, by decide, by decide, by decide, by decide, by decide, rfl, rfl⟩, by simp⟩
/- What a row of deeds makes of nodes and sittings. -/
def runN (E : List (Fl × List Fl)) (N : List Fi) : List Fi := E.foldl (fun N p => apN p.1 p.2 N) N
def runS (E : List (Fl × List Fl)) (S : List Si.Fi) : List Si.Fi := E.foldl (fun S p => apS p.1 p.2 S) S
theorem runN_app (X Y : List (Fl × List Fl)) (N : List Fi) : runN (X ++ Y) N = runN Y (runN X N) := by unfold runN; rw [List.foldl_append]
theorem runS_app (X Y : List (Fl × List Fl)) (S : List Si.Fi) : runS (X ++ Y) S = runS Y (runS X S) := by unfold runS; rw [List.foldl_append]
theorem run_take {α : Type} (l : List α) (k : Nat) (hk : k < l.length) : l.take (k + 1) = l.take k ++ [l[k]'hk] := by
  rw [List.take_add_one, List.getElem?_eq_getElem hk]; rfl
theorem goodRun : ∀ (E : List (Fl × List Fl)) {N : List Fi}, GoodT N → GoodT (runN E N)
  | [], N, h => h
  | p :: E, N, h => goodRun E (h.apN p.1 p.2)
theorem apN_act (f : Fl) (ps : List Fl) : Wact (apN f ps) := by
  unfold apN
  cases rightD f ps with
  | false => exact Wact.id
  | true => exact deN_act f ps
theorem runN_act : ∀ E : List (Fl × List Fl), Wact (runN E)
  | [] => Wact.id
  | p :: E => (apN_act p.1 p.2).comp (runN_act E)
theorem againN {X Y : List (Fl × List Fl)} {M N : List Fi} (hM : nam M) (hN : nam N) {k : List UInt8} (h : lookF k M = lookF k (runN X N)) : lookF k (runN Y (runN X M)) = lookF k (runN Y (runN X N)) := by
  obtain ⟨g, hg, e⟩ := (runN_act X).at_ k
  obtain ⟨g', hg', e'⟩ := (runN_act Y).at_ k
  rw [e' _ ((runN_act X).nam_ _ hM), e' _ ((runN_act X).nam_ _ hN), e _ hM, h, e _ hN, hg.twice]
namespace Si
set_option linter.unusedSimpArgs false
set_option linter.unusedVariables false
def Wri2 (g : Option Fi → Option Fi) : Prop := (∃ c, ∀ o, g o = c) ∨ (∀ o, g o = o) ∨ ∃ t : Int, ∀ o, g o = o.map fun q : Fi => (⟨q.nm, q.tmo, max q.turn t⟩ : Fi)
theorem Wri2.comp {g h : Option Fi → Option Fi} (hg : Wri2 g) (hh : Wri2 h) : Wri2 fun o => h (g o) := by
  rcases hh with ⟨c, hc⟩ | hi | ⟨t, ht⟩
  · exact .inl ⟨c, fun o => hc _⟩
  · rcases hg with ⟨c, hc⟩ | hj | ⟨s, hs⟩
    · exact .inl ⟨c, fun o => by show h (g o) = _; rw [hi, hc]⟩
    · exact .inr (.inl fun o => by show h (g o) = _; rw [hi, hj])
    · exact .inr (.inr ⟨s, fun o => by show h (g o) = _; rw [hi, hs]⟩)
  · rcases hg with ⟨c, hc⟩ | hj | ⟨s, hs⟩
    · exact .inl ⟨_, fun o => by show h (g o) = _; rw [ht, hc]⟩
    · exact .inr (.inr ⟨t, fun o => by show h (g o) = _; rw [ht, hj]⟩)
    · refine .inr (.inr ⟨max s t, fun o => ?_⟩)
      show h (g o) = _
      rw [ht, hs]
      cases o with
      | none => rfl
      | some q => simp only [Option.map_some, Option.some.injEq, Fi.mk.injEq, true_and]; omega
theorem Wri2.twice {g : Option Fi → Option Fi} (hg : Wri2 g) (o : Option Fi) : g (g o) = g o := by
  rcases hg with ⟨c, hc⟩ | hj | ⟨s, hs⟩
  · rw [hc, hc]
  · rw [hj, hj]
  · rw [hs, hs]
    cases o with
    | none => rfl
    | some q => simp only [Option.map_some, Option.some.injEq, Fi.mk.injEq, true_and]; omega
structure Wact3 (D : List Fi → List Fi) : Prop where
  at_ : ∀ k, ∃ g : Option Fi → Option Fi, Wri2 g ∧ ∀ N, nam N → lookF k (D N) = g (lookF k N)
  nam_ : ∀ N, nam N → nam (D N)
theorem Wact3.id : Wact3 fun N => N := ⟨fun k => ⟨_, .inr (.inl fun _ => rfl), fun _ _ => rfl⟩, fun _ h => h⟩
theorem Wact3.comp {D E : List Fi → List Fi} (hD : Wact3 D) (hE : Wact3 E) : Wact3 fun N => E (D N) := by
  refine ⟨fun k => ?_, fun N h => hE.nam_ _ (hD.nam_ _ h)⟩
  obtain ⟨g, hg, e⟩ := hD.at_ k
  obtain ⟨g', hg', e'⟩ := hE.at_ k
  exact ⟨_, hg.comp hg', fun N h => by rw [e' _ (hD.nam_ _ h), e _ h]⟩
theorem doS_act (f : Fl) : Wact3 (doS f) := by
  refine ⟨fun k => ?_, fun S h => nam_do f h⟩
  unfold doS
  by_cases h4 : f.kind = 4
  · simp only [if_pos h4]
    by_cases hk : k = f.zxid
    · exact ⟨fun _ => some ⟨f.zxid, f.timeout, f.turn⟩, .inl ⟨_, fun _ => rfl⟩, fun S h => by rw [look_put, if_pos hk]⟩
    · exact ⟨fun o => o, .inr (.inl fun _ => rfl), fun S h => by rw [look_put, if_neg hk]⟩
  · by_cases h5 : f.kind = 5
    · simp only [if_neg h4, if_pos h5]
      by_cases hk : k = f.owner
      · exact ⟨fun _ => none, .inl ⟨_, fun _ => rfl⟩, fun S h => by rw [look_del k f.owner h, if_pos hk]⟩
      · exact ⟨fun o => o, .inr (.inl fun _ => rfl), fun S h => by rw [look_del k f.owner h, if_neg hk]⟩
    · simp only [if_neg h4, if_neg h5]
      exact ⟨fun o => o, .inr (.inl fun _ => rfl), fun S h => by first | rfl | trivial⟩
theorem turn_act (s t : Int) : Wact3 (turnS s t) := by
  refine ⟨fun k => ?_, fun S h => nam_turn s t h⟩
  by_cases hk : k = s
  · exact ⟨_, .inr (.inr ⟨t, fun _ => rfl⟩), fun S h => by rw [turn_at _ _ _ h, if_pos hk]⟩
  · exact ⟨fun o => o, .inr (.inl fun _ => rfl), fun S h => by rw [turn_at _ _ _ h, if_neg hk]⟩
theorem apS_act (f : Go.Proofs.YtcdnfgibcochhaaGreatDoor.Fl) (ps : List Go.Proofs.YtcdnfgibcochhaaGreatDoor.Fl) : Wact3 (apS f ps) := by
  unfold apS
  cases rightD f ps with
  | false => exact Wact3.id
  | true => exact (doS_act f).comp (turn_act f.session f.turn)
theorem runS_act : ∀ E : List (Go.Proofs.YtcdnfgibcochhaaGreatDoor.Fl × List Go.Proofs.YtcdnfgibcochhaaGreatDoor.Fl), Wact3 (runS E)
  | [] => Wact3.id
  | p :: E => (apS_act p.1 p.2).comp (runS_act E)
theorem againS {X Y : List (Go.Proofs.YtcdnfgibcochhaaGreatDoor.Fl × List Go.Proofs.YtcdnfgibcochhaaGreatDoor.Fl)} {M N : List Fi} (hM : nam M) (hN : nam N) {k : Int} (h : lookF k M = lookF k (runS X N)) : lookF k (runS Y (runS X M)) = lookF k (runS Y (runS X N)) := by
  obtain ⟨g, hg, e⟩ := (runS_act X).at_ k
  obtain ⟨g', hg', e'⟩ := (runS_act Y).at_ k
  rw [e' _ ((runS_act X).nam_ _ hM), e' _ ((runS_act X).nam_ _ hN), e _ hM, h, e _ hN, hg.twice]
end Si
end Go.Proofs.YtcdnfgibcochhaaGreatDoor
