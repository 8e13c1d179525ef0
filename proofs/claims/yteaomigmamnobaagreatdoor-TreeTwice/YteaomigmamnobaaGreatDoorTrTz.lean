/- Trees: a deed done twice; a row of deeds; TreeTwice. -/
import Derived.Test.YteaomigmamnobaaGreatDoorTrPa
import Derived.Test.YteaomigmamnobaaGreatDoorDdIn
import Derived.Test.YteaomigmamnobaaGreatDoorTrSy
import Derived.Test.YteaomigmamnobaaGreatDoorTrAk
import Derived.Deep.CutRange
import Derived.Deep.CutBlock
namespace Go.Proofs.YteaomigmamnobaaGreatDoor
set_option linter.unusedSimpArgs false
set_option linter.unusedVariables false
open Go.RowKit Go.MapKept
set_option linter.unusedVariables false
set_option linter.unusedSimpArgs false

def nam (N : List Fi) : Prop := (N.map (·.nm)).Nodup
theorem look_put (p : Fi) (k : List UInt8) : ∀ N : List Fi, lookF k (putF p N) = if k = p.nm then some p else lookF k N
  | [] => by
    simp only [putF, lookF]
    by_cases h : k = p.nm
    · rw [if_pos h, if_pos h.symm]
    · rw [if_neg h, if_neg (fun e => h e.symm)]
  | q :: N => by
    have ih := look_put p k N
    simp only [putF]
    by_cases hq : q.nm = p.nm
    · rw [if_pos hq]
      simp only [lookF]
      by_cases h : k = p.nm
      · rw [if_pos h, if_pos h.symm]
      · rw [if_neg h, if_neg (fun e => h e.symm), if_neg (fun e => h (by rw [← e, hq]))]
    · rw [if_neg hq]
      simp only [lookF]
      rw [ih]
      by_cases h : k = p.nm
      · rw [if_pos h, if_pos h, if_neg (fun e => hq (by rw [e, h]))]
      · rw [if_neg h, if_neg h]
theorem look_nm : ∀ {N : List Fi} {k : List UInt8} {q : Fi}, lookF k N = some q → q.nm = k ∧ q ∈ N
  | p :: N, k, q, h => by
    simp only [lookF] at h
    by_cases hp : p.nm = k
    · rw [if_pos hp] at h; cases h; exact ⟨hp, .head _⟩
    · rw [if_neg hp] at h
      obtain ⟨a, b⟩ := look_nm h
      exact ⟨a, .tail _ b⟩
theorem look_no : ∀ {N : List Fi} {k : List UInt8}, k ∉ N.map (·.nm) → lookF k N = none
  | [], _, _ => rfl
  | p :: N, k, h => by
    simp only [List.map_cons, List.mem_cons, not_or] at h
    simp only [lookF]
    rw [if_neg (fun e => h.1 e.symm)]
    exact look_no h.2
theorem look_in : ∀ {N : List Fi} {q : Fi}, nam N → q ∈ N → lookF q.nm N = some q
  | p :: N, q, hn, h => by
    unfold nam at hn
    simp only [List.map_cons, List.nodup_cons] at hn
    simp only [lookF]
    rcases List.mem_cons.1 h with rfl | h
    · rw [if_pos rfl]
    · rw [if_neg (fun e => hn.1 (by rw [e]; exact List.mem_map.2 ⟨q, h, rfl⟩))]
      exact look_in hn.2 h
theorem look_del (k j : List UInt8) : ∀ {N : List Fi}, nam N → lookF k (delF j N) = if k = j then none else lookF k N
  | [], _ => by simp [delF, lookF]
  | p :: N, hn => by
    have hn' := hn
    unfold nam at hn'
    simp only [List.map_cons, List.nodup_cons] at hn'
    have ih := look_del k j (N := N) hn'.2
    simp only [delF]
    by_cases hp : p.nm = j
    · rw [if_pos hp]
      simp only [lookF]
      by_cases h : k = j
      · rw [if_pos h]; exact look_no (by rw [h, ← hp]; exact hn'.1)
      · rw [if_neg h, if_neg (fun e => h (by rw [← e, hp]))]
    · rw [if_neg hp]
      simp only [lookF]
      rw [ih]
      by_cases h : k = j
      · rw [if_pos h, if_pos h, if_neg (fun e => hp (by rw [e, h]))]
      · rw [if_neg h, if_neg h]
theorem names_put (p : Fi) : ∀ N : List Fi, ∀ x ∈ (putF p N).map (·.nm), x = p.nm ∨ x ∈ N.map (·.nm)
  | [], x, h => by simp [putF] at h; exact .inl h
  | q :: N, x, h => by
    simp only [putF] at h
    split at h
    · simp only [List.map_cons, List.mem_cons] at h ⊢
      rcases h with h | h
      · exact .inl h
      · exact .inr (.inr h)
    · simp only [List.map_cons, List.mem_cons] at h ⊢
      rcases h with h | h
      · exact .inr (.inl h)
      · rcases names_put p N x h with h | h
        · exact .inl h
        · exact .inr (.inr h)
theorem nam_put (p : Fi) : ∀ {N : List Fi}, nam N → nam (putF p N)
  | [], _ => by simp [nam, putF]
  | q :: N, hn => by
    unfold nam at hn ⊢
    simp only [List.map_cons, List.nodup_cons] at hn
    simp only [putF]
    by_cases h : q.nm = p.nm
    · rw [if_pos h, List.map_cons, List.nodup_cons]
      exact ⟨by rw [← h]; exact hn.1, hn.2⟩
    · rw [if_neg h, List.map_cons, List.nodup_cons]
      refine ⟨fun hm => ?_, nam_put p hn.2⟩
      rcases names_put p N _ hm with e | e
      · exact h e
      · exact hn.1 e
theorem sub_del (j : List UInt8) : ∀ N : List Fi, (delF j N).Sublist N
  | [] => by simp [delF]
  | q :: N => by
    simp only [delF]
    split
    · exact List.sublist_cons_self q N
    · exact (sub_del j N).cons_cons q
theorem nam_del (j : List UInt8) {N : List Fi} (hn : nam N) : nam (delF j N) := ((sub_del j N).map _).nodup hn

/- The fields of a node, by number. -/
def fld : Nat → Fi → List UInt8 × Int
  | 0, x => (x.nm, 0)
  | 1, x => (x.b, 0)
  | 2, x => ([], x.st.cz)
  | 3, x => ([], x.st.mz)
  | 4, x => ([], x.st.pz)
  | 5, x => ([], x.st.ct)
  | 6, x => ([], x.st.mt)
  | 7, x => ([], x.st.ver)
  | 8, x => ([], x.st.cv)
  | 9, x => ([], x.st.own)
  | 10, x => ([], x.st.len)
  | 11, x => ([], x.st.chd)
  | _ + 12, _ => ([], 0)
theorem fld_ext {x y : Fi} (h : ∀ i, fld i x = fld i y) : x = y := by
  obtain ⟨a, b, ⟨s0, s1, s2, s3, s4, s5, s6, s7, s8, s9⟩⟩ := x
  obtain ⟨a', b', ⟨t0, t1, t2, t3, t4, t5, t6, t7, t8, t9⟩⟩ := y
  have h0 := h 0
  have h1 := h 1
  have h2 := h 2
  have h3 := h 3
  have h4 := h 4
  have h5 := h 5
  have h6 := h 6
  have h7 := h 7
  have h8 := h 8
  have h9 := h 9
  have h10 := h 10
  have h11 := h 11
  clear h
  simp only [fld, Prod.mk.injEq, true_and, and_true] at *
  subst h0 h1 h2 h3 h4 h5 h6 h7 h8 h9 h10 h11
  rfl
/- Each field is left or set. -/
def Ow (u : Fi → Fi) : Prop := ∀ i, (∀ x, fld i (u x) = fld i x) ∨ ∃ c, ∀ x, fld i (u x) = c
theorem Ow.id : Ow fun x => x := fun _ => .inl fun _ => rfl
theorem Ow.comp {u v : Fi → Fi} (hu : Ow u) (hv : Ow v) : Ow fun x => v (u x) := by
  intro i
  rcases hv i with h | ⟨c, h⟩
  · rcases hu i with h' | ⟨c, h'⟩
    · exact .inl fun x => (h _).trans (h' x)
    · exact .inr ⟨c, fun x => (h _).trans (h' x)⟩
  · exact .inr ⟨c, fun x => h _⟩
theorem Ow.twice {u : Fi → Fi} (hu : Ow u) (x : Fi) : u (u x) = u x := by
  refine fld_ext fun i => ?_
  rcases hu i with h | ⟨c, h⟩
  · exact h _
  · rw [h, h]
/- What is done at one path: it is made or taken away, or fields of it are set. -/
def Wri (g : Option Fi → Option Fi) : Prop := (∃ c, ∀ o, g o = c) ∨ ∃ u, Ow u ∧ ∀ o, g o = o.map u
theorem Wri.id : Wri fun o => o := .inr ⟨_, Ow.id, fun o => by simp⟩
theorem Wri.comp {g h : Option Fi → Option Fi} (hg : Wri g) (hh : Wri h) : Wri fun o => h (g o) := by
  rcases hh with ⟨c, hc⟩ | ⟨v, hv, e⟩
  · exact .inl ⟨c, fun o => hc _⟩
  · rcases hg with ⟨c, hc⟩ | ⟨u, hu, e'⟩
    · exact .inl ⟨c.map v, fun o => by show h (g o) = _; rw [e, hc]⟩
    · exact .inr ⟨_, hu.comp hv, fun o => by show h (g o) = _; rw [e, e']; cases o <;> rfl⟩
theorem Wri.twice {g : Option Fi → Option Fi} (hg : Wri g) (o : Option Fi) : g (g o) = g o := by
  rcases hg with ⟨c, hc⟩ | ⟨u, hu, e⟩
  · rw [hc, hc]
  · rw [e, e]; cases o with
    | none => rfl
    | some x => simp [hu.twice]
/- A change of the nodes that is a writer at each path. -/
structure Wact (D : List Fi → List Fi) : Prop where
  at_ : ∀ k, ∃ g, Wri g ∧ ∀ N, nam N → lookF k (D N) = g (lookF k N)
  nam_ : ∀ N, nam N → nam (D N)
theorem Wact.id : Wact fun N => N := ⟨fun k => ⟨_, Wri.id, fun _ _ => rfl⟩, fun _ h => h⟩
theorem Wact.comp {D E : List Fi → List Fi} (hD : Wact D) (hE : Wact E) : Wact fun N => E (D N) := by
  refine ⟨fun k => ?_, fun N h => hE.nam_ _ (hD.nam_ _ h)⟩
  obtain ⟨g, hg, e⟩ := hD.at_ k
  obtain ⟨g', hg', e'⟩ := hE.at_ k
  exact ⟨_, hg.comp hg', fun N h => by rw [e' _ (hD.nam_ _ h), e _ h]⟩
theorem Wact.twice {D : List Fi → List Fi} (hD : Wact D) {N M : List Fi} (hN : nam N) (hM : nam M) (h : ∀ k, lookF k N = lookF k M) (k : List UInt8) : lookF k (D N) = lookF k (D (D M)) := by
  obtain ⟨g, hg, e⟩ := hD.at_ k
  rw [e _ hN, e _ (hD.nam_ _ hM), e _ hM, hg.twice, h]
theorem Wact.put (p : Fi) : Wact (putF p) := by
  refine ⟨fun k => ?_, fun N h => nam_put p h⟩
  by_cases hk : k = p.nm
  · exact ⟨fun _ => some p, .inl ⟨_, fun _ => rfl⟩, fun N _ => by rw [look_put, if_pos hk]⟩
  · exact ⟨_, Wri.id, fun N _ => by rw [look_put, if_neg hk]⟩
theorem Wact.del (j : List UInt8) : Wact (delF j) := by
  refine ⟨fun k => ?_, fun N h => nam_del j h⟩
  by_cases hk : k = j
  · exact ⟨fun _ => none, .inl ⟨_, fun _ => rfl⟩, fun N h => by rw [look_del k j h, if_pos hk]⟩
  · exact ⟨_, Wri.id, fun N h => by rw [look_del k j h, if_neg hk]⟩
theorem Wact.over (j : List UInt8) (u : Fi → Fi) (hu : Ow u) (hn : ∀ q, q.nm = j → (u q).nm = j) : Wact fun N => match lookF j N with | none => N | some q => putF (u q) N := by
  refine ⟨fun k => ?_, fun N h => ?_⟩
  · by_cases hk : k = j
    · refine ⟨fun o => o.map u, .inr ⟨u, hu, fun _ => rfl⟩, fun N h => ?_⟩
      subst hk
      cases hq : lookF k N with
      | none => simp only [hq, Option.map_none]
      | some q => simp only [Option.map_some]; rw [look_put, if_pos (hn q (look_nm hq).1).symm]
    · refine ⟨_, Wri.id, fun N h => ?_⟩
      cases hq : lookF j N with
      | none => rfl
      | some q => simp only; rw [look_put, if_neg (fun e => hk (by rw [e]; exact hn q (look_nm hq).1))]
  · cases hq : lookF j N with
    | none => simpa only [hq] using h
    | some q => simp only; exact nam_put _ h
theorem par_act (f : Fl) : Wact (parN f) := by
  refine Wact.over (PA.parentS f.path) (fun q => ⟨q.nm, q.b, { q.st with cv := f.cversion, pz := f.zxid }⟩) ?_ (fun q h => h)
  intro i
  match i with
  | 4 => exact .inr ⟨([], f.zxid), fun _ => rfl⟩
  | 8 => exact .inr ⟨([], f.cversion), fun _ => rfl⟩
  | 0 | 1 | 2 | 3 | 5 | 6 | 7 | 9 | 10 | 11 | _ + 12 => exact .inl fun _ => rfl
theorem set_act (f : Fl) : Wact (setN f) := by
  refine Wact.over f.path (fun q => ⟨f.path, f.data, setSt f q.st⟩) ?_ (fun q h => rfl)
  intro i
  match i with
  | 0 => exact .inr ⟨(f.path, 0), fun _ => rfl⟩
  | 1 => exact .inr ⟨(f.data, 0), fun _ => rfl⟩
  | 3 => exact .inr ⟨([], f.zxid), fun _ => rfl⟩
  | 6 => exact .inr ⟨([], f.time), fun _ => rfl⟩
  | 7 => exact .inr ⟨([], f.version), fun _ => rfl⟩
  | 10 => exact .inr ⟨([], 0), fun _ => rfl⟩
  | 11 => exact .inr ⟨([], 0), fun _ => rfl⟩
  | 2 | 4 | 5 | 8 | 9 | _ + 12 => exact .inl fun _ => rfl
theorem doN_act (f : Fl) : Wact (doN f) := by
  unfold doN
  by_cases h1 : f.kind = 1
  · simp only [if_pos h1]
    exact (Wact.put _).comp (par_act f)
  by_cases h2 : f.kind = 2
  · simp only [if_neg h1, if_pos h2]
    exact (Wact.del _).comp (par_act f)
  by_cases h3 : f.kind = 3
  · simp only [if_neg h1, if_neg h2, if_pos h3]
    exact set_act f
  · simp only [if_neg h1, if_neg h2, if_neg h3]
    exact Wact.id
theorem doPs_act (f : Fl) : ∀ ps : List Fl, Wact (doPs f ps)
  | [] => Wact.id
  | p :: ps => (doN_act (ptF f p)).comp (doPs_act f ps)
theorem deN_act (f : Fl) (ps : List Fl) : Wact (deN f ps) := by
  unfold deN
  by_cases h : f.kind = 5 ∨ f.kind = 8
  · simp only [if_pos h]; exact doPs_act f ps
  · simp only [if_neg h]; exact doN_act f
/- The same nodes in whatever order. -/
theorem alike_perm {N M : List Fi} (hN : nam N) (hM : nam M) (h : ∀ k, lookF k N = lookF k M) : N.Perm M := by
  have n1 : N.Nodup := List.Pairwise.of_map (fun x : Fi => x.nm) (fun a b h e => h (by rw [e])) hN
  have n2 : M.Nodup := List.Pairwise.of_map (fun x : Fi => x.nm) (fun a b h e => h (by rw [e])) hM
  refine (List.perm_ext_iff_of_nodup n1 n2).2 fun x => ⟨fun hx => ?_, fun hx => ?_⟩
  · have := look_in hN hx
    rw [h] at this
    exact (look_nm this).2
  · have := look_in hM hx
    rw [← h] at this
    exact (look_nm this).2
namespace Si
set_option linter.unusedSimpArgs false
set_option linter.unusedVariables false
def nam (N : List Fi) : Prop := (N.map (·.nm)).Nodup
theorem look_put (p : Fi) (k : Int) : ∀ N : List Fi, lookF k (putF p N) = if k = p.nm then some p else lookF k N
  | [] => by
    simp only [putF, lookF]
    by_cases h : k = p.nm
    · rw [if_pos h, if_pos h.symm]
    · rw [if_neg h, if_neg (fun e => h e.symm)]
  | q :: N => by
    have ih := look_put p k N
    simp only [putF]
    by_cases hq : q.nm = p.nm
    · rw [if_pos hq]
      simp only [lookF]
      by_cases h : k = p.nm
      · rw [if_pos h, if_pos h.symm]
      · rw [if_neg h, if_neg (fun e => h e.symm), if_neg (fun e => h (by rw [← e, hq]))]
    · rw [if_neg hq]
      simp only [lookF]
      rw [ih]
      by_cases h : k = p.nm
      · rw [if_pos h, if_pos h, if_neg (fun e => hq (by rw [e, h]))]
      · rw [if_neg h, if_neg h]
theorem look_nm : ∀ {N : List Fi} {k : Int} {q : Fi}, lookF k N = some q → q.nm = k ∧ q ∈ N
  | p :: N, k, q, h => by
    simp only [lookF] at h
    by_cases hp : p.nm = k
    · rw [if_pos hp] at h; cases h; exact ⟨hp, .head _⟩
    · rw [if_neg hp] at h
      obtain ⟨a, b⟩ := look_nm h
      exact ⟨a, .tail _ b⟩
theorem look_no : ∀ {N : List Fi} {k : Int}, k ∉ N.map (·.nm) → lookF k N = none
  | [], _, _ => rfl
  | p :: N, k, h => by
    simp only [List.map_cons, List.mem_cons, not_or] at h
    simp only [lookF]
    rw [if_neg (fun e => h.1 e.symm)]
    exact look_no h.2
theorem look_in : ∀ {N : List Fi} {q : Fi}, nam N → q ∈ N → lookF q.nm N = some q
  | p :: N, q, hn, h => by
    unfold nam at hn
    simp only [List.map_cons, List.nodup_cons] at hn
    simp only [lookF]
    rcases List.mem_cons.1 h with rfl | h
    · rw [if_pos rfl]
    · rw [if_neg (fun e => hn.1 (by rw [e]; exact List.mem_map.2 ⟨q, h, rfl⟩))]
      exact look_in hn.2 h
theorem look_del (k j : Int) : ∀ {N : List Fi}, nam N → lookF k (delF j N) = if k = j then none else lookF k N
  | [], _ => by simp [delF, lookF]
  | p :: N, hn => by
    have hn' := hn
    unfold nam at hn'
    simp only [List.map_cons, List.nodup_cons] at hn'
    have ih := look_del k j (N := N) hn'.2
    simp only [delF]
    by_cases hp : p.nm = j
    · rw [if_pos hp]
      simp only [lookF]
      by_cases h : k = j
      · rw [if_pos h]; exact look_no (by rw [h, ← hp]; exact hn'.1)
      · rw [if_neg h, if_neg (fun e => h (by rw [← e, hp]))]
    · rw [if_neg hp]
      simp only [lookF]
      rw [ih]
      by_cases h : k = j
      · rw [if_pos h, if_pos h, if_neg (fun e => hp (by rw [e, h]))]
      · rw [if_neg h, if_neg h]
theorem names_put (p : Fi) : ∀ N : List Fi, ∀ x ∈ (putF p N).map (·.nm), x = p.nm ∨ x ∈ N.map (·.nm)
  | [], x, h => by simp [putF] at h; exact .inl h
  | q :: N, x, h => by
    simp only [putF] at h
    split at h
    · simp only [List.map_cons, List.mem_cons] at h ⊢
      rcases h with h | h
      · exact .inl h
      · exact .inr (.inr h)
    · simp only [List.map_cons, List.mem_cons] at h ⊢
      rcases h with h | h
      · exact .inr (.inl h)
      · rcases names_put p N x h with h | h
        · exact .inl h
        · exact .inr (.inr h)
theorem nam_put (p : Fi) : ∀ {N : List Fi}, nam N → nam (putF p N)
  | [], _ => by simp [nam, putF]
  | q :: N, hn => by
    unfold nam at hn ⊢
    simp only [List.map_cons, List.nodup_cons] at hn
    simp only [putF]
    by_cases h : q.nm = p.nm
    · rw [if_pos h, List.map_cons, List.nodup_cons]
      exact ⟨by rw [← h]; exact hn.1, hn.2⟩
    · rw [if_neg h, List.map_cons, List.nodup_cons]
      refine ⟨fun hm => ?_, nam_put p hn.2⟩
      rcases names_put p N _ hm with e | e
      · exact h e
      · exact hn.1 e
theorem sub_del (j : Int) : ∀ N : List Fi, (delF j N).Sublist N
  | [] => by simp [delF]
  | q :: N => by
    simp only [delF]
    split
    · exact List.sublist_cons_self q N
    · exact (sub_del j N).cons_cons q
theorem nam_del (j : Int) {N : List Fi} (hn : nam N) : nam (delF j N) := ((sub_del j N).map _).nodup hn

theorem alike_perm {N M : List Fi} (hN : nam N) (hM : nam M) (h : ∀ k, lookF k N = lookF k M) : N.Perm M := by
  have n1 : N.Nodup := List.Pairwise.of_map (fun x : Fi => x.nm) (fun a b h e => h (by rw [e])) hN
  have n2 : M.Nodup := List.Pairwise.of_map (fun x : Fi => x.nm) (fun a b h e => h (by rw [e])) hM
  refine (List.perm_ext_iff_of_nodup n1 n2).2 fun x => ⟨fun hx => ?_, fun hx => ?_⟩
  · have := look_in hN hx
    rw [h] at this
    exact (look_nm this).2
  · have := look_in hM hx
    rw [← h] at this
    exact (look_nm this).2
/- A change of the sittings that done twice is as done once, at each key. -/
structure Wact2 (D : List Fi → List Fi) : Prop where
  at_ : ∀ k, ∃ g : Option Fi → Option Fi, (∀ o, g (g o) = g o) ∧ ∀ N, nam N → lookF k (D N) = g (lookF k N)
  nam_ : ∀ N, nam N → nam (D N)
theorem Wact2.twice {D : List Fi → List Fi} (hD : Wact2 D) {N M : List Fi} (hN : nam N) (hM : nam M) (h : ∀ k, lookF k N = lookF k M) (k : Int) : lookF k (D N) = lookF k (D (D M)) := by
  obtain ⟨g, hg, e⟩ := hD.at_ k
  rw [e _ hN, e _ (hD.nam_ _ hM), e _ hM, hg, h]
theorem turn_at (s t k : Int) {S : List Fi} (h : nam S) : lookF k (turnS s t S) = if k = s then (lookF k S).map (fun q => ⟨q.nm, q.tmo, max q.turn t⟩) else lookF k S := by
  unfold turnS
  cases hq : lookF s S with
  | none =>
    by_cases hk : k = s
    · subst hk; rw [if_pos rfl, hq]; simp only [hq, Option.map_none]
    · rw [if_neg hk]
  | some q =>
    simp only
    rw [look_put]
    have hn := (look_nm hq).1
    by_cases hk : k = s
    · subst hk; rw [if_pos hn.symm, if_pos rfl, hq]; rfl
    · rw [if_neg (fun e => hk (by rw [e]; exact hn)), if_neg hk]
theorem nam_turn (s t : Int) {S : List Fi} (h : nam S) : nam (turnS s t S) := by
  unfold turnS
  cases hq : lookF s S with
  | none => exact h
  | some q => exact nam_put _ h
theorem nam_do (f : Fl) {S : List Fi} (h : nam S) : nam (doS f S) := by
  unfold doS
  split
  · exact nam_put _ h
  · split
    · exact nam_del _ h
    · exact h
theorem sit_act (f : Fl) : Wact2 fun S => turnS f.session f.turn (doS f S) := by
  refine ⟨fun k => ?_, fun S h => nam_turn _ _ (nam_do f h)⟩
  have hv : ∀ (o : Option Fi), ((o.map fun q : Fi => (⟨q.nm, q.tmo, max q.turn f.turn⟩ : Fi)).map fun q : Fi => (⟨q.nm, q.tmo, max q.turn f.turn⟩ : Fi)) = o.map fun q : Fi => (⟨q.nm, q.tmo, max q.turn f.turn⟩ : Fi) := by
    intro o
    cases o with
    | none => rfl
    | some q => simp only [Option.map_some, Option.some.injEq, Fi.mk.injEq, true_and]; omega
  have hc : (∃ c, ∀ S, nam S → lookF k (doS f S) = c) ∨ ∀ S, nam S → lookF k (doS f S) = lookF k S := by
    unfold doS
    by_cases h4 : f.kind = 4
    · simp only [if_pos h4]
      by_cases hk : k = f.zxid
      · exact .inl ⟨some ⟨f.zxid, f.timeout, f.turn⟩, fun S h => by rw [look_put, if_pos hk]⟩
      · exact .inr fun S h => by rw [look_put, if_neg hk]
    · by_cases h5 : f.kind = 5
      · simp only [if_neg h4, if_pos h5]
        by_cases hk : k = f.owner
        · exact .inl ⟨none, fun S h => by rw [look_del k f.owner h, if_pos hk]⟩
        · exact .inr fun S h => by rw [look_del k f.owner h, if_neg hk]
      · simp only [if_neg h4, if_neg h5]
        refine .inr fun S h => ?_
        first | rfl | trivial
  by_cases hs : k = f.session
  · rcases hc with ⟨c, hc⟩ | hc
    · exact ⟨fun _ => c.map (fun q => ⟨q.nm, q.tmo, max q.turn f.turn⟩), fun _ => rfl, fun S h => by rw [turn_at _ _ _ (nam_do f h), if_pos hs, hc S h]⟩
    · exact ⟨fun o => o.map (fun q => ⟨q.nm, q.tmo, max q.turn f.turn⟩), hv, fun S h => by rw [turn_at _ _ _ (nam_do f h), if_pos hs, hc S h]⟩
  · rcases hc with ⟨c, hc⟩ | hc
    · exact ⟨fun _ => c, fun _ => rfl, fun S h => by rw [turn_at _ _ _ (nam_do f h), if_neg hs, hc S h]⟩
    · exact ⟨fun o => o, fun _ => rfl, fun S h => by rw [turn_at _ _ _ (nam_do f h), if_neg hs, hc S h]⟩
end Si
end Go.Proofs.YteaomigmamnobaaGreatDoor

namespace Go.Proofs.YteaomigmamnobaaGreatDoor.DD
set_option linter.unusedSimpArgs false
set_option linter.unusedVariables false
open Go.ChangeShapes Go.WideShapes Go.ChangeAt Go.RowKit

structure El2 where
  p : Fl × List Fl
  A1 : Option Addr
  c1 : Nat
  A2 : Option Addr
  c2 : Nat
  A3 : Option Addr
  c3 : Nat
def ev2 (e : El2) : List Value := [.int .i64 e.p.1.zxid, .int .u8 e.p.1.kind, .int .i64 e.p.1.session, .int .i64 e.p.1.turn, .int .i64 e.p.1.xid, .int .i64 e.p.1.time, .string (mkS e.p.1.path), .slice e.A1 e.p.1.data.length e.c1, .int .i64 e.p.1.owner, .int .i64 e.p.1.version, .int .i64 e.p.1.cversion, .int .i64 e.p.1.timeout, .int .i64 e.p.1.err, .int .i64 e.p.1.cver, .slice e.A2 e.p.1.mems.length e.c2, .slice e.A3 e.p.1.np e.c3]
theorem ev2_len (e : El2) : (ev2 e).length = 16 := rfl
abbrev DV (w : World) (e : El2) : Prop := DVal w e.p.1 e.p.2 e.A1 e.c1 e.A2 e.c2 e.A3 e.c3
/- Deeds side by side from a place on. -/
def Rowed (w : World) (A : Option Addr) (els : List El2) (C : Nat) : Prop :=
  els = [] ∨ ∃ b o, A = some ⟨b, o, none⟩ ∧ b < w.heap.size ∧ els.length ≤ C ∧ ∀ (i : Nat) (h : i < els.length) (j : Nat), j < 16 → w.cell? ⟨b, o + i * 16 + j, none⟩ = (ev2 (els[i]'h))[j]?
set_option maxRecDepth 100000 in
theorem deeds_in {H : Type} {enc : TypeId × Value → H} {W : World} {fuel : Nat} {v : Value} {x : DataW H × List MemPlace}
    (hf : DataW.trod enc Tryz.prog W 0 (fun _ => true) true fuel 29 [v] = some x) :
    ∃ (els : List El2) (A : Option Addr) (C : Nat), v = .slice A els.length C ∧ (els = [] → C = 0 ∨ ∃ b o, A = some ⟨b, o, none⟩ ∨ True) ∧ Rowed W A els C ∧ (∀ e ∈ els, DV W e ∧ DedFit e.p.1 e.p.2 ∧ e.p.1.np ≤ 9223372036854775807) ∧ els.length ≤ 9223372036854775807 ∧ (A = none → els = [] ∧ C = 0) := by
  rcases Go.Deep.open_slice Tryz.underlying29 hf with ⟨hcs, hx⟩ | ⟨ad, N, cap, m, n, D, Pl, hcs, _, hl, hmx, hm, hx, hel⟩
  · simp at hcs
    subst hcs
    exact ⟨[], none, 0, rfl, fun _ => .inl rfl, .inl rfl, fun e he => (nomatch he), by simp, fun _ => ⟨rfl, rfl⟩⟩
  · simp at hcs
    subst hcs
    simp only [if_true] at hm
    subst hm
    have hmL : maxLen = 9223372036854775807 := rfl
    by_cases h0 : 0 < N
    · obtain ⟨cs0, hc0, _⟩ := hel 0 (by omega)
      obtain ⟨b, o, spot⟩ := ad
      rw [deed_cells] at hel hc0
      have hsp : spot = none := spot_of (n := 0) hc0
      subst hsp
      have key : ∀ i, i < N → ∃ e : El2, (∀ j, j < 16 → W.cell? ⟨b, o + i * 16 + j, none⟩ = (ev2 e)[j]?) ∧ DV W e ∧ DedFit e.p.1 e.p.2 ∧ e.p.1.np ≤ 9223372036854775807 := by
        intro i hi
        obtain ⟨cs', hc1, hc2⟩ := hel i (by omega)
        rw [plain_add] at hc1
        obtain ⟨f, ps, A1, A2, A3, c1, c2, c3, rfl, g1, g2, g3⟩ := deed_in hc2
        obtain ⟨-, hc⟩ := cells_at hc1
        exact ⟨⟨(f, ps), A1, c1, A2, c2, A3, c3⟩, hc, g1, g2, g3⟩
      obtain ⟨l, hll, hp⟩ := list_of _ N key
      subst hll
      refine ⟨l, some ⟨b, o, none⟩, _, rfl, fun _ => .inr ⟨b, o, .inr trivial⟩, .inr ⟨b, o, rfl, ?_, by omega, fun i hi => (hp i hi).1⟩, fun e he => ?_, by omega, fun h => by cases h⟩
      · have hz := (hp 0 h0).1 0 (by omega)
        exact World.block_lt_of_cell? W _ (hz.trans rfl)
      · obtain ⟨j, hj, rfl⟩ := List.getElem_of_mem he
        exact (hp j hj).2
    · have hl0 : N = 0 := by omega
      subst hl0
      exact ⟨[], some ad, _, rfl, fun _ => .inr ⟨0, 0, .inr trivial⟩, .inl rfl, fun e he => (nomatch he), by simp, fun h => by cases h⟩
theorem Rowed.grow {w w' : World} {A : Option Addr} {els : List El2} {C : Nat} (h : Rowed w A els C) (hb : Below w.heap.size w w') : Rowed w' A els C := by
  rcases h with h | ⟨b, o, h1, h2, h3, h4⟩
  · exact .inl h
  · exact .inr ⟨b, o, h1, Nat.lt_of_lt_of_le h2 hb.size, h3, fun i hi j hj => (hb.cell (p := ⟨b, o + i * 16 + j, none⟩) h2).trans (h4 i hi j hj)⟩
theorem Rowed.deed {w : World} {A : Option Addr} {els : List El2} {C : Nat} (h : Rowed w A els C) (k : Nat) (hk : k < els.length) : ∃ b o, A = some ⟨b, o, none⟩ ∧ b < w.heap.size ∧ els.length ≤ C ∧ DCells w b (o + k * 16) (els[k]'hk).p.1 (els[k]'hk).A1 (els[k]'hk).c1 (els[k]'hk).A2 (els[k]'hk).c2 (els[k]'hk).A3 (els[k]'hk).c3 := by
  rcases h with h | ⟨b, o, h1, h2, h3, h4⟩
  · subst h; simp at hk
  · exact ⟨b, o, h1, h2, h3, h4 k hk 0 (by omega), h4 k hk 1 (by omega), h4 k hk 2 (by omega), h4 k hk 3 (by omega), h4 k hk 4 (by omega), h4 k hk 5 (by omega), h4 k hk 6 (by omega), h4 k hk 7 (by omega), h4 k hk 8 (by omega), h4 k hk 9 (by omega), h4 k hk 10 (by omega), h4 k hk 11 (by omega), h4 k hk 12 (by omega), h4 k hk 13 (by omega), h4 k hk 14 (by omega), h4 k hk 15 (by omega)⟩
theorem Rowed.len {w : World} {A : Option Addr} {els : List El2} {C : Nat} (h : Rowed w A els C) (hn : els ≠ []) : els.length ≤ C := by
  rcases h with h | ⟨_, _, _, _, h3, _⟩
  · exact absurd h hn
  · exact h3
theorem Rowed.take {w : World} {A : Option Addr} {els : List El2} {C : Nat} (h : Rowed w A els C) (m : Nat) (hm : m ≤ els.length) : Rowed w A (els.take m) C := by
  rcases h with h | ⟨b, o, h1, h2, h3, h4⟩
  · exact .inl (by rw [h]; simp)
  · refine .inr ⟨b, o, h1, h2, by rw [List.length_take]; omega, fun i hi j hj => ?_⟩
    have hi' : i < els.length := by rw [List.length_take] at hi; omega
    rw [List.getElem_take]
    exact h4 i hi' j hj
end Go.Proofs.YteaomigmamnobaaGreatDoor.DD
namespace Go.Proofs.YteaomigmamnobaaGreatDoor
set_option linter.unusedSimpArgs false
set_option linter.unusedVariables false
open Go.RowKit Go.MapKept
theorem Tr.nams {w : World} {t m n : Nat} {N : List Fi} {S : List Si.Fi} (h : Tr w t m n N S) : nam N ∧ Si.nam S := by
  obtain ⟨L, K, hT, rfl, rfl⟩ := h
  have h1 := hT.nodes.names
  have h2 := hT.seats.names
  unfold nam Si.nam
  rw [List.map_map, List.map_map]
  exact ⟨h1, h2⟩
theorem Tr.far {w w' : World} {t m n t' m' n' : Nat} {N N' : List Fi} {S S' : List Si.Fi} (h : Tr w t m n N S) (h' : Tr w t' m' n' N' S') (hd : ∀ k, Wt t m n k → ¬ Wt t' m' n' k) (hc : Chg (Mn m' n') w w') : Tr w' t m n N S := by
  obtain ⟨L, K, hT, h1, h2⟩ := h
  obtain ⟨L', K', hT', _, _⟩ := h'
  have up : ∀ k, Mn m' n' k → Wt t' m' n' k := fun k e => by rcases e with e | e; exact .inr (.inl e); exact .inr (.inr e)
  exact ⟨L, K, hT.keep hc (fun k hk e => hd k hk (up k e)) (fun p hp k hk e => hT.bs_ne hT' hp hk (up k e)), h1, h2⟩
theorem Tr.same {w : World} {t m n t' m' n' : Nat} {N N' : List Fi} {S S' : List Si.Fi} (h : Tr w t m n N S) (h' : Tr w t' m' n' N' S') (hN : ∀ k, lookF k N = lookF k N') (hS : ∀ k, Si.lookF k S = Si.lookF k S') :
    Calls Tryz.prog 10 #[.pointer (some ⟨t, 0, none⟩), .pointer (some ⟨t', 0, none⟩)] w fun e w' => e = .returned (.bool true) ∧ Below w.heap.size w w' := by
  have n1 := h.nams
  have n2 := h'.nams
  have p1 := (alike_perm n1.1 n2.1 hN).length_eq
  have p2 := (Si.alike_perm n1.2 n2.2 hS).length_eq
  obtain ⟨L, K, hT, rfl, rfl⟩ := h
  obtain ⟨L', K', hT', rfl, rfl⟩ := h'
  refine same_yes hT hT' (by simpa using p1) (fun p hp => ?_) (by simpa using p2) (fun p hp => ?_)
  · have e1 := look_in n1.1 (List.mem_map.2 ⟨p, hp, rfl⟩)
    rw [hN, ← look_F] at e1
    cases hl : look p.1.nm L' with
    | none => rw [hl] at e1; simp at e1
    | some v =>
      rw [hl] at e1
      obtain ⟨v1, v2⟩ := v
      simp only [Option.map_some, Option.some.injEq] at e1
      exact ⟨v2, by rw [e1]⟩
  · have e1 := Si.look_in n1.2 (List.mem_map.2 ⟨p, hp, rfl⟩)
    rw [hS, ← Si.look_F] at e1
    cases hl : Si.look p.1.nm K' with
    | none => rw [hl] at e1; simp at e1
    | some v =>
      rw [hl] at e1
      obtain ⟨v1, v2⟩ := v
      obtain ⟨q1, q2⟩ := p
      simp only [Option.map_some, Option.some.injEq] at e1
      rw [e1]
end Go.Proofs.YteaomigmamnobaaGreatDoor

namespace Go.Proofs.YteaomigmamnobaaGreatDoor
set_option linter.unusedSimpArgs false
set_option linter.unusedVariables false
open Go.RowKit Go.MapKept

/- A tree, and one that it parts from nowhere. -/
def Li (N M : List Fi) (S R : List Si.Fi) : Prop := (∀ k, lookF k N = lookF k M) ∧ ∀ k, Si.lookF k S = Si.lookF k R
def apN (f : Fl) (ps : List Fl) (N : List Fi) : List Fi := if rightD f ps then deN f ps N else N
def apS (f : Fl) (ps : List Fl) (S : List Si.Fi) : List Si.Fi := if rightD f ps then turnS f.session f.turn (doS f S) else S
theorem Li.twice {N M : List Fi} {S R : List Si.Fi} (h : Li N M S R) (f : Fl) (ps : List Fl) (n1 : nam N) (n2 : nam M) (n3 : Si.nam S) (n4 : Si.nam R) : Li (apN f ps N) (apN f ps (apN f ps M)) (apS f ps S) (apS f ps (apS f ps R)) := by
  unfold apN apS
  cases hr : rightD f ps with
  | false => simpa using h
  | true =>
    simp only [if_true]
    exact ⟨fun k => (deN_act f ps).twice n1 n2 h.1 k, fun k => (Si.sit_act f).twice n3 n4 h.2 k⟩
theorem mn_below {w w' : World} {B t m n : Nat} (hc : Chg (Mn m n) w w') (hl : ∀ k, Wt t m n k → B ≤ k) (hB : B ≤ w.heap.size) : Below B w w' := hc.below (fun k e => by rcases e with rfl | rfl; exact hl _ (.inr (.inl rfl)); exact hl _ (.inr (.inr rfl))) hB
set_option maxRecDepth 100000 in
set_option maxHeartbeats 400000 in
theorem great_any (w : World) (f : Fl) (A1 A2 A3 : Option Addr) (c1 c2 c3 : Nat) (hn : f.np ≤ 9223372036854775807) : Calls Tryz.prog 29 #[.agg (dA f A1 A2 A3 c1 c2 c3)] w fun e w' => e = .returned (.bool (decide (60 < f.np))) ∧ Below w.heap.size w w' := by
  have hb := lay1 w (.cells (dA f A1 A2 A3 c1 c2 c3) 31)
  have HB : Hid (Below w.heap.size w (w.alloc (.cells (dA f A1 A2 A3 c1 c2 c3) 31))) := hb
  clear hb
  simp only [dA] at HB ⊢
  generalize f.np = k at *
  have hd : decide ((60 : Int) < (k : Int)) = decide (60 < k) := by simp only [decide_eq_decide]; omega
  go_enter Tryz.func29, Tryz.ntmps29
  go_wp2_with fail
  go_ret
  exact ⟨by first | rfl | simp [hd] | (rw [← hd]; rfl) | (rw [← hd]; simp), HB.out⟩
end Go.Proofs.YteaomigmamnobaaGreatDoor

namespace Go.Proofs.YteaomigmamnobaaGreatDoor
set_option linter.unusedSimpArgs false
set_option linter.unusedVariables false
open Go.RowKit Go.MapKept
/- The three trees of a round: their Wt's lie apart. -/
set_option maxRecDepth 100000 in
set_option maxHeartbeats 4000000 in
theorem twice_any {w : World} (hL : PA.Laid w) {A : Option Addr} {E : List DD.El2} {C : Nat} (hR : DD.Rowed w A E C) (hE : ∀ e ∈ E, DD.DV w e ∧ DedFit e.p.1 e.p.2 ∧ e.p.1.np ≤ 9223372036854775807) :
    Calls Tryz.prog 6 #[.slice A E.length C] w fun e w' => e = .returned (.bool true) ∧ Below w.heap.size w w' := by
  have haw := awake_any w hL
  have HL : Hid (PA.Laid w) := hL
  have HR : Hid (DD.Rowed w A E C) := hR
  have HE : Hid (∀ e ∈ E, DD.DV w e ∧ DedFit e.p.1 e.p.2 ∧ e.p.1.np ≤ 9223372036854775807) := hE
  clear hL hR hE
  go_enter Tryz.func6, Tryz.ntmps6
  go_wp2_with fail
  refine haw.mono ?_
  rintro e w1 ⟨rfl, hb1⟩
  have HB1 : Hid (Below w.heap.size w w1) := hb1
  clear haw hb1
  go_upto_if 11 with fail
  go_cut [0] from 12 to 14 (fun v0 wx => w1 = wx ∧ ∃ N : Nat, N ≤ 60 ∧ N ≤ E.length ∧ v0 = .slice A N C)
  case first =>
    by_cases h : 60 < E.length
    · have hC : E.length ≤ C := HR.out.len (fun e => by rw [e] at h; simp at h)
      go_wp2_with fail
      go_meet
      exact ⟨rfl, 60, Nat.le_refl _, by omega, rfl⟩
    · go_wp2_with fail
      go_meet
      exact ⟨rfl, E.length, by omega, Nat.le_refl _, rfl⟩
  case rest =>
  obtain ⟨hw1, N, hN, hNl, rfl⟩ := hcut
  subst hw1
  have HRN : Hid (DD.Rowed w A (E.take N) C) := HR.out.take N hNl
  have HEN : Hid (∀ e ∈ E.take N, DD.DV w e ∧ DedFit e.p.1 e.p.2 ∧ e.p.1.np ≤ 9223372036854775807) := fun e he => HE.out e (List.mem_of_mem_take he)
  have HTL : Hid ((E.take N).length = N) := by show _ = _; rw [List.length_take]; omega
  obtain ⟨F, hF⟩ : ∃ F, E.take N = F := ⟨_, rfl⟩
  rw [hF] at HRN HEN HTL
  clear hF hNl HR HE
  have c2 := new_tr w1
  go_wp2_with fail
  refine c2.mono ?_
  rintro e w2 ⟨ta, ma, na, rfl, hT2, hW2, hb2⟩
  have HA2 : Hid (Tr w2 ta ma na [⟨[47], [], zeroSt⟩] [] ∧ (∀ k, Wt ta ma na k → w.heap.size ≤ k) ∧ Below w.heap.size w w2) := ⟨hT2, fun k hk => Nat.le_trans HB1.out.size (hW2 k hk), HB1.out.trans (hb2.mono HB1.out.size)⟩
  have c3 := new_tr w2
  clear c2 hT2 hW2 hb2
  go_wp2_with fail
  refine c3.mono ?_
  rintro e w3 ⟨tb, mb, nb, rfl, hT3, hW3, hb3⟩
  have HLOW : Hid ((∀ k, Wt ta ma na k → w.heap.size ≤ k) ∧ ∀ k, Wt tb mb nb k → w.heap.size ≤ k) := ⟨HA2.out.2.1, fun k hk => Nat.le_trans HA2.out.2.2.size (hW3 k hk)⟩
  have HDIS : Hid (∀ k, Wt ta ma na k → ¬ Wt tb mb nb k) := by
    intro k hk e
    have h1 := HA2.out.1.lt
    have h2 := hW3 k e
    rcases hk with rfl | rfl | rfl <;> omega
  have H3 : Hid (Tr w3 ta ma na [⟨[47], [], zeroSt⟩] [] ∧ Tr w3 tb mb nb [⟨[47], [], zeroSt⟩] [] ∧ Below w.heap.size w w3) := ⟨HA2.out.1.below hb3, hT3, HA2.out.2.2.trans (hb3.mono HA2.out.2.2.size)⟩
  clear c3 hT3 hW3 hb3 HA2
  go_wp2_with fail
  go_loopw [5] (fun v5 wr => ∃ (j : Nat) (Na Nb : List Fi) (Sa Sb : List Si.Fi), v5 = .int .i64 j ∧ j ≤ N ∧ Tr wr ta ma na Na Sa ∧ Tr wr tb mb nb Nb Sb ∧ Li Na Nb Sa Sb ∧ Below w.heap.size w wr) (fun v5 _ => N - (Go.Lib.intOf v5).toNat)
  case atStart => exact ⟨0, _, _, _, _, rfl, Nat.zero_le _, H3.out.1, H3.out.2.1, ⟨fun _ => rfl, fun _ => rfl⟩, H3.out.2.2⟩
  case round =>
    obtain ⟨j, Na, Nb, Sa, Sb, rfl, hj, hTa, hTb, hLi, hB⟩ := hrel
    have H0 : Hid (Tr wr ta ma na Na Sa ∧ Tr wr tb mb nb Nb Sb ∧ Li Na Nb Sa Sb ∧ Below w.heap.size w wr) := ⟨hTa, hTb, hLi, hB⟩
    clear hTa hTb hLi hB
    by_cases hlt : j < N
    · have hj' : j < F.length := by rw [HTL.out]; exact hlt
      obtain ⟨b, o, rfl, hb, hC, hd⟩ := HRN.out.deed j hj'
      have he := HEN.out _ (List.getElem_mem hj')
      generalize F[j]'hj' = el at hd he
      obtain ⟨⟨f, ps⟩, A1, c1, A2, c2, A3, c3⟩ := el
      simp only [DD.DV] at hd he
      have HCELL : Hid (∀ {wa : World}, Below w.heap.size w wa → DD.DCells wa b (o + j * 16) f A1 c1 A2 c2 A3 c3) := fun hB' => hd.keep fun o' => hB'.cell (p := ⟨b, o', none⟩) hb
      have HVAL : Hid (∀ {wa : World}, Below w.heap.size w wa → PA.Laid wa ∧ DD.DVal wa f ps A1 c1 A2 c2 A3 c3) := fun hB' => ⟨HL.out.below hB', he.1.grow hB'⟩
      have HFIT : Hid (DedFit f ps) := he.2.1
      have c4 := great_any wr f A1 A2 A3 c1 c2 c3 he.2.2
      have i1 : (j : Int) < (N : Int) := by omega
      have i2 : (0 : Int) ≤ (j : Int) := by omega
      clear hd he hb
      simp only [dA] at c4
      obtain ⟨z0, z1, z2, z3, z4, z5, z6, z7, z8, z9, z10, z11, z12, z13, z14, z15⟩ := HCELL.out H0.out.2.2.2
      by_cases hg : 60 < f.np
      · rw [decide_eq_true hg] at c4
        as_aux_lemma =>
        go_wp2_with fail
        refine c4.mono ?_
        rintro e w4 ⟨rfl, hB4⟩
        have HB4 : Hid (Below w.heap.size w w4) := H0.out.2.2.2.trans (hB4.mono H0.out.2.2.2.size)
        clear c4 hB4
        go_wp2_with fail
        go_ret
        exact ⟨rfl, HB4.out⟩
      rw [decide_eq_false hg] at c4
      clear hg
      as_aux_lemma =>
      go_wp2_with fail
      refine c4.mono ?_
      rintro e w4 ⟨rfl, hB4⟩
      have H4 : Hid (Tr w4 ta ma na Na Sa ∧ Tr w4 tb mb nb Nb Sb ∧ Below w.heap.size w w4) := ⟨H0.out.1.below hB4, H0.out.2.1.below hB4, H0.out.2.2.2.trans (hB4.mono H0.out.2.2.2.size)⟩
      obtain ⟨La, Ka, hTk, hLa, hKa⟩ := H4.out.1
      have c5 := copy_yes hTk
      clear c4 hB4 hTk
      clear z0 z1 z2 z3 z4 z5 z6 z7 z8 z9 z10 z11 z12 z13 z14 z15
      as_aux_lemma =>
      go_wp2_with fail
      refine c5.mono ?_
      rintro e w5 ⟨tc, mc, nc, rfl, hTc, hWc, hB5⟩
      have H5 : Hid (Tr w5 ta ma na Na Sa ∧ Tr w5 tb mb nb Nb Sb ∧ Tr w5 tc mc nc Na Sa ∧ Below w.heap.size w w5) := ⟨H4.out.1.below hB5, H4.out.2.1.below hB5, ⟨La, Ka, hTc, hLa, hKa⟩, H4.out.2.2.trans (hB5.mono H4.out.2.2.size)⟩
      have HDC : Hid ((∀ k, Wt tc mc nc k → ¬ Wt ta ma na k) ∧ (∀ k, Wt tc mc nc k → ¬ Wt tb mb nb k)) := by
        have h1 := H4.out.1.lt
        have h2 := H4.out.2.1.lt
        refine ⟨fun k hk e => ?_, fun k hk e => ?_⟩
        · have := hWc k hk
          rcases e with rfl | rfl | rfl <;> omega
        · have := hWc k hk
          rcases e with rfl | rfl | rfl <;> omega
      clear c5 hTc hWc hB5 hLa hKa
      obtain ⟨z0, z1, z2, z3, z4, z5, z6, z7, z8, z9, z10, z11, z12, z13, z14, z15⟩ := HCELL.out H5.out.2.2.2
      have c6 := apply_any H5.out.1 (HVAL.out H5.out.2.2.2).1 f ps (HVAL.out H5.out.2.2.2).2 HFIT.out
      simp only [dA] at c6
      as_aux_lemma =>
      go_wp2_with fail
      refine c6.mono ?_
      rintro e w6 ⟨rfl, hT6, k6⟩
      have H6 : Hid (Tr w6 ta ma na (apN f ps Na) (apS f ps Sa) ∧ Tr w6 tb mb nb Nb Sb ∧ Tr w6 tc mc nc Na Sa ∧ Below w.heap.size w w6) :=
        ⟨hT6, H5.out.2.1.far H5.out.1 (fun k hk e => HDIS.out k e hk) k6, H5.out.2.2.1.far H5.out.1 HDC.out.1 k6, H5.out.2.2.2.trans (mn_below k6 HLOW.out.1 H5.out.2.2.2.size)⟩
      clear c6 hT6 k6
      clear z0 z1 z2 z3 z4 z5 z6 z7 z8 z9 z10 z11 z12 z13 z14 z15
      obtain ⟨z0, z1, z2, z3, z4, z5, z6, z7, z8, z9, z10, z11, z12, z13, z14, z15⟩ := HCELL.out H6.out.2.2.2
      have c7 := apply_any H6.out.2.1 (HVAL.out H6.out.2.2.2).1 f ps (HVAL.out H6.out.2.2.2).2 HFIT.out
      simp only [dA] at c7
      as_aux_lemma =>
      go_wp2_with fail
      refine c7.mono ?_
      rintro e w7 ⟨rfl, hT7, k7⟩
      have H7 : Hid (Tr w7 ta ma na (apN f ps Na) (apS f ps Sa) ∧ Tr w7 tb mb nb (apN f ps Nb) (apS f ps Sb) ∧ Tr w7 tc mc nc Na Sa ∧ Below w.heap.size w w7) :=
        ⟨H6.out.1.far H6.out.2.1 HDIS.out k7, hT7, H6.out.2.2.1.far H6.out.2.1 HDC.out.2 k7, H6.out.2.2.2.trans (mn_below k7 HLOW.out.2 H6.out.2.2.2.size)⟩
      clear c7 hT7 k7
      clear z0 z1 z2 z3 z4 z5 z6 z7 z8 z9 z10 z11 z12 z13 z14 z15
      obtain ⟨z0, z1, z2, z3, z4, z5, z6, z7, z8, z9, z10, z11, z12, z13, z14, z15⟩ := HCELL.out H7.out.2.2.2
      have c8 := apply_any H7.out.2.1 (HVAL.out H7.out.2.2.2).1 f ps (HVAL.out H7.out.2.2.2).2 HFIT.out
      simp only [dA] at c8
      as_aux_lemma =>
      go_wp2_with fail
      refine c8.mono ?_
      rintro e w8 ⟨rfl, hT8, k8⟩
      have HLI : Hid (Li (apN f ps Na) (apN f ps (apN f ps Nb)) (apS f ps Sa) (apS f ps (apS f ps Sb))) := by
        have n1 := H0.out.1.nams
        have n2 := H0.out.2.1.nams
        exact H0.out.2.2.1.twice f ps n1.1 n2.1 n1.2 n2.2
      have H8 : Hid (Tr w8 ta ma na (apN f ps Na) (apS f ps Sa) ∧ Tr w8 tb mb nb (apN f ps (apN f ps Nb)) (apS f ps (apS f ps Sb)) ∧ Tr w8 tc mc nc Na Sa ∧ Below w.heap.size w w8) :=
        ⟨H7.out.1.far H7.out.2.1 HDIS.out k8, hT8, H7.out.2.2.1.far H7.out.2.1 HDC.out.2 k8, H7.out.2.2.2.trans (mn_below k8 HLOW.out.2 H7.out.2.2.2.size)⟩
      have c9 := H8.out.1.same H8.out.2.1 HLI.out.1 HLI.out.2
      clear c8 hT8 k8
      clear z0 z1 z2 z3 z4 z5 z6 z7 z8 z9 z10 z11 z12 z13 z14 z15
      as_aux_lemma =>
      go_wp2_with fail
      refine c9.mono ?_
      rintro e w9 ⟨rfl, hB9⟩
      have H9 : Hid (Tr w9 ta ma na (apN f ps Na) (apS f ps Sa) ∧ Tr w9 tb mb nb (apN f ps (apN f ps Nb)) (apS f ps (apS f ps Sb)) ∧ Tr w9 tc mc nc Na Sa ∧ Below w.heap.size w w9) :=
        ⟨H8.out.1.below hB9, H8.out.2.1.below hB9, H8.out.2.2.1.below hB9, H8.out.2.2.2.trans (hB9.mono H8.out.2.2.2.size)⟩
      clear c9 hB9
      obtain ⟨z0, z1, z2, z3, z4, z5, z6, z7, z8, z9, z10, z11, z12, z13, z14, z15⟩ := HCELL.out H9.out.2.2.2
      have c10 := DD.right_any f ps A1 A2 A3 c1 c2 c3 w9 (HVAL.out H9.out.2.2.2).1 (HVAL.out H9.out.2.2.2).2 HFIT.out
      cases hr : rightD f ps with
      | true =>
        rw [hr] at c10
        clear hr
        as_aux_lemma =>
        go_wp2_with fail
        refine c10.mono ?_
        rintro e w10 ⟨rfl, hB10⟩
        have H10 : Hid (Tr w10 ta ma na (apN f ps Na) (apS f ps Sa) ∧ Tr w10 tb mb nb (apN f ps (apN f ps Nb)) (apS f ps (apS f ps Sb)) ∧ Below w.heap.size w w10) := ⟨H9.out.1.below hB10, H9.out.2.1.below hB10, H9.out.2.2.2.trans (hB10.mono H9.out.2.2.2.size)⟩
        clear c10 hB10
        clear z0 z1 z2 z3 z4 z5 z6 z7 z8 z9 z10 z11 z12 z13 z14 z15
        as_aux_lemma =>
        go_wp2_with fail
        go_roundw
        case rel => exact ⟨j + 1, _, _, _, _, by go_num, by omega, H10.out.1, H10.out.2.1, HLI.out, H10.out.2.2⟩
        case measure => simp [Go.Lib.intOf]; omega
      | false =>
        have HN : Hid (apN f ps Na = Na ∧ apS f ps Sa = Sa) := by unfold apN apS; simp [Hid, hr]
        rw [hr] at c10
        clear hr
        as_aux_lemma =>
        go_wp2_with fail
        refine c10.mono ?_
        rintro e w10 ⟨rfl, hB10⟩
        have H10 : Hid (Tr w10 ta ma na (apN f ps Na) (apS f ps Sa) ∧ Tr w10 tb mb nb (apN f ps (apN f ps Nb)) (apS f ps (apS f ps Sb)) ∧ Tr w10 tc mc nc Na Sa ∧ Below w.heap.size w w10) := ⟨H9.out.1.below hB10, H9.out.2.1.below hB10, H9.out.2.2.1.below hB10, H9.out.2.2.2.trans (hB10.mono H9.out.2.2.2.size)⟩
        have c11 := H10.out.1.same H10.out.2.2.1 (fun k => by rw [HN.out.1]) (fun k => by rw [HN.out.2])
        clear c10 hB10
        clear z0 z1 z2 z3 z4 z5 z6 z7 z8 z9 z10 z11 z12 z13 z14 z15
        as_aux_lemma =>
        go_wp2_with fail
        refine c11.mono ?_
        rintro e w11 ⟨rfl, hB11⟩
        have H11 : Hid (Tr w11 ta ma na (apN f ps Na) (apS f ps Sa) ∧ Tr w11 tb mb nb (apN f ps (apN f ps Nb)) (apS f ps (apS f ps Sb)) ∧ Below w.heap.size w w11) := ⟨H10.out.1.below hB11, H10.out.2.1.below hB11, H10.out.2.2.2.trans (hB11.mono H10.out.2.2.2.size)⟩
        clear c11 hB11
        go_wp2_with fail
        go_roundw
        case rel => exact ⟨j + 1, _, _, _, _, by go_num, by omega, H11.out.1, H11.out.2.1, HLI.out, H11.out.2.2⟩
        case measure => simp [Go.Lib.intOf]; omega
    · as_aux_lemma =>
      go_wp2_with fail
      go_ret
      exact ⟨rfl, H0.out.2.2.2⟩
end Go.Proofs.YteaomigmamnobaaGreatDoor
