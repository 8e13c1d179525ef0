/- Tick, as mathematics: what a round of its loop holds. -/
import Derived.Test.YtbehainbggdpeaaGreatBoM
namespace Go.Proofs.YtbehainbggdpeaaGreat
set_option linter.unusedSimpArgs false
set_option linter.unusedVariables false
set_option linter.unusedSimpArgs false
set_option linter.unusedVariables false

structure Tkd (now : Int) (L Lc : List Fi) (left ns : List Int) : Prop where
  names : (L.map fun p => p.nm).Nodup
  memc : ∀ p, p ∈ Lc ↔ p ∈ L ∧ (p.nm ∈ left ∨ now < p.en)
  memn : ∀ x, x ∈ ns ↔ ∃ p ∈ L, p.nm = x ∧ p.en ≤ now ∧ x ∉ left
  nd : ns.Nodup
  ndl : left.Nodup
  len : ns.length + left.length ≤ L.length
theorem same_nm {L : List Fi} (h : (L.map fun p => p.nm).Nodup) {p q : Fi} (hp : p ∈ L) (hq : q ∈ L) (e : p.nm = q.nm) : p = q := by
  have h1 := look_mem h hp
  have h2 := look_mem h hq
  rw [e, h2] at h1
  exact (Option.some.inj h1).symm
theorem Tkd.start {now : Int} {L : List Fi} (h : (L.map fun p => p.nm).Nodup) : Tkd now L L (L.map fun p => p.nm) [] := by
  refine ⟨h, fun p => ⟨fun hp => ⟨hp, .inl (List.mem_map.2 ⟨p, hp, rfl⟩)⟩, fun hp => hp.1⟩, fun x => ⟨fun hx => (nomatch hx), ?_⟩, .nil, h, by simp⟩
  rintro ⟨p, hp, rfl, _, hn⟩
  exact absurd (List.mem_map.2 ⟨p, hp, rfl⟩) hn
theorem Tkd.cur {now : Int} {L Lc : List Fi} {left ns : List Int} (h : Tkd now L Lc left ns) {q : Fi} (hq : q ∈ Lc) : q ∈ L := ((h.memc q).1 hq).1
theorem Tkd.gone {now : Int} {L Lc : List Fi} {left ns l1 l2 : List Int} (h : Tkd now L Lc left ns) {q : Fi} (hl : left = l1 ++ q.nm :: l2) (hq : q ∈ Lc) (hn : (Lc.map fun p => p.nm).Nodup) (he : q.en ≤ now) : Tkd now L (delL q.nm Lc) (l1 ++ l2) (ns ++ [q.nm]) := by
  have hqL := h.cur hq
  subst hl
  have hnd := h.ndl
  have hq1 : q.nm ∉ l1 ++ l2 := by
    rw [List.nodup_append] at hnd
    intro e
    rcases List.mem_append.1 e with e | e
    · exact hnd.2.2 _ e _ (.head _) rfl
    · exact (List.nodup_cons.1 hnd.2.1).1 e
  have hnd' : (l1 ++ l2).Nodup := List.Nodup.sublist (List.Sublist.append (List.Sublist.refl _) (List.sublist_cons_self _ _)) hnd
  have hqn : q.nm ∉ ns := by
    intro e
    obtain ⟨p, _, _, _, hx⟩ := (h.memn _).1 e
    exact hx (by simp)
  refine ⟨h.names, fun p => ?_, fun x => ?_, ?_, hnd', ?_⟩
  · rw [mem_delL hn, h.memc]
    constructor
    · rintro ⟨⟨h1, h2⟩, h3⟩
      refine ⟨h1, h2.imp (fun e => ?_) id⟩
      simp only [List.mem_append, List.mem_cons] at e ⊢
      rcases e with e | e | e
      · exact .inl e
      · exact absurd e h3
      · exact .inr e
    · rintro ⟨h1, h2⟩
      refine ⟨⟨h1, h2.imp (fun e => ?_) id⟩, ?_⟩
      · simp only [List.mem_append, List.mem_cons] at e ⊢
        exact e.imp id .inr
      · intro e
        have := same_nm h.names h1 hqL e
        subst this
        rcases h2 with h2 | h2
        · exact hq1 h2
        · omega
  · simp only [List.mem_append, List.mem_singleton, h.memn]
    constructor
    · rintro (⟨p, h1, h2, h3, h4⟩ | rfl)
      · exact ⟨p, h1, h2, h3, fun e => h4 (by simp only [List.mem_append, List.mem_cons]; exact e.imp id .inr)⟩
      · exact ⟨q, hqL, rfl, he, fun e => hq1 (List.mem_append.2 e)⟩
    · rintro ⟨p, h1, h2, h3, h4⟩
      by_cases e : x = q.nm
      · exact .inr e
      · refine .inl ⟨p, h1, h2, h3, fun e' => ?_⟩
        simp only [List.mem_append, List.mem_cons] at e'
        rcases e' with e' | e' | e'
        · exact h4 (.inl e')
        · exact e e'
        · exact h4 (.inr e')
  · rw [List.nodup_append]
    refine ⟨h.nd, by simp, ?_⟩
    intro a ha b hb e
    simp only [List.mem_singleton] at hb
    exact hqn (by rw [← hb, ← e]; exact ha)
  · have := h.len
    simp only [List.length_append, List.length_cons, List.length_nil] at this ⊢
    omega
theorem Tkd.kept {now : Int} {L Lc : List Fi} {left ns l1 l2 : List Int} (h : Tkd now L Lc left ns) {q : Fi} (hl : left = l1 ++ q.nm :: l2) (hq : q ∈ Lc) (he : now < q.en) : Tkd now L Lc (l1 ++ l2) ns := by
  have hqL := h.cur hq
  subst hl
  have hnd := h.ndl
  have hnd' : (l1 ++ l2).Nodup := List.Nodup.sublist (List.Sublist.append (List.Sublist.refl _) (List.sublist_cons_self _ _)) hnd
  refine ⟨h.names, fun p => ?_, fun x => ?_, h.nd, hnd', ?_⟩
  · rw [h.memc]
    constructor
    · rintro ⟨h1, h2⟩
      refine ⟨h1, ?_⟩
      rcases h2 with e | e
      · simp only [List.mem_append, List.mem_cons] at e ⊢
        rcases e with e | e | e
        · exact .inl (.inl e)
        · have := same_nm h.names h1 hqL e
          subst this; exact .inr he
        · exact .inl (.inr e)
      · exact .inr e
    · rintro ⟨h1, h2⟩
      refine ⟨h1, h2.imp (fun e => ?_) id⟩
      simp only [List.mem_append, List.mem_cons] at e ⊢
      exact e.imp id .inr
  · rw [h.memn]
    constructor
    · rintro ⟨p, h1, h2, h3, h4⟩
      exact ⟨p, h1, h2, h3, fun e => h4 (by simp only [List.mem_append, List.mem_cons] at e ⊢; exact e.imp id .inr)⟩
    · rintro ⟨p, h1, h2, h3, h4⟩
      refine ⟨p, h1, h2, h3, fun e => ?_⟩
      simp only [List.mem_append, List.mem_cons] at e h4
      rcases e with e | e | e
      · exact h4 (.inl e)
      · have := same_nm h.names h1 hqL (h2.trans e)
        subst this; omega
      · exact h4 (.inr e)
  · have := h.len
    simp only [List.length_append, List.length_cons] at this ⊢
    omega
theorem Tkd.fin {now : Int} {L Lc S : List Fi} {ns : List Int} (h : Tkd now L Lc [] ns) (hn : (Lc.map fun p => p.nm).Nodup) (hp : L.Perm S) (hs : asc S) : Lc.Perm (rest now S) ∧ ns.Perm (told now S) := by
  constructor
  · refine (List.perm_ext_iff_of_nodup (nodup_of_names hn) (asc_rest hs).nodup).2 fun q => ?_
    rw [h.memc]
    unfold rest
    rw [List.mem_filter, hp.mem_iff]
    simp
  · refine (List.perm_ext_iff_of_nodup h.nd ((told_asc hs).imp fun h e => by omega)).2 fun x => ?_
    rw [h.memn]
    unfold told
    simp only [List.mem_map, List.mem_filter, decide_eq_true_eq]
    constructor
    · rintro ⟨p, h1, h2, h3, _⟩
      exact ⟨p, ⟨hp.mem_iff.1 h1, h3⟩, h2⟩
    · rintro ⟨p, ⟨h1, h2⟩, h3⟩
      exact ⟨p, hp.mem_iff.2 h1, h3, h2, by simp⟩
theorem Tkd.told_len {now : Int} {L Lc : List Fi} {left ns : List Int} (h : Tkd now L Lc left ns) : ns.length ≤ L.length := by have := h.len; omega
end Go.Proofs.YtbehainbggdpeaaGreat
