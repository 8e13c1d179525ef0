/- What a watch rings does not hang on what else is watched: mathematics; two towers beside one another. -/
import Derived.Test.YtkbmbnfpadllmaaDoorBeO
namespace Go.Proofs.YtkbmbnfpadllmaaDoor.We
set_option linter.unusedSimpArgs false
set_option linter.unusedVariables false
open Go.RowKit Go.MapKept
set_option linter.unusedVariables false
set_option linter.unusedSimpArgs false

def isOwn (x : Wa) : Bool := decide (x.cn = -1)
def ownR (R : List Rg) : List Rg := R.filter fun r => decide (r.cn = -1)
theorem sortW_up {l : List Wa} (h : l.Nodup) : (sortW l).Pairwise Lt := by
  have h1 := sortW_all l
  have h2 : (sortW l).Nodup := (sortW_is l).nodup_iff.2 h
  have h3 : (sortW l).Pairwise fun x y => (!(Go.Proofs.ltOf cfW) y x) = true ∧ x ≠ y := h1.and h2
  refine h3.imp ?_
  rintro x y ⟨h1, hne⟩
  simp only [lt_W, Bool.not_eq_true', decide_eq_false_iff_not] at h1
  by_cases h : Lt x y
  · exact h
  · exact absurd (Lt.anti h h1) hne
theorem sort_filter {l : List Wa} (h : l.Nodup) (q : Wa → Bool) : (sortW l).filter q = sortW (l.filter q) :=
  (sortW_eq ((sortW_is l).filter q) ((sortW_up h).filter q)).symm
theorem told_own {k : Int} {p : List UInt8} {z : Int} {L : List Wa} (h : L.Nodup) : ownR (told1 k p z L) = told1 k p z (L.filter isOwn) ∧ (left1 k p L).filter isOwn = left1 k p (L.filter isOwn) := by
  constructor
  · unfold ownR told1
    rw [List.filter_map, show ((fun r : Rg => decide (r.cn = -1)) ∘ fun x => rgOf (rgK k p x) z x) = isOwn from rfl, sort_filter (h.filter _), List.filter_filter, List.filter_filter]
    congr 2
    apply List.filter_congr
    intro x _
    cases isOwn x <;> simp
  · unfold left1
    rw [List.filter_filter, List.filter_filter]
    apply List.filter_congr
    intro x _
    cases isOwn x <;> simp
theorem toldAll_own (z : Int) : ∀ (cs : List (Int × List UInt8)) (L : List Wa), L.Nodup → ownR (toldAll z cs L) = toldAll z cs (L.filter isOwn) ∧ (leftAll cs L).filter isOwn = leftAll cs (L.filter isOwn)
  | [], L, _ => ⟨rfl, rfl⟩
  | c :: cs, L, h => by
    obtain ⟨h1, h2⟩ := told_own (k := c.1) (p := c.2) (z := z) h
    obtain ⟨h3, h4⟩ := toldAll_own z cs (left1 c.1 c.2 L) (h.filter _)
    refine ⟨?_, ?_⟩
    · simp only [toldAll]
      rw [← h1, ← h2, ← h3]
      unfold ownR
      rw [List.filter_append]
    · simp only [leftAll]
      rw [h4, h2]
theorem tell_own (f : Fl) (ps : List Fl) {L : List Wa} (h : L.Nodup) : ownR (tellF f ps L) = tellF f ps (L.filter isOwn) ∧ (restF f ps L).filter isOwn = restF f ps (L.filter isOwn) := by
  unfold tellF restF
  split
  · exact toldAll_own _ _ _ h
  · exact ⟨rfl, rfl⟩
theorem tell_len (f : Fl) (ps : List Fl) (L : List Wa) : (tellF f ps L).length + (restF f ps L).length = L.length := by
  unfold tellF restF
  split
  · exact told_len _ _ _
  · simp
theorem add_own {cn so : Int} {p : List UInt8} {L : List Wa} (h : 0 ≤ cn) : (addR cn so p L).filter isOwn = L.filter isOwn := by
  unfold addR addL
  split
  · split
    · rfl
    · rw [List.filter_append]
      have : isOwn ⟨cn, so, p⟩ = false := by simp [isOwn]; omega
      simp [List.filter_cons, this]
  · rfl
theorem add_len (cn so : Int) (p : List UInt8) (L : List Wa) : (addR cn so p L).length ≤ L.length + 1 := by
  unfold addR addL
  split
  · split
    · omega
    · simp
  · omega
theorem first_own (so : Int) (p : List UInt8) : (addR (-1) so p []).filter isOwn = addR (-1) so p [] := by
  unfold addR addL
  split
  · simp [isOwn, List.filter_cons]
  · rfl
theorem first_len (so : Int) (p : List UInt8) : (addR (-1) so p []).length = if mayB so p then 1 else 0 := by
  unfold addR addL
  split <;> simp

/- Two towers that the call has made. -/
structure Tt (w0 w : World) (t m : Nat) (L : List Wa) (t' m' : Nat) (L' : List Wa) : Prop where
  a : Tw w0 w t m L
  b : Tw w0 w t' m' L'
  ne : t ≠ m' ∧ m ≠ t' ∧ m ≠ m'
theorem Tt.below {w0 w w' : World} {t m t' m' : Nat} {L L' : List Wa} (h : Tt w0 w t m L t' m' L') (hb : Below w.heap.size w w') : Tt w0 w' t m L t' m' L' := ⟨h.a.below hb, h.b.below hb, h.ne⟩
theorem Tt.toA {w0 w w' : World} {t m t' m' : Nat} {L L' K : List Wa} (h : Tt w0 w t m L t' m' L') (hx : Tx w' t m K) (hc : Chg (fun k => k = m) w w') : Tt w0 w' t m K t' m' L' :=
  ⟨h.a.to hx hc, ⟨h.b.1.keep hc (fun e => h.ne.2.1 e.symm) (fun e => h.ne.2.2 e.symm), (h.a.to hx hc).2.1, (h.a.to hx hc).2.2.1, h.b.2.2.2⟩, h.ne⟩
theorem Tt.toB {w0 w w' : World} {t m t' m' : Nat} {L L' K : List Wa} (h : Tt w0 w t m L t' m' L') (hx : Tx w' t' m' K) (hc : Chg (fun k => k = m') w w') : Tt w0 w' t m L t' m' K :=
  ⟨⟨h.a.1.keep hc h.ne.1 h.ne.2.2, (h.b.to hx hc).2.1, (h.b.to hx hc).2.2.1, h.a.2.2.2⟩, h.b.to hx hc, h.ne⟩
theorem Tt.new {w0 w : World} {t m : Nat} {L : List Wa} (h : Tw w0 w t m L) : Calls Tryd.prog 8 #[] w fun e w' => ∃ t' m', e = .returned (.pointer (some ⟨t', 0, none⟩)) ∧ Tt w0 w' t m L t' m' [] := by
  refine (new_any w).mono ?_
  rintro e w' ⟨t', m', rfl, h1, h2, h3, h4⟩
  have := h.1.ltt
  have := h.1.ltm
  have := h.2.2.1.size
  exact ⟨t', m', rfl, h.below h4, ⟨h1, (h.below h4).2.1, (h.below h4).2.2.1, by omega, by omega⟩, by omega, by omega, by omega⟩
theorem Tt.addA {w0 w : World} {t m t' m' : Nat} {L L' : List Wa} (h : Tt w0 w t m L t' m' L') (cn so : Int) (p : List UInt8) :
    Calls Tryd.prog 9 #[.pointer (some ⟨t, 0, none⟩), .int .i64 cn, .int .u8 so, .string (mkS p)] w fun e w' => e = .returned (.tuple #[]) ∧ Tt w0 w' t m (addR cn so p L) t' m' L' := by
  refine (add_any h.a.1 h.a.2.1 cn so p).mono ?_
  rintro e w' ⟨rfl, h1, h2⟩
  exact ⟨rfl, h.toA h1 h2⟩
theorem Tt.addB {w0 w : World} {t m t' m' : Nat} {L L' : List Wa} (h : Tt w0 w t m L t' m' L') (cn so : Int) (p : List UInt8) :
    Calls Tryd.prog 9 #[.pointer (some ⟨t', 0, none⟩), .int .i64 cn, .int .u8 so, .string (mkS p)] w fun e w' => e = .returned (.tuple #[]) ∧ Tt w0 w' t m L t' m' (addR cn so p L') := by
  refine (add_any h.b.1 h.b.2.1 cn so p).mono ?_
  rintro e w' ⟨rfl, h1, h2⟩
  exact ⟨rfl, h.toB h1 h2⟩
theorem Tt.ringA {w0 w : World} {t m t' m' : Nat} {L L' : List Wa} (h : Tt w0 w t m L t' m' L') (f : Fl) (ps : List Fl) {A1 A2 A3 : Option Addr} {c1 c2 c3 : Nat} (hv : DD.DVal w f ps A1 c1 A2 c2 A3 c3) (hf : DedFit f ps) (hlen : L.length ≤ 1000000) (hps : ps.length ≤ 1000000) :
    Calls Tryd.prog 10 #[.pointer (some ⟨t, 0, none⟩), .agg (dV f A1 A2 A3 c1 c2 c3)] w fun e w' => ∃ v, e = .returned v ∧ RowIs w' v (tellF f ps L) ∧ Tt w0 w' t m (restF f ps L) t' m' L' := by
  refine (rings_any h.a.1 h.a.2.1 f ps hv hf hlen hps).mono ?_
  rintro e w' ⟨v, rfl, h1, h2, h3⟩
  exact ⟨v, rfl, RowIs.of h1, h.toA h2 h3⟩
theorem Tt.ringB {w0 w : World} {t m t' m' : Nat} {L L' : List Wa} (h : Tt w0 w t m L t' m' L') (f : Fl) (ps : List Fl) {A1 A2 A3 : Option Addr} {c1 c2 c3 : Nat} (hv : DD.DVal w f ps A1 c1 A2 c2 A3 c3) (hf : DedFit f ps) (hlen : L'.length ≤ 1000000) (hps : ps.length ≤ 1000000) {u : Value} {R : List Rg} (hu : RowIs w u R) :
    Calls Tryd.prog 10 #[.pointer (some ⟨t', 0, none⟩), .agg (dV f A1 A2 A3 c1 c2 c3)] w fun e w' => ∃ v, e = .returned v ∧ RowIs w' v (tellF f ps L') ∧ RowIs w' u R ∧ Tt w0 w' t m L t' m' (restF f ps L') := by
  refine (rings_any h.b.1 h.b.2.1 f ps hv hf hlen hps).mono ?_
  rintro e w' ⟨v, rfl, h1, h2, h3⟩
  exact ⟨v, rfl, RowIs.of h1, hu.keep h.b.1.mp h3, h.toB h2 h3⟩
end Go.Proofs.YtkbmbnfpadllmaaDoor.We
