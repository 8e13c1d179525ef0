/- awake of the trees. -/
import Derived.Test.YteaomigmamnobaaGreatDoorTrAa
namespace Go.Proofs.YteaomigmamnobaaGreatDoor
set_option linter.unusedSimpArgs false
set_option linter.unusedVariables false
open Go.RowKit Go.MapKept
set_option linter.unusedVariables false
set_option linter.unusedSimpArgs false

theorem aform {T : TypeId} {sz : Nat} {w : World} {base n : Nat} {v : Value} {xs : List Value} (h : w.ownsRow base T sz v n xs) : ∃ A C, v = .slice A n C := by
  rcases h.2 with ⟨rfl, rfl⟩ | ⟨g, cap, cur, rfl, _⟩
  · exact ⟨none, 0, rfl⟩
  · exact ⟨_, cap, rfl⟩
theorem store_let {P : Program} {ops : Array Oper} {rest : List Oper} {op : Oper} {a : Act} {w : World} {Q : Exit → Act → World → Prop} (hgd : op.guard = none) (ty : TypeId) (x y : Operand) (ho : op.op = .store ty x y)
    (b o : Nat) (cells : Array Value) (hx : a.eval x = .pointer (some ⟨b, o, none⟩)) (hy : a.eval y = .agg cells)
    (ht : w.there b o cells.size) (hi : (P.info? ty).map (·.size) = some cells.size) (h1 : cells.all (·.oneCell') = true)
    (h : ∀ w', w' = w.setCells b o cells.toList → wpList P ops Q rest (a.put op.dst undef) w') : wpList P ops Q (op :: rest) a w :=
  wpList_store_mid hgd ty x y ho b o cells hx hy ht hi h1 (h _ rfl)
/- A tree that the call has made. -/
def Aw (w0 w : World) (t m n : Nat) (N : List Fi) (S : List Si.Fi) : Prop := Tr w t m n N S ∧ PA.Laid w ∧ Below w0.heap.size w0 w ∧ ∀ k, Wt t m n k → w0.heap.size ≤ k
theorem Aw.below {w0 w w' : World} {t m n : Nat} {N : List Fi} {S : List Si.Fi} (h : Aw w0 w t m n N S) (hb : Below w.heap.size w w') : Aw w0 w' t m n N S :=
  ⟨h.1.below hb, h.2.1.below hb, h.2.2.1.trans (hb.mono h.2.2.1.size), h.2.2.2⟩
theorem Aw.apply {w0 w : World} {t m n : Nat} {N : List Fi} {S : List Si.Fi} (h : Aw w0 w t m n N S) (f : Fl) (hk : f.kind = 1 ∨ f.kind = 4 ∨ f.kind = 6) (hm : f.mems = []) (hn : f.np = 0) (hr : rightD f [] = true) (hfit : DedFit f []) (hp : f.path.length ≤ 281474976710656) {A1 : Option Addr} {c1 : Nat} (hx : Bs w (.slice A1 f.data.length c1) f.data) (hl : f.data.length ≤ 1000) :
    Calls Tryz.prog 12 #[.pointer (some ⟨t, 0, none⟩), .agg (dA f A1 none none c1 0 0)] w fun e w' => e = .returned (.tuple #[]) ∧ Aw w0 w' t m n (doN f N) (turnS f.session f.turn (doS f S)) ∧ Chg (Mn m n) w w' := by
  refine (apply_leaf h.1 h.2.1 f hk hm hn hr hfit hp hx hl).mono ?_
  rintro e w' ⟨rfl, h1, c1⟩
  refine ⟨rfl, ⟨h1, laid_chg h.2.1 h.1 c1, h.2.2.1.trans (c1.below ?_ h.2.2.1.size), h.2.2.2⟩, c1⟩
  rintro k (rfl | rfl)
  · exact h.2.2.2 _ (.inr (.inl rfl))
  · exact h.2.2.2 _ (.inr (.inr rfl))
theorem Aw.look {w : World} {t m n : Nat} {N : List Fi} {S : List Si.Fi} (h : Tr w t m n N S) (p : List UInt8) {q : Fi} (hq : lookF p N = some q) : ∃ L K, Tk w t m n L K ∧ L.map Prod.fst = N ∧ K.map Prod.fst = S ∧ ∃ A C, look p L = some (q, .slice A q.b.length C) := by
  obtain ⟨L, K, hT, rfl, rfl⟩ := h
  rw [← look_F] at hq
  cases hl : YteaomigmamnobaaGreatDoor.look p L with
  | none => rw [hl] at hq; simp at hq
  | some v =>
    obtain ⟨q', v⟩ := v
    rw [hl] at hq
    obtain rfl : q' = q := by simpa using hq
    obtain ⟨A, C, hv⟩ := aform (hT.bs _ (look_some hl).1)
    simp only at hv
    subst hv
    exact ⟨L, K, hT, rfl, rfl, A, C, hl⟩
theorem names_F (L : List Fv) : (L.map fun q => q.1.nm) = (L.map Prod.fst).map (·.nm) := by simp
theorem Aw.get {w0 w : World} {t m n : Nat} {N : List Fi} {S : List Si.Fi} (h : Aw w0 w t m n N S) (hlen : N.length ≤ 1000000) (p : List UInt8) (hp : p.length ≤ 1000000) {q : Fi} (hq : lookF p N = some q) :
    Calls Tryz.prog 14 #[.pointer (some ⟨t, 0, none⟩), .string (mkS p)] w fun e w' => ∃ A' C', e = .returned (.tuple #[.agg (toldA p q A' C' ((N.map (·.nm)).filter (kid p)).length), .bool true]) ∧ w'.ownsRow w.heap.size 5 1 (.slice A' q.b.length C') q.b.length (bv q.b) ∧ Aw w0 w' t m n N S ∧ Below w.heap.size w w' := by
  obtain ⟨L, K, hT, hL, hK, A, C, hl⟩ := Aw.look h.1 p hq
  refine (get_yes hT h.2.1 (by rw [← hL] at hlen; simpa using hlen) p hp hl).mono ?_
  rintro e w' ⟨A', C', rfl, ho, hb⟩
  rw [names_F, hL]
  exact ⟨A', C', rfl, ho, h.below hb, hb⟩
theorem Aw.list {w0 w : World} {t m n : Nat} {N : List Fi} {S : List Si.Fi} (h : Aw w0 w t m n N S) (hlen : N.length ≤ 1000000) (p x : List UInt8) {q : Fi} (hq : lookF p N = some q) (hx : sortN (((N.map (·.nm)).filter (kid p)).map PA.lastS) = [x]) :
    Calls Tryz.prog 22 #[.pointer (some ⟨t, 0, none⟩), .string (mkS p)] w fun e w' => ∃ g C', e = .returned (.tuple #[.slice (some ⟨g, 0, none⟩) 1 C', .bool true]) ∧ (g < w'.heap.size ∧ w.heap.size ≤ g ∧ w'.cell? ⟨g, 0, none⟩ = some (.string (mkS x))) ∧ Aw w0 w' t m n N S ∧ Below w.heap.size w w' := by
  obtain ⟨L, K, hT, hL, hK, A, C, hl⟩ := Aw.look h.1 p hq
  refine (list_yes hT h.2.1 (by rw [← hL] at hlen; simpa using hlen) p hl).mono ?_
  rintro e w' ⟨ns, A', C', rfl, hns, ho, hb⟩
  rw [names_F, hL, hx] at hns
  subst hns
  obtain ⟨g, rfl, h1, h2⟩ := ttext_at ho 0 (by simp)
  exact ⟨g, C', rfl, ⟨h1, (ho.lt g rfl).1, h2⟩, h.below hb, hb⟩
theorem Aw.sits {w0 w : World} {t m n : Nat} {N : List Fi} {q : Si.Fi} (h : Aw w0 w t m n N [q]) :
    Calls Tryz.prog 18 #[.pointer (some ⟨t, 0, none⟩)] w fun e w' => ∃ g C', e = .returned (.slice (some ⟨g, 0, none⟩) 1 C') ∧ (g < w'.heap.size ∧ w'.cell? ⟨g, 0, none⟩ = some (.int .i64 q.nm) ∧ w'.cell? ⟨g, 1, none⟩ = some (.int .i64 q.tmo) ∧ w'.cell? ⟨g, 2, none⟩ = some (.int .i64 q.turn)) ∧ Below w.heap.size w w' := by
  obtain ⟨⟨L, K, hT, hL, hK⟩, _⟩ := h
  obtain rfl : K = [(q, ())] := by
    rcases K with _ | ⟨⟨a, u⟩, K⟩
    · simp at hK
    · simp at hK
      obtain ⟨rfl, rfl⟩ := hK
      rfl
  refine (Si.sittings_any hT (by simp)).mono ?_
  rintro e w' ⟨A, C, rfl, ho, hb⟩
  have e1 : (Si.sortS ([(q, ())].map fun p => p.1.nm)).flatMap (Si.encS [(q, ())]) = [.int .i64 q.nm, .int .i64 q.tmo, .int .i64 q.turn] := by
    simp [Si.sortS, Si.encS, Si.look]
  rw [e1] at ho
  rcases ho.2 with ⟨hv, h0⟩ | ⟨g, cap, cur, hv, hb', hg, hr⟩
  · simp at h0
  · cases hv
    exact ⟨g, C, rfl, ⟨theap_lt hg, by rw [ho.cellAt 0 (by simp)]; rfl, by rw [ho.cellAt 1 (by simp)]; rfl, by rw [ho.cellAt 2 (by simp)]; rfl⟩, hb⟩
/- What a told node lies in. -/
theorem told_lies {w w' : World} {vs : List Value} (hw : w' = (w.alloc (.cells zeroA.toArray 47)).setCells w.heap.size 0 vs) (hl : vs.length = 12) : Below w.heap.size w w' ∧ w.heap.size < w'.heap.size ∧ ∀ j v, vs[j]? = some v → w'.cell? ⟨w.heap.size, j, none⟩ = some v := by
  have hth : (w.alloc (.cells zeroA.toArray 47)).there w.heap.size 0 12 := there_of (cs := zeroA) (heap_alloc_new w _)
  have h1 : Below w.heap.size w w' := by rw [hw]; exact below_cells (Nat.le_refl _) _ _ _ (lay1 w _)
  have h2 : ∀ j v, vs[j]? = some v → w'.cell? ⟨w.heap.size, j, none⟩ = some v := by
    intro j v hv
    rw [hw]
    have := World.rangeAt_setCells_same _ w.heap.size 0 vs (by rw [hl]; exact hth) j v hv
    rw [Nat.zero_add] at this
    exact this
  refine ⟨h1, ?_, h2⟩
  exact World.block_lt_of_cell? w' _ (h2 0 (vs[0]'(by omega)) (by simp))

def nA : Fi := ⟨[47, 97], [120], ⟨5, 5, 5, 7, 7, 0, 0, 0, 0, 0⟩⟩
def nR : Fi := ⟨[47], [], ⟨0, 0, 5, 0, 0, 0, 1, 0, 0, 0⟩⟩
theorem N1_is : doN fC [⟨[47], [], zeroSt⟩] = [nR, nA] := by decide +kernel
theorem S1_is : turnS fC.session fC.turn (doS fC []) = [] := by decide +kernel
theorem N2_is : doN fO [nR, nA] = [nR, nA] := by decide +kernel
theorem S2_is : turnS fO.session fO.turn (doS fO []) = [⟨8, 10, 3⟩] := by decide +kernel
theorem N3_is : doN fS [nR, nA] = [nR, nA] := by decide +kernel
theorem S3_is : turnS fS.session fS.turn (doS fS [⟨8, 10, 3⟩]) = [⟨8, 10, 4⟩] := by decide +kernel
theorem lookA : lookF [47, 97] [nR, nA] = some nA := by decide +kernel
theorem lookR : lookF [47] [nR, nA] = some nR := by decide +kernel
theorem kidsA : (([nR, nA].map (·.nm)).filter (kid [47, 97])).length = 0 := by decide +kernel
theorem kidsR : (([nR, nA].map (·.nm)).filter (kid [47])).length = 1 := by decide +kernel
theorem listR : sortN ((([nR, nA].map (·.nm)).filter (kid [47])).map PA.lastS) = [[97]] := by
  have : (([nR, nA].map (·.nm)).filter (kid [47])).map PA.lastS = [[97]] := by decide +kernel
  rw [this]; simp [sortN]
theorem fO_fit : DedFit fO [] := ⟨by constructor <;> (try simp [fO, I64]) <;> decide, by simp, rfl⟩
theorem fS_fit : DedFit fS [] := ⟨by constructor <;> (try simp [fS, I64]) <;> decide, by simp, rfl⟩
end Go.Proofs.YteaomigmamnobaaGreatDoor
