/- TreeNumbers: its deeds, and the trees that they make one behind the other. -/
import Derived.Test.YtcdnfgibcochhaaGreatDoorTrNh
set_option linter.unusedSimpArgs false
namespace Go.Proofs.YtcdnfgibcochhaaGreatDoor.Nb
set_option linter.unusedSimpArgs false
open Go.RowKit Go.MapKept
def d1 : Fl := fK 5 0 1 [47,97]
def d2 : Fl := fK 6 9 1 [47,97,47,98]
def d3 : Fl := fK 7 8 2 [47,97]
def d4 : Fl := ⟨8,3,0,0,0,0,[47,110,111,110,101],[],0,3,0,0,0,0,[],0⟩
def d5 : Fl := ⟨9,2,0,0,0,0,[47,120,47,121],[],0,0,4,0,0,0,[],0⟩
def d6 : Fl := ⟨10,2,0,0,0,0,[47,120],[],0,0,5,0,0,0,[],0⟩
def d7 : Fl := ⟨11,4,0,6,0,0,[],[],0,0,0,5,0,0,[],0⟩
def d8 : Fl := ⟨12,9,11,4,0,0,[],[],0,0,0,0,210,0,[],0⟩
def d9 : Fl := ⟨11,4,0,2,0,0,[],[],0,0,0,7,0,0,[],0⟩
def p10 : Fl := ⟨0,2,0,0,0,0,[47,97,47,98],[],0,0,2,0,0,0,[],0⟩
def d10 : Fl := ⟨13,5,11,9,0,3,[],[],9,0,0,0,0,0,[],1⟩
def d11 : Fl := ⟨14,5,0,0,0,0,[],[],11,0,0,0,0,0,[],0⟩
def p12a : Fl := ⟨0,1,0,0,0,0,[47,109],[],0,0,6,0,0,0,[],0⟩
def p12b : Fl := ⟨0,3,0,0,0,0,[47,109],[121,122],0,1,0,0,0,0,[],0⟩
def d12 : Fl := ⟨15,8,0,0,0,4,[],[],0,0,0,0,0,0,[],2⟩
def d13 : Fl := ⟨9,6,5,3,0,0,[],[],0,0,0,0,0,0,[],0⟩
theorem d1_fit : DedFit d1 [] := ⟨by constructor <;> (try simp [d1, fK, I64]) <;> decide, by simp, rfl⟩
theorem d1_right : rightD d1 [] = true := by decide +kernel
theorem d2_fit : DedFit d2 [] := ⟨by constructor <;> (try simp [d2, fK, I64]) <;> decide, by simp, rfl⟩
theorem d2_right : rightD d2 [] = true := by decide +kernel
theorem d3_fit : DedFit d3 [] := ⟨by constructor <;> (try simp [d3, fK, I64]) <;> decide, by simp, rfl⟩
theorem d3_right : rightD d3 [] = true := by decide +kernel
theorem d4_fit : DedFit d4 [] := ⟨by constructor <;> (try simp [d4, I64]) <;> decide, by simp, rfl⟩
theorem d4_right : rightD d4 [] = true := by decide +kernel
theorem d5_fit : DedFit d5 [] := ⟨by constructor <;> (try simp [d5, I64]) <;> decide, by simp, rfl⟩
theorem d5_right : rightD d5 [] = true := by decide +kernel
theorem d6_fit : DedFit d6 [] := ⟨by constructor <;> (try simp [d6, I64]) <;> decide, by simp, rfl⟩
theorem d6_right : rightD d6 [] = true := by decide +kernel
theorem d7_fit : DedFit d7 [] := ⟨by constructor <;> (try simp [d7, I64]) <;> decide, by simp, rfl⟩
theorem d7_right : rightD d7 [] = true := by decide +kernel
theorem d8_fit : DedFit d8 [] := ⟨by constructor <;> (try simp [d8, I64]) <;> decide, by simp, rfl⟩
theorem d8_right : rightD d8 [] = true := by decide +kernel
theorem d9_fit : DedFit d9 [] := ⟨by constructor <;> (try simp [d9, I64]) <;> decide, by simp, rfl⟩
theorem d9_right : rightD d9 [] = true := by decide +kernel
theorem p10_fit : FlFit p10 := by constructor <;> (try simp [p10, I64]) <;> decide
theorem d10_fit : DedFit d10 [p10] := ⟨by constructor <;> (try simp [d10, I64]) <;> decide, fun p hp => by rw [List.mem_singleton.1 hp]; exact p10_fit, rfl⟩
theorem d10_right : rightD d10 [p10] = true := by decide +kernel
theorem d11_fit : DedFit d11 [] := ⟨by constructor <;> (try simp [d11, I64]) <;> decide, by simp, rfl⟩
theorem d11_right : rightD d11 [] = true := by decide +kernel
theorem p12a_fit : FlFit p12a := by constructor <;> (try simp [p12a, I64]) <;> decide
theorem p12b_fit : FlFit p12b := by constructor <;> (try simp [p12b, I64]) <;> decide
theorem d12_all : ∀ p ∈ [p12a, p12b], FlFit p := by
  intro p hp
  rcases List.mem_cons.1 hp with rfl | h
  · exact p12a_fit
  · rw [List.mem_singleton.1 h]; exact p12b_fit
theorem d12_fit : DedFit d12 [p12a, p12b] := ⟨by constructor <;> (try simp [d12, I64]) <;> decide, d12_all, rfl⟩
theorem d12_right : rightD d12 [p12a, p12b] = true := by decide +kernel
theorem d13_fit : DedFit d13 [] := ⟨by constructor <;> (try simp [d13, I64]) <;> decide, by simp, rfl⟩
theorem d13_right : rightD d13 [] = true := by decide +kernel
def N0 : List Fi := [⟨[47], [], zeroSt⟩]
def S0 : List Si.Fi := []
def N1 : List Fi := deN d1 [] N0
def S1 : List Si.Fi := turnS d1.session d1.turn (doS d1 S0)
def N2 : List Fi := deN d2 [] N1
def S2 : List Si.Fi := turnS d2.session d2.turn (doS d2 S1)
def N3 : List Fi := deN d3 [] N2
def S3 : List Si.Fi := turnS d3.session d3.turn (doS d3 S2)
def N4 : List Fi := deN d4 [] N3
def S4 : List Si.Fi := turnS d4.session d4.turn (doS d4 S3)
def N5 : List Fi := deN d5 [] N4
def S5 : List Si.Fi := turnS d5.session d5.turn (doS d5 S4)
def N6 : List Fi := deN d6 [] N5
def S6 : List Si.Fi := turnS d6.session d6.turn (doS d6 S5)
def N7 : List Fi := deN d7 [] N6
def S7 : List Si.Fi := turnS d7.session d7.turn (doS d7 S6)
def N8 : List Fi := deN d8 [] N7
def S8 : List Si.Fi := turnS d8.session d8.turn (doS d8 S7)
def N9 : List Fi := deN d9 [] N8
def S9 : List Si.Fi := turnS d9.session d9.turn (doS d9 S8)
def N10 : List Fi := deN d10 [p10] N9
def S10 : List Si.Fi := turnS d10.session d10.turn (doS d10 S9)
def N11 : List Fi := deN d11 [] N10
def S11 : List Si.Fi := turnS d11.session d11.turn (doS d11 S10)
def N12 : List Fi := deN d12 [p12a, p12b] N11
def S12 : List Si.Fi := turnS d12.session d12.turn (doS d12 S11)
theorem look6a : lookF [47, 97] N6 = some ⟨[47, 97], [120], ⟨7, 7, 7, 7, 7, 0, 0, 8, 0, 0⟩⟩ := by decide +kernel
theorem look6r : lookF [47] N6 = some ⟨[47], [], ⟨0, 0, 10, 0, 0, 0, 5, 0, 0, 0⟩⟩ := by decide +kernel
theorem kids6a : ((N6.map (·.nm)).filter (kid [47, 97])).length = 1 := by decide +kernel
theorem kids6r : ((N6.map (·.nm)).filter (kid [47])).length = 1 := by decide +kernel
theorem len6 : N6.length = 3 := by decide +kernel
theorem own6 : ∀ x, (∃ q ∈ N6, q.nm = x ∧ q.st.own = 9) ↔ x = [47, 97, 47, 98] := by
  have : N6 = [⟨[47], [], ⟨0, 0, 10, 0, 0, 0, 5, 0, 0, 0⟩⟩, ⟨[47, 97], [120], ⟨7, 7, 7, 7, 7, 0, 0, 8, 0, 0⟩⟩, ⟨[47, 97, 47, 98], [120], ⟨6, 6, 6, 7, 7, 0, 0, 9, 0, 0⟩⟩] := by decide +kernel
  rw [this]
  intro x
  constructor
  · rintro ⟨q, hq, rfl, h⟩
    simp only [List.mem_cons, List.mem_nil_iff, or_false] at hq
    rcases hq with rfl | rfl | rfl
    · simp at h
    · simp at h
    · rfl
  · rintro rfl
    exact ⟨_, .tail _ (.tail _ (.head _)), rfl, rfl⟩
theorem OwnIs.one {N : List Fi} {s : Int} {ns : List (List UInt8)} {x : List UInt8} (h : OwnIs N s ns) (hx : ∀ y, (∃ q ∈ N, q.nm = y ∧ q.st.own = s) ↔ y = x) : ns = [x] := by
  have h1 : ∀ y, y ∈ ns ↔ y = x := fun y => (h.1 y).trans (hx y)
  have hnd := h.2
  match ns, h1, hnd with
  | [], h1, _ => exact absurd ((h1 x).2 rfl) List.not_mem_nil
  | [y], h1, _ => rw [(h1 y).1 (.head _)]
  | y :: z :: r, h1, hnd =>
    exfalso
    have e1 := (h1 y).1 (.head _)
    have e2 := (h1 z).1 (.tail _ (.head _))
    rw [e1, e2] at hnd
    simp at hnd
theorem S9_is : S9 = [⟨11, 7, 2⟩] := by decide +kernel
theorem S10_is : S10 = [⟨11, 7, 9⟩] := by decide +kernel
theorem S12_is : S12 = [] := by decide +kernel
theorem look10a : lookF [47, 97] N10 = some ⟨[47, 97], [120], ⟨7, 7, 13, 7, 7, 0, 2, 8, 0, 0⟩⟩ := by decide +kernel
theorem kids10a : ((N10.map (·.nm)).filter (kid [47, 97])).length = 0 := by decide +kernel
theorem look12m : lookF [47, 109] N12 = some ⟨[47, 109], [121, 122], ⟨15, 15, 15, 4, 4, 1, 0, 0, 0, 0⟩⟩ := by decide +kernel
theorem kids12m : ((N12.map (·.nm)).filter (kid [47, 109])).length = 0 := by decide +kernel
theorem len10 : N10.length = 2 := by decide +kernel
theorem len12 : N12.length = 3 := by decide +kernel
theorem get6a {w0 w : World} {t m n : Nat} {S : List Si.Fi} (h : Aw w0 w t m n N6 S) :
    Calls Tryz.prog 14 #[.pointer (some ⟨t, 0, none⟩), .string (mkS [47, 97])] w fun e w' => ∃ A C, e = .returned (.tuple #[.agg #[.string (mkS [47, 97]), .slice A 1 C, .int .i64 7, .int .i64 7, .int .i64 7, .int .i64 7, .int .i64 7, .int .i64 0, .int .i64 0, .int .i64 8, .int .i64 1, .int .i64 1], .bool true]) ∧ Aw w0 w' t m n N6 S ∧ Below w.heap.size w w' := by
  have c4 := h.get (by rw [len6]; omega) [47, 97] (by simp) look6a
  rw [kids6a] at c4
  refine c4.mono ?_
  rintro e w' ⟨A, C, rfl, ho, h1, h2⟩
  exact ⟨A, C, rfl, h1, h2⟩
theorem get6r {w0 w : World} {t m n : Nat} {S : List Si.Fi} (h : Aw w0 w t m n N6 S) :
    Calls Tryz.prog 14 #[.pointer (some ⟨t, 0, none⟩), .string (mkS [47])] w fun e w' => ∃ A C, e = .returned (.tuple #[.agg #[.string (mkS [47]), .slice A 0 C, .int .i64 0, .int .i64 0, .int .i64 10, .int .i64 0, .int .i64 0, .int .i64 0, .int .i64 5, .int .i64 0, .int .i64 0, .int .i64 1], .bool true]) ∧ Aw w0 w' t m n N6 S ∧ Below w.heap.size w w' := by
  have c4 := h.get (by rw [len6]; omega) [47] (by simp) look6r
  rw [kids6r] at c4
  refine c4.mono ?_
  rintro e w' ⟨A, C, rfl, ho, h1, h2⟩
  exact ⟨A, C, rfl, h1, h2⟩
theorem get10a {w0 w : World} {t m n : Nat} {S : List Si.Fi} (h : Aw w0 w t m n N10 S) :
    Calls Tryz.prog 14 #[.pointer (some ⟨t, 0, none⟩), .string (mkS [47, 97])] w fun e w' => ∃ A C, e = .returned (.tuple #[.agg #[.string (mkS [47, 97]), .slice A 1 C, .int .i64 7, .int .i64 7, .int .i64 13, .int .i64 7, .int .i64 7, .int .i64 0, .int .i64 2, .int .i64 8, .int .i64 1, .int .i64 0], .bool true]) ∧ Aw w0 w' t m n N10 S ∧ Below w.heap.size w w' := by
  have c4 := h.get (by rw [len10]; omega) [47, 97] (by simp) look10a
  rw [kids10a] at c4
  refine c4.mono ?_
  rintro e w' ⟨A, C, rfl, ho, h1, h2⟩
  exact ⟨A, C, rfl, h1, h2⟩
theorem get12m {w0 w : World} {t m n : Nat} {S : List Si.Fi} (h : Aw w0 w t m n N12 S) :
    Calls Tryz.prog 14 #[.pointer (some ⟨t, 0, none⟩), .string (mkS [47, 109])] w fun e w' => ∃ A C, e = .returned (.tuple #[.agg #[.string (mkS [47, 109]), .slice A 2 C, .int .i64 15, .int .i64 15, .int .i64 15, .int .i64 4, .int .i64 4, .int .i64 1, .int .i64 0, .int .i64 0, .int .i64 2, .int .i64 0], .bool true]) ∧ Aw w0 w' t m n N12 S ∧ Below w.heap.size w w' := by
  have c4 := h.get (by rw [len12]; omega) [47, 109] (by simp) look12m
  rw [kids12m] at c4
  refine c4.mono ?_
  rintro e w' ⟨A, C, rfl, ho, h1, h2⟩
  exact ⟨A, C, rfl, h1, h2⟩
theorem setX {w0 w : World} {t m n g : Nat} {N : List Fi} {S : List Si.Fi} {cs : Array Value} (h0 : PA.Laid w0) (h : Aw w0 w t m n N S) (hx : w.heap[g]? = some (.cells cs 47 (0, 0))) (hg : w0.heap.size ≤ g) (hn : ¬ Wt t m n g) (vs : List Value) : Aw w0 (w.setCells g 0 vs) t m n N S := by
  obtain ⟨⟨L, K, hT, h1, h2⟩, hL, hb, hw⟩ := h
  have hb' : Below w0.heap.size w0 (w.setCells g 0 vs) := below_cells hg _ _ _ hb
  refine ⟨⟨L, K, hT.keep (cells_chg g vs 0 w) (fun k hk e => hn (e ▸ hk)) (fun p hp k hk e => ?_), h1, h2⟩, h0.below hb', hb', hw⟩
  obtain ⟨cur, hcu, _⟩ := towns_block (hT.bs p hp) hk
  rw [e, hx] at hcu
  simp at hcu
theorem own_nine {w0 w : World} {t m n : Nat} {S : List Si.Fi} (h : Aw w0 w t m n N6 S) :
    Calls Tryz.prog 16 #[.pointer (some ⟨t, 0, none⟩), .int .i64 9] w fun e w' => ∃ g C, e = .returned (.slice (some ⟨g, 0, none⟩) 1 C) ∧ g < w'.heap.size ∧ w'.cell? ⟨g, 0, none⟩ = some (.string (mkS [47, 97, 47, 98])) ∧ Below w.heap.size w w' := by
  refine (h.1.ownedIs (by rw [len6]; omega) 9 (by omega)).mono ?_
  rintro e w' ⟨ns, A, C, rfl, ho, hr, hl, hb⟩
  obtain rfl := OwnIs.one ho own6
  obtain ⟨g, rfl, h1, h2⟩ := ttext_at hr 0 (by simp)
  exact ⟨g, C, rfl, h1, h2, hb⟩
theorem flat12 (Q : List Al) : (Q.flatMap alV).length = Q.length * 12 := Si.flat_len alV 12 (fun _ => rfl) Q
theorem rowLit {w : World} {g : Nat} (Q : List Al) {cur : Array Value} (h : w.heap[g]? = some (.cells cur 47 (0, 0))) (hc : cur.toList = Q.flatMap alV) (hl : Q.length ≤ 10) : RowN w (some ⟨g, 0, none⟩) Q Q.length := by
  have h1 : cur.size = Q.length * 12 := by rw [← flat12, ← hc]; simp
  have ho : w.ownsRow g 47 12 (.slice (some ⟨g, 0, none⟩) Q.length Q.length) Q.length (Q.flatMap alV) :=
    ⟨flat12 Q, .inr ⟨g, Q.length, cur, rfl, Nat.le_refl _, h, Nat.le_refl _, by simp [maxLen]; omega, h1, by rw [hc, ← flat12, List.take_length]⟩⟩
  exact row_of_owns ho
def BadAt (w : World) (gb i : Nat) : Prop := ∃ (A : Option Addr) (Q : List Al) (C : Nat), w.cell? ⟨gb, i, none⟩ = some (.slice A Q.length C) ∧ RowN w A Q C ∧ (∀ x ∈ Q, Bs w (.slice x.A x.q.b.length x.C) x.q.b ∧ x.q.b.length ≤ 1001) ∧ areF (Q.map (·.q)) = false ∧ Q.length ≤ 10
theorem BadAt.below {w w' : World} {gb i : Nat} (h : BadAt w gb i) (hb : Below w.heap.size w w') : BadAt w' gb i := by
  obtain ⟨A, Q, C, h1, h2, h3, h4, h5⟩ := h
  exact ⟨A, Q, C, by rw [hb.cell (p := ⟨gb, i, none⟩) (World.block_lt_of_cell? w _ h1)]; exact h1, h2.below hb, fun x hx => ⟨(h3 x hx).1.keep (Chg.of_below hb) (fun _ _ => id), (h3 x hx).2⟩, h4, h5⟩
theorem hkeep {w : World} {o : Obj} {k : Nat} {x : Obj} (h : w.heap[k]? = some x) : (w.alloc o).heap[k]? = some x := by rw [(lay1 w o).block k (theap_lt h)]; exact h
theorem zeros_bv (n : Nat) : (bv (List.replicate n 0)).toArray = madeCells #[.int .u8 0] n := by
  apply Array.ext
  · simp [bv, madeCells]
  · intro i h1 h2
    simp [bv, madeCells, Nat.mod_one]
theorem zerosBs {w : World} {g n : Nat} (h : w.heap[g]? = some (.cells (madeCells #[.int .u8 0] n) 5 (0, 0))) (h0 : 0 < n) : Bs w (.slice (some ⟨g, 0, none⟩) n n) (List.replicate n 0) := by
  refine .inr (.inr ⟨by simpa using h0, g, 0, n, by simp, by simp, theap_lt h, fun j hj => ?_⟩)
  rw [cell_at h (0 + j), ← zeros_bv, Nat.zero_add]
  have hj' : j < n := by simpa using hj
  simp [bv, hj']
def nd (p : List UInt8) (b : List UInt8) (ver chd : Int) (A : Option Addr) (C : Nat) : Al := ⟨⟨p, b, ⟨0, 0, 0, 0, 0, ver, 0, 0, 0, chd⟩⟩, A, C⟩
def Q1 : List Al := [nd [47, 97] [] 0 0 none 0]
def Q2 : List Al := [nd [47] [] 0 0 none 0, nd [47, 98] [] 0 0 none 0, nd [47, 97] [] 0 0 none 0]
def Q3 : List Al := [nd [47] [] 0 0 none 0, nd [47] [] 0 0 none 0]
def Q4 : List Al := [nd [47] [] 0 0 none 0, nd [97] [] 0 0 none 0]
def Q5 (g : Nat) : List Al := [nd [47] (List.replicate 1001 0) 0 0 (some ⟨g, 0, none⟩) 1001]
def Q6 : List Al := [nd [47] [] (-1) 0 none 0]
def Q7 : List Al := [nd [47] [] 0 (-1) none 0]
theorem b1 : areF (Q1.map (·.q)) = false := by decide +kernel
theorem b2 : areF (Q2.map (·.q)) = false := by decide +kernel
theorem b3 : areF (Q3.map (·.q)) = false := by decide +kernel
theorem b4 : areF (Q4.map (·.q)) = false := by decide +kernel
theorem b5 (g : Nat) : areF ((Q5 g).map (·.q)) = false := by
  have : (Q5 g).map (·.q) = [⟨[47], List.replicate 1001 0, ⟨0, 0, 0, 0, 0, 0, 0, 0, 0, 0⟩⟩] := rfl
  rw [this]; decide +kernel
theorem b6 : areF (Q6.map (·.q)) = false := by decide +kernel
theorem b7 : areF (Q7.map (·.q)) = false := by decide +kernel
theorem badNil {w : World} {gb : Nat} (h : w.cell? ⟨gb, 0, none⟩ = some (.slice none 0 0)) : BadAt w gb 0 := ⟨none, [], 0, h, .inl rfl, fun x hx => (nomatch hx), by decide +kernel, by simp⟩
theorem badLit {w : World} {gb i g k : Nat} (Q : List Al) {cur : Array Value} (hcell : w.cell? ⟨gb, i, none⟩ = some (.slice (some ⟨g, 0, none⟩) k k)) (h : w.heap[g]? = some (.cells cur 47 (0, 0))) (hc : cur.toList = Q.flatMap alV) (hk : Q.length = k) (hl : Q.length ≤ 10) (hb : areF (Q.map (·.q)) = false) (hx : ∀ x ∈ Q, Bs w (.slice x.A x.q.b.length x.C) x.q.b ∧ x.q.b.length ≤ 1001) : BadAt w gb i :=
  ⟨some ⟨g, 0, none⟩, Q, Q.length, by rw [hk]; exact hcell, rowLit Q h hc hl, hx, hb, hl⟩
theorem noB {w : World} {Q : List Al} (h : ∀ x ∈ Q, x.q.b = [] ∧ x.A = none ∧ x.C = 0) : ∀ x ∈ Q, Bs w (.slice x.A x.q.b.length x.C) x.q.b ∧ x.q.b.length ≤ 1001 := fun x hx => by
  obtain ⟨h1, h2, h3⟩ := h x hx
  rw [h1, h2, h3]
  exact ⟨.inl ⟨rfl, rfl⟩, by simp⟩
set_option maxHeartbeats 1000000 in
theorem nineBlocks (w : World) (o0 o1 o2 o3 o4 o5 o6 o7 o8 : Obj) : (((((((((w.alloc o0).alloc o1).alloc o2).alloc o3).alloc o4).alloc o5).alloc o6).alloc o7).alloc o8).heap[w.heap.size]? = some o0 ∧ (((((((((w.alloc o0).alloc o1).alloc o2).alloc o3).alloc o4).alloc o5).alloc o6).alloc o7).alloc o8).heap[w.heap.size + 1]? = some o1 ∧ (((((((((w.alloc o0).alloc o1).alloc o2).alloc o3).alloc o4).alloc o5).alloc o6).alloc o7).alloc o8).heap[w.heap.size + 2]? = some o2 ∧ (((((((((w.alloc o0).alloc o1).alloc o2).alloc o3).alloc o4).alloc o5).alloc o6).alloc o7).alloc o8).heap[w.heap.size + 3]? = some o3 ∧ (((((((((w.alloc o0).alloc o1).alloc o2).alloc o3).alloc o4).alloc o5).alloc o6).alloc o7).alloc o8).heap[w.heap.size + 4]? = some o4 ∧ (((((((((w.alloc o0).alloc o1).alloc o2).alloc o3).alloc o4).alloc o5).alloc o6).alloc o7).alloc o8).heap[w.heap.size + 5]? = some o5 ∧ (((((((((w.alloc o0).alloc o1).alloc o2).alloc o3).alloc o4).alloc o5).alloc o6).alloc o7).alloc o8).heap[w.heap.size + 6]? = some o6 ∧ (((((((((w.alloc o0).alloc o1).alloc o2).alloc o3).alloc o4).alloc o5).alloc o6).alloc o7).alloc o8).heap[w.heap.size + 7]? = some o7 ∧ (((((((((w.alloc o0).alloc o1).alloc o2).alloc o3).alloc o4).alloc o5).alloc o6).alloc o7).alloc o8).heap[w.heap.size + 8]? = some o8 ∧ Below w.heap.size w (((((((((w.alloc o0).alloc o1).alloc o2).alloc o3).alloc o4).alloc o5).alloc o6).alloc o7).alloc o8) := by
  have s0 : w.heap.size = w.heap.size := by simp
  have s1 : (w.alloc o0).heap.size = w.heap.size + 1 := by simp
  have s2 : ((w.alloc o0).alloc o1).heap.size = w.heap.size + 2 := by simp
  have s3 : (((w.alloc o0).alloc o1).alloc o2).heap.size = w.heap.size + 3 := by simp
  have s4 : ((((w.alloc o0).alloc o1).alloc o2).alloc o3).heap.size = w.heap.size + 4 := by simp
  have s5 : (((((w.alloc o0).alloc o1).alloc o2).alloc o3).alloc o4).heap.size = w.heap.size + 5 := by simp
  have s6 : ((((((w.alloc o0).alloc o1).alloc o2).alloc o3).alloc o4).alloc o5).heap.size = w.heap.size + 6 := by simp
  have s7 : (((((((w.alloc o0).alloc o1).alloc o2).alloc o3).alloc o4).alloc o5).alloc o6).heap.size = w.heap.size + 7 := by simp
  have s8 : ((((((((w.alloc o0).alloc o1).alloc o2).alloc o3).alloc o4).alloc o5).alloc o6).alloc o7).heap.size = w.heap.size + 8 := by simp
  have f0 := heap_alloc_new w o0
  rw [s0] at f0
  have f1 := heap_alloc_new (w.alloc o0) o1
  rw [s1] at f1
  have f2 := heap_alloc_new ((w.alloc o0).alloc o1) o2
  rw [s2] at f2
  have f3 := heap_alloc_new (((w.alloc o0).alloc o1).alloc o2) o3
  rw [s3] at f3
  have f4 := heap_alloc_new ((((w.alloc o0).alloc o1).alloc o2).alloc o3) o4
  rw [s4] at f4
  have f5 := heap_alloc_new (((((w.alloc o0).alloc o1).alloc o2).alloc o3).alloc o4) o5
  rw [s5] at f5
  have f6 := heap_alloc_new ((((((w.alloc o0).alloc o1).alloc o2).alloc o3).alloc o4).alloc o5) o6
  rw [s6] at f6
  have f7 := heap_alloc_new (((((((w.alloc o0).alloc o1).alloc o2).alloc o3).alloc o4).alloc o5).alloc o6) o7
  rw [s7] at f7
  have f8 := heap_alloc_new ((((((((w.alloc o0).alloc o1).alloc o2).alloc o3).alloc o4).alloc o5).alloc o6).alloc o7) o8
  rw [s8] at f8
  exact ⟨hkeep (hkeep (hkeep (hkeep (hkeep (hkeep (hkeep (hkeep (f0)))))))), hkeep (hkeep (hkeep (hkeep (hkeep (hkeep (hkeep (f1))))))), hkeep (hkeep (hkeep (hkeep (hkeep (hkeep (f2)))))), hkeep (hkeep (hkeep (hkeep (hkeep (f3))))), hkeep (hkeep (hkeep (hkeep (f4)))), hkeep (hkeep (hkeep (f5))), hkeep (hkeep (f6)), hkeep (f7), f8, ((((((((lay1 w o0).trans ((lay1 (w.alloc o0) o1).mono (by omega))).trans ((lay1 ((w.alloc o0).alloc o1) o2).mono (by omega))).trans ((lay1 (((w.alloc o0).alloc o1).alloc o2) o3).mono (by omega))).trans ((lay1 ((((w.alloc o0).alloc o1).alloc o2).alloc o3) o4).mono (by omega))).trans ((lay1 (((((w.alloc o0).alloc o1).alloc o2).alloc o3).alloc o4) o5).mono (by omega))).trans ((lay1 ((((((w.alloc o0).alloc o1).alloc o2).alloc o3).alloc o4).alloc o5) o6).mono (by omega))).trans ((lay1 (((((((w.alloc o0).alloc o1).alloc o2).alloc o3).alloc o4).alloc o5).alloc o6) o7).mono (by omega))).trans ((lay1 ((((((((w.alloc o0).alloc o1).alloc o2).alloc o3).alloc o4).alloc o5).alloc o6).alloc o7) o8).mono (by omega))⟩
theorem zerosBs' {w : World} {g n : Nat} {MK : Array Value} (h : w.heap[g]? = some (.cells MK 5 (0, 0))) (hm : MK = madeCells #[.int .u8 0] n) (h0 : 0 < n) : Bs w (.slice (some ⟨g, 0, none⟩) n n) (List.replicate n 0) := by
  rw [hm] at h
  exact zerosBs h h0
def UQ (g : Nat) : List Al := [⟨⟨[47], [], ⟨0, 0, 0, 0, 0, 0, 0, 0, 5, 9⟩⟩, none, 0⟩, nd [47, 97, 47, 98] [113] 0 0 (some ⟨g, 0, none⟩) 1, nd [47, 99] [] 0 0 none 0]
def UF : List Fi := [⟨[47], [], ⟨0, 0, 0, 0, 0, 0, 0, 0, 5, 9⟩⟩, ⟨[47, 97, 47, 98], [113], ⟨0, 0, 0, 0, 0, 0, 0, 0, 0, 0⟩⟩, ⟨[47, 99], [], ⟨0, 0, 0, 0, 0, 0, 0, 0, 0, 0⟩⟩]
theorem uq_map (g : Nat) : (UQ g).map (·.q) = UF := rfl
theorem uf_are : areF UF = true := by decide +kernel
def NU : List Fi := loadF UF
theorem NU_is : NU = [⟨[47], [], ⟨0, 0, 0, 0, 0, 0, 0, 0, 0, 0⟩⟩, ⟨[47, 97, 47, 98], [113], ⟨0, 0, 0, 0, 0, 0, 0, 0, 0, 0⟩⟩, ⟨[47, 99], [], ⟨0, 0, 0, 0, 0, 0, 0, 0, 0, 0⟩⟩] := by decide +kernel
theorem NU_good : GoodT NU := by
  rw [NU_is]
  refine ⟨by unfold nam; decide +kernel, fun q hq => ?_, by decide +kernel⟩
  simp only [List.mem_cons, List.mem_nil_iff, or_false] at hq
  rcases hq with rfl | rfl | rfl <;> exact ⟨by decide +kernel, by decide, by decide, by decide, by decide, by decide, by decide, by decide, by decide, by decide, rfl, rfl⟩
theorem lookU : lookF [47] NU = some ⟨[47], [], ⟨0, 0, 0, 0, 0, 0, 0, 0, 0, 0⟩⟩ := by decide +kernel
theorem listU : sortN (((NU.map (·.nm)).filter (kid [47])).map PA.lastS) = [[99]] := by
  have : ((NU.map (·.nm)).filter (kid [47])).map PA.lastS = [[99]] := by decide +kernel
  rw [this]; simp [sortN]
def SL : List Si.Fi := [⟨5, 0, 1⟩, ⟨0, 0, 3⟩, ⟨2, 0, 0⟩, ⟨5, 0, 2⟩]
def SU : List Si.Fi := seatF SL
theorem SU_is : SU = [⟨5, 0, 2⟩, ⟨2, 0, 0⟩] := by decide +kernel
def SV : List Si.Fi := turnS d13.session d13.turn (doS d13 SU)
theorem SV_is : SV = [⟨5, 0, 3⟩, ⟨2, 0, 0⟩] := by decide +kernel
def NV : List Fi := deN d13 [] NU
theorem NV_is : NV = NU := by decide +kernel
theorem SU_sits : Si.sitsF SU = [⟨2, 0, 0⟩, ⟨5, 0, 2⟩] := by
  have h25 : (ltOf Si.cfS 2 5) = true := by first | rfl | decide
  rw [SU_is]
  simp [h25, Si.sitsF, Si.sortS, List.mergeSort, List.MergeSort.Internal.splitInTwo, List.merge, Si.lookF]
theorem rowSLit {w : World} {g : Nat} (l : List Si.Fi) {cur : Array Value} (h : w.heap[g]? = some (.cells cur 57 (0, 0))) (hc : cur.toList = l.flatMap sitV) (hl : l.length ≤ 10) : RowS w (some ⟨g, 0, none⟩) l l.length := by
  have h0 : (l.flatMap sitV).length = l.length * 3 := Si.flat_len sitV 3 (fun _ => rfl) l
  have h1 : cur.size = l.length * 3 := by rw [← h0, ← hc]; simp
  have ho : w.ownsRow g 57 3 (.slice (some ⟨g, 0, none⟩) l.length l.length) l.length (l.flatMap sitV) :=
    ⟨h0, .inr ⟨g, l.length, cur, rfl, Nat.le_refl _, h, Nat.le_refl _, by simp [maxLen]; omega, h1, by rw [hc, ← h0, List.take_length]⟩⟩
  exact rowS_of ho
theorem differ_uv : NV = NU ∧ SU.length = SV.length ∧ (∀ q ∈ SU, ∃ q', Si.lookF q.nm SV = some q') ∧ ∃ q ∈ SU, Si.lookF q.nm SV ≠ some q := by
  refine ⟨NV_is, by rw [SU_is, SV_is]; rfl, ?_, ?_⟩
  · rw [SU_is, SV_is]
    intro q hq
    simp only [List.mem_cons, List.mem_nil_iff, or_false] at hq
    rcases hq with rfl | rfl
    · exact ⟨_, rfl⟩
    · exact ⟨_, rfl⟩
  · rw [SU_is, SV_is]
    exact ⟨⟨5, 0, 2⟩, .head _, by simp [Si.lookF]⟩
theorem sits_u {w : World} {t m n : Nat} {N : List Fi} (h : Tr w t m n N SU) :
    Calls Tryz.prog 18 #[.pointer (some ⟨t, 0, none⟩)] w fun e w' => ∃ g C', e = .returned (.slice (some ⟨g, 0, none⟩) 2 C') ∧ g < w'.heap.size ∧ (w'.cell? ⟨g, 0, none⟩ = some (.int .i64 2) ∧ w'.cell? ⟨g, 1, none⟩ = some (.int .i64 0) ∧ w'.cell? ⟨g, 2, none⟩ = some (.int .i64 0) ∧ w'.cell? ⟨g, 3, none⟩ = some (.int .i64 5) ∧ w'.cell? ⟨g, 4, none⟩ = some (.int .i64 0) ∧ w'.cell? ⟨g, 5, none⟩ = some (.int .i64 2)) ∧ Below w.heap.size w w' := by
  refine (h.sits (by rw [SU_is]; decide)).mono ?_
  rintro e w' ⟨A, C, rfl, ho, hb⟩
  rw [SU_sits] at ho ⊢
  rcases ho.2 with ⟨hv, h0⟩ | ⟨g, cap, cur, hv, hb', hg, hr⟩
  · simp at h0
  · cases hv
    exact ⟨g, C, rfl, theap_lt hg, ⟨by rw [ho.cellAt 0 (by decide)]; rfl, by rw [ho.cellAt 1 (by decide)]; rfl, by rw [ho.cellAt 2 (by decide)]; rfl, by rw [ho.cellAt 3 (by decide)]; rfl, by rw [ho.cellAt 4 (by decide)]; rfl, by rw [ho.cellAt 5 (by decide)]; rfl⟩, hb⟩
theorem all_u {w : World} {t m n : Nat} {S : List Si.Fi} (h : Tr w t m n NU S) (hL : PA.Laid w) :
    Calls Tryz.prog 23 #[.pointer (some ⟨t, 0, none⟩)] w fun e w' => ∃ A C, e = .returned (.slice A 3 C) ∧ Below w.heap.size w w' := by
  refine (h.all hL NU_good (by rw [NU_is]; decide)).mono ?_
  rintro e w' ⟨s, rfl, hs, hb⟩
  have h1 : s.Q.length = 3 := by
    have h1 := congrArg List.length hs.is
    rw [List.length_map, all_len, NU_is] at h1
    exact h1
  refine ⟨s.A, s.C, ?_, hb⟩
  unfold slV
  rw [h1]
end Go.Proofs.YtcdnfgibcochhaaGreatDoor.Nb
