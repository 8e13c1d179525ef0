/- Replies in memory; the walks of fitsList, isNone, numbersOf, fitsReply, and of rightReply where there are no parts. -/
import Derived.Test.YtmojplgoohnmdaaDoorRp
namespace Go.Proofs.YtmojplgoohnmdaaDoor.AK
set_option linter.unusedSimpArgs false
set_option linter.unusedVariables false
open Go.RowKit
set_option linter.unusedVariables false
set_option linter.unusedSimpArgs false

theorem cells22 {w : World} {b : Nat} {v0 v1 v2 v3 v4 v5 v6 v7 v8 v9 v10 v11 v12 v13 v14 v15 v16 v17 v18 v19 v20 v21 : Value} {T : TypeId} {fr : Nat × Nat} (h : w.heap[b]? = some (.cells #[v0, v1, v2, v3, v4, v5, v6, v7, v8, v9, v10, v11, v12, v13, v14, v15, v16, v17, v18, v19, v20, v21] T fr)) : w.cell? ⟨b, 0, none⟩ = some v0 ∧ w.cell? ⟨b, 1, none⟩ = some v1 ∧ w.cell? ⟨b, 2, none⟩ = some v2 ∧ w.cell? ⟨b, 3, none⟩ = some v3 ∧ w.cell? ⟨b, 4, none⟩ = some v4 ∧ w.cell? ⟨b, 5, none⟩ = some v5 ∧ w.cell? ⟨b, 6, none⟩ = some v6 ∧ w.cell? ⟨b, 7, none⟩ = some v7 ∧ w.cell? ⟨b, 8, none⟩ = some v8 ∧ w.cell? ⟨b, 9, none⟩ = some v9 ∧ w.cell? ⟨b, 10, none⟩ = some v10 ∧ w.cell? ⟨b, 11, none⟩ = some v11 ∧ w.cell? ⟨b, 12, none⟩ = some v12 ∧ w.cell? ⟨b, 13, none⟩ = some v13 ∧ w.cell? ⟨b, 14, none⟩ = some v14 ∧ w.cell? ⟨b, 15, none⟩ = some v15 ∧ w.cell? ⟨b, 16, none⟩ = some v16 ∧ w.cell? ⟨b, 17, none⟩ = some v17 ∧ w.cell? ⟨b, 18, none⟩ = some v18 ∧ w.cell? ⟨b, 19, none⟩ = some v19 ∧ w.cell? ⟨b, 20, none⟩ = some v20 ∧ w.cell? ⟨b, 21, none⟩ = some v21 := by
  refine ⟨?_, ?_, ?_, ?_, ?_, ?_, ?_, ?_, ?_, ?_, ?_, ?_, ?_, ?_, ?_, ?_, ?_, ?_, ?_, ?_, ?_, ?_⟩ <;> (rw [cell_at h]; rfl)
/- A row of texts. -/
def Txs (w : World) (v : Value) (l : List (List UInt8)) : Prop :=
  (v = .slice none 0 0 ∧ l = []) ∨ (∃ ad c, v = .slice (some ad) 0 c ∧ l = []) ∨ (0 < l.length ∧ ∃ b o c, v = .slice (some ⟨b, o, none⟩) l.length c ∧ l.length ≤ c ∧ b < w.heap.size ∧ ∀ j (h : j < l.length), w.cell? ⟨b, o + j, none⟩ = some (.string (mkS (l[j]'h))))
theorem Txs.nil (w : World) : Txs w (.slice none 0 0) [] := .inl ⟨rfl, rfl⟩
theorem Txs.form {w : World} {v : Value} {l : List (List UInt8)} (h : Txs w v l) : ∃ A C, v = .slice A l.length C := by
  rcases h with ⟨rfl, rfl⟩ | ⟨ad, c, rfl, rfl⟩ | ⟨_, b, o, c, rfl, _⟩
  · exact ⟨none, 0, rfl⟩
  · exact ⟨_, _, rfl⟩
  · exact ⟨_, _, rfl⟩
theorem Txs.below {w w' : World} {B : Nat} {v : Value} {l : List (List UInt8)} (h : Txs w v l) (hb : Below B w w') (hk : ∀ k, bk v = some k → k < B) : Txs w' v l := by
  rcases h with h | h | ⟨h0, b, o, c, rfl, h1, h2, h3⟩
  · exact .inl h
  · exact .inr (.inl h)
  · have hB := hk b (bk_pos h0)
    refine .inr (.inr ⟨h0, b, o, c, rfl, h1, Nat.lt_of_lt_of_le h2 hb.size, fun j hj => ?_⟩)
    rw [hb.cell (p := ⟨b, o + j, none⟩) hB]
    exact h3 j hj
theorem Txs.lt {w : World} {v : Value} {l : List (List UInt8)} (h : Txs w v l) {k : Nat} (hk : bk v = some k) : k < w.heap.size := by
  rcases h with ⟨rfl, _⟩ | ⟨ad, c, rfl, _⟩ | ⟨h0, b, o, c, rfl, h1, h2, h3⟩
  · simp [bk] at hk
  · simp [bk] at hk
  · rw [bk_pos h0] at hk; cases hk; exact h2
theorem Txs.at' {w : World} {A : Option Addr} {n C : Nat} {l : List (List UInt8)} (h : Txs w (.slice A n C) l) (j : Nat) (hj : j < l.length) : ∃ b o, A = some ⟨b, o, none⟩ ∧ b < w.heap.size ∧ w.cell? ⟨b, o + j, none⟩ = some (.string (mkS (l[j]'hj))) := by
  rcases h with ⟨_, rfl⟩ | ⟨_, _, _, rfl⟩ | ⟨_, b, o, c, he, h1, h2, h3⟩
  · simp at hj
  · simp at hj
  · cases he
    exact ⟨b, o, rfl, h2, h3 j hj⟩
theorem mkS_size (p : List UInt8) : (mkS p).size = p.length := by simp [mkS, ByteArray.size]
set_option maxRecDepth 100000 in
theorem fitsList_any {w : World} {v : Value} {l : List (List UInt8)} (h : Txs w v l) (hl : l.length ≤ 9223372036854775807) (ht : ∀ t ∈ l, t.length ≤ 9223372036854775807) :
    Calls Tryd.prog 96 #[v] w fun e w' => e = .returned (.bool (listB l)) ∧ w' = w := by
  have HT : Hid (Txs w v l) := h
  have HTL : Hid (∀ t ∈ l, t.length ≤ 9223372036854775807) := ht
  obtain ⟨A, C, rfl⟩ := h.form
  clear h ht
  generalize hX : listB l = X
  have HX : Hid (listB l = X) := hX
  clear hX
  generalize hn : l.length = n at hl HT ⊢
  have HN : Hid (l.length = n) := hn
  clear hn
  by_cases h5 : n ≤ 500
  case neg =>
    have hX : X = false := by rw [← HX.out]; unfold listB; rw [HN.out]; simp; omega
    subst hX
    go_enter Tryd.func96, Tryd.ntmps96
    go_wp2
    go_ret
    exact ⟨rfl, rfl⟩
  have HX2 : Hid ((l.all fun t => decide (t.length ≤ 220)) = X) := by show _ = _; rw [← HX.out]; unfold listB; rw [HN.out, decide_eq_true h5, Bool.true_and]
  clear HX
  go_enter Tryd.func96, Tryd.ntmps96
  go_wp2_with fail
  go_loopw [10] (fun c wr => ∃ k : Nat, k ≤ n ∧ c = .int .i64 k ∧ ((l.take k).all fun t => decide (t.length ≤ 220)) = true ∧ wr = w) (fun c _ => n - (intOf c).toNat)
  case atStart => exact ⟨0, by omega, rfl, rfl, rfl⟩
  case round =>
    obtain ⟨k, hk, rfl, ht, rfl⟩ := hrel
    have HT2 : Hid (((l.take k).all fun t => decide (t.length ≤ 220)) = true) := ht
    clear ht
    by_cases hlt : k < n
    · have hkl : k < l.length := by have := HN.out; omega
      obtain ⟨b, o, rfl, hb, hc⟩ := HT.out.at' k hkl
      have HS : Hid (((l.take (k + 1)).all fun t => decide (t.length ≤ 220)) = decide ((l[k]'hkl).length ≤ 220)) := by
        show _ = _
        rw [List.take_succ_eq_append_getElem hkl, List.all_append, HT2.out]; simp
      have HV : Hid (¬ (l[k]'hkl).length ≤ 220 → X = false) := fun h => by
        rw [← HX2.out, List.all_eq_false]
        exact ⟨_, List.getElem_mem hkl, by simpa using h⟩
      have hxl := HTL.out _ (List.getElem_mem hkl)
      generalize (l[k]'hkl) = x at hc HS HV hxl
      have hms := mkS_size x
      by_cases hx : x.length ≤ 220
      · have HS2 : Hid (((l.take (k + 1)).all fun t => decide (t.length ≤ 220)) = true) := HS.out.trans (decide_eq_true hx)
        go_wp2
        exact ⟨⟨k + 1, by omega, by go_num, HS2.out, by first | trivial | rfl⟩, by simp [intOf]; omega⟩
      · have hX := HV.out hx
        subst hX
        go_wp2
        go_ret
        exact ⟨rfl, rfl⟩
    · have hkn : k = n := by omega
      have hX : X = true := by rw [← HX2.out, ← HT2.out, hkn, ← HN.out, List.take_length]
      subst hX
      go_wp2
      go_ret
      exact ⟨rfl, rfl⟩
theorem lenq (n : Nat) : ((n : Int) == 0) = decide (n = 0) := by rw [Bool.eq_iff_iff]; simp
set_option maxRecDepth 100000 in
theorem isNone_any (ver : Int) (A : Option Addr) (n C : Nat) (l : List Mem) (hn : l.length = n) (w : World) :
    Calls Tryd.prog 97 #[.agg #[.int .i64 ver, .slice A n C]] w fun e w' => e = .returned (.bool (noneB ver l)) ∧ Below w.heap.size w w' := by
  unfold noneB
  rw [hn]
  go_enter Tryd.func97, Tryd.ntmps97
  go_wp2
  all_goals (go_ret; exact ⟨retb (by simp_all [lenq]), (Below.refl _ _).alloc (Nat.le_refl _) _⟩)
set_option maxRecDepth 100000 in
theorem numbersOf_any (a0 a1 a2 a3 a4 a5 a6 a7 a8 a9 : Int) (w : World) :
    Calls Tryd.prog 79 #[.agg #[.int .i64 a0, .int .i64 a1, .int .i64 a2, .int .i64 a3, .int .i64 a4, .int .i64 a5, .int .i64 a6, .int .i64 a7, .int .i64 a8, .int .i64 a9]] w fun e w' => e = .returned (.agg #[.int .i64 a0, .int .i64 a1, .int .i64 a2, .int .i64 a3, .int .i64 a4, .int .i64 a5, .int .i64 a6, .int .i64 a7, .int .i64 a8, .int .i64 a9]) ∧ Below w.heap.size w w' := by
  go_enter Tryd.func79, Tryd.ntmps79
  go_wp2
  refine bodyPost_ret (v := .agg #[.int .i64 a0, .int .i64 a1, .int .i64 a2, .int .i64 a3, .int .i64 a4, .int .i64 a5, .int .i64 a6, .int .i64 a7, .int .i64 a8, .int .i64 a9]) (by simp [results, Tryd.results79, go_sem]) rfl ?_
  exact ⟨rfl, ((Below.refl _ _).alloc (Nat.le_refl _) _).alloc (by simp) _⟩
theorem nums5 (w : World) (a b c d e : Int) : NumsAt (w.alloc (.cells #[.int .i64 a, .int .i64 b, .int .i64 c, .int .i64 d, .int .i64 e] 2)) w.heap.size [a, b, c, d, e] := by
  intro j hj
  rw [cell_at (heap_alloc_new w _)]
  simp only [List.length_cons, List.length_nil] at hj
  obtain rfl | rfl | rfl | rfl | rfl : j = 0 ∨ j = 1 ∨ j = 2 ∨ j = 3 ∨ j = 4 := by omega
  all_goals rfl
theorem nums10 {w : World} {b : Nat} {T : TypeId} {fr : Nat × Nat} {a0 a1 a2 a3 a4 a5 a6 a7 a8 a9 : Int} (h : w.heap[b]? = some (.cells #[.int .i64 a0, .int .i64 a1, .int .i64 a2, .int .i64 a3, .int .i64 a4, .int .i64 a5, .int .i64 a6, .int .i64 a7, .int .i64 a8, .int .i64 a9] T fr)) : NumsAt w b [a0, a1, a2, a3, a4, a5, a6, a7, a8, a9] := by
  intro j hj
  rw [cell_at h]
  simp only [List.length_cons, List.length_nil] at hj
  obtain rfl | rfl | rfl | rfl | rfl | rfl | rfl | rfl | rfl | rfl : j = 0 ∨ j = 1 ∨ j = 2 ∨ j = 3 ∨ j = 4 ∨ j = 5 ∨ j = 6 ∨ j = 7 ∨ j = 8 ∨ j = 9 := by omega
  all_goals rfl
/- What a reply's slices hold. -/
structure RVal (w : World) (f : Rf) (A1 : Option Addr) (c1 : Nat) (A2 : Option Addr) (c2 : Nat) (A3 : Option Addr) (c3 : Nat) : Prop where
  bs : Bs w (.slice A1 f.data.length c1) f.data
  tx : Txs w (.slice A2 f.list.length c2) f.list
  ms : Mems w (.slice A3 f.cmems.length c3) f.cmems
theorem RVal.grow {w w' : World} {f : Rf} {A1 A2 A3 : Option Addr} {c1 c2 c3 : Nat} (h : RVal w f A1 c1 A2 c2 A3 c3) (hb : Below w.heap.size w w') : RVal w' f A1 c1 A2 c2 A3 c3 :=
  ⟨Bs.below' h.bs hb, h.tx.below hb (fun _ hk => h.tx.lt hk), h.ms.below' hb⟩
/- Lengths that a machine can have. -/
structure RLen (f : Rf) : Prop where
  path : f.path.length ≤ 9223372036854775807
  data : f.data.length ≤ 9223372036854775807
  list : f.list.length ≤ 9223372036854775807
  texts : ∀ t ∈ f.list, t.length ≤ 9223372036854775807
set_option maxRecDepth 100000 in
set_option maxHeartbeats 4000000 in
theorem fitsReply_any (f : Rf) (A1 A2 A3 A4 : Option Addr) (c1 c2 c3 c4 : Nat) (w : World) (hv : RVal w f A1 c1 A2 c2 A3 c3) (hl : RLen f) :
    Calls Tryd.prog 78 #[.agg #[.int .u8 f.kind, .int .i64 f.xid, .int .i64 f.zxid, .int .i64 f.err, .int .i64 f.session, .int .i64 f.timeout, .string (mkS f.path), .slice A1 f.data.length c1, .int .i64 f.s0, .int .i64 f.s1, .int .i64 f.s2, .int .i64 f.s3, .int .i64 f.s4, .int .i64 f.s5, .int .i64 f.s6, .int .i64 f.s7, .int .i64 f.s8, .int .i64 f.s9, .slice A2 f.list.length c2, .int .i64 f.cver, .slice A3 f.cmems.length c3, .slice A4 f.np c4]] w fun e w' => e = .returned (.bool (fitR f)) ∧ Below w.heap.size w w' := by
  have HV : Hid (RVal w f A1 c1 A2 c2 A3 c3) := hv
  have HLN : Hid (RLen f) := hl
  obtain ⟨w1, hw1⟩ : ∃ X, X = w.alloc (.cells #[.int .u8 f.kind, .int .i64 f.xid, .int .i64 f.zxid, .int .i64 f.err, .int .i64 f.session, .int .i64 f.timeout, .string (mkS f.path), .slice A1 f.data.length c1, .int .i64 f.s0, .int .i64 f.s1, .int .i64 f.s2, .int .i64 f.s3, .int .i64 f.s4, .int .i64 f.s5, .int .i64 f.s6, .int .i64 f.s7, .int .i64 f.s8, .int .i64 f.s9, .slice A2 f.list.length c2, .int .i64 f.cver, .slice A3 f.cmems.length c3, .slice A4 f.np c4] 43) := ⟨_, rfl⟩
  have hB1 : Below w.heap.size w w1 := by rw [hw1]; exact (Below.refl _ _).alloc (Nat.le_refl _) _
  have HB1 : Hid (Below w.heap.size w w1) := hB1
  have HC1 : Hid (w1.heap[w.heap.size]? = some (.cells #[.int .u8 f.kind, .int .i64 f.xid, .int .i64 f.zxid, .int .i64 f.err, .int .i64 f.session, .int .i64 f.timeout, .string (mkS f.path), .slice A1 f.data.length c1, .int .i64 f.s0, .int .i64 f.s1, .int .i64 f.s2, .int .i64 f.s3, .int .i64 f.s4, .int .i64 f.s5, .int .i64 f.s6, .int .i64 f.s7, .int .i64 f.s8, .int .i64 f.s9, .slice A2 f.list.length c2, .int .i64 f.cver, .slice A3 f.cmems.length c3, .slice A4 f.np c4] 43 (0, 0))) := by rw [hw1]; exact heap_alloc_new w _
  have hno := numbersOf_any f.s0 f.s1 f.s2 f.s3 f.s4 f.s5 f.s6 f.s7 f.s8 f.s9 w1
  rw [hw1] at hno
  generalize hU : fitR f = U
  have HU : Hid (fitR f = U) := hU
  clear hU hv hl hB1
  go_enter Tryd.func78, Tryd.ntmps78
  go_wp2_with fail
  refine hno.mono ?_
  rintro e w2 ⟨rfl, hB2⟩
  rw [← hw1] at hB2
  have HB2 : Hid (Below w.heap.size w w2) := HB1.out.trans (hB2.mono HB1.out.size)
  have HC2 : Hid (w2.heap[w.heap.size]? = some (.cells #[.int .u8 f.kind, .int .i64 f.xid, .int .i64 f.zxid, .int .i64 f.err, .int .i64 f.session, .int .i64 f.timeout, .string (mkS f.path), .slice A1 f.data.length c1, .int .i64 f.s0, .int .i64 f.s1, .int .i64 f.s2, .int .i64 f.s3, .int .i64 f.s4, .int .i64 f.s5, .int .i64 f.s6, .int .i64 f.s7, .int .i64 f.s8, .int .i64 f.s9, .slice A2 f.list.length c2, .int .i64 f.cver, .slice A3 f.cmems.length c3, .slice A4 f.np c4] 43 (0, 0))) := by show _ = _; rw [hB2.block _ (heap_lt HC1.out)]; exact HC1.out
  clear hno hB2 hw1 HB1 HC1 w1
  obtain ⟨w3, hw3⟩ : ∃ X, X = w2.alloc (.cells #[.int .i64 f.s0, .int .i64 f.s1, .int .i64 f.s2, .int .i64 f.s3, .int .i64 f.s4, .int .i64 f.s5, .int .i64 f.s6, .int .i64 f.s7, .int .i64 f.s8, .int .i64 f.s9] 123) := ⟨_, rfl⟩
  have hB3 : Below w2.heap.size w2 w3 := by rw [hw3]; exact (Below.refl _ _).alloc (Nat.le_refl _) _
  have HB3 : Hid (Below w.heap.size w w3) := HB2.out.trans (hB3.mono HB2.out.size)
  have HC3 : Hid (w3.heap[w.heap.size]? = some (.cells #[.int .u8 f.kind, .int .i64 f.xid, .int .i64 f.zxid, .int .i64 f.err, .int .i64 f.session, .int .i64 f.timeout, .string (mkS f.path), .slice A1 f.data.length c1, .int .i64 f.s0, .int .i64 f.s1, .int .i64 f.s2, .int .i64 f.s3, .int .i64 f.s4, .int .i64 f.s5, .int .i64 f.s6, .int .i64 f.s7, .int .i64 f.s8, .int .i64 f.s9, .slice A2 f.list.length c2, .int .i64 f.cver, .slice A3 f.cmems.length c3, .slice A4 f.np c4] 43 (0, 0))) := by show _ = _; rw [hB3.block _ (heap_lt HC2.out)]; exact HC2.out
  have HS3 : Hid (w3.heap[w2.heap.size]? = some (.cells #[.int .i64 f.s0, .int .i64 f.s1, .int .i64 f.s2, .int .i64 f.s3, .int .i64 f.s4, .int .i64 f.s5, .int .i64 f.s6, .int .i64 f.s7, .int .i64 f.s8, .int .i64 f.s9] 123 (0, 0))) := by rw [hw3]; exact heap_alloc_new w2 _
  obtain ⟨w4, hw4⟩ : ∃ X, X = w3.alloc (.cells #[.int .i64 f.xid, .int .i64 f.zxid, .int .i64 f.err, .int .i64 f.session, .int .i64 f.timeout] 2) := ⟨_, rfl⟩
  have hB4 : Below w3.heap.size w3 w4 := by rw [hw4]; exact (Below.refl _ _).alloc (Nat.le_refl _) _
  have HB4 : Hid (Below w.heap.size w w4) := HB3.out.trans (hB4.mono HB3.out.size)
  have HC4 : Hid (w4.heap[w.heap.size]? = some (.cells #[.int .u8 f.kind, .int .i64 f.xid, .int .i64 f.zxid, .int .i64 f.err, .int .i64 f.session, .int .i64 f.timeout, .string (mkS f.path), .slice A1 f.data.length c1, .int .i64 f.s0, .int .i64 f.s1, .int .i64 f.s2, .int .i64 f.s3, .int .i64 f.s4, .int .i64 f.s5, .int .i64 f.s6, .int .i64 f.s7, .int .i64 f.s8, .int .i64 f.s9, .slice A2 f.list.length c2, .int .i64 f.cver, .slice A3 f.cmems.length c3, .slice A4 f.np c4] 43 (0, 0))) := by show _ = _; rw [hB4.block _ (heap_lt HC3.out)]; exact HC3.out
  have HS4 : Hid (w4.heap[w2.heap.size]? = some (.cells #[.int .i64 f.s0, .int .i64 f.s1, .int .i64 f.s2, .int .i64 f.s3, .int .i64 f.s4, .int .i64 f.s5, .int .i64 f.s6, .int .i64 f.s7, .int .i64 f.s8, .int .i64 f.s9] 123 (0, 0))) := by show _ = _; rw [hB4.block _ (heap_lt HS3.out)]; exact HS3.out
  have hf5 : Calls Tryd.prog 38 #[.slice (some ⟨w2.heap.size + 1, 0, none⟩) 5 5] w4 fun e w' => e = .returned (.bool (pos (headR f))) ∧ w' = w4 := by
    have hs3 : w3.heap.size = w2.heap.size + 1 := by rw [hw3]; simp
    have := fromZero_any (w := w4) (b := w3.heap.size) (ns := headR f) (by rw [hw4]; exact nums5 w3 _ _ _ _ _) (by simp [headR])
    rw [hs3] at this
    exact this
  have hf10 : Calls Tryd.prog 38 #[.slice (some ⟨w2.heap.size, 0, none⟩) 10 10] w4 fun e w' => e = .returned (.bool (pos (statR f))) ∧ w' = w4 := by
    have := fromZero_any (w := w4) (b := w2.heap.size) (ns := statR f) (nums10 HS4.out) (by simp [statR])
    exact this
  have hfl := fitsList_any (HV.out.tx.below HB4.out (fun _ hk => HV.out.tx.lt hk)) HLN.out.list HLN.out.texts
  have hin := isNone_any f.cver A3 f.cmems.length c3 f.cmems rfl w4
  have HCH : Hid (∀ w', Below w.heap.size w w' → Calls Tryd.prog 98 #[.agg #[.int .i64 f.cver, .slice A3 f.cmems.length c3]] w' fun e w'' => e = .returned (.int .i64 (chk f.cver f.cmems)) ∧ Below w'.heap.size w' w'') := fun w' hB => check_any (HV.out.ms.below' hB) f.cver
  have hpl := mkS_size f.path
  have HP1 : Hid _ := HLN.out.path
  have HP2 : Hid _ := HLN.out.data
  have HU2 : Hid ((decide (0 < f.kind) && (decide (f.kind ≤ 14) && (pos (headR f) && (pos (statR f) && (decide (f.timeout ≤ 1000) && (decide (f.path.length ≤ 220) && (decide (f.data.length ≤ 1000) && (listB f.list && (noneB f.cver f.cmems || decide (chk f.cver f.cmems = 0)))))))))) = U) := HU.out
  clear HU HV HLN
  generalize pos (headR f) = Z1 at hf5 HU2
  generalize pos (statR f) = Z2 at hf10 HU2
  generalize listB f.list = Z3 at hfl HU2
  generalize noneB f.cver f.cmems = Z4 at hin HU2
  generalize chk f.cver f.cmems = Z5 at HCH HU2
  rw [hw4, hw3] at hf5
  clear hpl
  obtain ⟨z0, z1, z2, z3, z4, z5, z6, z7, z8, z9, z10, z11, z12, z13, z14, z15, z16, z17, z18, z19, z20, z21⟩ := cells22 HC3.out
  rw [hw3] at z0 z1 z2 z3 z4 z5 z6 z7 z8 z9 z10 z11 z12 z13 z14 z15 z16 z17 z18 z19 z20 z21
  have HB3' : Hid (Below w.heap.size w (w2.alloc (.cells #[.int .i64 f.s0, .int .i64 f.s1, .int .i64 f.s2, .int .i64 f.s3, .int .i64 f.s4, .int .i64 f.s5, .int .i64 f.s6, .int .i64 f.s7, .int .i64 f.s8, .int .i64 f.s9] 123))) := by rw [← hw3]; exact HB3.out
  clear hB3 hB4 HC3 HS3 HS4 HC2 HB2
  by_cases k0 : 0 < f.kind
  case neg =>
    have hU : U = false := by rw [← HU2.out, decide_eq_false k0]; rfl
    subst hU
    clear hf5 hf10 hfl hin HCH HU2 hw4 HB4 HC4
    as_aux_lemma =>
    go_wp2_with fail
    go_ret
    exact ⟨rfl, HB3'.out⟩
  by_cases k1 : f.kind ≤ 14
  case neg =>
    have hU : U = false := by rw [← HU2.out, decide_eq_false k1]; simp
    subst hU
    clear hf5 hf10 hfl hin HCH HU2 hw4 HB4 HC4
    as_aux_lemma =>
    go_wp2_with fail
    go_ret
    exact ⟨rfl, HB3'.out⟩
  have HU3 : Hid ((Z1 && (Z2 && (decide (f.timeout ≤ 1000) && (decide (f.path.length ≤ 220) && (decide (f.data.length ≤ 1000) && (Z3 && (Z4 || decide (Z5 = 0)))))))) = U) := by show _ = _; rw [← HU2.out, decide_eq_true k0, decide_eq_true k1, Bool.true_and, Bool.true_and]
  clear HU2
  go_wp2_with fail
  refine hf5.mono ?_
  rintro e w5 ⟨rfl, hw5⟩
  rw [← hw3, ← hw4] at hw5
  subst hw5
  clear hf5 hw3 hw4 HB3' HB3 z0 z1 z2 z3 z4 z5 z6 z7 z8 z9 z10 z11 z12 z13 z14 z15 z16 z17 z18 z19 z20 z21 w3
  obtain ⟨z0, z1, z2, z3, z4, z5, z6, z7, z8, z9, z10, z11, z12, z13, z14, z15, z16, z17, z18, z19, z20, z21⟩ := cells22 HC4.out
  cases Z1 with
  | false =>
    have hU : U = false := HU3.out.symm
    subst hU
    clear hf10 hfl hin HCH HU3
    as_aux_lemma =>
    go_wp2_with fail
    go_ret
    exact ⟨rfl, HB4.out⟩
  | true =>
  as_aux_lemma =>
  go_wp2_with fail
  refine hf10.mono ?_
  rintro e w6 ⟨rfl, hw6⟩
  subst hw6
  clear hf10
  cases Z2 with
  | false =>
    have hU : U = false := HU3.out.symm
    subst hU
    clear hfl hin HCH HU3
    as_aux_lemma =>
    go_wp2_with fail
    go_ret
    exact ⟨rfl, HB4.out⟩
  | true =>
  have HU4 : Hid ((decide (f.timeout ≤ 1000) && (decide (f.path.length ≤ 220) && (decide (f.data.length ≤ 1000) && (Z3 && (Z4 || decide (Z5 = 0)))))) = U) := HU3.out
  clear HU3
  by_cases k2 : f.timeout ≤ 1000
  case neg =>
    have hU : U = false := by rw [← HU4.out, decide_eq_false k2]; rfl
    subst hU
    clear hfl hin HCH HU4
    as_aux_lemma =>
    go_wp2_with fail
    go_ret
    exact ⟨rfl, HB4.out⟩
  have hpl := mkS_size f.path
  have hp1 := HP1.out
  have hp2 := HP2.out
  by_cases k3 : f.path.length ≤ 220
  case neg =>
    have hU : U = false := by rw [← HU4.out, decide_eq_false k3]; simp
    subst hU
    clear hfl hin HCH HU4
    as_aux_lemma =>
    go_wp2_with fail
    go_ret
    exact ⟨rfl, HB4.out⟩
  by_cases k4 : f.data.length ≤ 1000
  case neg =>
    have hU : U = false := by rw [← HU4.out, decide_eq_false k4]; simp
    subst hU
    clear hfl hin HCH HU4
    as_aux_lemma =>
    go_wp2_with fail
    go_ret
    exact ⟨rfl, HB4.out⟩
  have HU5 : Hid ((Z3 && (Z4 || decide (Z5 = 0))) = U) := by show _ = _; rw [← HU4.out, decide_eq_true k2, decide_eq_true k3, decide_eq_true k4, Bool.true_and, Bool.true_and, Bool.true_and]
  clear HU4
  as_aux_lemma =>
  go_wp2_with fail
  refine hfl.mono ?_
  rintro e w7 ⟨rfl, hw7⟩
  subst hw7
  clear hfl k0 k1 k2 k3 k4
  cases Z3 with
  | false =>
    have hU : U = false := HU5.out.symm
    subst hU
    clear hin HCH HU5
    as_aux_lemma =>
    go_wp2_with fail
    go_ret
    exact ⟨rfl, HB4.out⟩
  | true =>
  as_aux_lemma =>
  go_wp2_with fail
  refine hin.mono ?_
  rintro e w8 ⟨rfl, hB8⟩
  have HB8 : Hid (Below w.heap.size w w8) := HB4.out.trans (hB8.mono HB4.out.size)
  have HC8 : Hid (w8.heap[w.heap.size]? = some (.cells #[.int .u8 f.kind, .int .i64 f.xid, .int .i64 f.zxid, .int .i64 f.err, .int .i64 f.session, .int .i64 f.timeout, .string (mkS f.path), .slice A1 f.data.length c1, .int .i64 f.s0, .int .i64 f.s1, .int .i64 f.s2, .int .i64 f.s3, .int .i64 f.s4, .int .i64 f.s5, .int .i64 f.s6, .int .i64 f.s7, .int .i64 f.s8, .int .i64 f.s9, .slice A2 f.list.length c2, .int .i64 f.cver, .slice A3 f.cmems.length c3, .slice A4 f.np c4] 43 (0, 0))) := by show _ = _; rw [hB8.block _ (heap_lt HC4.out)]; exact HC4.out
  clear hin hB8 HB4 HC4 z0 z1 z2 z3 z4 z5 z6 z7 z8 z9 z10 z11 z12 z13 z14 z15 z16 z17 z18 z19 z20 z21
  obtain ⟨z0, z1, z2, z3, z4, z5, z6, z7, z8, z9, z10, z11, z12, z13, z14, z15, z16, z17, z18, z19, z20, z21⟩ := cells22 HC8.out
  cases Z4 with
  | true =>
    have hU : U = true := HU5.out.symm
    subst hU
    clear HCH HU5
    as_aux_lemma =>
    go_wp2_with fail
    go_ret
    exact ⟨rfl, HB8.out⟩
  | false =>
  have hch := HCH.out w8 HB8.out
  have HU6 : Hid (decide (Z5 = 0) = U) := HU5.out
  clear HU5 HCH
  as_aux_lemma =>
  go_wp2_with fail
  refine hch.mono ?_
  rintro e w9 ⟨rfl, hB9⟩
  have HB9 : Hid (Below w.heap.size w w9) := HB8.out.trans (hB9.mono HB8.out.size)
  clear hch hB9 HB8 HC8 z0 z1 z2 z3 z4 z5 z6 z7 z8 z9 z10 z11 z12 z13 z14 z15 z16 z17 z18 z19 z20 z21
  go_wp2
  go_ret
  exact ⟨retb (by rw [← HU6.out, Bool.eq_iff_iff]; simp), HB9.out⟩
end Go.Proofs.YtmojplgoohnmdaaDoor.AK
