/- What one change rings. -/
import Derived.Test.YtkbmbnfpadllmaaDoorBeDt
import Derived.Test.YtkbmbnfpadllmaaDoorBeE
import Derived.Test.YtkbmbnfpadllmaaDoorDdR
namespace Go.Proofs.YtkbmbnfpadllmaaDoor.We
set_option linter.unusedSimpArgs false
set_option linter.unusedVariables false
open Go.RowKit Go.MapKept
set_option linter.unusedVariables false
set_option linter.unusedSimpArgs false

abbrev dV (f : Fl) (A1 A2 A3 : Option Addr) (c1 c2 c3 : Nat) : Array Value := #[.int .i64 f.zxid, .int .u8 f.kind, .int .i64 f.session, .int .i64 f.turn, .int .i64 f.xid, .int .i64 f.time, .string (mkS f.path), .slice A1 f.data.length c1, .int .i64 f.owner, .int .i64 f.version, .int .i64 f.cversion, .int .i64 f.timeout, .int .i64 f.err, .int .i64 f.cver, .slice A2 f.mems.length c2, .slice A3 f.np c3]
theorem one_sort (w : World) (a : Int) (T : TypeId) : ∀ j (hj : j < ([a] : List Int).length), (w.alloc (.cells #[.int .u8 a] T)).cell? ⟨w.heap.size, j, none⟩ = some (.int .u8 (([a] : List Int)[j]'hj)) := by
  intro j hj
  have : j = 0 := by simpa using hj
  subst this
  simp
theorem two_sorts (w : World) (a b : Int) (T : TypeId) : ∀ j (hj : j < ([a, b] : List Int).length), (w.alloc (.cells #[.int .u8 a, .int .u8 b] T)).cell? ⟨w.heap.size, j, none⟩ = some (.int .u8 (([a, b] : List Int)[j]'hj)) := by
  intro j hj
  match j, hj with
  | 0, _ => simp
  | 1, _ => simp
theorem three_sorts (w : World) (a b c : Int) (T : TypeId) : ∀ j (hj : j < ([a, b, c] : List Int).length), (w.alloc (.cells #[.int .u8 a, .int .u8 b, .int .u8 c] T)).cell? ⟨w.heap.size, j, none⟩ = some (.int .u8 (([a, b, c] : List Int)[j]'hj)) := by
  intro j hj
  match j, hj with
  | 0, _ => simp
  | 1, _ => simp
  | 2, _ => simp
theorem Cl.alloc {w : World} {t m bt br bz base : Nat} {z : Int} (h : Cl w t m bt br bz base z) (o : Obj) : Cl (w.alloc o) t m bt br bz base z := h.keep (Chg.alloc _ _ _)
/- Where a change stands: the tower, the closure's variables, the rings so far. -/
structure St (w : World) (t m bt br bz base : Nat) (z : Int) (L : List Wa) (R : List Rg) (v : Value) : Prop where
  tx : Tx w t m L
  laid : PA.Laid w
  cl : Cl w t m bt br bz base z
  cell : w.heap[br]? = some (.cells #[v] 50 (0, 0))
  own : w.ownsRow base 56 5 v R.length (R.flatMap rgC)
  gl : 1 < base ∧ 0 < base ∧ ¬ 1 = br ∧ ¬ 0 = br
theorem St.below {w w' : World} {t m bt br bz base : Nat} {z : Int} {L : List Wa} {R : List Rg} {v : Value} (h : St w t m bt br bz base z L R v) (hB : Below w.heap.size w w') : St w' t m bt br bz base z L R v :=
  ⟨h.tx.below hB, h.laid.below hB, h.cl.keep ((Chg.of_below hB).weak fun _ _ e => e.elim), by rw [hB.block br (heapLt h.cell)]; exact h.cell, ownKeep h.own (Chg.of_below hB) (fun _ _ => id), h.gl⟩
theorem laid_sw {w w' : World} {t m br base : Nat} {L : List Wa} (h : PA.Laid w) (hT : Tx w t m L) (hc : Chg (Sw m br base) w w') (gl : 1 < base ∧ 0 < base ∧ ¬ 1 = br ∧ ¬ 0 = br) : PA.Laid w' := by
  obtain ⟨g1, g2, g3, g4⟩ := gl
  obtain ⟨es, clock, hb, _⟩ := hT.map
  have hne : ∀ (g i : Nat) (v : Value), w.cell? ⟨g, i, none⟩ = some v → ¬ g = m := by
    intro g i v hv e
    subst e
    simp [World.cell?, hb] at hv
  obtain ⟨x, hx⟩ := h.one
  refine ⟨⟨x, ?_⟩, fun j hj => ?_⟩
  · rw [hc.cell (a := ⟨1, 0, none⟩) h.gt.1 (by rintro (e | e | e); exact hne _ _ _ hx e; exact g3 e; exact absurd e (by show ¬ base ≤ 1; omega))]; exact hx
  · rw [hc.cell (a := ⟨0, j, none⟩) h.gt.2 (by rintro (e | e | e); exact hne _ _ _ (h.tab j hj) e; exact g4 e; exact absurd e (by show ¬ base ≤ 0; omega))]; exact h.tab j hj
theorem St.toll {w : World} {t m bt br bz base : Nat} {z : Int} {L : List Wa} {R : List Rg} {v : Value} (h : St w t m bt br bz base z L R v) (hlen : R.length + L.length ≤ 1000000) (o : Obj) (ss : List Int) (hss : ∀ j (hj : j < ss.length), (w.alloc o).cell? ⟨w.heap.size, j, none⟩ = some (.int .u8 (ss[j]'hj))) (hsn : ss.length ≤ 1000) (kd : Int) (p : List UInt8) (K : Nat) (hK : K = ss.length) :
    Calls Tryd.prog 34 #[.int .u8 kd, .string (mkS p), .slice (some ⟨w.heap.size, 0, none⟩) K K, .pointer (some ⟨bt, 0, none⟩), .pointer (some ⟨br, 0, none⟩), .pointer (some ⟨bz, 0, none⟩)] (w.alloc o) fun e w' => e = .returned (.tuple #[]) ∧
      ∃ (hs : List Wa) (v' : Value), hs.Perm (L.filter (hitB p ss)) ∧ St w' t m bt br bz base z (L.filter fun x => !hitB p ss x) (R ++ hs.map (rgOf kd z)) v' ∧ Chg (Sw m br base) w w' := by
  subst hK
  have hA := h.below ((Below.refl _ _).alloc (Nat.le_refl _) o)
  refine (toll_any hA.tx hA.cl hA.cell hA.own hss hsn ⟨h.cl.le.2.2.2.2.2, by simp, ?_⟩ kd p hlen).mono ?_
  · intro e
    obtain ⟨cur, hcu, _⟩ := ownBlk h.own e
    have := heapLt hcu
    omega
  · rintro e w' ⟨rfl, hs, v', h1, h2, h3, h4, h5⟩
    exact ⟨rfl, hs, v', h1, ⟨h2, laid_sw hA.laid hA.tx h5 hA.gl, hA.cl.keep h5, h3, h4, h.gl⟩, (Chg.alloc _ _ _).trans h5⟩
theorem ownBase {w : World} {base base' e size n : Nat} {v : Value} {xs : List Value} (h : w.ownsRow base e size v n xs) (hb : base' ≤ base) : w.ownsRow base' e size v n xs := by
  refine ⟨h.1, ?_⟩
  rcases h.2 with h | ⟨g, cap, cur, rfl, h1, h2⟩
  · exact .inl h
  · exact .inr ⟨g, cap, cur, rfl, Nat.le_trans hb h1, h2⟩
/- Behind the tolls of a change. -/
structure Ed (W w3 : World) (t m n0 : Nat) (k : Int) (p : List UInt8) (z : Int) (L ws : List Wa) (v : Value) : Prop where
  st : St w3 t m n0 (n0 + 3) (n0 + 2) (n0 + 4) z (left1 k p L) (ws.map fun x => rgOf (rgK k p x) z x) v
  perm : ws.Perm (L.filter fun x => !decide (rgK k p x = 0))
  chg : Chg (Sw m (n0 + 3) (n0 + 4)) W w3
theorem Ed.cell {W w3 : World} {t m n0 : Nat} {k : Int} {p : List UInt8} {z : Int} {L ws : List Wa} {v : Value} (h : Ed W w3 t m n0 k p z L ws v) : w3.cell? ⟨n0 + 1 + 1 + 1, 0, none⟩ = some v := by
  have := cellAt h.st.cell 0
  simpa using this
theorem Ed.sort {W w3 : World} {t m n0 : Nat} {k : Int} {p : List UInt8} {z : Int} {L ws : List Wa} {v : Value} (h : Ed W w3 t m n0 k p z L ws v) (hL : L.length ≤ 1000000) :
    Calls Tryd.prog 37 #[v, .func (.func 38) #[] #[]] w3 fun e w' => e = .returned (.tuple #[]) ∧ w'.cell? ⟨n0 + 1 + 1 + 1, 0, none⟩ = some v ∧ w'.ownsRow (n0 + 4) 56 5 v (told1 k p z L).length ((told1 k p z L).flatMap rgC) ∧ Tx w' t m (left1 k p L) ∧ Chg (Sw m (n0 + 3) (n0 + 4)) W w' := by
  have hl : ws.length ≤ 1000000 := by
    have h1 := h.perm.length_eq
    have h2 := List.length_filter_le (fun x => !decide (rgK k p x = 0)) L
    omega
  have ho := h.st.own
  rw [List.length_map] at ho
  refine (sort_any (rgK k p) z ho hl).mono ?_
  rintro e w' ⟨rfl, h1, h2⟩
  have hvb : ∀ i, v.ownBlock = some i → n0 + 4 ≤ i := fun i hi => (ownBlk ho hi).choose_spec.2
  have hle := h.st.cl.le
  refine ⟨rfl, ?_, ?_, h.st.tx.keep h2 (fun e => by have := hvb _ e; omega) (fun e => by have := hvb _ e; omega), h.chg.trans (h2.weak fun k _ e => .inr (.inr (hvb k e)))⟩
  · rw [h2.cell (a := ⟨n0 + 1 + 1 + 1, 0, none⟩) (heapLt h.st.cell) (fun e => by have := hvb _ e; simp at this; omega)]
    exact h.cell
  · unfold told1
    rw [List.length_map, sortW_len, ← h.perm.length_eq, ← sortW_perm h.perm]
    exact h1
theorem ring_fin {w W w4 : World} {t m : Nat} {k : Int} {p : List UInt8} {z : Int} {L : List Wa} {v : Value} (hB : Below w.heap.size w W) (ho : w4.ownsRow (w.heap.size + 4) 56 5 v (told1 k p z L).length ((told1 k p z L).flatMap rgC)) (hx : Tx w4 t m (left1 k p L)) (hc : Chg (Sw m (w.heap.size + 3) (w.heap.size + 4)) W w4) :
    w4.ownsRow w.heap.size 56 5 v (told1 k p z L).length ((told1 k p z L).flatMap rgC) ∧ Tx w4 t m (left1 k p L) ∧ Chg (fun k => k = m) w w4 :=
  ⟨ownBase ho (by omega), hx, (Chg.of_below hB).weak (fun _ _ e => e.elim) |>.trans' hc (fun k hk e => by rcases e with e | e | e; exact e; all_goals (exfalso; omega))⟩
theorem not1 {k : Int} {p : List UInt8} {x : Wa} {L : List Wa} (hg : mayB x.so x.p = true) : x.so = 1 ∨ x.so = 2 ∨ x.so = 3 := by
  simp only [mayB, Bool.and_eq_true, Bool.or_eq_true, decide_eq_true_eq] at hg
  omega
set_option maxRecDepth 100000 in
set_option maxHeartbeats 2000000 in
theorem ring_any {w : World} {t m : Nat} {L : List Wa} (h : Tx w t m L) (hL : PA.Laid w) (f : Fl) {A1 A2 A3 : Option Addr} {c1 c2 c3 : Nat} (z : Int) (hlen : L.length ≤ 1000000) :
    Calls Tryd.prog 24 #[.pointer (some ⟨t, 0, none⟩), .agg (dV f A1 A2 A3 c1 c2 c3), .int .i64 z] w fun e w' => ∃ v, e = .returned v ∧ w'.ownsRow w.heap.size 56 5 v (told1 f.kind f.path z L).length ((told1 f.kind f.path z L).flatMap rgC) ∧ Tx w' t m (left1 f.kind f.path L) ∧ Chg (fun k => k = m) w w' := by
  obtain ⟨zx, k, se, tu, xi, ti, p, da, ow, ve, cv, tmo, er, cver, mems, np⟩ := f
  dsimp only [dV]
  obtain ⟨W, hW⟩ : ∃ W, W = (((w.alloc (.cells #[.pointer (some ⟨t, 0, none⟩)] 40)).alloc (.cells #[.int .i64 zx, .int .u8 k, .int .i64 se, .int .i64 tu, .int .i64 xi, .int .i64 ti, .string (mkS p), .slice A1 da.length c1, .int .i64 ow, .int .i64 ve, .int .i64 cv, .int .i64 tmo, .int .i64 er, .int .i64 cver, .slice A2 mems.length c2, .slice A3 np c3] 32)).alloc (.cells #[.int .i64 z] 23)).alloc (.cells #[.slice none 0 0] 50) := ⟨_, rfl⟩
  have hBW : Below w.heap.size w W := by rw [hW]; exact ((((Below.refl _ _).alloc (Nat.le_refl _) _).alloc (by simp) _).alloc (by simp; omega) _).alloc (by simp; omega) _
  have hsz : W.heap.size = w.heap.size + 4 := by rw [hW]; simp
  have hb0 : W.heap[w.heap.size]? = some (.cells #[.pointer (some ⟨t, 0, none⟩)] 40 (0, 0)) := by
    rw [hW, Below.heap_alloc _ _ _ (by simp; omega), Below.heap_alloc _ _ _ (by simp; omega), Below.heap_alloc _ _ _ (by simp)]; exact heap_alloc_new _ _
  have hb1 : W.heap[w.heap.size + 1]? = some (.cells #[.int .i64 zx, .int .u8 k, .int .i64 se, .int .i64 tu, .int .i64 xi, .int .i64 ti, .string (mkS p), .slice A1 da.length c1, .int .i64 ow, .int .i64 ve, .int .i64 cv, .int .i64 tmo, .int .i64 er, .int .i64 cver, .slice A2 mems.length c2, .slice A3 np c3] 32 (0, 0)) := by
    rw [hW, Below.heap_alloc _ _ _ (by simp), Below.heap_alloc _ _ _ (by simp)]
    have := heap_alloc_new (w.alloc (.cells #[.pointer (some ⟨t, 0, none⟩)] 40)) (.cells #[.int .i64 zx, .int .u8 k, .int .i64 se, .int .i64 tu, .int .i64 xi, .int .i64 ti, .string (mkS p), .slice A1 da.length c1, .int .i64 ow, .int .i64 ve, .int .i64 cv, .int .i64 tmo, .int .i64 er, .int .i64 cver, .slice A2 mems.length c2, .slice A3 np c3] 32)
    simpa using this
  have hb2 : W.heap[w.heap.size + 2]? = some (.cells #[.int .i64 z] 23 (0, 0)) := by
    rw [hW, Below.heap_alloc _ _ _ (by simp)]
    have := heap_alloc_new ((w.alloc (.cells #[.pointer (some ⟨t, 0, none⟩)] 40)).alloc (.cells #[.int .i64 zx, .int .u8 k, .int .i64 se, .int .i64 tu, .int .i64 xi, .int .i64 ti, .string (mkS p), .slice A1 da.length c1, .int .i64 ow, .int .i64 ve, .int .i64 cv, .int .i64 tmo, .int .i64 er, .int .i64 cver, .slice A2 mems.length c2, .slice A3 np c3] 32)) (.cells #[.int .i64 z] 23)
    simpa using this
  have hb3 : W.heap[w.heap.size + 3]? = some (.cells #[.slice none 0 0] 50 (0, 0)) := by
    rw [hW]
    have := heap_alloc_new (((w.alloc (.cells #[.pointer (some ⟨t, 0, none⟩)] 40)).alloc (.cells #[.int .i64 zx, .int .u8 k, .int .i64 se, .int .i64 tu, .int .i64 xi, .int .i64 ti, .string (mkS p), .slice A1 da.length c1, .int .i64 ow, .int .i64 ve, .int .i64 cv, .int .i64 tmo, .int .i64 er, .int .i64 cver, .slice A2 mems.length c2, .slice A3 np c3] 32)).alloc (.cells #[.int .i64 z] 23)) (.cells #[.slice none 0 0] 50)
    simpa using this
  have hTW := h.below hBW
  have hLW := hL.below hBW
  have hltt := h.ltt
  have hltm := h.ltm
  have hcl : Cl W t m w.heap.size (w.heap.size + 3) (w.heap.size + 2) (w.heap.size + 4) z := ⟨hb0, hb2, by omega, by have := h.ne; omega⟩
  have d1 := cellAt hb1 1
  have d6 := cellAt hb1 6
  simp at d1 d6
  have hgl := hL.gt
  have HF : Hid (St W t m w.heap.size (w.heap.size + 3) (w.heap.size + 2) (w.heap.size + 4) z L [] (.slice none 0 0) ∧ Below w.heap.size w W) := ⟨⟨hTW, hLW, hcl, hb3, World.ownsRow_nil _ _ _ _, by omega⟩, hBW⟩
  have hG : (w.heap.size + 1) < W.heap.size := by omega
  have HS : Hid (W.heap.size = w.heap.size + 4) := hsz
  clear hsz
  clear h hL hBW hb0 hb1 hb2 hb3 hTW hLW hcl
  go_enter Tryd.func24, Tryd.ntmps24
  go_upto_region 3 with fail
  rw [← hW]
  clear hW
  by_cases hk1 : k = 1
  · subst hk1
    have hto := HF.out.1.toll (by simpa using hlen) (.cells #[.int .u8 2] 22) [2] (one_sort W 2 _) (by simp) 1 p 1 rfl
    go_wp2_with fail
    refine hto.mono ?_
    rintro e w1 ⟨rfl, hs1, v1, p1, s1, g1⟩
    have HP1 : Hid (hs1.Perm (L.filter (hitB p [2]))) := p1
    have HS1 : Hid (St w1 t m w.heap.size (w.heap.size + 3) (w.heap.size + 2) (w.heap.size + 4) z (L.filter fun x => !hitB p [2] x) (hs1.map (rgOf 1 z)) v1) := s1
    have HG1 : Hid (Chg (Sw m (w.heap.size + 3) (w.heap.size + 4)) W w1) := g1
    have hpar := PA.parent_k p w1 w1 ⟨s1.laid, Below.refl _ _⟩
    clear p1 s1 g1 hto
    go_wp2_with fail
    refine hpar.mono ?_
    rintro e w2 ⟨rfl, hk2⟩
    have s2 := HS1.out.below hk2.below
    have HB2 : Hid (Below w1.heap.size w1 w2) := hk2.below
    have hto2 := s2.toll (by have := HP1.out.length_eq; have := filter_parts (hitB p [2]) L; simp only [List.length_map]; omega) (.cells #[.int .u8 3] 22) [3] (one_sort w2 3 _) (by simp) 4 (PA.parentS p) 1 rfl
    clear hpar hk2 s2
    go_wp2_with fail
    refine hto2.mono ?_
    rintro e w3 ⟨rfl, hs2, v9, p2, s3, g3⟩
    have hmath := two_hits (k := 1) (p := p) (z := z) (k1 := 1) (k2 := 4) (L := L) (hs1 := hs1) (hs2 := hs2) (q1 := hitB p [2]) (q2 := hitB (PA.parentS p) [3]) (fun x hx => by simp only [hitB, Bool.and_eq_true, Bool.and_eq_false_iff, decide_eq_true_eq, decide_eq_false_iff_not, List.mem_singleton, List.mem_cons, List.not_mem_nil, or_false]; have := not1 (HF.out.1.tx.good x hx) (k := 0) (p := p) (L := L); intro h; simp [rgK, h.1, h.2]) (fun x hx => by simp only [hitB, Bool.and_eq_true, Bool.and_eq_false_iff, decide_eq_true_eq, decide_eq_false_iff_not, List.mem_singleton, List.mem_cons, List.not_mem_nil, or_false]; have := not1 (HF.out.1.tx.good x hx) (k := 0) (p := p) (L := L); intro h1 h2; unfold rgK; rw [if_pos rfl, if_neg (by rintro ⟨a, b⟩; rcases h1 with h1 | h1; exact h1 a; exact h1 b), if_pos ⟨h2.2, h2.1⟩]) (fun x hx => by simp only [hitB, Bool.and_eq_true, Bool.and_eq_false_iff, decide_eq_true_eq, decide_eq_false_iff_not, List.mem_singleton, List.mem_cons, List.not_mem_nil, or_false]; have := not1 (HF.out.1.tx.good x hx) (k := 0) (p := p) (L := L); intro h1 h2; unfold rgK; rw [if_pos rfl, if_neg (by rintro ⟨a, b⟩; rcases h1 with h1 | h1; exact h1 a; exact h1 b), if_neg (by rintro ⟨a, b⟩; rcases h2 with h2 | h2; exact h2 b; exact h2 a)]) (by omega) (by omega) HP1.out p2
    have HEND : Hid (Ed W w3 t m w.heap.size 1 p z L (hs1 ++ hs2) v9) := ⟨by rw [← hmath.1, ← hmath.2.2]; exact s3, hmath.2.1, (HG1.out.trans (Chg.of_below HB2.out |>.weak fun _ _ e => e.elim)).trans g3⟩
    clear hto2 p2 s3 g3 hmath
    have hce := HEND.out.cell
    have hso := HEND.out.sort hlen
    go_wp2_with fail
    refine hso.mono ?_
    rintro e w4 ⟨rfl, hc4, ho4, hx4, hg4⟩
    have HR : Hid _ := ring_fin HF.out.2 ho4 hx4 hg4
    clear hso ho4 hx4 hg4 hce
    go_wp2_with fail
    go_ret
    exact ⟨v9, rfl, HR.out⟩
  by_cases hk2 : k = 2
  · subst hk2
    have hto := HF.out.1.toll (by simpa using hlen) (.cells #[.int .u8 1, .int .u8 2, .int .u8 3] 22) [1, 2, 3] (three_sorts W 1 2 3 _) (by simp) 2 p 3 rfl
    go_wp2_with fail
    refine hto.mono ?_
    rintro e w1 ⟨rfl, hs1, v1, p1, s1, g1⟩
    have HP1 : Hid (hs1.Perm (L.filter (hitB p [1, 2, 3]))) := p1
    have HS1 : Hid (St w1 t m w.heap.size (w.heap.size + 3) (w.heap.size + 2) (w.heap.size + 4) z (L.filter fun x => !hitB p [1, 2, 3] x) (hs1.map (rgOf 2 z)) v1) := s1
    have HG1 : Hid (Chg (Sw m (w.heap.size + 3) (w.heap.size + 4)) W w1) := g1
    have hpar := PA.parent_k p w1 w1 ⟨s1.laid, Below.refl _ _⟩
    clear p1 s1 g1 hto
    go_wp2_with fail
    refine hpar.mono ?_
    rintro e w2 ⟨rfl, hk2⟩
    have s2 := HS1.out.below hk2.below
    have HB2 : Hid (Below w1.heap.size w1 w2) := hk2.below
    have hto2 := s2.toll (by have := HP1.out.length_eq; have := filter_parts (hitB p [1, 2, 3]) L; simp only [List.length_map]; omega) (.cells #[.int .u8 3] 22) [3] (one_sort w2 3 _) (by simp) 4 (PA.parentS p) 1 rfl
    clear hpar hk2 s2
    go_wp2_with fail
    refine hto2.mono ?_
    rintro e w3 ⟨rfl, hs2, v9, p2, s3, g3⟩
    have hmath := two_hits (k := 2) (p := p) (z := z) (k1 := 2) (k2 := 4) (L := L) (hs1 := hs1) (hs2 := hs2) (q1 := hitB p [1, 2, 3]) (q2 := hitB (PA.parentS p) [3]) (fun x hx => by simp only [hitB, Bool.and_eq_true, Bool.and_eq_false_iff, decide_eq_true_eq, decide_eq_false_iff_not, List.mem_singleton, List.mem_cons, List.not_mem_nil, or_false]; have := not1 (HF.out.1.tx.good x hx) (k := 0) (p := p) (L := L); intro h; simp [rgK, h.1]) (fun x hx => by simp only [hitB, Bool.and_eq_true, Bool.and_eq_false_iff, decide_eq_true_eq, decide_eq_false_iff_not, List.mem_singleton, List.mem_cons, List.not_mem_nil, or_false]; have := not1 (HF.out.1.tx.good x hx) (k := 0) (p := p) (L := L); intro h1 h2; unfold rgK; rw [if_neg (by omega), if_pos rfl, if_neg (by rintro a; rcases h1 with h1 | h1; exact h1 a; exact h1 this), if_pos ⟨h2.2, h2.1⟩]) (fun x hx => by simp only [hitB, Bool.and_eq_true, Bool.and_eq_false_iff, decide_eq_true_eq, decide_eq_false_iff_not, List.mem_singleton, List.mem_cons, List.not_mem_nil, or_false]; have := not1 (HF.out.1.tx.good x hx) (k := 0) (p := p) (L := L); intro h1 h2; unfold rgK; rw [if_neg (by omega), if_pos rfl, if_neg (by rintro a; rcases h1 with h1 | h1; exact h1 a; exact h1 this), if_neg (by rintro ⟨a, b⟩; rcases h2 with h2 | h2; exact h2 b; exact h2 a)]) (by omega) (by omega) HP1.out p2
    have HEND : Hid (Ed W w3 t m w.heap.size 2 p z L (hs1 ++ hs2) v9) := ⟨by rw [← hmath.1, ← hmath.2.2]; exact s3, hmath.2.1, (HG1.out.trans (Chg.of_below HB2.out |>.weak fun _ _ e => e.elim)).trans g3⟩
    clear hto2 p2 s3 g3 hmath
    have hce := HEND.out.cell
    have hso := HEND.out.sort hlen
    go_wp2_with fail
    refine hso.mono ?_
    rintro e w4 ⟨rfl, hc4, ho4, hx4, hg4⟩
    have HR : Hid _ := ring_fin HF.out.2 ho4 hx4 hg4
    clear hso ho4 hx4 hg4 hce
    go_wp2_with fail
    go_ret
    exact ⟨v9, rfl, HR.out⟩
  by_cases hk3 : k = 3
  · subst hk3
    have hto := HF.out.1.toll (by simpa using hlen) (.cells #[.int .u8 1, .int .u8 2] 22) [1, 2] (two_sorts W 1 2 _) (by simp) 3 p 2 rfl
    go_wp2_with fail
    refine hto.mono ?_
    rintro e w3 ⟨rfl, hs1, v9, p1, s3, g3⟩
    have hmath := two_hits (k := 3) (p := p) (z := z) (k1 := 3) (k2 := 4) (L := L) (hs1 := hs1) (hs2 := []) (q1 := hitB p [1, 2]) (q2 := fun _ => false) (fun x hx => by simp only [hitB, Bool.and_eq_true, Bool.and_eq_false_iff, decide_eq_true_eq, decide_eq_false_iff_not, List.mem_singleton, List.mem_cons, List.not_mem_nil, or_false]; have := not1 (HF.out.1.tx.good x hx) (k := 0) (p := p) (L := L); intro h; unfold rgK; rw [if_neg (by omega), if_neg (by omega), if_pos rfl, if_pos ⟨h.1, by omega⟩]) (fun x hx _ h => by cases h) (fun x hx => by simp only [hitB, Bool.and_eq_true, Bool.and_eq_false_iff, decide_eq_true_eq, decide_eq_false_iff_not, List.mem_singleton, List.mem_cons, List.not_mem_nil, or_false]; have := not1 (HF.out.1.tx.good x hx) (k := 0) (p := p) (L := L); intro h1 h2; unfold rgK; rw [if_neg (by omega), if_neg (by omega), if_pos rfl, if_neg (by rintro ⟨a, b⟩; rcases h1 with h1 | h1; exact h1 a; omega)]) (by omega) (by omega) p1 (by simp)
    have e3 : (L.filter fun x => !hitB p [1, 2] x) = left1 3 p L := by rw [← hmath.2.2]; exact (List.filter_eq_self.2 fun _ _ => rfl).symm
    have e1 := hmath.1
    have e2 := hmath.2.1
    simp only [List.append_nil, List.map_nil] at e1 e2
    have HEND : Hid (Ed W w3 t m w.heap.size 3 p z L hs1 v9) := ⟨by rw [← e1, ← e3]; exact s3, e2, g3⟩
    clear hto p1 s3 g3 hmath e1 e2 e3
    have hce := HEND.out.cell
    have hso := HEND.out.sort hlen
    go_wp2_with fail
    refine hso.mono ?_
    rintro e w4 ⟨rfl, hc4, ho4, hx4, hg4⟩
    have HR : Hid _ := ring_fin HF.out.2 ho4 hx4 hg4
    clear hso ho4 hx4 hg4 hce
    go_wp2_with fail
    go_ret
    exact ⟨v9, rfl, HR.out⟩
  · have HEND : Hid (Ed W W t m w.heap.size k p z L [] (.slice none 0 0)) := by
      have h0 : ∀ x, rgK k p x = 0 := fun x => by unfold rgK; rw [if_neg hk1, if_neg hk2, if_neg hk3]
      have e1 : left1 k p L = L := by unfold left1; exact List.filter_eq_self.2 fun x _ => by simp [h0 x]
      refine ⟨by rw [e1]; exact HF.out.1, ?_, Chg.refl _ _⟩
      rw [List.filter_eq_nil_iff.2 fun x _ => by simp [h0 x]]
    have g1 : (k == 1) = false := by simpa using hk1
    have g2 : (k == 2) = false := by simpa using hk2
    have g3 : (k == 3) = false := by simpa using hk3
    obtain ⟨v9, hv9⟩ : ∃ v9, v9 = Value.slice none 0 0 := ⟨_, rfl⟩
    rw [← hv9] at HEND
    clear hv9
    have hce := HEND.out.cell
    have hso := HEND.out.sort hlen
    go_wp2_with fail
    refine hso.mono ?_
    rintro e w4 ⟨rfl, hc4, ho4, hx4, hg4⟩
    have HR : Hid _ := ring_fin HF.out.2 ho4 hx4 hg4
    clear hso ho4 hx4 hg4 hce
    go_wp2_with fail
    go_ret
    exact ⟨v9, rfl, HR.out⟩
end Go.Proofs.YtkbmbnfpadllmaaDoor.We
