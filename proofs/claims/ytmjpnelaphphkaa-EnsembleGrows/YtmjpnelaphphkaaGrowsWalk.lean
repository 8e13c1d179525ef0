/- The walk of what follows of quorums: with more servers one stays one; all voters are one, none are none; others play no part. -/
import Derived.Maps.AppendAt
import Derived.Test.YtmjpnelaphphkaaEnsE
namespace Go.Proofs.Ytmjpnelaphphkaa
open Go.RowKit

def nv (l : List Int) : List Value := l.map fun n => .int .i64 n
theorem nv_len (l : List Int) : (nv l).length = l.length := by simp [nv]
theorem nv_app (a b : List Int) : nv (a ++ b) = nv a ++ nv b := by simp [nv]
theorem nv_one (l : List Int) : ∀ u ∈ nv l, u.oneCell' = true := by
  intro u hu
  obtain ⟨y, _, rfl⟩ := List.mem_map.1 hu
  rfl
theorem info3 : (Try.prog.info? 3).map (fun i => (i.zero, i.size, i.bytes)) = some (some (.int .i64 0), 1, 8) := by kernel_rfl
abbrev OwnN (w : World) (base : Nat) (v : Value) (l : List Int) : Prop := w.ownsRow base 3 1 v l.length (nv l)
theorem ns_of_owns {w : World} {base : Nat} {v : Value} {l : List Int} (h : OwnN w base v l) : Ns w v l := by
  rcases h.2 with ⟨rfl, h0⟩ | ⟨g, cap, cur, rfl, hb, hg, hc, hm, hs, ht⟩
  · exact .inl ⟨rfl, List.length_eq_zero_iff.1 h0⟩
  · by_cases h0 : 0 < l.length
    · refine .inr (.inr ⟨h0, g, 0, cap, rfl, hc, heap_lt hg, fun j hj => ?_⟩)
      rw [Nat.zero_add, cell_at hg j]
      have : cur.toList[j]? = some (.int .i64 (l[j]'hj)) := by
        have h1 : (nv l)[j]? = some (.int .i64 (l[j]'hj)) := by simp [nv, hj]
        rw [← h1, ← ht, List.getElem?_take, if_pos (by omega)]
      simpa using this
    · have : l = [] := List.length_eq_zero_iff.1 (by omega)
      subst this
      exact .inr (.inl ⟨_, cap, rfl, rfl⟩)
theorem ns_news {w : World} {b o : Nat} {l : List Int} (h : ∀ j (h : j < l.length), w.cell? ⟨b, o + j, none⟩ = some (.int .i64 (l[j]'h))) : ∀ j u, (nv l)[j]? = some u → w.cell? ((⟨b, o, none⟩ : Addr).add j) = some u := by
  intro j u hu
  simp only [nv, List.getElem?_map] at hu
  obtain ⟨y, hy, rfl⟩ := Option.map_eq_some_iff.1 hu
  obtain ⟨hjl, rfl⟩ := List.getElem?_eq_some_iff.1 hy
  rw [show (⟨b, o, none⟩ : Addr).add j = ⟨b, o + j, none⟩ by simp only [Addr.add]; split <;> simp_all]
  exact h j hjl
/- Numbers behind a row of one's own. -/
theorem app_ints {w : World} {base : Nat} {v : Value} {l : List Int} (ty : TypeId) (hown : OwnN w base v l) {x : Value} {news : List Int} (hx : Ns w x news) (hb : base ≤ w.heap.size) (hn : l.length + news.length ≤ 1000000) :
    ∃ v' w', (Builtin.append_ #[38, 38] ty #[v, x]).run Try.prog w = .ok v' w' ∧ OwnN w' base v' (l ++ news) ∧ w.grownBy w' v.ownBlock ∧ (v'.ownBlock = v.ownBlock ∨ v'.ownBlock = some w.heap.size) := by
  obtain ⟨i0, hi, hz0, hz1, hz2⟩ := info_parts info3
  rcases hx with ⟨rfl, rfl⟩ | ⟨ad, c, rfl, rfl⟩ | ⟨_, b, o, c, rfl, h1, h2, h3⟩
  · refine ⟨v, w, run_append_owned_none (P := Try.prog) w base 38 ty 3 i0 1 Try.underlying38 hi v l.length (nv l) hown, ?_, ⟨rfl, rfl, rfl, Nat.le_refl _, fun _ _ _ => rfl⟩, .inl rfl⟩
    rw [List.append_nil]; exact hown
  · obtain ⟨v', w', hr, ho, hg, _, hlie⟩ := run_append_own_at (P := Try.prog) w base 38 ty 3 i0 (.int .i64 0) 1 8 Try.underlying38 hi hz0 hz1 hz2 rfl (by decide) v l.length (nv l) hown ad 0 c (nv []) rfl (fun j u hu => by simp [nv] at hu) (nv_one [])
      (by unfold maxLen; omega) (by omega) hb
    refine ⟨v', w', hr, ?_, hg, hlie⟩
    show w'.ownsRow base 3 1 v' (l ++ []).length (nv (l ++ []))
    rw [List.length_append, nv_app]; exact ho
  · obtain ⟨v', w', hr, ho, hg, _, hlie⟩ := run_append_own_at (P := Try.prog) w base 38 ty 3 i0 (.int .i64 0) 1 8 Try.underlying38 hi hz0 hz1 hz2 rfl (by decide) v l.length (nv l) hown ⟨b, o, none⟩ news.length c (nv news) (by rw [nv_len, Nat.mul_one]) (ns_news h3) (nv_one news)
      (by unfold maxLen; omega) (by omega) hb
    refine ⟨v', w', hr, ?_, hg, hlie⟩
    show w'.ownsRow base 3 1 v' (l ++ news).length (nv (l ++ news))
    rw [List.length_append, nv_app]; exact ho
theorem wpList_appN {w : World} {ops : Array Oper} {rest : List Oper} {o : Oper} {a : Act} {Q : Exit → Act → World → Prop} (hgd : o.guard = none) (s x : Operand)
    (ho : o.op = .call { callee := .builtin .append, args := #[s, x], argTypes := #[38, 38] })
    {base : Nat} (v xv : Value) {l news : List Int} (hs : a.eval s = v) (hxe : a.eval x = xv) (hown : OwnN w base v l) (hx : Ns w xv news)
    (hb : base ≤ w.heap.size) (hn : l.length + news.length ≤ 1000000)
    (h : ∀ A C w', OwnN w' base (.slice A (l.length + news.length) C) (l ++ news) → w.grownBy w' v.ownBlock → ((Value.slice A (l.length + news.length) C).ownBlock = v.ownBlock ∨ (Value.slice A (l.length + news.length) C).ownBlock = some w.heap.size) → wpList Try.prog ops Q rest (a.put o.dst (.slice A (l.length + news.length) C)) w') :
    wpList Try.prog ops Q (o :: rest) a w := by
  refine wpList_plain hgd fun K hK => ?_
  obtain ⟨v', w', hr, h2, h3, h4⟩ := app_ints o.type hown hx hb hn
  unfold Oper.wp execOp
  simp only [ho, resolve, invoke, builtin, Sem.run_bind, Sem.run_pure, Result.andThen_ok, List.map_toArray, List.map_cons, List.map_nil, hs, hxe, hr]
  obtain ⟨A, C, rfl⟩ := owns_form' h2
  rw [List.length_append] at h2 h4 ⊢
  exact hK _ _ (h A C w' h2 h3 h4)
/- The voters' ids; those of some servers that are voters. -/
def votL (l : List Mem) : List Int := (l.filter fun m => decide (m.role = 1)).map (·.id)
def parL (ids : List Int) (l : List Mem) : List Int := (l.filter fun m => decide (m.role = 1) && ids.contains m.id).map (·.id)
theorem votL_snoc (a : List Mem) (m : Mem) : votL (a ++ [m]) = votL a ++ if m.role = 1 then [m.id] else [] := by
  unfold votL
  rw [List.filter_append, List.map_append]
  by_cases h : m.role = 1 <;> simp [h]
theorem parL_snoc (ids : List Int) (a : List Mem) (m : Mem) : parL ids (a ++ [m]) = parL ids a ++ if m.role = 1 ∧ ids.contains m.id = true then [m.id] else [] := by
  unfold parL
  rw [List.filter_append, List.map_append, List.filter_cons, List.filter_nil]
  by_cases hh : m.role = 1 ∧ ids.contains m.id = true
  · rw [if_pos hh, if_pos (by rw [hh.2, decide_eq_true hh.1]; rfl)]
    rfl
  · rw [if_neg hh, if_neg (by rw [Bool.and_eq_true, decide_eq_true_eq]; exact hh)]
    rfl
theorem votL_len (l : List Mem) : (votL l).length ≤ l.length := by
  unfold votL; rw [List.length_map]; exact List.length_filter_le _ _
theorem parL_len (ids : List Int) (l : List Mem) : (parL ids l).length ≤ l.length := by
  unfold parL; rw [List.length_map]; exact List.length_filter_le _ _
theorem votL_in {l : List Mem} {m : Mem} (hm : m ∈ l) (h : m.role = 1) : (votL l).contains m.id = true := by
  rw [List.contains_iff_mem]
  exact List.mem_map.2 ⟨m, List.mem_filter.2 ⟨hm, decide_eq_true h⟩, rfl⟩
theorem parL_in {l : List Mem} {ids : List Int} {m : Mem} (hm : m ∈ l) (h : m.role = 1) : (parL ids l).contains m.id = ids.contains m.id := by
  cases hc : ids.contains m.id with
  | true =>
    rw [List.contains_iff_mem]
    exact List.mem_map.2 ⟨m, List.mem_filter.2 ⟨hm, by rw [hc, decide_eq_true h]; rfl⟩, rfl⟩
  | false =>
    rw [Bool.eq_false_iff]
    intro hh
    have hh' : m.id ∈ parL ids l := List.contains_iff_mem.1 hh
    obtain ⟨x, hx, he⟩ := List.mem_map.1 hh'
    have := (List.mem_filter.1 hx).2
    rw [Bool.and_eq_true, he, hc] at this
    cases this.2
theorem quo_right {ver : Int} {l : List Mem} {ids : List Int} (h : quoB ver l ids = true) : decide (chk ver l = 0) = true := by
  simp only [quoB, Bool.and_eq_true] at h
  exact h.1
theorem own_cast {w : World} {base : Nat} {A : Option Addr} {C : Nat} {l : List Int} {m : Int} (h : OwnN w base (.slice A (l.length + 1) C) (l ++ [m])) : OwnN w base (.slice A (l.length + 1) C) (l ++ [m]) := h
/- What one number more leaves. -/
structure Grow5 (wr w5 : World) (u8 u9 v5 : Value) (w4 : World) (lv lp : List Int) (mi : Int) : Prop where
  ownv : OwnN w5 w4.heap.size v5 lv
  ownp : OwnN w5 w4.heap.size u9 lp
  dis : ∀ j, v5.ownBlock = some j → u9.ownBlock ≠ some j
  below : Below w4.heap.size w4 w5
theorem grow5 {wr w5 w4 : World} {u8 u9 v5 : Value} {lv lp : List Int} {mi : Int} (hv : OwnN wr w4.heap.size u8 lv) (hp : OwnN wr w4.heap.size u9 lp) (hd : ∀ j, u8.ownBlock = some j → u9.ownBlock ≠ some j) (hB : Below w4.heap.size w4 wr)
    (ho : OwnN w5 w4.heap.size v5 (lv ++ [mi])) (hg : (wr.alloc (.cells #[.int .i64 mi] 3)).grownBy w5 u8.ownBlock) (hl : v5.ownBlock = u8.ownBlock ∨ v5.ownBlock = some (wr.alloc (.cells #[.int .i64 mi] 3)).heap.size) :
    Grow5 wr w5 u8 u9 v5 w4 (lv ++ [mi]) lp mi := by
  have hc : Chg (fun j => u8.ownBlock = some j) wr w5 := (Chg.alloc _ wr _).trans (Chg.of_grown hg)
  refine ⟨ho, owns_keep hp hc (fun j hj e => hd j e hj), fun j hj => ?_, hB.trans (hc.below (fun j e => (hv.lt j e).1) hB.size)⟩
  rcases hl with h | h
  · rw [h] at hj; exact hd j hj
  · rw [h] at hj
    intro e
    have := (hp.lt j e).2
    simp at hj
    omega
set_option maxRecDepth 100000 in
set_option maxHeartbeats 4000000 in
theorem grows_any {w : World} {v x y : Value} {l : List Mem} {ids more : List Int} (h : Mems w v l) (ver : Int) (hx : Ns w x ids) (hy : Ns w y more) (ha : ids.length ≤ 4611686018427387903) (hb : more.length ≤ 4611686018427387903) (hl : l.length ≤ 9223372036854775807) :
    Calls Try.prog 7 #[.agg #[.int .i64 ver, v], x, y] w fun e w' => e = .returned (.bool true) ∧ Below w.heap.size w w' := by
  have HM : Hid (Mems w v l) := h
  have HX : Hid (Ns w x ids) := hx
  have HY : Hid (Ns w y more) := hy
  obtain ⟨A, C, rfl⟩ := h.form
  obtain ⟨A1, C1, rfl⟩ := hx.form
  obtain ⟨A2, C2, rfl⟩ := hy.form
  clear h hx hy
  have hB1 : Below w.heap.size w (w.alloc (.cells #[.int .i64 ver, .slice A l.length C] 25)) := (Below.refl _ _).alloc (Nat.le_refl _) _
  have HF : Hid (∀ w', Below (w.alloc (.cells #[.int .i64 ver, .slice A l.length C] 25)).heap.size (w.alloc (.cells #[.int .i64 ver, .slice A l.length C] 25)) w' → w'.cell? ⟨w.heap.size, 0, none⟩ = some (.int .i64 ver) ∧ w'.cell? ⟨w.heap.size, 1, none⟩ = some (.slice A l.length C) ∧ w.heap.size < w'.heap.size ∧ Below w.heap.size w w') :=
    fun w' h => ⟨by rw [h.cell (p := ⟨w.heap.size, 0, none⟩) (by simp), cell_at (heap_alloc_new w _)]; rfl, by rw [h.cell (p := ⟨w.heap.size, 1, none⟩) (by simp), cell_at (heap_alloc_new w _)]; rfl, Nat.lt_of_lt_of_le (by simp) h.size, hB1.trans (h.mono (by simp))⟩
  by_cases hbig : 1000 < ids.length + more.length ∨ 7 < l.length
  · have hbb : (1000 < ids.length + more.length) ∨ (¬ 1000 < ids.length + more.length ∧ 7 < l.length) := by omega
    rcases hbb with h1 | ⟨h1, h2⟩
    · have h1' : (1000 : Int) < ids.length + more.length := by omega
      go_enter Try.func7, Try.ntmps7
      go_wp2_with fail
      refine (awake_any _).mono ?_
      rintro e w2 ⟨rfl, hB2⟩
      go_wp2
      go_ret
      exact ⟨rfl, (HF.out w2 hB2).2.2.2⟩
    · have h1' : ¬ (1000 : Int) < ids.length + more.length := by omega
      have h2' : (7 : Int) < l.length := by omega
      go_enter Try.func7, Try.ntmps7
      go_wp2_with fail
      refine (awake_any _).mono ?_
      rintro e w2 ⟨rfl, hB2⟩
      obtain ⟨c0, c1, c2, hB2'⟩ := HF.out w2 hB2
      go_wp2
      go_ret
      exact ⟨rfl, hB2'⟩
  · have h1' : ¬ (1000 : Int) < ids.length + more.length := by omega
    have h2' : ¬ (7 : Int) < l.length := by omega
    go_enter Try.func7, Try.ntmps7
    go_wp2_with fail
    refine (awake_any _).mono ?_
    rintro e w2 ⟨rfl, hB2⟩
    obtain ⟨c0, c1, c2, hB2'⟩ := HF.out w2 hB2
    have HX2 : Hid (Ns (w2.alloc (.cells #[] 3)) (.slice A1 ids.length C1) ids) := (HX.out.below' hB2').below' ((Below.refl _ _).alloc (Nat.le_refl _) _)
    have HO2 : Hid (OwnN (w2.alloc (.cells #[] 3)) w2.heap.size (.slice (some ⟨w2.heap.size, 0, none⟩) 0 0) []) := ⟨rfl, .inr ⟨w2.heap.size, 0, #[], rfl, Nat.le_refl _, heap_alloc_new w2 _, Nat.le_refl _, by decide, rfl, rfl⟩⟩
    go_wp2_with (first | (at_builtin; refine wpList_appN rfl (.tmp 27) (.tmp 28) rfl (.slice (some ⟨w2.heap.size, 0, none⟩) 0 0) (.slice A1 ids.length C1) rfl rfl HO2.out HX2.out (by simp) (by simp; omega) ?_; intro A3 C3 w3 ho3 hg3 _; (have HO3 : Hid (OwnN w3 w2.heap.size (.slice A3 ids.length C3) ids) := by simpa [Hid] using ho3); (have hB3 : Below (w.alloc (.cells #[.int .i64 ver, .slice A l.length C] 25)).heap.size (w.alloc (.cells #[.int .i64 ver, .slice A l.length C] 25)) w3 := (hB2.alloc hB2.size _).grown hg3 (by have := hB2.size; simp at this ⊢; omega) (fun k hk => by have := hB2.size; simp [Value.ownBlock] at hk; omega)); (have HY3 : Hid (Ns w3 (.slice A2 more.length C2) more) := HY.out.below' (HF.out w3 hB3).2.2.2); (have hs3 : w2.heap.size ≤ w3.heap.size := by have := hg3.size; simp at this; omega)) | (at_builtin; refine wpList_appN rfl (.tmp 29) (.tmp 30) rfl (.slice A3 ids.length C3) (.slice A2 more.length C2) rfl rfl HO3.out HY3.out hs3 (by omega) ?_; intro A4 C4 w4 ho4 hg4 _; (have HO4 : Hid (OwnN w4 w2.heap.size (.slice A4 (ids.length + more.length) C4) (ids ++ more)) := ho4); (have hB4 : Below (w.alloc (.cells #[.int .i64 ver, .slice A l.length C] 25)).heap.size (w.alloc (.cells #[.int .i64 ver, .slice A l.length C] 25)) w4 := hB3.grown hg4 hB3.size (fun k hk => by have := (HO3.out.lt k hk).1; have := hB2.size; omega)); clear ho4 hg4 ho3 hg3))
    clear c0 c1
    go_loopw [8, 9, 10] (fun s8 s9 i wr => ∃ (k : Nat) (vv pv : Value), i = .int .i64 k ∧ s8 = vv ∧ s9 = pv ∧ k ≤ l.length ∧ OwnN wr w4.heap.size vv (votL (l.take k)) ∧ OwnN wr w4.heap.size pv (parL ids (l.take k)) ∧ (∀ j, vv.ownBlock = some j → pv.ownBlock ≠ some j) ∧ Below w4.heap.size w4 wr) (fun _ _ i _ => l.length - (intOf i).toNat)
    case atStart => exact ⟨0, .slice none 0 0, .slice none 0 0, rfl, rfl, rfl, by omega, World.ownsRow_nil _ _ _ _, World.ownsRow_nil _ _ _ _, (fun j hj => by cases hj), Below.refl _ _⟩
    case round =>
      obtain ⟨k, vv, pv, rfl, rfl, rfl, hk, hvv, hpv, hdis, hB⟩ := hrel
      have HVV : Hid (OwnN wr w4.heap.size u8 (votL (l.take k))) := hvv
      have HPV : Hid (OwnN wr w4.heap.size u9 (parL ids (l.take k))) := hpv
      have HDIS : Hid (∀ j, u8.ownBlock = some j → u9.ownBlock ≠ some j) := hdis
      have HBR : Hid (Below w4.heap.size w4 wr) := hB
      have hBW : Below (w.alloc (.cells #[.int .i64 ver, .slice A l.length C] 25)).heap.size (w.alloc (.cells #[.int .i64 ver, .slice A l.length C] 25)) wr := hB4.trans (hB.mono hB4.size)
      obtain ⟨c0, c1, c3, hBww⟩ := HF.out wr hBW
      have HWW : Hid (Below w.heap.size w wr) := hBww
      have hvl := votL_len (l.take k)
      have hpl := parL_len ids (l.take k)
      have hkl : (l.take k).length ≤ 7 := by rw [List.length_take]; omega
      clear hvv hpv hdis hB hBW hBww
      by_cases hlt : k < l.length
      · obtain ⟨b, o, rfl, hbb, m0, m1, m2, m3⟩ := (HM.out.below' HWW.out).at' k hlt
        have HT : Hid (l.take (k + 1) = l.take k ++ [l[k]'hlt]) := take_snoc hlt
        have HAT0 : Hid (∀ w', Below w4.heap.size w4 w' → w'.cell? ⟨w.heap.size, 1, none⟩ = some (.slice (some ⟨b, o, none⟩) l.length C) ∧ w'.cell? ⟨b, o + k * 4, none⟩ = some (.int .i64 (l[k]'hlt).id) ∧ w.heap.size < w'.heap.size ∧ b < w'.heap.size) := fun w' h => by
          obtain ⟨_, g1, g2, g3⟩ := HF.out w' (hB4.trans (h.mono hB4.size))
          obtain ⟨b', o', he, hb', n0, _⟩ := (HM.out.below' g3).at' k hlt
          cases he
          exact ⟨g1, n0, g2, hb'⟩
        generalize (l[k]'hlt) = m at m0 m1 m2 m3 HT HAT0
        obtain ⟨mi, mr, mw, mg⟩ := m
        dsimp only at m0 m1 m2 m3 HAT0
        have HAT : Hid (∀ w', Below w4.heap.size w4 w' → w'.cell? ⟨w.heap.size, 1, none⟩ = some (.slice (some ⟨b, o, none⟩) l.length C) ∧ w'.cell? ⟨b, o + k * 4, none⟩ = some (.int .i64 mi) ∧ w.heap.size < w'.heap.size ∧ b < w'.heap.size) := HAT0.out
        clear HAT0
        have HVS := votL_snoc (l.take k) ⟨mi, mr, mw, mg⟩
        have HPS := parL_snoc ids (l.take k) ⟨mi, mr, mw, mg⟩
        rw [← HT.out] at HVS HPS
        by_cases hr : mr = 1
        · subst hr
          rw [if_pos rfl] at HVS
          have HVS' : Hid (votL (l.take (k + 1)) = votL (l.take k) ++ [mi]) := HVS
          clear HVS
          have hsa : w4.heap.size ≤ (wr.alloc (.cells #[.int .i64 mi] 3)).heap.size := by have := HBR.out.size; simp; omega
          have hva : (votL (l.take k)).length + [mi].length ≤ 1000000 := by simp; omega
          have HV1 : Hid (OwnN (wr.alloc (.cells #[.int .i64 mi] 3)) w4.heap.size u8 (votL (l.take k))) := owns_keep HVV.out (Chg.alloc Non wr _) (fun _ _ => id)
          have HN1 : Hid (Ns (wr.alloc (.cells #[.int .i64 mi] 3)) (.slice (some ⟨wr.heap.size, 0, none⟩) 1 1) [mi]) := ns_new wr [mi] (by simp) (0, 0) 3 1 (Nat.le_refl _)
          cases hc : ids.contains mi with
          | false =>
            rw [if_neg (by rintro ⟨_, h⟩; dsimp only at h; rw [hc] at h; cases h), List.append_nil] at HPS
            have HPS' : Hid (parL ids (l.take (k + 1)) = parL ids (l.take k)) := HPS
            clear HPS
            have HC : Hid (ids.contains mi = false) := hc
            clear hc
            go_wp2_with (at_builtin; refine wpList_appN rfl (.tmp 46) (.tmp 53) rfl u8 (.slice (some ⟨wr.heap.size, 0, none⟩) 1 1) rfl rfl HV1.out HN1.out hsa hva ?_; intro A5 C5 w5 ho5 hg5 hl5; (have HG5 : Hid (Grow5 wr w5 u8 u9 (.slice A5 ((votL (l.take k)).length + 1) C5) w4 (votL (l.take k) ++ [mi]) (parL ids (l.take k)) mi) := grow5 HVV.out HPV.out HDIS.out HBR.out ho5 hg5 hl5); (have hm5 := HAT.out w5 HG5.out.below); (obtain ⟨p0, p1, p2, p3⟩ := hm5); (have hb5 : b < w5.heap.size := p3); clear ho5 hg5 hl5)
            have hX5 := HX.out.below' (HF.out w5 (hB4.trans (HG5.out.below.mono hB4.size))).2.2.2
            have hh := has_any hX5 mi (by omega)
            rw [HC.out] at hh
            refine hh.mono ?_
            clear hh hX5
            rintro e w6 ⟨rfl, rfl⟩
            go_wp2
            exact ⟨⟨k + 1, _, _, by go_num, rfl, rfl, by omega, by rw [HVS'.out]; exact own_cast HG5.out.ownv, by rw [HPS'.out]; exact HG5.out.ownp, HG5.out.dis, HG5.out.below⟩, by simp [intOf]; omega⟩
          | true =>
            rw [if_pos ⟨rfl, hc⟩] at HPS
            have HPS' : Hid (parL ids (l.take (k + 1)) = parL ids (l.take k) ++ [mi]) := HPS
            clear HPS
            have HC : Hid (ids.contains mi = true) := hc
            clear hc
            go_wp2_with (at_builtin; refine wpList_appN rfl (.tmp 46) (.tmp 53) rfl u8 (.slice (some ⟨wr.heap.size, 0, none⟩) 1 1) rfl rfl HV1.out HN1.out hsa hva ?_; intro A5 C5 w5 ho5 hg5 hl5; (have HG5 : Hid (Grow5 wr w5 u8 u9 (.slice A5 ((votL (l.take k)).length + 1) C5) w4 (votL (l.take k) ++ [mi]) (parL ids (l.take k)) mi) := grow5 HVV.out HPV.out HDIS.out HBR.out ho5 hg5 hl5); (have hm5 := HAT.out w5 HG5.out.below); (obtain ⟨p0, p1, p2, p3⟩ := hm5); (have hb5 : b < w5.heap.size := p3); clear ho5 hg5 hl5)
            have hX5 := HX.out.below' (HF.out w5 (hB4.trans (HG5.out.below.mono hB4.size))).2.2.2
            have hh := has_any hX5 mi (by omega)
            rw [HC.out] at hh
            refine hh.mono ?_
            clear hh hX5
            rintro e w5b ⟨rfl, hw5⟩
            have hw5' := hw5.symm
            subst hw5'
            clear hw5
            have hsb : w4.heap.size ≤ (w5.alloc (.cells #[.int .i64 mi] 3)).heap.size := by have := HG5.out.below.size; simp; omega
            have hvb : (parL ids (l.take k)).length + [mi].length ≤ 1000000 := by simp; omega
            have HP2 : Hid (OwnN (w5.alloc (.cells #[.int .i64 mi] 3)) w4.heap.size u9 (parL ids (l.take k))) := owns_keep HG5.out.ownp (Chg.alloc Non w5 _) (fun _ _ => id)
            have HN2 : Hid (Ns (w5.alloc (.cells #[.int .i64 mi] 3)) (.slice (some ⟨w5.heap.size, 0, none⟩) 1 1) [mi]) := ns_new w5 [mi] (by simp) (0, 0) 3 1 (Nat.le_refl _)
            go_wp2_with (at_builtin; refine wpList_appN rfl (.tmp 63) (.tmp 70) rfl u9 (.slice (some ⟨w5.heap.size, 0, none⟩) 1 1) rfl rfl HP2.out HN2.out hsb hvb ?_; intro A6 C6 w6 ho6 hg6 hl6; (have HG6 : Hid (Grow5 w5 w6 u9 (.slice A5 ((votL (l.take k)).length + 1) C5) (.slice A6 ((parL ids (l.take k)).length + 1) C6) w4 (parL ids (l.take k) ++ [mi]) (votL (l.take k) ++ [mi]) mi) := grow5 HG5.out.ownp HG5.out.ownv (fun j hj e => HG5.out.dis j e hj) HG5.out.below ho6 hg6 hl6); clear ho6 hg6 hl6)
            exact ⟨⟨k + 1, _, _, by go_num, rfl, rfl, by omega, by rw [HVS'.out]; exact own_cast HG6.out.ownp, by rw [HPS'.out]; exact own_cast HG6.out.ownv, (fun j hj e => HG6.out.dis j e hj), HG6.out.below⟩, by simp [intOf]; omega⟩
        · have hrb : (mr == 1) = false := by simpa using hr
          rw [if_neg hr, List.append_nil] at HVS
          rw [if_neg (fun h => hr h.1), List.append_nil] at HPS
          have HVS' : Hid (votL (l.take (k + 1)) = votL (l.take k)) := HVS
          have HPS' : Hid (parL ids (l.take (k + 1)) = parL ids (l.take k)) := HPS
          clear HVS HPS hr
          go_wp2
          exact ⟨⟨k + 1, _, _, by go_num, rfl, rfl, by omega, by rw [HVS'.out]; exact HVV.out, by rw [HPS'.out]; exact HPV.out, HDIS.out, HBR.out⟩, by simp [intOf]; omega⟩
      · have hkk : k = l.length := by omega
        subst hkk
        rw [List.take_length] at HVV HPV hvl hpl hkl
        obtain ⟨Av, Cv, rfl⟩ := owns_form' HVV.out
        obtain ⟨Ap, Cp, rfl⟩ := owns_form' HPV.out
        have HQS : Hid (quoB ver l (parL ids l) = quoB ver l ids) := quo_same (fun m hm h => parL_in hm h)
        have HQV : Hid (quoB ver l (votL l) = decide (chk ver l = 0)) := quo_all (fun m hm h => votL_in hm h)
        have HQN : Hid (quoB ver l [] = false) := quo_none ver l
        have HALL : Hid (∀ w', Below wr.heap.size wr w' → Mems w' (.slice A l.length C) l ∧ Ns w' (.slice A1 ids.length C1) ids ∧ Ns w' (.slice A4 (ids.length + more.length) C4) (ids ++ more) ∧ Ns w' (.slice Av (votL l).length Cv) (votL l) ∧ Ns w' (.slice Ap (parL ids l).length Cp) (parL ids l) ∧ w'.cell? ⟨w.heap.size, 0, none⟩ = some (.int .i64 ver) ∧ w'.cell? ⟨w.heap.size, 1, none⟩ = some (.slice A l.length C) ∧ Below w.heap.size w w') := fun w' h => by
          have h4 : Below w4.heap.size w4 w' := HBR.out.trans (h.mono HBR.out.size)
          obtain ⟨g0, g1, g2, g3⟩ := HF.out w' (hB4.trans (h4.mono hB4.size))
          exact ⟨HM.out.below' g3, HX.out.below' g3, (ns_of_owns HO4.out).below' h4, (ns_of_owns HVV.out).below' h, (ns_of_owns HPV.out).below' h, g0, g1, g3⟩
        have hqr : quoB ver l ids = true → chk ver l = 0 := fun h => of_decide_eq_true (quo_right h)
        have hqm : quoB ver l ids = true → quoB ver l (ids ++ more) = true := fun h => quo_more h (fun i hi => by rw [List.contains_iff_mem] at hi ⊢; exact List.mem_append_left _ hi)
        cases hq : quoB ver l ids with
        | true =>
          have hc0 := hqr hq
          have HCH : Hid (chk ver l = 0) := hc0
          have HQ : Hid (quoB ver l ids = true) := hq
          have HQB : Hid (quoB ver l (ids ++ more) = true) := hqm hq
          have hqv := HQV.out
          rw [decide_eq_true hc0] at hqv
          replace HQV : Hid (quoB ver l (votL l) = true) := hqv
          clear hqr hqm hq hc0 hqv
          go_wp2_with fail
          have h5 := check_any (HALL.out wr (Below.refl _ _)).1 ver
          rw [HCH.out] at h5
          refine h5.mono ?_
          clear h5
          rintro e w5 ⟨rfl, hB5⟩
          have hC5 : Below wr.heap.size wr w5 := hB5
          obtain ⟨M5, I5, O5, V5, P5, x5, y5, hW5⟩ := HALL.out w5 hC5
          have hs5 : w.heap.size < w5.heap.size := Nat.lt_of_lt_of_le c3 hC5.size
          clear c0 c1
          go_wp2_with fail
          have h6 := Quorum_any M5 ver I5 (by omega)
          rw [HQ.out] at h6
          refine h6.mono ?_
          clear h6
          rintro e w6 ⟨rfl, hB6⟩
          have hC6 : Below wr.heap.size wr w6 := hC5.trans (hB6.mono hC5.size)
          obtain ⟨M6, I6, O6, V6, P6, x6, y6, hW6⟩ := HALL.out w6 hC6
          have hs6 : w.heap.size < w6.heap.size := Nat.lt_of_lt_of_le c3 hC6.size
          clear x5 y5
          go_wp2_with fail
          have h7 := Quorum_any M6 ver O6 (by rw [List.length_append]; omega)
          rw [HQB.out] at h7
          refine h7.mono ?_
          clear h7
          rintro e w7 ⟨rfl, hB7⟩
          have hC7 : Below wr.heap.size wr w7 := hC6.trans (hB7.mono hC6.size)
          obtain ⟨M7, I7, O7, V7, P7, x7, y7, hW7⟩ := HALL.out w7 hC7
          have hs7 : w.heap.size < w7.heap.size := Nat.lt_of_lt_of_le c3 hC7.size
          clear x6 y6
          go_wp2_with fail
          have h8 := Quorum_any M7 ver V7 (by omega)
          rw [HQV.out] at h8
          refine h8.mono ?_
          clear h8
          rintro e w8 ⟨rfl, hB8⟩
          have hC8 : Below wr.heap.size wr w8 := hC7.trans (hB8.mono hC7.size)
          obtain ⟨M8, I8, O8, V8, P8, x8, y8, hW8⟩ := HALL.out w8 hC8
          have hs8 : w.heap.size < w8.heap.size := Nat.lt_of_lt_of_le c3 hC8.size
          clear x7 y7
          go_wp2_with fail
          have h9 := Quorum_any M8 ver (Ns.nil w8) (by simp)
          rw [HQN.out] at h9
          refine h9.mono ?_
          clear h9
          rintro e w9 ⟨rfl, hB9⟩
          have hC9 : Below wr.heap.size wr w9 := hC8.trans (hB9.mono hC8.size)
          obtain ⟨M9, I9, O9, V9, P9, x9, y9, hW9⟩ := HALL.out w9 hC9
          have hs9 : w.heap.size < w9.heap.size := Nat.lt_of_lt_of_le c3 hC9.size
          clear x8 y8
          go_wp2_with fail
          have h10 := Quorum_any M9 ver P9 (by omega)
          rw [HQS.out, HQ.out] at h10
          refine h10.mono ?_
          clear h10
          rintro e w10 ⟨rfl, hB10⟩
          have hC10 : Below wr.heap.size wr w10 := hC9.trans (hB10.mono hC9.size)
          obtain ⟨M10, I10, O10, V10, P10, x10, y10, hW10⟩ := HALL.out w10 hC10
          have hs10 : w.heap.size < w10.heap.size := Nat.lt_of_lt_of_le c3 hC10.size
          clear x9 y9
          go_wp2
          go_ret
          exact ⟨rfl, hW10⟩
        | false =>
          have HQ : Hid (quoB ver l ids = false) := hq
          clear hqr hqm hq
          by_cases hc0 : chk ver l = 0
          · have HCH : Hid (chk ver l = 0) := hc0
            have hqv := HQV.out
            rw [decide_eq_true hc0] at hqv
            replace HQV : Hid (quoB ver l (votL l) = true) := hqv
            clear hc0 hqv
            go_wp2_with fail
            have h5 := check_any (HALL.out wr (Below.refl _ _)).1 ver
            rw [HCH.out] at h5
            refine h5.mono ?_
            clear h5
            rintro e w5 ⟨rfl, hB5⟩
            have hC5 : Below wr.heap.size wr w5 := hB5
            obtain ⟨M5, I5, O5, V5, P5, x5, y5, hW5⟩ := HALL.out w5 hC5
            have hs5 : w.heap.size < w5.heap.size := Nat.lt_of_lt_of_le c3 hC5.size
            clear c0 c1
            go_wp2_with fail
            have h6 := Quorum_any M5 ver I5 (by omega)
            rw [HQ.out] at h6
            refine h6.mono ?_
            clear h6
            rintro e w6 ⟨rfl, hB6⟩
            have hC6 : Below wr.heap.size wr w6 := hC5.trans (hB6.mono hC5.size)
            obtain ⟨M6, I6, O6, V6, P6, x6, y6, hW6⟩ := HALL.out w6 hC6
            have hs6 : w.heap.size < w6.heap.size := Nat.lt_of_lt_of_le c3 hC6.size
            clear x5 y5
            go_wp2_with fail
            have h8 := Quorum_any M6 ver V6 (by omega)
            rw [HQV.out] at h8
            refine h8.mono ?_
            clear h8
            rintro e w8 ⟨rfl, hB8⟩
            have hC8 : Below wr.heap.size wr w8 := hC6.trans (hB8.mono hC6.size)
            obtain ⟨M8, I8, O8, V8, P8, x8, y8, hW8⟩ := HALL.out w8 hC8
            have hs8 : w.heap.size < w8.heap.size := Nat.lt_of_lt_of_le c3 hC8.size
            clear x6 y6
            go_wp2_with fail
            have h9 := Quorum_any M8 ver (Ns.nil w8) (by simp)
            rw [HQN.out] at h9
            refine h9.mono ?_
            clear h9
            rintro e w9 ⟨rfl, hB9⟩
            have hC9 : Below wr.heap.size wr w9 := hC8.trans (hB9.mono hC8.size)
            obtain ⟨M9, I9, O9, V9, P9, x9, y9, hW9⟩ := HALL.out w9 hC9
            have hs9 : w.heap.size < w9.heap.size := Nat.lt_of_lt_of_le c3 hC9.size
            clear x8 y8
            go_wp2_with fail
            have h10 := Quorum_any M9 ver P9 (by omega)
            rw [HQS.out, HQ.out] at h10
            refine h10.mono ?_
            clear h10
            rintro e w10 ⟨rfl, hB10⟩
            have hC10 : Below wr.heap.size wr w10 := hC9.trans (hB10.mono hC9.size)
            obtain ⟨M10, I10, O10, V10, P10, x10, y10, hW10⟩ := HALL.out w10 hC10
            have hs10 : w.heap.size < w10.heap.size := Nat.lt_of_lt_of_le c3 hC10.size
            clear x9 y9
            go_wp2
            go_ret
            exact ⟨rfl, hW10⟩
          · have hcb : (chk ver l == 0) = false := by simpa using hc0
            have hqv := HQV.out
            rw [decide_eq_false hc0] at hqv
            replace HQV : Hid (quoB ver l (votL l) = false) := hqv
            have h5g := check_any (HALL.out wr (Below.refl _ _)).1 ver
            generalize chk ver l = c at hcb h5g
            clear hc0 hqv
            go_wp2_with fail
            have h5 := h5g
            clear h5g
            refine h5.mono ?_
            clear h5
            rintro e w5 ⟨rfl, hB5⟩
            have hC5 : Below wr.heap.size wr w5 := hB5
            obtain ⟨M5, I5, O5, V5, P5, x5, y5, hW5⟩ := HALL.out w5 hC5
            have hs5 : w.heap.size < w5.heap.size := Nat.lt_of_lt_of_le c3 hC5.size
            clear c0 c1
            go_wp2_with fail
            have h6 := Quorum_any M5 ver I5 (by omega)
            rw [HQ.out] at h6
            refine h6.mono ?_
            clear h6
            rintro e w6 ⟨rfl, hB6⟩
            have hC6 : Below wr.heap.size wr w6 := hC5.trans (hB6.mono hC5.size)
            obtain ⟨M6, I6, O6, V6, P6, x6, y6, hW6⟩ := HALL.out w6 hC6
            have hs6 : w.heap.size < w6.heap.size := Nat.lt_of_lt_of_le c3 hC6.size
            clear x5 y5
            go_wp2_with fail
            have h8 := Quorum_any M6 ver V6 (by omega)
            rw [HQV.out] at h8
            refine h8.mono ?_
            clear h8
            rintro e w8 ⟨rfl, hB8⟩
            have hC8 : Below wr.heap.size wr w8 := hC6.trans (hB8.mono hC6.size)
            obtain ⟨M8, I8, O8, V8, P8, x8, y8, hW8⟩ := HALL.out w8 hC8
            have hs8 : w.heap.size < w8.heap.size := Nat.lt_of_lt_of_le c3 hC8.size
            clear x6 y6
            go_wp2_with fail
            have h9 := Quorum_any M8 ver (Ns.nil w8) (by simp)
            rw [HQN.out] at h9
            refine h9.mono ?_
            clear h9
            rintro e w9 ⟨rfl, hB9⟩
            have hC9 : Below wr.heap.size wr w9 := hC8.trans (hB9.mono hC8.size)
            obtain ⟨M9, I9, O9, V9, P9, x9, y9, hW9⟩ := HALL.out w9 hC9
            have hs9 : w.heap.size < w9.heap.size := Nat.lt_of_lt_of_le c3 hC9.size
            clear x8 y8
            go_wp2_with fail
            have h10 := Quorum_any M9 ver P9 (by omega)
            rw [HQS.out, HQ.out] at h10
            refine h10.mono ?_
            clear h10
            rintro e w10 ⟨rfl, hB10⟩
            have hC10 : Below wr.heap.size wr w10 := hC9.trans (hB10.mono hC9.size)
            obtain ⟨M10, I10, O10, V10, P10, x10, y10, hW10⟩ := HALL.out w10 hC10
            have hs10 : w.heap.size < w10.heap.size := Nat.lt_of_lt_of_le c3 hC10.size
            clear x9 y9
            go_wp2
            go_ret
            exact ⟨rfl, hW10⟩
end Go.Proofs.Ytmjpnelaphphkaa
