/- The walk of All; SameLongs; Pick. -/
import Derived.Test.YtbehainbggdpeaaGreatBoC
namespace Go.Proofs.YtbehainbggdpeaaGreat
set_option linter.unusedSimpArgs false
set_option linter.unusedVariables false
open Go.RowKit Go.MapKept Go.Maps
open Go.WideElems (Fit rd rg pl rd_mk rg_of)
set_option linter.unusedVariables false
set_option linter.unusedSimpArgs false

/- A map of sessions, as the library's contract of maps.Keys reads it. -/
def Rall : Value → Option (DataW Unit × List MemPlace) := fun _ => some (.lit (.bool true), [])
set_option maxRecDepth 100000 in
theorem own_map {w : World} {m : Nat} {L : List Fv} (h : MapIs w m L) (hb : ∀ p ∈ L, 1 ≤ p.nm ∧ p.nm < 9223372036854775808) (hl : L.length ≤ 1000000) :
    ∃ D : DataW Unit, w.ownsMap Tryz.prog 2 Rall m L.length D ∧ (intKeys D).Perm (L.map fun p => p.nm) ∧ Maps.size D = L.length := by
  obtain ⟨es, clock, h1, h2, h3⟩ := h
  have hsz : es.size = L.length := by have := congrArg List.length h2; simpa using this
  have hrd : ∀ x ∈ es.toList, ∃ p ∈ L, x.key = .int .i64 p.nm ∧ rd Tryz.prog 2 Rall x = some (.int .i64 p.nm, .lit (.bool true)) := by
    intro x hx
    have : kv x ∈ L.map kvOf := by rw [← h2]; exact List.mem_map.2 ⟨x, hx, rfl⟩
    obtain ⟨p, hp, he⟩ := List.mem_map.1 this
    have hk : x.key = .int .i64 p.nm := (congrArg Prod.fst he).symm
    have hbp := hb p hp
    refine ⟨p, hp, hk, ?_⟩
    have hwf : (Lit.int .i64 p.nm).wf = true := by
      have e1 : IntKind.i64.min = -9223372036854775808 := by decide
      have e2 : IntKind.i64.max = 9223372036854775807 := by decide
      simp only [Lit.wf, e1, e2, Bool.and_eq_true, decide_eq_true_eq]
      omega
    have hkey : keyOf Tryz.prog 2 x.key = some (.int .i64 p.nm) := by
      rw [hk]
      simp [keyOf, und9, mapKey, hwf]
    cases x
    exact rd_mk (R := Rall) (yv := (.lit (.bool true), [])) hkey rfl
  have hmap : (es.toList.map (rg Tryz.prog 2 Rall)).map (fun p => Go.intOf p.1) = L.map fun p => p.nm := by
    have h4 : ∀ x ∈ es.toList, Go.intOf (rg Tryz.prog 2 Rall x).1 = (match x.key with | .int _ a => a | _ => 0) := by
      intro x hx
      obtain ⟨p, _, hk, hr⟩ := hrd x hx
      rw [rg_of hr, hk]; rfl
    rw [List.map_map]
    have h5 : es.toList.map ((fun p => Go.intOf p.1) ∘ rg Tryz.prog 2 Rall) = es.toList.map (fun x => match (kv x).1 with | .int _ a => a | _ => 0) := List.map_congr_left fun x hx => h4 x hx
    rw [h5]
    have h6 := congrArg (List.map (fun z : Value × Value => match z.1 with | .int _ a => a | _ => (0 : Int))) h2
    simpa [Function.comp_def, kvOf] using h6
  refine ⟨.map ((es.toList.map (rg Tryz.prog 2 Rall)).foldr DataW.insert []), ⟨es, clock, h1, ⟨by unfold maxLen; omega, h3, fun x hx => ?_⟩, by omega, rfl⟩, ?_, ?_⟩
  · obtain ⟨p, _, _, hr⟩ := hrd x hx
    exact ⟨_, hr⟩
  · rw [← hmap]
    exact (Go.WideShapes.sorted_perm _).map _
  · rw [Maps.size_eq, DataW.length_sorted]; simpa using hsz

set_option maxHeartbeats 1000000 in
set_option maxRecDepth 100000 in
theorem all_any {w : World} {b m : Nat} {now : Int} {S : List Fi} (h : Bx w b m now S) (hlen : S.length ≤ 1000000) :
    Calls Tryz.prog 8 #[.pointer (some ⟨b, 0, none⟩)] w fun e w' => ∃ A C, e = .returned (.slice A S.length C) ∧ w'.ownsRow w.heap.size 2 1 (.slice A S.length C) S.length (iv (S.map fun p => p.nm)) ∧ Below w.heap.size w w' := by
  refine (callsIn_wide (n := 6)).1 ?_
  obtain ⟨L, hL, hp⟩ := h.map
  have hmc := h.mapc
  have hth := fun n => (callsIn_wide (n := n)).2 (there_any hmc)
  obtain ⟨D, hown, hkeys, hsize⟩ := own_map hL (fun p hp' => ⟨(h.nums p (hp.mem_iff.1 hp')).1, (h.nums p (hp.mem_iff.1 hp')).2.1⟩) (by rw [hp.length_eq]; exact hlen)
  have hLl : L.length = S.length := hp.length_eq
  have hbl := hown.lt
  have hseq : SeqGives Fence.wide 2 Tryz.prog 32 #[.pointer (some ⟨w.heap.size, 0, none⟩)] encZ (fun ss => ss.Perm (intKeys D)) (Maps.size D) (w.alloc (.cells #[.map (some m)] 37)) :=
    AnyZI.keys_gives (ρ := Tryz.keysA_ren) { Tryz.keysA with } Fence.wide _ trivial rfl (by omega) w.heap.size m L.length D _ (by simp) (by simp) (by
      obtain ⟨es, clock, hb, Ft, hs, hD⟩ := hown
      exact ⟨es, clock, (Below.heap_alloc _ _ m hbl).trans hb, Ft, hs, hD⟩)
  have cK : ∀ mb W, CallsIn Fence.wide 5 Tryz.prog 23 #[.map mb] W fun e w' => e = .returned (.func (.func 32) #[] #[.pointer (some ⟨W.heap.size, 0, none⟩)]) ∧ w' = W.alloc (.cells #[.map mb] 37) := fun mb W => AnyZI.keys_in Tryz.keysA Fence.wide 5 trivial rfl mb W
  have cS := AnyZI.sorted_in Tryz.sortedA Fence.wide 5 trivial trivial trivial trivial rfl (by omega) (Tryz.sortsA _) (enters_of Tryz.func30 (by kernel_rfl) rfl) 32 #[.pointer (some ⟨w.heap.size, 0, none⟩)] trivial (enters_of Tryz.func32 (by kernel_rfl) rfl) _ _ (by rw [hsize, hLl]; unfold maxLen; omega) (by rw [hsize, hLl]; omega) _ hseq
  change CallsIn _ _ Tryz.prog 22 _ _ _ at cS
  have hfK : Fence.wide.fn 23 := trivial
  have hfS : Fence.wide.fn 22 := trivial
  have hfT : Fence.wide.fn 21 := trivial
  have HK : Hid ((intKeys D).Perm (S.map fun p => p.nm)) := hkeys.trans (hp.map _)
  have HU : Hid (asc S) := h.up
  clear hL hp hkeys hsize hLl hseq hown hbl h
  refine callsIn_of_wp Tryz.func8 rfl trivial ?_ rfl
  simp only [Tryz.ntmps8, List.size_toArray, List.length_cons, List.length_nil, Nat.reduceAdd, Nat.reduceSub, Array.replicate_succ, Array.replicate_zero, List.push_toArray, List.append_toArray, List.nil_append, List.cons_append]
  gi_wp2_with (first
    | (gi_at_call 21; refine (hth _).mono ?_; rintro e wz ⟨rfl, hz⟩; obtain rfl : w = wz := hz.symm)
    | (gi_at_call 23; refine (cK _ _).mono ?_; rintro e w' ⟨rfl, rfl⟩)
    | (gi_at_call 22; refine cS.mono ?_; rintro e w' ⟨v, ss, rfl, hS, hrow, hnil, hb⟩))
  go_ret
  have hl : ss.length = S.length := by rw [(hS.trans HK.out).length_eq]; simp
  have hs : sortN ss = S.map fun p => p.nm := by rw [sortN_perm (hS.trans HK.out), sortN_asc (asc_nums HU.out)]
  obtain ⟨A, C, hv⟩ := ifm hrow
  have hrow2 : w'.ownsRow (w.alloc (.cells #[.map (some m)] 37)).heap.size 2 1 v ss.length (iv (sortN ss)) := hrow
  rw [hs, hl] at hrow2
  rw [hl] at hv
  subst hv
  exact ⟨A, C, rfl, ownsRow_base_a hrow2 (by simp), ((Below.refl _ w).alloc (Nat.le_refl _) _).trans (hb.mono (by simp))⟩
set_option maxRecDepth 100000 in
theorem all_no {w : World} {v : Value} (h : NoBook w v) : Calls Tryz.prog 8 #[v] w fun e w' => e = .returned (.slice none 0 0) ∧ w' = w := by
  have hth := there_no h
  go_enter Tryz.func8, Tryz.ntmps8
  go_wp2_with fail
  refine hth.mono ?_
  rintro e w1 ⟨rfl, rfl⟩
  go_wp2_with fail
  go_ret
  exact ⟨rfl, rfl⟩

/- The block that a slice with elements lies in. -/
def bk : Value → Option Nat
  | .slice (some a) n _ => if n = 0 then none else some a.block
  | _ => none
theorem bk_blk {v : Value} {k : Nat} (h : bk v = some k) : blk v = some k := by
  unfold bk at h
  split at h
  · split at h
    · cases h
    · exact h
  · cases h
theorem bk_zero (A : Option Addr) (c k : Nat) : ¬ bk (.slice A 0 c) = some k := by
  intro h
  cases A <;> cases h
theorem bk_pos {a : Addr} {n c : Nat} (h : 0 < n) : bk (.slice (some a) n c) = some a.block := by
  show (if n = 0 then none else some a.block) = _
  rw [if_neg (by omega)]
/- The slice v holds the numbers l. -/
def Ns (w : World) (v : Value) (l : List Int) : Prop :=
  (v = .slice none 0 0 ∧ l = []) ∨ (∃ ad c, v = .slice (some ad) 0 c ∧ l = []) ∨ (0 < l.length ∧ ∃ b o c, v = .slice (some ⟨b, o, none⟩) l.length c ∧ l.length ≤ c ∧ b < w.heap.size ∧
    ∀ j (h : j < l.length), w.cell? ⟨b, o + j, none⟩ = some (.int .i64 (l[j]'h)))
theorem Ns.nil (w : World) : Ns w (.slice none 0 0) [] := .inl ⟨rfl, rfl⟩
theorem Ns.mk {w : World} {l : List Int} {n : Nat} (b o c : Nat) (hn : n = l.length) (h1 : l.length ≤ c) (h2 : b < w.heap.size) (h3 : ∀ j (h : j < l.length), w.cell? ⟨b, o + j, none⟩ = some (.int .i64 (l[j]'h))) :
    Ns w (.slice (some ⟨b, o, none⟩) n c) l := by
  subst hn
  by_cases h : 0 < l.length
  · exact .inr (.inr ⟨h, b, o, c, rfl, h1, h2, h3⟩)
  · have : l = [] := List.length_eq_zero_iff.1 (by omega)
    subst this
    exact .inr (.inl ⟨_, c, rfl, rfl⟩)
theorem Ns.form {w : World} {v : Value} {l : List Int} (h : Ns w v l) : ∃ A C, v = .slice A l.length C := by
  rcases h with ⟨rfl, rfl⟩ | ⟨ad, c, rfl, rfl⟩ | ⟨_, b, o, c, rfl, _⟩
  · exact ⟨none, 0, rfl⟩
  · exact ⟨_, _, rfl⟩
  · exact ⟨_, _, rfl⟩
theorem Ns.keep {S : Nat → Prop} {w w' : World} {v : Value} {l : List Int} (h : Ns w v l) (hc : Chg S w w') (hn : ∀ k, bk v = some k → ¬ S k) : Ns w' v l := by
  rcases h with h | h | ⟨h0, b, o, c, rfl, h1, h2, h3⟩
  · exact .inl h
  · exact .inr (.inl h)
  · refine .inr (.inr ⟨h0, b, o, c, rfl, h1, hc.lt_of h2, fun j hj => ?_⟩)
    rw [hc.cell (a := ⟨b, o + j, none⟩) h2 (hn b (bk_pos h0))]
    exact h3 j hj
theorem Ns.below {w w' : World} {v : Value} {l : List Int} (h : Ns w v l) (hb : Below w.heap.size w w') : Ns w' v l := h.keep (Chg.of_below hb) (fun _ _ => id)
theorem Ns.alloc {w : World} {v : Value} {l : List Int} (h : Ns w v l) (o : Obj) : Ns (w.alloc o) v l := h.keep (Chg.alloc Non w o) (fun _ _ => id)
theorem Ns.drewN {w : World} {v : Value} {l : List Int} (h : Ns w v l) (n : Nat) : Ns (w.drewN n) v l := h.keep (Chg.drewN Non w n) (fun _ _ => id)
theorem Ns.at' {w : World} {A : Option Addr} {n C : Nat} {l : List Int} (h : Ns w (.slice A n C) l) (j : Nat) (hj : j < l.length) : ∃ b o, A = some ⟨b, o, none⟩ ∧ b < w.heap.size ∧ w.cell? ⟨b, o + j, none⟩ = some (.int .i64 (l[j]'hj)) := by
  rcases h with ⟨_, rfl⟩ | ⟨_, _, _, rfl⟩ | ⟨_, b, o, c, he, _, h2, h3⟩
  · simp at hj
  · simp at hj
  · cases he
    exact ⟨b, o, rfl, h2, h3 j hj⟩
theorem Ns.of_owns {w : World} {base : Nat} {v : Value} {n : Nat} {l : List Int} (h : w.ownsRow base 2 1 v n (iv l)) : Ns w v l := by
  have hn : n = l.length := by have := h.1; simp [iv] at this; omega
  subst hn
  rcases h.2 with ⟨rfl, h0⟩ | ⟨g, cap, cur, rfl, hb, hg, hc, hm, hs, ht⟩
  · exact .inl ⟨rfl, List.length_eq_zero_iff.1 h0⟩
  · refine Ns.mk g 0 cap rfl hc (heap_lt hg) fun j hj => ?_
    have := h.cells (g := g) rfl j (.int .i64 (l[j]'hj)) (by simp [iv, hj])
    rw [show (⟨g, 0, none⟩ : Addr).add j = ⟨g, 0 + j, none⟩ by simp only [Addr.add]; split <;> simp_all] at this
    exact this
theorem Ns.lit (w : World) (l : List Int) {cs : Array Value} (T : TypeId) (h : (iv l).toArray = cs) {n : Nat} (hn : l.length = n) : Ns (w.alloc (.cells cs T)) (.slice (some ⟨w.heap.size, 0, none⟩) n n) l := by
  subst h
  refine Ns.mk _ _ _ hn.symm (by omega) (by simp) fun j hj => ?_
  rw [cell_at (heap_alloc_new w _)]
  simp [iv, hj]
theorem below_drewN {B : Nat} {a w : World} (h : Below B a w) (n : Nat) : Below B a (w.drewN n) := ⟨h.os, h.tape, h.output, by cases n <;> exact h.size, by cases n <;> exact h.block⟩

theorem take_step {α : Type} {a b : List α} (k : Nat) (ha : k < a.length) (hb : k < b.length) (h : a.take k = b.take k) (he : a[k]'ha = b[k]'hb) : a.take (k + 1) = b.take (k + 1) := by
  rw [List.take_succ_eq_append_getElem ha, List.take_succ_eq_append_getElem hb, h, he]
theorem ne_at {α : Type} {a b : List α} (k : Nat) (ha : k < a.length) (hb : k < b.length) (h : ¬ a[k]'ha = b[k]'hb) : ¬ a = b := by
  intro e; subst e; exact h rfl
theorem eq_of_take {α : Type} {a b : List α} (hl : a.length = b.length) (k : Nat) (hk : a.length ≤ k) (h : a.take k = b.take k) : a = b := by
  rw [List.take_of_length_le hk, List.take_of_length_le (by omega)] at h
  exact h
theorem ret_bool {a b : Bool} (h : a = b) : Ending.returned (.bool a) = .returned (.bool b) := by rw [h]
set_option maxRecDepth 100000 in
theorem same_len {a1 a2 : Option Addr} {c1 c2 : Nat} {la lb : List Int} {w : World} (hA : Ns w (.slice a1 la.length c1) la) (hB : Ns w (.slice a2 lb.length c2) lb) (hl : la.length = lb.length) (hm : la.length ≤ 140737488355328) :
    Calls Tryz.prog 7 #[.slice a1 la.length c1, .slice a2 lb.length c2] w fun e w' => e = .returned (.bool (decide (la = lb))) ∧ ∃ q, w' = w.drewN q := by
  have HA : Hid (Ns w (.slice a1 la.length c1) la) := hA
  have HB : Hid (Ns w (.slice a2 lb.length c2) lb) := hB
  have HL : Hid (la.length = lb.length) := hl
  clear hA hB
  rw [← hl]
  obtain ⟨n, hn⟩ : ∃ n, n = la.length := ⟨_, rfl⟩
  rw [← hn] at hm ⊢
  have HN : Hid (n = la.length) := hn
  clear hl hn
  go_enter Tryz.func7, Tryz.ntmps7
  go_wp2
  go_loopw [5] (fun i wr => ∃ (k q : Nat), k ≤ n ∧ i = .int .i64 k ∧ la.take k = lb.take k ∧ wr = w.drewN q) (fun i _ => n - (Go.Lib.intOf i).toNat)
  case atStart => exact ⟨0, 0, Nat.zero_le _, rfl, rfl, rfl⟩
  case round =>
    obtain ⟨k, q, hk, rfl, ht, rfl⟩ := hrel
    have HT : Hid (la.take k = lb.take k) := ht
    clear ht
    by_cases hlt : k < n
    · obtain ⟨b1, o1, e1, _, x1⟩ := HA.out.at' k (by have := HN.out; omega)
      obtain ⟨b2, o2, e2, _, x2⟩ := HB.out.at' k (by have := HN.out; have := HL.out; omega)
      obtain ⟨x, hx⟩ : ∃ x : Int, x = (la[k]'(by have := HN.out; omega)) := ⟨_, rfl⟩
      obtain ⟨y, hy⟩ : ∃ y : Int, y = (lb[k]'(by have := HN.out; have := HL.out; omega)) := ⟨_, rfl⟩
      rw [← hx] at x1
      rw [← hy] at x2
      have HX : Hid (x = (la[k]'(by have := HN.out; omega))) := hx
      have HY : Hid (y = (lb[k]'(by have := HN.out; have := HL.out; omega))) := hy
      clear hx hy
      subst e1 e2
      by_cases hne : x = y
      · have hb : (x != y) = false := by simpa using hne
        have HE : Hid (x = y) := hne
        clear hne
        go_wp2_with fail
        go_quiet (fail)
        go_wp2
        go_roundw
        case rel => exact ⟨k + 1, q + nq, by omega, by go_num, take_step k _ _ HT.out (by rw [← HX.out, ← HY.out]; exact HE.out), rfl⟩
        case measure => simp [Go.Lib.intOf]; omega
      · have hb : (x != y) = true := by simpa using hne
        have HE : Hid (¬ x = y) := hne
        clear hne
        go_wp2_with fail
        go_quiet (fail)
        go_wp2
        go_ret
        exact ⟨ret_bool (by rw [decide_eq_false (ne_at k _ _ (fun e => HE.out (by rw [HX.out, HY.out, e])))]), q + nq, by simp⟩
    · go_wp2
      go_ret
      exact ⟨ret_bool (by rw [decide_eq_true (eq_of_take HL.out k (by have := HN.out; omega) HT.out)]), q, rfl⟩
set_option maxRecDepth 100000 in
theorem same_any {x y : Value} {la lb : List Int} {w : World} (hA : Ns w x la) (hB : Ns w y lb) (hm : la.length ≤ 140737488355328) :
    Calls Tryz.prog 7 #[x, y] w fun e w' => e = .returned (.bool (decide (la = lb))) ∧ ∃ q, w' = w.drewN q := by
  obtain ⟨a1, c1, rfl⟩ := hA.form
  obtain ⟨a2, c2, rfl⟩ := hB.form
  by_cases hl : la.length = lb.length
  · exact same_len hA hB hl hm
  · have hd : decide (la = lb) = false := decide_eq_false (fun h => hl (by rw [h]))
    rw [hd]
    clear hd hA hB
    generalize la.length = n at *
    generalize lb.length = m at *
    have hb : ((n : Int) != (m : Int)) = true := by simp; omega
    clear hl
    go_enter Tryz.func7, Tryz.ntmps7
    go_wp2
    go_ret
    exact ⟨rfl, 0, rfl⟩
set_option maxRecDepth 100000 in
theorem pick_any (x n : Int) (hn : n < 9223372036854775808) (h1 : 1 ≤ n) (w : World) : Calls Tryz.prog 12 #[.int .i64 x, .int .i64 n] w fun e w' => e = .returned (.int .i64 (x % n)) ∧ w' = w := by
  have hm : Int.tmod x n = if Int.tmod x n < 0 then x % n - n else x % n := by
    rw [Int.tmod_eq_emod]
    have := Int.emod_nonneg x (show n ≠ 0 by omega)
    have := Int.emod_lt_of_pos x (show 0 < n by omega)
    by_cases hx0 : 0 ≤ x ∨ n ∣ x
    · simp only [hx0, if_true]
      split <;> omega
    · simp only [hx0, if_false]
      have : (n.natAbs : Int) = n := by omega
      split <;> omega
  have hlo := Int.emod_nonneg x (show n ≠ 0 by omega)
  have hhi := Int.emod_lt_of_pos x (show 0 < n by omega)
  go_enter Tryz.func12, Tryz.ntmps12
  by_cases h : Int.tmod x n < 0
  · rw [if_pos h] at hm
    go_wp2
    go_ret
    exact ⟨by simp, rfl⟩
  · rw [if_neg h] at hm
    go_wp2
    go_ret
    exact ⟨by simp, rfl⟩
end Go.Proofs.YtbehainbggdpeaaGreat
