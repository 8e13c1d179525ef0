/- The walk of DiskCrashes. -/
import Derived.Test.YtniopcfjekpnjaaDkCm
import Derived.Deep.RegionHeld3
import Derived.Deep.AppendLies
namespace Go.Proofs.Ytniopcfjekpnjaa
open Go.RowKit Go.MapKept

theorem convert_bytes {w : World} {x : Value} {l : List UInt8} (h : Bs w x l) : (convert 28 9 x).run Try.prog w = .ok (.string (mkS l)) w := by
  rcases h with ⟨rfl, rfl⟩ | ⟨ad, c, rfl, rfl⟩ | ⟨_, b, o, c, rfl, _, _, h3⟩
  · rw [run_convert_bytes_string w 28 9 5 none 0 0 Try.underlying28 Try.underlying5 Try.underlying9]
    rfl
  · exact run_convert_bytes_back w 28 9 5 ad c [] Try.underlying28 Try.underlying5 Try.underlying9 (fun j hj => by simp at hj)
  · refine run_convert_bytes_back w 28 9 5 ⟨b, o, none⟩ c l Try.underlying28 Try.underlying5 Try.underlying9 (fun j hj => ?_)
    rw [show (⟨b, o, none⟩ : Addr).add j = ⟨b, o + j, none⟩ by simp only [Addr.add]; split <;> simp_all]
    exact h3 j hj
/- The slice v holds the rows ls. -/
def Rws (w : World) (v : Value) (ls : List (List UInt8)) : Prop :=
  (v = .slice none 0 0 ∧ ls = []) ∨ (∃ ad c, v = .slice (some ad) 0 c ∧ ls = []) ∨ (0 < ls.length ∧ ∃ b o c, v = .slice (some ⟨b, o, none⟩) ls.length c ∧ ls.length ≤ c ∧ b < w.heap.size ∧ ∀ j, j < ls.length → ∃ A C, w.cell? ⟨b, o + j, none⟩ = some (.slice A (ls.getD j []).length C) ∧ Bs w (.slice A (ls.getD j []).length C) (ls.getD j []))
theorem Rws.len {w : World} {A : Option Addr} {n c : Nat} {ls : List (List UInt8)} (h : Rws w (.slice A n c) ls) : n = ls.length := by
  rcases h with ⟨hv, rfl⟩ | ⟨ad, c, hv, rfl⟩ | ⟨_, b, o, c, hv, _⟩ <;> cases hv <;> rfl
theorem Rws.at {w : World} {A : Option Addr} {n c : Nat} {ls : List (List UInt8)} (h : Rws w (.slice A n c) ls) {i : Nat} (hi : i < ls.length) :
    ∃ b o A' C', A = some ⟨b, o, none⟩ ∧ ∀ w', Below w.heap.size w w' → w'.cell? ⟨b, o + i, none⟩ = some (.slice A' (ls.getD i []).length C') ∧ Bs w' (.slice A' (ls.getD i []).length C') (ls.getD i []) := by
  rcases h with ⟨hv, rfl⟩ | ⟨ad, c, hv, rfl⟩ | ⟨_, b, o, c, hv, h1, h2, h3⟩
  · simp at hi
  · simp at hi
  · cases hv
    obtain ⟨A', C', h4, h5⟩ := h3 i hi
    refine ⟨b, o, A', C', rfl, fun w' hB => ⟨?_, Bs.below' h5 hB⟩⟩
    rw [hB.cell (p := ⟨b, o + i, none⟩) h2]; exact h4
theorem Dx.turn {U T : Nat → Prop} {w w' : World} {d : Nat} {room : Int} {F : List Fi} (h : Dx w d room F T) (hc : Chg U w w') (hU : ∀ k, U k → T k) : Dx w' d room F T := by
  obtain ⟨base, S, h1, h2, h3, h4⟩ := h
  exact ⟨base, S, Nat.le_trans h1 hc.size, h2.keep hc (fun k hk e => h3 k (hU k e) hk), h3, fun k hk => hc.lt_of (h4 k hk)⟩
/- A row of texts of one's own, and the disk that does not have it: behind a text more. -/
theorem Dx.row {w w' : World} {d : Nat} {room : Int} {F : List Fi} {B : Nat} {v v' : Value} (h : Dx w d room F (fun k => k < B ∨ blk v = some k)) (hg : w.grownBy w' (blk v)) (hl : blk v' = blk v ∨ blk v' = some w.heap.size) (hs : ∀ k, blk v' = some k → k < w'.heap.size) : Dx w' d room F (fun k => k < B ∨ blk v' = some k) := by
  have hc : Chg (fun k => blk v = some k) w w' := Chg.of_grown hg
  obtain ⟨base, S, h1, h2, h3, h4⟩ := h
  refine ⟨base, S, Nat.le_trans h1 hc.size, h2.keep hc (fun k hk e => h3 k (.inr e) hk), fun k hk e => ?_, fun k hk => ?_⟩
  · rcases hk with hk | hk
    · exact h3 k (.inl hk) e
    · rcases hl with hl | hl
      · exact h3 k (.inr (by rw [← hl]; exact hk)) e
      · rw [hl] at hk; cases hk
        have := (h2.bound _ e).2; omega
  · rcases hk with hk | hk
    · exact hc.lt_of (h4 k (.inl hk))
    · exact hs k hk
theorem owns_keepS {S : Nat → Prop} {w w' : World} {base : Nat} {v : Value} {n : Nat} {xs : List Value} (h : w.ownsRow base 9 1 v n xs) (hc : Chg S w w') (hn : ∀ k, blk v = some k → ¬ S k) : w'.ownsRow base 9 1 v n xs := by
  refine ⟨h.1, ?_⟩
  rcases h.2 with h | ⟨g, cap, cur, rfl, hb, hg, hr⟩
  · exact .inl h
  · exact .inr ⟨g, cap, cur, rfl, hb, by rw [hc.block g (heap_lt hg) (hn g rfl)]; exact hg, hr⟩
def strs (k : Nat) : List Value := ((List.range k).map nmI).map fun x => Value.string (mkS x)
theorem strs_succ (k : Nat) : strs (k + 1) = strs k ++ [.string (mkS (nmI k))] := by simp [strs, List.range_succ]
theorem strs_one (k : Nat) : ∀ u ∈ [Value.string (mkS (nmI k))], u.oneCell' = true := by simp [Value.oneCell']
theorem conv_u8 (k : Nat) (h : k < 20) : IntKind.u8.wrap (97 + (k : Int)) = ((UInt8.ofNat (97 + k)).toNat : Int) := by
  have : ∀ k : Fin 20, IntKind.u8.wrap (97 + ((k : Nat) : Int)) = ((UInt8.ofNat (97 + (k : Nat))).toNat : Int) := by decide +kernel
  exact this ⟨k, h⟩

theorem names_cell {w : World} {base k i : Nat} {A : Option Addr} {C : Nat} (h : w.ownsRow base 9 1 (.slice A k C) k (strs k)) (hi : i < k) : ∃ g, A = some ⟨g, 0, none⟩ ∧ w.cell? ⟨g, i, none⟩ = some (.string (mkS (nmI i))) := by
  rcases h.2 with ⟨hv, h0⟩ | ⟨g, cap, cur, hv, _⟩
  · omega
  · cases hv
    have := h.cells (g := g) rfl i (.string (mkS (nmI i))) (by simp [strs, hi])
    rw [show (⟨g, 0, none⟩ : Addr).add i = ⟨g, i, none⟩ by simp only [Addr.add]; split <;> simp_all] at this
    exact ⟨g, rfl, this⟩
/- What is appended to a row that is not the disk's own leaves the disk as it is. -/
theorem dx_own {w0 w w' : World} {d : Nat} {room : Int} {F : List Fi} {T : Nat → Prop} {v : Value} {n : Nat} {xs : List Value} (h : Dx w0 d room F T) (hB : Below w0.heap.size w0 w) (ho : w.ownsRow w0.heap.size 5 1 v n xs) (hc : Chg (fun i => blk v = some i) w.drew w') : Dx w' d room F T := by
  have h1 := h.below hB
  obtain ⟨base, S, g1, g2, g3, g4⟩ := h
  have hk : Chg (fun i => blk v = some i) w w' := (Chg.drew _ w).trans hc
  refine ⟨base, S, Nat.le_trans g1 (Nat.le_trans hB.size hk.size), (g2.keep (Chg.of_below hB) (fun _ _ => id)).keep hk (fun k hk e => ?_), g3, fun k hk' => hk.lt_of (Nat.lt_of_lt_of_le (g4 k hk') hB.size)⟩
  obtain ⟨cur, hcu, hle⟩ := owns_block ho e
  have := (g2.bound k hk).2; omega
theorem step_app {w : World} {ops : Array Oper} {o : Oper} {a : Act} {K : Act → World → Prop} {Q : Exit → Act → World → Prop} {E : Prop} (hgd : o.guard = none) (s x : Operand) (ho : o.op = .call { callee := .builtin .append, args := #[s, x], argTypes := #[28, 28] })
    (vs vx v' : Value) (w' : World) (hs : a.eval s = vs) (hx : a.eval x = vx) (hrun : (Builtin.append_ #[28, 28] o.type #[vs, vx]).run Try.prog w = .ok v' w') (h : K (a.put o.dst v') w') :
    if Region.wanted o (yielded ops a.tmps) = true then Oper.wp Try.prog o a w K Q else E := by
  have hw : Region.wanted o (yielded ops a.tmps) = true := by simp [Region.wanted, hgd]
  rw [if_pos hw]
  unfold Oper.wp execOp
  simp only [ho, resolve, invoke, builtin, Sem.run_bind, Sem.run_pure, Result.andThen_ok, List.map_toArray, List.map_cons, List.map_nil, hs, hx, hrun]
  exact h
set_option maxRecDepth 100000 in
theorem crashes_long {w : World} {A1 A2 : Option Addr} {n1 c1 n2 c2 : Nat} (h : 20 < n1 ∨ 20 < n2) (k b : Value) :
    Calls Try.prog 6 #[.slice A1 n1 c1, .slice A2 n2 c2, k, b] w fun e w' => e = .returned (.bool true) ∧ Below w.heap.size w w' := by
  go_enter Try.func6, Try.ntmps6
  go_wp2_with fail
  refine (awake_any w).mono ?_
  rintro e w1 ⟨rfl, hB1⟩
  by_cases h1 : 20 < n1
  · have t1 : (20 : Int) < n1 := by omega
    go_wp2_with fail
    go_ret
    exact ⟨rfl, hB1⟩
  · have t1 : ¬ (20 : Int) < n1 := by omega
    have t2 : (20 : Int) < n2 := by omega
    go_wp2_with fail
    go_ret
    exact ⟨rfl, hB1⟩

set_option maxRecDepth 100000 in
set_option maxHeartbeats 4000000 in
theorem crashes_small {w : World} {A1 A2 : Option Addr} {n1 c1 n2 c2 : Nat} {R M : List (List UInt8)} (hR : Rws w (.slice A1 n1 c1) R) (hM : Rws w (.slice A2 n2 c2) M) (h1 : n1 ≤ 20) (h2 : n2 ≤ 20) (keep again : Int) (hk : -9223372036854775808 ≤ keep ∧ keep < 9223372036854775808) (ha : -9223372036854775808 ≤ again ∧ again < 9223372036854775808) :
    Calls Try.prog 6 #[.slice A1 n1 c1, .slice A2 n2 c2, .int .i64 keep, .int .i64 again] w fun e w' => e = .returned (.bool true) ∧ Below w.heap.size w w' := by
  have HR : Hid (Rws w (.slice A1 n1 c1) R) := hR
  have HM : Hid (Rws w (.slice A2 n2 c2) M) := hM
  have HN1 : Hid (n1 = R.length) := hR.len
  have HN2 : Hid (n2 = M.length) := hM.len
  have HK : Hid (-9223372036854775808 ≤ keep ∧ keep < 9223372036854775808) := hk
  have HA : Hid (-9223372036854775808 ≤ again ∧ again < 9223372036854775808) := ha
  have t1 : ¬ (20 : Int) < n1 := by omega
  have t2 : ¬ (20 : Int) < n2 := by omega
  obtain ⟨i0, hi, hz0, hz1, hz2⟩ := info_parts info9
  clear hR hM hk ha
  go_enter Try.func6, Try.ntmps6
  go_wp2_with fail
  refine (awake_any w).mono ?_
  rintro e w1 ⟨rfl, hB1⟩
  have HB : Hid (Below w.heap.size w w1) := hB1
  clear hB1
  go_wp2_with fail
  refine (new_dx 1073741824 (by omega) w1).mono ?_
  rintro e w2 ⟨d, rfl, hd2, hB2⟩
  rw [show max (1073741824 : Int) 0 = 1073741824 from rfl] at hd2
  have HD2 : Hid (Dx w2 d 1073741824 [] (fun k => k < w.heap.size ∨ blk (.slice none 0 0) = some k)) := by
    refine hd2.fewer (fun k hk => ?_)
    rcases hk with hk | hk
    · exact Nat.lt_of_lt_of_le hk HB.out.size
    · cases hk
  replace HB : Hid (Below w.heap.size w w2) := HB.out.trans (hB2.mono HB.out.size)
  clear hB2 hd2
  go_wp2_with fail
  go_loopw [10, 11] (fun v i wr => ∃ k : Nat, k ≤ n1 ∧ i = .int .i64 k ∧ (∀ j, j < k → (R.getD j []).length ≤ 2000) ∧ wr.ownsRow w.heap.size 9 1 v k (strs k) ∧ Dx wr d 1073741824 (FA R M 0 k) (fun k => k < w.heap.size ∨ blk v = some k) ∧ Below w.heap.size w wr) (fun _ i _ => n1 - (intOf i).toNat)
  case atStart => exact ⟨0, Nat.zero_le _, rfl, fun j hj => by omega, World.ownsRow_nil _ _ _ _, HD2.out, HB.out⟩
  case round =>
    obtain ⟨k, hkn, rfl, hlen, hown, hdx, hBr⟩ := hrel
    clear HB HD2
    obtain ⟨Av, Cv, hv⟩ := owns_formS hown
    by_cases hlt : k < n1
    · have hlt' : (k : Int) < n1 := by omega
      obtain ⟨b, o, A', C', eA, hrow⟩ := HR.out.at (i := k) (by have := HN1.out; omega)
      obtain ⟨rk, hrk⟩ : ∃ x, x = R.getD k [] := ⟨_, rfl⟩
      rw [← hrk] at hrow
      have HRK : Hid (R.getD k [] = rk) := hrk.symm
      obtain ⟨hcell, hbs⟩ := hrow wr hBr
      have HROW : Hid (∀ w', Below w.heap.size w w' → w'.cell? ⟨b, o + k, none⟩ = some (.slice A' rk.length C') ∧ Bs w' (.slice A' rk.length C') rk) := hrow
      subst eA
      subst hv
      clear hrk
      by_cases h20 : 2000 < rk.length
      · have t3 : (2000 : Int) < rk.length := by omega
        clear hbs hown hdx hrow HROW
        go_wp2_with fail
        go_ret
        exact ⟨rfl, hBr⟩
      · have t3 : ¬ (2000 : Int) < rk.length := by omega
        obtain ⟨c8, hc8⟩ : ∃ c : Int, c = ((UInt8.ofNat (97 + k)).toNat : Int) := ⟨_, rfl⟩
        have hw8 : IntKind.u8.wrap (97 + (k : Int)) = c8 := by rw [hc8]; exact conv_u8 k (by omega)
        have hw9 : IntKind.i64.wrap (97 + (k : Int)) = 97 + (k : Int) := Go.IntWalk.i64_in _ (by omega)
        have hconv : (convert 28 9 (.slice (some ⟨wr.heap.size, 0, none⟩) 2 2)).run Try.prog (wr.alloc (.cells #[.int .u8 102, .int .u8 c8] 5)) = .ok (.string (mkS (nmI k))) (wr.alloc (.cells #[.int .u8 102, .int .u8 c8] 5)) :=
          convert_bytes (litB wr (nmI k) (by rw [hc8]; rfl) rfl)
        have HO : Hid (wr.ownsRow w.heap.size 9 1 (.slice Av k Cv) k (strs k)) := hown
        have HDX : Hid (Dx wr d 1073741824 (FA R M 0 k) (fun i => i < w.heap.size ∨ blk (.slice Av k Cv) = some i)) := hdx
        have HLEN : Hid (∀ j, j < k + 1 → (R.getD j []).length ≤ 2000) := by
          intro j hj
          by_cases e : j = k
          · subst e; rw [HRK.out]; omega
          · exact hlen j (by omega)
        have HS : Hid (w.heap.size ≤ wr.heap.size) := hBr.size
        have HBR : Hid (Below w.heap.size w wr) := hBr
        clear hbs hown hdx hrow hlen hc8 hBr
        go_wp2_with (first
          | (at_builtin; refine wpList_append_own_at _ rfl (.tmp 47) (.tmp 49) 49 rfl w.heap.size 9 i0 (.string ⟨#[]⟩) 1 16 Try.underlying49 hi hz0 hz1 hz2 rfl (by decide) _ k (strs k) rfl ((HO.out.alloc _).alloc _) ⟨wr.heap.size + 1, 0, none⟩ 1 1 [.string (mkS (nmI k))] rfl rfl (by have := cell_one_new (wr.alloc (.cells #[.int .u8 102, .int .u8 c8] 5)) (.string (mkS (nmI k))) 9; simpa using this) (strs_one k) (by unfold maxLen; omega) (by omega) (by have := HS.out; simp; omega) ?_; intro v5 w5 ho5 hg5 hn5 hl5; have hB5 : Below w.heap.size w w5 := ((HBR.out.alloc HS.out _).alloc (by have := HS.out; simp; omega) _).trans ((Chg.of_grown hg5).below (fun i hi => (owns_blockS HO.out hi).choose_spec.2) (by have := HS.out; simp; omega)); have hc5 := (HROW.out w5 hB5).1)
          | fail)
        have hg5' : ((wr.alloc (.cells #[.int .u8 102, .int .u8 c8] 5)).alloc (.cells #[.string (mkS (nmI k))] 9)).grownBy w5 (blk (.slice Av k Cv)) := hg5
        have hl5' : blk v5 = blk (.slice Av k Cv) ∨ blk v5 = some ((wr.alloc (.cells #[.int .u8 102, .int .u8 c8] 5)).alloc (.cells #[.string (mkS (nmI k))] 9)).heap.size := hl5
        have hd5 : Dx w5 d 1073741824 (FA R M 0 k) (fun i => i < w.heap.size ∨ blk v5 = some i) := ((HDX.out.alloc _).alloc _).row hg5' hl5' (fun i hi => heap_lt (owns_blockS ho5 hi).choose_spec.1)
        obtain ⟨A5, C5, hv5⟩ := owns_formS ho5
        subst hv5
        rw [← strs_succ] at ho5
        have HO5 : Hid (w5.ownsRow w.heap.size 9 1 (.slice A5 (k + 1) C5) (k + 1) (strs (k + 1))) := ho5
        have hfa := FA_put R M (k := k) (by omega) HLEN.out
        rw [HRK.out] at hfa
        have hca := append_dx hd5 (nmI k) (HROW.out w5 hB5).2 rfl
        rw [hfa.1] at hca
        have HFA : Hid (synE (appR 1073741824 (FA R M 0 k) (nmI k) rk) (nmI k) = 0 ∧ synR (appR 1073741824 (FA R M 0 k) (nmI k) rk) (nmI k) = FA R M 0 (k + 1)) := hfa.2
        have HB5 : Hid (Below w.heap.size w w5) := hB5
        clear hg5 hg5' hl5 hl5' hn5 ho5 hfa hd5 HDX HO HBR hB5 HROW hconv hw8 hw9
        refine hca.mono ?_
        rintro e w6 ⟨rfl, hd6, k6⟩
        clear hca
        have hcs := sync_dx hd6 (nmI k)
        rw [HFA.out.1, HFA.out.2] at hcs
        have HB6 : Hid (Below w.heap.size w w6) := HB5.out.trans (k6.below (fun _ h => .inl h) HB5.out.size)
        have HO6 : Hid (w6.ownsRow w.heap.size 9 1 (.slice A5 (k + 1) C5) (k + 1) (strs (k + 1))) := owns_keepS HO5.out k6 (fun i hi e => e (.inr hi))
        clear hd6 k6 HB5 HO5
        go_wp2_with fail
        refine hcs.mono ?_
        rintro e w7 ⟨rfl, hd7, k7⟩
        have HB7 : Hid (Below w.heap.size w w7) := HB6.out.trans (k7.below (fun _ h => .inl h) HB6.out.size)
        have HO7 : Hid (w7.ownsRow w.heap.size 9 1 (.slice A5 (k + 1) C5) (k + 1) (strs (k + 1))) := owns_keepS HO6.out k7 (fun i hi e => e (.inr hi))
        clear hcs k7 HB6 HO6
        go_wp2_with fail
        go_roundw
        case rel => exact ⟨k + 1, by omega, by simp, HLEN.out, HO7.out, hd7, HB7.out⟩
        case measure => simp [intOf]; omega
    · have hkn1 : k = n1 := by omega
      subst hkn1
      subst hv
      have HO : Hid (wr.ownsRow w.heap.size 9 1 (.slice Av k Cv) k (strs k)) := hown
      have HLEN : Hid (∀ j, j < k → (R.getD j []).length ≤ 2000) := hlen
      have HDX : Hid (Dx wr d 1073741824 (FA R M 0 k) (fun i => i < w.heap.size ∨ blk (.slice Av k Cv) = some i)) := hdx
      have HBR : Hid (Below w.heap.size w wr) := hBr
      obtain ⟨wA, hwA⟩ : ∃ x, x = wr := ⟨_, rfl⟩
      subst hwA
      clear hown hlen hdx hBr hlt hkn
      go_wp2_with fail
      go_loopw [13] (fun i wr => ∃ j : Nat, j ≤ k ∧ j ≤ n2 ∧ i = .int .i64 j ∧ (∀ x, x < j → (M.getD x []).length ≤ 2000) ∧ wr.ownsRow w.heap.size 9 1 (.slice Av k Cv) k (strs k) ∧ Dx wr d 1073741824 (FA R M j k) (fun i => i < w.heap.size ∨ blk (.slice Av k Cv) = some i) ∧ Below w.heap.size w wr) (fun i _ => n2 - (intOf i).toNat)
      case atStart => exact ⟨0, Nat.zero_le _, Nat.zero_le _, rfl, fun x hx => by omega, HO.out, HDX.out, HBR.out⟩
      case round =>
        obtain ⟨j, hjk, hjn, rfl, hlenM, hown, hdx, hBr⟩ := hrel
        clear HO HDX HBR
        by_cases hlt : j < n2 ∧ j < k
        · have hlt1 : (j : Int) < n2 := by omega
          have hlt2 : (j : Int) < k := by omega
          obtain ⟨b, o, A', C', eA, hrow⟩ := HM.out.at (i := j) (by have := HN2.out; omega)
          obtain ⟨rk, hrk⟩ : ∃ x, x = M.getD j [] := ⟨_, rfl⟩
          rw [← hrk] at hrow
          have HRK : Hid (M.getD j [] = rk) := hrk.symm
          obtain ⟨hcell, hbs⟩ := hrow wr hBr
          subst eA
          clear hrk
          by_cases h20 : 2000 < rk.length
          · have t3 : (2000 : Int) < rk.length := by omega
            clear hbs hown hdx hrow
            go_wp2_with fail
            go_ret
            exact ⟨rfl, hBr⟩
          · have t3 : ¬ (2000 : Int) < rk.length := by omega
            have HO : Hid (wr.ownsRow w.heap.size 9 1 (.slice Av k Cv) k (strs k)) := hown
            obtain ⟨g, hg, hnc⟩ := names_cell hown (i := j) hlt.2
            have HLM : Hid (∀ x, x < j + 1 → (M.getD x []).length ≤ 2000) := by
              intro x hx
              by_cases e : x = j
              · subst e; rw [HRK.out]; omega
              · exact hlenM x (by omega)
            have hfa := FA_more R M (n := k) (j := j) h1 hlt.2 HLEN.out HLM.out
            rw [HRK.out] at hfa
            have hca := append_dx hdx.drew (nmI j) hbs.drew rfl
            rw [hfa.1, hfa.2] at hca
            have HBR : Hid (Below w.heap.size w wr) := hBr
            clear hown hdx hrow hlenM hbs hfa hBr
            subst hg
            go_wp2_with fail
            go_region_with (go_at_call 22; refine hca.mono ?_; rintro e w6 ⟨rfl, hd6, k6⟩)
            all_goals
              have HB6 : Hid (Below w.heap.size w w6) := HBR.out.drew.trans (k6.below (fun _ h => .inl h) HBR.out.size)
              have HO6 : Hid (w6.ownsRow w.heap.size 9 1 (.slice (some ⟨g, 0, none⟩) k Cv) k (strs k)) := owns_keepS (owns_keepS HO.out (Chg.drew Non wr) (fun _ _ => id)) k6 (fun i hi e => e (.inr hi))
              clear k6 hca
              go_wp2_with fail
              go_roundw
              case rel => exact ⟨j + 1, by omega, by omega, by simp, HLM.out, HO6.out, hd6, HB6.out⟩
              case measure => simp [intOf]; omega
        · have HO : Hid (wr.ownsRow w.heap.size 9 1 (.slice Av k Cv) k (strs k)) := hown
          have HFC : Hid ((FA R M j k).map (crash1 keep) = FC R M keep k) := FA_crash R M keep k j (fun i hi => by
            by_cases e : i < j
            · exact .inl e
            · right
              have := HN2.out
              rw [List.getD_eq_getElem?_getD, List.getElem?_eq_none (by omega)]; rfl)
          have HLM : Hid (∀ i, i < k → (M.getD i []).length ≤ 2000) := by
            intro i hi
            by_cases e : i < j
            · exact hlenM i e
            · have := HN2.out
              rw [List.getD_eq_getElem?_getD, List.getElem?_eq_none (by omega)]; simp
          have hcc := crash_dx hdx keep HK.out
          rw [HFC.out] at hcc
          have HBR : Hid (Below w.heap.size w wr) := hBr
          obtain ⟨wC, hwC⟩ : ∃ x, x = wr := ⟨_, rfl⟩
          subst hwC
          clear hown hdx hlenM hBr HFC
          have hway : ¬ (j : Int) < n2 ∨ ((j : Int) < n2 ∧ ¬ (j : Int) < k) := by omega
          rcases hway with hw1 | ⟨hw1, hw2⟩
          all_goals
            go_wp2_with fail
            refine hcc.mono ?_
            rintro e w10 ⟨rfl, hd10, k10⟩
            have HB10 : Hid (Below w.heap.size w w10) := HBR.out.trans (k10.below (fun _ h => .inl h) HBR.out.size)
            have HO10 : Hid (w10.ownsRow w.heap.size 9 1 (.slice Av k Cv) k (strs k)) := owns_keepS HO.out k10 (fun i hi e => e (.inr hi))
            clear k10
            have hcl := list_dx hd10 (by simp [FC]; omega)
            rw [show (FC R M keep k).length = k by simp [FC], FC_names, names_sort h1] at hcl
            go_wp2_with fail
            refine hcl.mono ?_
            rintro e w11 ⟨A11, C11, rfl, ho11, hB11⟩
            have hd11 := hd10.below hB11
            have HB11 : Hid (Below w.heap.size w w11) := HB10.out.trans (hB11.mono HB10.out.size)
            have HO11 : Hid (w11.ownsRow w.heap.size 9 1 (.slice Av k Cv) k (strs k)) := owns_keepS HO10.out (Chg.of_below hB11) (fun _ _ => id)
            have hct := texts_any (Txs.of_owns ho11) (Txs.of_owns (l := (List.range k).map nmI) HO11.out) (by simp; omega)
            rw [decide_eq_true rfl] at hct
            clear hcl hd10 HB10 HO10 ho11 hB11
            go_wp2_with fail
            refine hct.mono ?_
            rintro e w12 ⟨rfl, q12, hw12⟩
            have hB12 : Below w11.heap.size w11 w12 := by rw [hw12]; exact below_drewN (Below.refl _ _) _
            have HD12 : Hid (Dx w12 d 1073741824 (FC R M keep k) (fun i => i < w.heap.size ∨ blk (.slice Av k Cv) = some i)) := hd11.below hB12
            have HB12 : Hid (Below w.heap.size w w12) := HB11.out.trans (hB12.mono HB11.out.size)
            have HO12 : Hid (w12.ownsRow w.heap.size 9 1 (.slice Av k Cv) k (strs k)) := owns_keepS HO11.out (Chg.of_below hB12) (fun _ _ => id)
            clear hct hd11 hw12 HO11 HB11 hB12
            go_wp2_with fail
            go_loopw [14, 15] (fun u i wr => ∃ x : Nat, x ≤ k ∧ i = .int .i64 x ∧ u = .int .i64 (used (FC R M keep x) : Nat) ∧ wr.ownsRow w.heap.size 9 1 (.slice Av k Cv) k (strs k) ∧ Dx wr d 1073741824 (FC R M keep k) (fun i => i < w.heap.size ∨ blk (.slice Av k Cv) = some i) ∧ Below w.heap.size w wr) (fun _ i _ => k - (intOf i).toNat)
            case atStart => exact ⟨0, Nat.zero_le _, rfl, rfl, HO12.out, HD12.out, HB12.out⟩
            case round =>
              obtain ⟨x, hxk, rfl, rfl, hown, hdx, hBr⟩ := hrel
              clear HO12 HD12 HB12 HO HBR hcc
              by_cases hlx : x < k
              · have hlx' : (x : Int) < k := by omega
                obtain ⟨b, o, A', C', eA, hrow⟩ := HR.out.at (i := x) (by have := HN1.out; omega)
                obtain ⟨rx, hrx⟩ : ∃ y, y = R.getD x [] := ⟨_, rfl⟩
                rw [← hrx] at hrow
                obtain ⟨hcell, hbs⟩ := hrow wr hBr
                obtain ⟨G, hG⟩ : ∃ y, y = gAt R M keep x := ⟨_, rfl⟩
                have HG : Hid (G = rx ++ (M.getD x []).take (min (max keep 0).toNat (M.getD x []).length)) := by rw [hG, hrx]; rfl
                have HGL : Hid (G.length ≤ 4000) := by rw [hG]; exact gAt_le R M keep x (HLEN.out x hlx) (HLM.out x hlx)
                have HRX : Hid (rx.length ≤ 2000) := by rw [hrx]; exact HLEN.out x hlx
                have hU := FC_used R M keep x (fun i hi => ⟨HLEN.out i (by omega), HLM.out i (by omega)⟩)
                have hUs := FC_succ R M keep x
                rw [← hG] at hUs
                have HGE : Hid (getF (nmI x) (FC R M keep k) = ⟨nmI x, G, G.length⟩ ∧ synE (FC R M keep k) (nmI x) = 0) := by
                  have := FC_look R M keep h1 hlx
                  rw [← hG] at this
                  exact ⟨by rw [getF, this]; rfl, by rw [synE, this]; rfl⟩
                generalize hUU : used (FC R M keep x) = U at *
                have HUs : Hid (used (FC R M keep (x + 1)) = U + G.length) := hUs
                have hU' : (U : Int) ≤ 80000 := by omega
                have HO : Hid (wr.ownsRow w.heap.size 9 1 (.slice Av k Cv) k (strs k)) := hown
                have HDX : Hid (Dx wr d 1073741824 (FC R M keep k) (fun i => i < w.heap.size ∨ blk (.slice Av k Cv) = some i)) := hdx
                have HBR : Hid (Below w.heap.size w wr) := hBr
                have hcp := copyB_any hbs (by have := HRX.out; omega)
                subst eA
                clear hown hdx hBr hrow hrx hG hUU hUs hU hbs
                go_wp2_with fail
                refine hcp.mono ?_
                rintro e w13 ⟨A13, C13, rfl, ho13, hB13⟩
                have HB13 : Hid (Below w.heap.size w w13) := HBR.out.trans (hB13.mono HBR.out.size)
                have HO13 : Hid (w13.ownsRow w.heap.size 9 1 (.slice Av k Cv) k (strs k)) := owns_keepS HO.out (Chg.of_below hB13) (fun _ _ => id)
                have hd13 := HDX.out.below hB13
                have HOW : Hid (w13.ownsRow wr.heap.size 5 1 (.slice A13 rx.length C13) rx.length (bv rx)) := ho13
                obtain ⟨g, hg, _⟩ := names_cell HO13.out (i := x) hlx
                subst hg
                have HS13 : Hid (w.heap.size ≤ wr.heap.size ∧ wr.heap.size ≤ w13.heap.size) := ⟨HBR.out.size, hB13.size⟩
                have HB13w : Hid (Below wr.heap.size wr w13) := hB13
                clear hcp hcell HO HBR ho13 hB13
                by_cases hxn : x < n2
                · have hxn' : (x : Int) < n2 := by omega
                  obtain ⟨b2, o2, A2', C2', eA2, hrow2⟩ := HM.out.at (i := x) (by have := HN2.out; omega)
                  obtain ⟨rk, hrk⟩ : ∃ y, y = M.getD x [] := ⟨_, rfl⟩
                  rw [← hrk] at hrow2
                  rw [← hrk] at HG
                  have HRKL : Hid (rk.length ≤ 2000) := by rw [hrk]; exact HLM.out x hlx
                  obtain ⟨hcell2, hbs2⟩ := hrow2 w13 HB13.out
                  obtain ⟨J, hJ⟩ : ∃ J, J = min (max keep 0).toNat rk.length := ⟨_, rfl⟩
                  rw [← hJ] at HG
                  have hmn : min (max keep 0) (rk.length : Int) = (J : Int) := by rw [hJ]; omega
                  have hq := bs_part hbs2 J (by omega)
                  have hJC : (J : Int) ≤ (C2' : Int) := by have := hq.1; omega
                  have hJ0 : (0 : Int) ≤ (J : Int) := by omega
                  obtain ⟨v14, w14, hrun14, ho14, hg14, hl14, _⟩ := app_bytes 28 (owns_keep HOW.out (Chg.drew Non w13) (fun _ _ => id)) (hq.2.2.1.drew) (by have := HS13.out; show wr.heap.size ≤ w13.heap.size; omega) (by have := HRX.out; have := HRKL.out; simp only [List.length_take]; omega)
                  rw [← HG.out] at ho14
                  obtain ⟨A14, C14, hv14⟩ := owns_form ho14
                  subst hv14
                  have hc14 : Chg (fun i => blk (.slice A13 rx.length C13) = some i) w13.drew w14 := Chg.of_grown hg14
                  have HT14 : Hid (∀ i, blk (.slice A13 rx.length C13) = some i → wr.heap.size ≤ i) := fun i hi => (owns_block HOW.out hi).choose_spec.2
                  have HB14 : Hid (Below w.heap.size w w14) := HB13.out.drew.trans (hc14.below (fun i hi => Nat.le_trans HS13.out.1 (HT14.out i hi)) (by have := HS13.out; show w.heap.size ≤ w13.heap.size; omega))
                  have hcell14 := (hrow2 w14 HB14.out).1
                  have HO14 : Hid (w14.ownsRow w.heap.size 9 1 (.slice (some ⟨g, 0, none⟩) k Cv) k (strs k)) := owns_keepS (owns_keepS HO13.out (Chg.drew Non w13) (fun _ _ => id)) hc14 (fun i hi e => by
                    obtain ⟨cur, hcu, _⟩ := owns_blockS HO13.out hi
                    obtain ⟨cur2, hcu2, _⟩ := owns_block HOW.out e
                    rw [hcu] at hcu2; cases hcu2)
                  have HD14 : Hid (Dx w14 d 1073741824 (FC R M keep k) (fun i => i < w.heap.size ∨ blk (.slice (some ⟨g, 0, none⟩) k Cv) = some i)) := dx_own HDX.out HB13w.out HOW.out hc14
                  have HW14 : Hid (Bs w14 (.slice A14 G.length C14) G) := Bs.of_owns ho14
                  subst eA2
                  clear hbs2 hrow2 hJ hrk hq hg14 hl14 hc14 ho14 hd13 HOW HO13 HB13 HT14 HDX HB13w
                  go_wp2_with fail
                  cases A2' with
                  | none =>
                    go_region_held3 (fun w' : World => w'.cell? ⟨b2, o2 + x, none⟩ = some (.slice none rk.length C2')) (first | exact hcell2 | exact hcell14 | go_keep) ((refine step_app rfl (.tmp 117) (.tmp 130) rfl _ _ _ _ (by simp [Act.eval]) (by simp [Act.eval]) hrun14 ?_))
                    have hnc14 := names_cell HO14.out (i := x) hlx
                    obtain ⟨g14, hg14, hnc14⟩ := hnc14
                    cases hg14
                    have hrd := read_dx HD14.out (nmI x)
                    rw [HGE.out.1, HGE.out.2] at hrd
                    have hGL' : (G.length : Int) ≤ 4000 := by have := HGL.out; omega
                    go_wp2_with fail
                    refine hrd.mono ?_
                    rintro e w15 ⟨A15, C15, rfl, ho15, hB15⟩
                    have hd15 := HD14.out.below hB15
                    have HB15 : Hid (Below w.heap.size w w15) := HB14.out.trans (hB15.mono HB14.out.size)
                    have HO15 : Hid (w15.ownsRow w.heap.size 9 1 (.slice (some ⟨g, 0, none⟩) k Cv) k (strs k)) := owns_keepS HO14.out (Chg.of_below hB15) (fun _ _ => id)
                    have hsm := same_any (Bs.of_owns ho15) (Bs.below' HW14.out hB15) (by have := HGL.out; show G.length ≤ _; omega)
                    rw [decide_eq_true rfl] at hsm
                    clear hrd HD14 HB14 HO14 HW14 ho15 hB15 hnc14
                    go_wp2_with fail
                    refine hsm.mono ?_
                    rintro e w16 ⟨rfl, q16, hw16⟩
                    have hB16 : Below w15.heap.size w15 w16 := by rw [hw16]; exact below_drewN (Below.refl _ _) _
                    have hd16 := hd15.below hB16
                    have HB16 : Hid (Below w.heap.size w w16) := HB15.out.trans (hB16.mono HB15.out.size)
                    have HO16 : Hid (w16.ownsRow w.heap.size 9 1 (.slice (some ⟨g, 0, none⟩) k Cv) k (strs k)) := owns_keepS HO15.out (Chg.of_below hB16) (fun _ _ => id)
                    clear hsm hd15 HB15 HO15 hw16 hB16
                    go_wp2_with fail
                    go_roundw
                    case rel => exact ⟨x + 1, by omega, by simp, by rw [HUs.out]; simp, HO16.out, hd16, HB16.out⟩
                    case measure => simp [intOf]; omega
                  | some ad =>
                    go_region_held3 (fun w' : World => w'.cell? ⟨b2, o2 + x, none⟩ = some (.slice (some ad) rk.length C2')) (first | exact hcell2 | exact hcell14 | go_keep) ((refine step_app rfl (.tmp 117) (.tmp 130) rfl _ _ _ _ (by simp [Act.eval]) (by simp [Act.eval]) hrun14 ?_))
                    have hnc14 := names_cell HO14.out (i := x) hlx
                    obtain ⟨g14, hg14, hnc14⟩ := hnc14
                    cases hg14
                    have hrd := read_dx HD14.out (nmI x)
                    rw [HGE.out.1, HGE.out.2] at hrd
                    have hGL' : (G.length : Int) ≤ 4000 := by have := HGL.out; omega
                    go_wp2_with fail
                    refine hrd.mono ?_
                    rintro e w15 ⟨A15, C15, rfl, ho15, hB15⟩
                    have hd15 := HD14.out.below hB15
                    have HB15 : Hid (Below w.heap.size w w15) := HB14.out.trans (hB15.mono HB14.out.size)
                    have HO15 : Hid (w15.ownsRow w.heap.size 9 1 (.slice (some ⟨g, 0, none⟩) k Cv) k (strs k)) := owns_keepS HO14.out (Chg.of_below hB15) (fun _ _ => id)
                    have hsm := same_any (Bs.of_owns ho15) (Bs.below' HW14.out hB15) (by have := HGL.out; show G.length ≤ _; omega)
                    rw [decide_eq_true rfl] at hsm
                    clear hrd HD14 HB14 HO14 HW14 ho15 hB15 hnc14
                    go_wp2_with fail
                    refine hsm.mono ?_
                    rintro e w16 ⟨rfl, q16, hw16⟩
                    have hB16 : Below w15.heap.size w15 w16 := by rw [hw16]; exact below_drewN (Below.refl _ _) _
                    have hd16 := hd15.below hB16
                    have HB16 : Hid (Below w.heap.size w w16) := HB15.out.trans (hB16.mono HB15.out.size)
                    have HO16 : Hid (w16.ownsRow w.heap.size 9 1 (.slice (some ⟨g, 0, none⟩) k Cv) k (strs k)) := owns_keepS HO15.out (Chg.of_below hB16) (fun _ _ => id)
                    clear hsm hd15 HB15 HO15 hw16 hB16
                    go_wp2_with fail
                    go_roundw
                    case rel => exact ⟨x + 1, by omega, by simp, by rw [HUs.out]; simp, HO16.out, hd16, HB16.out⟩
                    case measure => simp [intOf]; omega
                · have hxn' : ¬ (x : Int) < n2 := by omega
                  have HW14 : Hid (Bs w13 (.slice A13 G.length C13) G) := by
                    have e0 : M.getD x [] = [] := by
                      have := HN2.out
                      rw [List.getD_eq_getElem?_getD, List.getElem?_eq_none (by omega)]; rfl
                    have e1 : G = rx := by rw [HG.out, e0]; simp
                    rw [e1]; exact Bs.of_owns HOW.out
                  have HGR : Hid (G = rx) := by
                    have e0 : M.getD x [] = [] := by
                      have := HN2.out
                      rw [List.getD_eq_getElem?_getD, List.getElem?_eq_none (by omega)]; rfl
                    show G = rx
                    rw [HG.out, e0]; simp
                  have HD14 : Hid (Dx w13 d 1073741824 (FC R M keep k) (fun i => i < w.heap.size ∨ blk (.slice (some ⟨g, 0, none⟩) k Cv) = some i)) := hd13
                  have HB14 := HB13
                  have HO14 := HO13
                  clear hd13 HOW HO13 HB13 HDX HB13w
                  rw [← show G.length = rx.length by rw [HGR.out]]
                  go_wp2_with fail
                  have hnc14 := names_cell HO14.out (i := x) hlx
                  obtain ⟨g14, hg14, hnc14⟩ := hnc14
                  cases hg14
                  have hrd := read_dx HD14.out (nmI x)
                  rw [HGE.out.1, HGE.out.2] at hrd
                  have hGL' : (G.length : Int) ≤ 4000 := by have := HGL.out; omega
                  refine hrd.mono ?_
                  rintro e w15 ⟨A15, C15, rfl, ho15, hB15⟩
                  have hd15 := HD14.out.below hB15
                  have HB15 : Hid (Below w.heap.size w w15) := HB14.out.trans (hB15.mono HB14.out.size)
                  have HO15 : Hid (w15.ownsRow w.heap.size 9 1 (.slice (some ⟨g, 0, none⟩) k Cv) k (strs k)) := owns_keepS HO14.out (Chg.of_below hB15) (fun _ _ => id)
                  have hsm := same_any (Bs.of_owns ho15) (Bs.below' HW14.out hB15) (by have := HGL.out; show G.length ≤ _; omega)
                  rw [decide_eq_true rfl] at hsm
                  clear hrd HD14 HB14 HO14 HW14 ho15 hB15 hnc14
                  go_wp2_with fail
                  refine hsm.mono ?_
                  rintro e w16 ⟨rfl, q16, hw16⟩
                  have hB16 : Below w15.heap.size w15 w16 := by rw [hw16]; exact below_drewN (Below.refl _ _) _
                  have hd16 := hd15.below hB16
                  have HB16 : Hid (Below w.heap.size w w16) := HB15.out.trans (hB16.mono HB15.out.size)
                  have HO16 : Hid (w16.ownsRow w.heap.size 9 1 (.slice (some ⟨g, 0, none⟩) k Cv) k (strs k)) := owns_keepS HO15.out (Chg.of_below hB16) (fun _ _ => id)
                  clear hsm hd15 HB15 HO15 hw16 hB16
                  go_wp2_with fail
                  go_roundw
                  case rel => exact ⟨x + 1, by omega, by simp, by rw [HUs.out]; simp, HO16.out, hd16, HB16.out⟩
                  case measure => simp [intOf]; omega
              · have hxe : x = k := by omega
                subst hxe
                have hcr := crash_dx hdx again HA.out
                rw [FC_crash] at hcr
                have hU := FC_used R M keep x (fun i hi => ⟨HLEN.out i (by omega), HLM.out i (by omega)⟩)
                have HO : Hid (wr.ownsRow w.heap.size 9 1 (.slice Av x Cv) x (strs x)) := hown
                have HBR : Hid (Below w.heap.size w wr) := hBr
                obtain ⟨U, hUU⟩ : ∃ U, U = used (FC R M keep x) := ⟨_, rfl⟩
                rw [← hUU]
                have HU : Hid (used (FC R M keep x) = U) := hUU.symm
                clear hown hdx hBr hU hUU
                go_wp2_with fail
                refine hcr.mono ?_
                rintro e w20 ⟨rfl, hd20, k20⟩
                have HB20 : Hid (Below w.heap.size w w20) := HBR.out.trans (k20.below (fun _ h => .inl h) HBR.out.size)
                have HO20 : Hid (w20.ownsRow w.heap.size 9 1 (.slice Av x Cv) x (strs x)) := owns_keepS HO.out k20 (fun i hi e => e (.inr hi))
                have hus := used_dx hd20
                rw [HU.out] at hus
                clear hcr k20 HO HBR
                go_wp2_with fail
                refine hus.mono ?_
                rintro e w21 ⟨rfl, hB21⟩
                have hd21 := hd20.below hB21
                have HB21 : Hid (Below w.heap.size w w21) := HB20.out.trans (hB21.mono HB20.out.size)
                have HO21 : Hid (w21.ownsRow w.heap.size 9 1 (.slice Av x Cv) x (strs x)) := owns_keepS HO20.out (Chg.of_below hB21) (fun _ _ => id)
                have hcl := list_dx hd21 (by simp [FC]; omega)
                rw [show (FC R M keep x).length = x by simp [FC], FC_names, names_sort h1] at hcl
                clear hus hd20 HB20 HO20 hB21
                go_wp2_with fail
                refine hcl.mono ?_
                rintro e w22 ⟨A22, C22, rfl, ho22, hB22⟩
                have HB22 : Hid (Below w.heap.size w w22) := HB21.out.trans (hB22.mono HB21.out.size)
                have hct := texts_any (Txs.of_owns ho22) (Txs.of_owns (l := (List.range x).map nmI) (owns_keepS HO21.out (Chg.of_below hB22) (fun _ _ => id))) (by simp; omega)
                rw [decide_eq_true rfl] at hct
                clear hcl hd21 HB21 HO21 ho22 hB22
                go_wp2_with fail
                refine hct.mono ?_
                rintro e w23 ⟨rfl, q23, hw23⟩
                have hB23 : Below w.heap.size w w23 := by rw [hw23]; exact below_drewN HB22.out _
                clear hct hw23
                go_wp2_with fail
                go_ret
                exact ⟨rfl, hB23⟩
end Go.Proofs.Ytniopcfjekpnjaa
