/- The walk of flatLongs. -/
import Derived.Test.YtbehainbggdpeaaGreatBgI
import Derived.Deep.RegionWith
import Derived.Deep.QuietTactic
import Derived.BigQuiet
namespace Go.Proofs.YtbehainbggdpeaaGreat
namespace AN
open Go.RowKit


/-- No way out but the plain one. -/
def OnlyNormal (K : Act → World → Prop) : Exit → Act → World → Prop
  | .normal, a, w => K a w
  | _, _, _ => False
theorem wp_normal {P : Program} {c : Code} {Q : Exit → Act → World → Prop} {a : Act} {w : World} (h : c.wp P (OnlyNormal (fun a w => Q .normal a w)) a w) : c.wp P Q a w := by
  refine wp_mono h ?_
  intro e a w hq
  cases e <;> first | exact hq | exact hq.elim

theorem infoEL : (Tryz.prog.info? 31).map (fun i => (i.zero, i.size, i.bytes)) = some (some (.slice none 0 0), 1, 24) := by kernel_rfl
theorem gs_of_owns {w : World} {base g m : Nat} {xs : List Value} (h : w.ownsRow base 31 1 (.slice (some ⟨g, 0, none⟩) m m) m xs) : GSok w g m := by
  rcases h.2 with ⟨h0, _⟩ | ⟨g', cap, cur, hv, hb, hg, hnc, hcm, hcs, ht⟩
  · cases h0
  · cases hv
    exact ⟨cur, hg, by simpa using hcs⟩
theorem wpList_appN {w : World} {ops : Array Oper} {rest : List Oper} {o : Oper} {a : Act} {Q : Exit → Act → World → Prop} (hgd : o.guard = none) (s x : Operand)
    (ho : o.op = .call { callee := .builtin .append, args := #[s, x], argTypes := #[31, 31] })
    {A : Option Addr} {N C p : Nat} {l news : List Int} (hsv : a.eval s = .slice A N C) (h : R w A N C l) (ad : Addr) (c : Nat) (hx : a.eval x = .slice (some ad) p c) (hp : news.length = p)
    (hn : 0 < p) (hs : N + p ≤ 100000000) (hnews : ∀ j u, (ints news)[j]? = some u → w.cell? (ad.add j) = some u)
    (hk : ∀ A' C' w', R w' A' (N + p) C' (l ++ news) → ((∃ g, A = some ⟨g, 0, none⟩ ∧ A' = A ∧ C' = C ∧ w.grownBy w' (some g)) ∨ (A' = some ⟨w.heap.size, 0, none⟩ ∧ w.grownBy w' none)) → wpList Tryz.prog ops Q rest (a.put o.dst (.slice A' (N + p) C')) w') :
    wpList Tryz.prog ops Q (o :: rest) a w := by
  subst hp
  exact wpList_app hgd s x ho hsv h ad c hx hn hs hnews hk
theorem R.news {w : World} {g N C : Nat} {l : List Int} (h : R w (some ⟨g, 0, none⟩) N C l) : ∀ j u, (ints l)[j]? = some u → w.cell? ((⟨g, 0, none⟩ : Addr).add j) = some u := World.ownsRow.cells (g := g) h rfl
theorem r_of_made {w : World} {base g n : Nat} (h : w.ownsRow base 2 1 (.slice (some ⟨g, 0, none⟩) n n) n (List.replicate n (Value.int .i64 0))) : R w (some ⟨g, 0, none⟩) n n (List.replicate n 0) := by
  have := owns_weak h
  unfold R ints
  rw [List.map_replicate]
  exact this
def T2 (n : Nat → Nat) (j : Nat) (l : List Int) : Prop := l = MK j (n j + 64)
def T4 (n : Nat → Nat) (j : Nat) (l : List Int) : Prop := l.take (n j) = MK j (n j) ∧ n j ≤ l.length
theorem In2.begin {H G m : Nat} {a : Nat → Option Addr} {n c : Nat → Nat} {T : Nat → List Int → Prop} {w0 w w1 : World} {i : Nat} (h : In1 m G a n c w0 w m i) (hH : H = w0.heap.size) (g : w.grownBy w1 Option.none) (hgs : GSok w1 w.heap.size m) : In2 H G m w.heap.size a n c T w0 w1 w1.heap.size 0 :=
  ⟨h.out.keep g (by simp), fun j hj => (h.done j hj hj).kept g (by simp), h.chg.none g, hgs, by rw [hH]; exact h.chg.size, hgs.lt, Nat.le_refl _, fun j _ hk => absurd hk (by omega)⟩
theorem markS (k p i : Nat) (w : World) (hk : k < 1000000) (hi : p + i < 1000000000) :
    Calls Tryz.prog 57 #[.int .i64 (k : Int), .int .i64 ((p : Int) + (i : Int))] w fun e w' => e = .returned (.int .i64 (M k (p + i))) ∧ w' = w := by
  have := markC k (p + i) w hk hi
  rwa [show ((p + i : Nat) : Int) = (p : Int) + (i : Int) by omega] at this

set_option maxRecDepth 100000 in
set_option maxHeartbeats 4000000 in
theorem flatLongs_any (H G m cap : Nat) (a : Nat → Option Addr) (n c : Nat → Nat) (w : World) (L : Lay H G m a n c) (hH : H = w.heap.size) (ho : Outer G m a n c w) (hr : ∀ j, j < m → ∃ l, R w (a j) (n j) (c j) l) :
    Calls Tryz.prog 35 #[.slice (some ⟨G, 0, none⟩) m cap] w fun e w' => e = .returned (.bool true) ∧ Chg m a w w' ∧ ∀ j, j < m → ∃ l, R w' (a j) (n j) (c j) l := by
  have I0 : Hid (In1 m G a n c w w 0 0) := In1.begin ho hr
  have HL : Hid (Lay H G m a n c) := L
  have HH : Hid (H = w.heap.size) := hH
  have hm := L.hm
  clear ho hr L hH
  go_enter Tryz.func35, Tryz.ntmps35
  go_wp2
  go_loopw [3] (fun s wr => ∃ k : Nat, s = .int .i64 k ∧ k ≤ m ∧ In1 m G a n c w wr k 0) (fun s _ => m - (intOf s).toNat)
  case atStart => exact ⟨0, rfl, by omega, I0.out⟩
  case round =>
    obtain ⟨k, rfl, hk, h1⟩ := hrel
    have I1 : Hid (In1 m G a n c w wr k 0) := h1
    clear h1 I0
    by_cases hlt : k < m
    · have hnk := HL.out.hn k hlt
      go_wp2
      go_hide hQ
      go_loopw [4] (fun s wr => ∃ i : Nat, s = .int .i64 i ∧ i ≤ n k ∧ In1 m G a n c w wr k i) (fun s _ => n k - (intOf s).toNat)
      case atStart => exact ⟨0, rfl, by omega, I1.out⟩
      case round =>
        obtain ⟨i, rfl, hi, h2⟩ := hrel
        have ck := h2.out k hlt
        have I2 : Hid (In1 m G a n c w wr k i) := h2
        clear h2 I1
        by_cases hli : i < n k
        · obtain ⟨l, hl, _⟩ := I2.out.here hlt
          obtain ⟨g, hg, _⟩ := hl.pos (by omega)
          rw [hg] at ck hl
          have ce := hl.cell i hli
          have cf := hl.thaw i
          obtain ⟨x, hx⟩ : ∃ x, x = l.getD i 0 := ⟨_, rfl⟩
          rw [← hx] at ce
          have HG : Hid (a k = some ⟨g, 0, none⟩) := hg
          clear hx hg hl
          go_wp2_with fail
          refine wp_normal ?_
          go_region_with (go_at_call 57; refine (markC k i _ (by omega) (by omega)).mono ?_; rintro e w3 ⟨rfl, rfl⟩)
          all_goals simp only [OnlyNormal]
          all_goals go_wp2
          all_goals
            go_roundw
            case rel => exact ⟨i + 1, by go_num, by omega, (I2.out.step HL.out hlt hli HG.out rfl).alike 1⟩
            case measure => simp [intOf]; omega
        · go_wp2
          subst hQ
          go_wp2
          go_roundw
          case rel => exact ⟨k + 1, by go_num, by omega, I2.out.next hlt (by omega)⟩
          case measure => simp [intOf]; omega
    · have hkm : k = m := by omega
      have I3 : Hid (In1 m G a n c w wr m 0) := hkm ▸ I1.out
      clear hkm I1
      obtain ⟨j0, hj, hj0, hj1, hj2⟩ := info_parts infoEL
      go_wp2_with (first | (at_make; refine wpList_make_full _ rfl _ _ 34 rfl wr.heap.size 31 j0 (.slice none 0 0) 1 Tryz.underlying34 hj hj0 hj1 .i64 .i64 _ _ m rfl rfl rfl rfl (by rw [hj2]; omega) (by unfold maxLen; omega) (Nat.le_refl _) ?_; intro W1 hown1 hgrow1))
      have I4 : Hid (In2 H G m wr.heap.size a n c (T2 n) w W1 W1.heap.size 0) := In2.begin I3.out HH.out hgrow1 (gs_of_owns hown1)
      obtain ⟨GS, hGS⟩ : ∃ GS, wr.heap.size = GS := ⟨_, rfl⟩
      rw [hGS] at I4
      simp only [hGS]
      clear hown1 hgrow1 I3 hGS
      go_loopw [6] (fun s wx => ∃ k Hk : Nat, s = .int .i64 k ∧ k ≤ m ∧ In2 H G m GS a n c (T2 n) w wx Hk k) (fun s _ => m - (intOf s).toNat)
      case atStart => exact ⟨0, _, rfl, by omega, I4.out⟩
      case round =>
        obtain ⟨k, Hk, rfl, hk, h1⟩ := hrel
        have I5 : Hid (In2 H G m GS a n c (T2 n) w wr Hk k) := h1
        clear h1 I4
        by_cases hlt : k < m
        · have hnk := HL.out.hn k hlt
          have ck := I5.out.out k hlt
          go_wp2
          go_hide hQ
          go_loopw [7, 8] (fun v s wx => ∃ (i : Nat) (A : Option Addr) (C : Nat), s = .int .i64 i ∧ i ≤ 64 ∧ v = .slice A (n k + i) C ∧ In2 H G m GS a n c (T2 n) w wx Hk k ∧ R wx A (n k + i) C (MK k (n k + i)) ∧ ((A = a k ∧ C = c k) ∨ ∃ b, A = some ⟨b, 0, none⟩ ∧ Hk ≤ b)) (fun _ s _ => 64 - (intOf s).toNat)
          case atStart => exact ⟨0, a k, c k, rfl, by omega, rfl, I5.out, I5.out.rows k hlt, .inl ⟨rfl, rfl⟩⟩
          case round =>
            obtain ⟨i, A, C, rfl, hi, rfl, h2, hR, hP⟩ := hrel
            clear ck
            have ck := h2.out k hlt
            have I6 : Hid (In2 H G m GS a n c (T2 n) w wr Hk k) := h2
            have HR : Hid (R wr A (n k + i) C (MK k (n k + i))) := hR
            have HP : Hid ((A = a k ∧ C = c k) ∨ ∃ b, A = some ⟨b, 0, none⟩ ∧ Hk ≤ b) := hP
            clear h2 hR hP I5
            by_cases hli : i < 64
            · go_wp2_with (first | (go_at_call 57; refine (markS k (n k) i _ (by omega) (by omega)).mono ?_; rintro e w3 ⟨rfl, rfl⟩) | (at_builtin; (refine wpList_app rfl (.tmp 57) (.tmp 67) rfl (news := [M k (n k + i)]) rfl (HR.out.kept (World.grownBy_alloc _ _ none) (by simp)) ⟨_, 0, none⟩ 1 rfl (by simp) (by simp; omega) (cell_one_new _ _ _) ?_); intro A' C' W2 hR2 ho2))
              have Q := In2.app (N := n k + i + 1) HL.out HH.out (I6.out.none HL.out (World.grownBy_alloc _ _ none)) hlt HP.out (by omega) (MK_take k (n k) (n k + i) (by omega)) (by rw [MK_len]; omega) hR2 ho2
              go_roundw
              case rel => exact ⟨i + 1, A', C', by go_num, by omega, rfl, Q.1, by rw [← Nat.add_assoc, MK_succ]; exact hR2, Q.2⟩
              case measure => simp [intOf]; omega
            · obtain rfl : i = 64 := by omega
              obtain ⟨v0, hv0⟩ := I6.out.gs.cell k hlt
              have ht0 := I6.out.gs.thaw k
              go_wp2
              subst hQ
              go_wp2
              go_roundw
              case rel => exact ⟨k + 1, _, by go_num, by omega, I6.out.put HL.out HH.out hlt HP.out HR.out rfl rfl⟩
              case measure => simp [intOf]; omega
        · have hkm : k = m := by omega
          have I7 : Hid (In2 H G m GS a n c (T2 n) w wr Hk m) := hkm ▸ I5.out
          clear hkm I5
          go_wp2
          obtain ⟨W3, hW3⟩ : ∃ W3, wr = W3 := ⟨_, rfl⟩
          rw [hW3] at I7 ⊢
          clear hW3
          go_loopw [9] (fun s wx => ∃ k q : Nat, s = .int .i64 k ∧ k ≤ m ∧ wx = W3.drewN q) (fun s _ => m - (intOf s).toNat)
          case atStart => exact ⟨0, 0, rfl, by omega, rfl⟩
          case round =>
            obtain ⟨k, q, rfl, hk, hw⟩ := hrel
            by_cases hlt : k < m
            · have hnk := HL.out.hn k hlt
              obtain ⟨A, C, l, g1, g2, g3, _⟩ := I7.out.got k hlt hlt
              obtain ⟨gA, hA, _⟩ := g2.pos (by omega)
              subst hA
              have g4 : ∀ i, i < n k + 64 → W3.cell? ⟨gA, i, none⟩ = some (.int .i64 (M k i)) := by
                intro i hi
                rw [g2.cell i hi, g3, MK_get k (n k + 64) i hi]
              have g5 := I7.out.out k hlt
              have HG1 : Hid (W3.cell? ⟨GS, k, none⟩ = some (.slice (some ⟨gA, 0, none⟩) (n k + 64) C)) := g1
              have HG4 : Hid (∀ i, i < n k + 64 → W3.cell? ⟨gA, i, none⟩ = some (.int .i64 (M k i))) := g4
              have HG5 : Hid (W3.cell? ⟨G, k, none⟩ = some (.slice (a k) (n k) (c k))) := g5
              have HW : Hid (wr = W3.drewN q) := hw
              clear g1 g2 g3 g4 g5 hw
              go_wp2
              go_hide hQ
              go_loopw [10] (fun s wx => ∃ i p : Nat, s = .int .i64 i ∧ i ≤ n k + 64 ∧ wx = W3.drewN p) (fun s _ => n k + 64 - (intOf s).toNat)
              case atStart => exact ⟨0, q, rfl, by omega, HW.out⟩
              case round =>
                obtain ⟨i, p, rfl, hi, hw2⟩ := hrel
                have HW2 : Hid (wr = W3.drewN p) := hw2
                have x1 : wr.cell? ⟨GS, k, none⟩ = some (.slice (some ⟨gA, 0, none⟩) (n k + 64) C) := by rw [hw2]; exact HG1.out
                have x3 : wr.cell? ⟨G, k, none⟩ = some (.slice (a k) (n k) (c k)) := by rw [hw2]; exact HG5.out
                by_cases hli : i < n k + 64
                · have x2 : wr.cell? ⟨gA, i, none⟩ = some (.int .i64 (M k i)) := by rw [hw2]; exact HG4.out i hli
                  by_cases hin : i < n k
                  · obtain ⟨g, hg, _⟩ := (I7.out.rows k hlt).pos (by omega)
                    have x4 : wr.cell? ⟨g, i, none⟩ = some (.int .i64 (M k i)) := by
                      have := I7.out.rows k hlt
                      rw [hg] at this
                      rw [hw2, ← MK_get k (n k) i hin]
                      exact this.cell i hin
                    rw [hg] at x3
                    clear hw2 hg
                    go_wp2_with fail
                    go_big_quiet ((go_at_call 57; exact Calls.quiet_of_same (markC k i _ (by omega) (by omega))))
                    go_wp2
                    go_roundw
                    case rel => exact ⟨i + 1, p + nq, by go_num, by omega, by rw [HW2.out, World.drewN_drewN]⟩
                    case measure => simp [intOf]; omega
                  · have d3 : decide (i < n k) = false := by simpa using hin
                    have hin' : n k ≤ i := by omega
                    clear hw2 hin
                    go_wp2_with fail
                    go_big_quiet ((go_at_call 57; exact Calls.quiet_of_same (markC k i _ (by omega) (by omega))))
                    go_wp2
                    go_roundw
                    case rel => exact ⟨i + 1, p + nq, by go_num, by omega, by rw [HW2.out, World.drewN_drewN]⟩
                    case measure => simp [intOf]; omega
                · clear hw2
                  go_wp2
                  subst hQ
                  go_wp2
                  go_roundw
                  case rel => exact ⟨k + 1, p, by go_num, by omega, HW2.out⟩
                  case measure => simp [intOf]; omega
            · have HW : Hid (wr = W3.drewN q) := hw
              have I8 : Hid (In2 H G m GS a n c (T4 n) w wr wr.heap.size 0) := by rw [hw]; exact ((I7.out.alike q).up).anew
              clear hw I7
              go_wp2
              clear HW
              obtain ⟨i0, hi0, hz0, hz1, hz2⟩ := info_parts infoN
              go_loopw [11] (fun s wx => ∃ k Hk : Nat, s = .int .i64 k ∧ k ≤ m ∧ In2 H G m GS a n c (T4 n) w wx Hk k) (fun s _ => m - (intOf s).toNat)
              case atStart => exact ⟨0, _, rfl, by omega, I8.out⟩
              case round =>
                obtain ⟨k, Hk, rfl, hk, h1⟩ := hrel
                have I9 : Hid (In2 H G m GS a n c (T4 n) w wr wr.heap.size k) := h1.up
                clear h1 I8
                by_cases hlt : k < m
                · have hnk := HL.out.hn k hlt
                  go_wp2_with (first | (at_make; refine wpList_make_full _ rfl _ _ 31 rfl wr.heap.size 2 i0 (.int .i64 0) 1 Tryz.underlying31 hi0 hz0 hz1 .i64 .i64 _ _ 64 rfl rfl rfl rfl (by rw [hz2]; omega) (by unfold maxLen; omega) (Nat.le_refl _) ?_; intro W1 hown1 hgrow1; rw [made_list] at hown1))
                  have IA : Hid (In2 H G m GS a n c (T4 n) w W1 wr.heap.size k) := I9.out.none HL.out hgrow1
                  have RA : Hid (R W1 (some ⟨wr.heap.size, 0, none⟩) 64 64 (List.replicate 64 0)) := r_of_made hown1
                  clear hown1 hgrow1 I9
                  obtain ⟨Hq, hHq⟩ : ∃ Hq, wr.heap.size = Hq := ⟨_, rfl⟩
                  rw [hHq] at IA RA
                  simp only [hHq]
                  clear hHq
                  go_hide hQ
                  go_loopw [13] (fun s wx => ∃ (i : Nat) (l : List Int), s = .int .i64 i ∧ i ≤ 64 ∧ In2 H G m GS a n c (T4 n) w wx Hq k ∧ R wx (some ⟨Hq, 0, none⟩) 64 64 l) (fun s _ => 64 - (intOf s).toNat)
                  case atStart => exact ⟨0, _, rfl, by omega, IA.out, RA.out⟩
                  case round =>
                    obtain ⟨i, l, rfl, hi, h2, hR⟩ := hrel
                    have IB : Hid (In2 H G m GS a n c (T4 n) w wr Hq k) := h2
                    have RB : Hid (R wr (some ⟨Hq, 0, none⟩) 64 64 l) := hR
                    clear h2 hR IA RA
                    by_cases hli : i < 64
                    · have ce := RB.out.cell i hli
                      have cf := RB.out.thaw i
                      obtain ⟨x, hx⟩ : ∃ x, x = l.getD i 0 := ⟨_, rfl⟩
                      rw [← hx] at ce
                      clear hx
                      go_wp2_with (first | (go_at_call 57; refine (markB_any _ _ _ (by omega) (by omega) (by omega) (by omega)).mono ?_; rintro e w3 ⟨rfl, rfl⟩))
                      go_roundw
                      case rel => exact ⟨i + 1, _, by go_num, by omega, IB.out.own HL.out HH.out (grownBy_set _ _ _ _) (Nat.le_refl _), RB.out.set i _⟩
                      case measure => simp [intOf]; omega
                    · have ck := IB.out.out k hlt
                      go_wp2_with fail
                      subst hQ
                      go_wp2_with (first | (at_builtin; refine wpList_appN rfl (.tmp 148) (.tmp 149) rfl (l := MK k (n k)) (news := l) (p := 64) rfl (IB.out.rows k hlt) ⟨Hq, 0, none⟩ 64 rfl RB.out.len (by omega) (by omega) RB.out.news ?_; intro A' C' W2 hR2 ho2; have Q := In2.app (N := n k + 64) HL.out HH.out IB.out hlt (.inl ⟨rfl, rfl⟩) (by omega) (List.take_of_length_le (by rw [MK_len]; omega)) (by rw [MK_len]; omega) hR2 ho2; have HQ2 : Hid (In2 H G m GS a n c (T4 n) w W2 Hq k) := Q.1; have HP2 : Hid ((A' = a k ∧ C' = c k) ∨ ∃ b, A' = some ⟨b, 0, none⟩ ∧ Hq ≤ b) := Q.2; have HR2 : Hid (R W2 A' (n k + 64) C' (MK k (n k) ++ l)) := hR2; obtain ⟨v0, hv0⟩ := HQ2.out.gs.cell k hlt; have ht0 := HQ2.out.gs.thaw k; clear Q hR2 ho2))
                      go_roundw
                      case rel => exact ⟨k + 1, _, by go_num, by omega, HQ2.out.put HL.out HH.out hlt HP2.out HR2.out ⟨by rw [List.take_append_of_le_length (by rw [MK_len]; omega)]; exact List.take_of_length_le (by rw [MK_len]; omega), by simp [MK_len]⟩ rfl⟩
                      case measure => simp [intOf]; omega
                · have hkm : k = m := by omega
                  have IC : Hid (In2 H G m GS a n c (T4 n) w wr wr.heap.size m) := hkm ▸ I9.out
                  clear hkm I9
                  go_wp2
                  obtain ⟨W5, hW5⟩ : ∃ W5, wr = W5 := ⟨_, rfl⟩
                  rw [hW5] at IC ⊢
                  clear hW5
                  go_loopw [14] (fun s wx => ∃ k q : Nat, s = .int .i64 k ∧ k ≤ m ∧ wx = W5.drewN q) (fun s _ => m - (intOf s).toNat)
                  case atStart => exact ⟨0, 0, rfl, by omega, rfl⟩
                  case round =>
                    obtain ⟨k, q, rfl, hk, hw⟩ := hrel
                    by_cases hlt : k < m
                    · have hnk := HL.out.hn k hlt
                      obtain ⟨A, C, l, g1, g2, g3, _⟩ := IC.out.got k hlt hlt
                      obtain ⟨gA, hA, _⟩ := g2.pos (by omega)
                      subst hA
                      have g4 : ∀ i, i < n k → W5.cell? ⟨gA, i, none⟩ = some (.int .i64 (M k i)) := by
                        intro i hi
                        have e : l.getD i 0 = M k i := by
                          rw [← MK_get k (n k) i hi, ← g3.1]
                          simp [hi]
                        rw [g2.cell i (by omega), e]
                      have g5 := IC.out.out k hlt
                      have HG1 : Hid (W5.cell? ⟨GS, k, none⟩ = some (.slice (some ⟨gA, 0, none⟩) (n k + 64) C)) := g1
                      have HG4 : Hid (∀ i, i < n k → W5.cell? ⟨gA, i, none⟩ = some (.int .i64 (M k i))) := g4
                      have HG5 : Hid (W5.cell? ⟨G, k, none⟩ = some (.slice (a k) (n k) (c k))) := g5
                      have HW : Hid (wr = W5.drewN q) := hw
                      clear g1 g2 g3 g4 g5 hw
                      go_wp2
                      go_hide hQ
                      go_loopw [15] (fun s wx => ∃ i p : Nat, s = .int .i64 i ∧ i ≤ n k ∧ wx = W5.drewN p) (fun s _ => n k - (intOf s).toNat)
                      case atStart => exact ⟨0, q, rfl, by omega, HW.out⟩
                      case round =>
                        obtain ⟨i, p, rfl, hi, hw2⟩ := hrel
                        have HW2 : Hid (wr = W5.drewN p) := hw2
                        have x1 : wr.cell? ⟨GS, k, none⟩ = some (.slice (some ⟨gA, 0, none⟩) (n k + 64) C) := by rw [hw2]; exact HG1.out
                        have x3 : wr.cell? ⟨G, k, none⟩ = some (.slice (a k) (n k) (c k)) := by rw [hw2]; exact HG5.out
                        by_cases hli : i < n k
                        · have x2 : wr.cell? ⟨gA, i, none⟩ = some (.int .i64 (M k i)) := by rw [hw2]; exact HG4.out i hli
                          obtain ⟨g, hg, _⟩ := (IC.out.rows k hlt).pos (by omega)
                          have x4 : wr.cell? ⟨g, i, none⟩ = some (.int .i64 (M k i)) := by
                            have := IC.out.rows k hlt
                            rw [hg] at this
                            rw [hw2, ← MK_get k (n k) i hli]
                            exact this.cell i hli
                          rw [hg] at x3
                          clear hw2 hg
                          go_wp2_with fail
                          go_big_quiet ((go_at_call 57; exact Calls.quiet_of_same (markC k i _ (by omega) (by omega))))
                          go_wp2
                          go_roundw
                          case rel => exact ⟨i + 1, p + nq, by go_num, by omega, by rw [HW2.out, World.drewN_drewN]⟩
                          case measure => simp [intOf]; omega
                        · clear hw2
                          go_wp2
                          subst hQ
                          go_wp2
                          go_roundw
                          case rel => exact ⟨k + 1, p, by go_num, by omega, HW2.out⟩
                          case measure => simp [intOf]; omega
                    · have HZ : Hid (Chg m a w wr ∧ ∀ j, j < m → ∃ l, R wr (a j) (n j) (c j) l) := by rw [hw]; exact ⟨(IC.out.alike q).chg, fun j hj => ⟨_, (IC.out.alike q).rows j hj⟩⟩
                      clear hw
                      go_wp2
                      go_ret
                      exact ⟨rfl, HZ.out⟩
end AN
end Go.Proofs.YtbehainbggdpeaaGreat
