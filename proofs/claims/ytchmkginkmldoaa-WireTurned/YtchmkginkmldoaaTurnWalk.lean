/- The walk of the statement on frames with one bit turned. -/
import Derived.Laws.BitsAllLaws
import Derived.Laws.ShiftsVarLaws
import Derived.Test.YtchmkginkmldoaaDeeds
import Derived.Test.YtchmkginkmldoaaTurn
namespace Go.Proofs.Ytchmkginkmldoaa
open Go.RowKit

/- A byte of a row of one's own. -/
theorem own_at {w : World} {base n : Nat} {v : Value} {l : List UInt8} (h : w.ownsRow base 5 1 v n (bv l)) (k : Nat) (hk : k < l.length) :
    ∃ g C, v = .slice (some ⟨g, 0, none⟩) n C ∧ base ≤ g ∧ g < w.heap.size ∧ n ≤ C ∧ w.cell? ⟨g, k, none⟩ = some (.int .u8 ((l[k]'hk).toNat : Int)) ∧ w.frozen? ⟨g, k, none⟩ = false := by
  have hn : n = l.length := by have := h.1; rw [bv_len] at this; omega
  rcases h.2 with ⟨_, h0⟩ | ⟨g, cap, cur, rfl, hb, hg, hc, hm, hs, ht⟩
  · omega
  · have hlt := heap_lt hg
    refine ⟨g, cap, rfl, hb, hlt, hc, ?_, ?_⟩
    · have := h.cells (g := g) rfl k (.int .u8 ((l[k]'hk).toNat : Int)) (by simp [bv, hk])
      rw [show (⟨g, 0, none⟩ : Addr).add k = ⟨g, 0 + k, none⟩ by simp only [Addr.add]; split <;> simp_all, Nat.zero_add] at this
      exact this
    · exact frozen_at hg k
theorem bv_set (l : List UInt8) (k : Nat) (x : UInt8) : (bv l).set k (.int .u8 (x.toNat : Int)) = bv (l.set k x) := by simp [bv, List.map_set]
theorem own_set {w : World} {base n g C : Nat} {l : List UInt8} (h : w.ownsRow base 5 1 (.slice (some ⟨g, 0, none⟩) n C) n (bv l)) (k : Nat) (x : UInt8) :
    (w.setCell ⟨g, k, none⟩ (.int .u8 (x.toNat : Int))).ownsRow base 5 1 (.slice (some ⟨g, 0, none⟩) n C) n (bv (l.set k x)) ∧ Chg (fun i => i = g) w (w.setCell ⟨g, k, none⟩ (.int .u8 (x.toNat : Int))) := by
  have := h.stored k (.int .u8 (x.toNat : Int))
  rw [bv_set] at this
  exact ⟨this.1, Chg.setCell w ⟨g, k, none⟩ _ rfl⟩
/- The byte with one bit turned. -/
def flip (x : UInt8) (j : Nat) : UInt8 := x ^^^ UInt8.ofNat (2 ^ j)
theorem flip_ne (x : UInt8) (j : Nat) (hj : j < 8) : flip x j ≠ x := by
  intro h
  have h1 := congrArg (fun y => x ^^^ y) h
  simp only [flip, ← UInt8.xor_assoc, UInt8.xor_self, UInt8.zero_xor] at h1
  have h2 := congrArg UInt8.toNat h1
  have hh : ∀ j, j < 8 → (UInt8.ofNat (2 ^ j)).toNat ≠ (0 : UInt8).toNat := by decide
  exact hh j hj h2
theorem flip_val (x : UInt8) (j : Nat) (hj : j < 8) : ((flip x j).toNat : Int) = ((x.toNat ^^^ 2 ^ j : Nat) : Int) := by
  unfold flip
  rw [UInt8.toNat_xor, UInt8.toNat_ofNat']
  have hh : ∀ j, j < 8 → 2 ^ j % 2 ^ 8 = 2 ^ j := by decide
  rw [hh j hj]
theorem flip_bits (x : UInt8) (j : Nat) (hj : j < 8) : bits BinOp.xor IntKind.u8 (x.toNat : Int) (2 ^ j % 256) = ((flip x j).toNat : Int) := by
  rw [flip_val x j hj]
  have hh : ∀ j, j < 8 → ((2 : Int) ^ j % 256) = ((2 ^ j : Nat) : Int) ∧ 2 ^ j < 256 := by decide
  rw [(hh j hj).1]
  exact u8_xor_nat _ _ x.toNat_lt (hh j hj).2
def maskB (m t : Nat) : UInt8 := UInt8.ofNat (m / 2 ^ (8 * t))
def xr (b : List UInt8) (k m : Nat) : Nat → List UInt8
  | 0 => b
  | t + 1 => (xr b k m t).set (k + t) ((xr b k m t).getD (k + t) 0 ^^^ maskB m t)
theorem xr_len (b : List UInt8) (k m : Nat) : ∀ t, (xr b k m t).length = b.length
  | 0 => rfl
  | t + 1 => by rw [xr, List.length_set]; exact xr_len b k m t
theorem set_mid (p q : List UInt8) (x y : UInt8) : (p ++ x :: q).set p.length y = p ++ y :: q := by
  rw [List.set_append_right _ _ (Nat.le_refl _)]; simp
theorem get_mid (p q : List UInt8) (x : UInt8) : (p ++ x :: q).getD p.length 0 = x := by
  rw [List.getD_eq_getElem?_getD, List.getElem?_append_right (Nat.le_refl _)]; simp
theorem xr_step (p q : List UInt8) (x : UInt8) (b : List UInt8) (k m t : Nat) (h : xr b k m t = p ++ x :: q) (hp : p.length = k + t) : xr b k m (t + 1) = (p ++ [x ^^^ maskB m t]) ++ q := by
  rw [xr, h, ← hp, set_mid, get_mid]; simp
theorem four_of {b : List UInt8} {k : Nat} (h : k + 4 ≤ b.length) : ∃ a0 a1 a2 a3 q, b = b.take k ++ a0 :: a1 :: a2 :: a3 :: q := by
  have h1 : (b.drop k).length = b.length - k := List.length_drop ..
  have h2 := List.take_append_drop k b
  match hd : b.drop k with
  | [] => rw [hd] at h1; simp at h1; omega
  | [_] => rw [hd] at h1; simp at h1; omega
  | [_, _] => rw [hd] at h1; simp at h1; omega
  | [_, _, _] => rw [hd] at h1; simp at h1; omega
  | a0 :: a1 :: a2 :: a3 :: q => exact ⟨a0, a1, a2, a3, q, by rw [← hd]; exact h2.symm⟩
theorem mask_ne {m : Nat} (h : m < 4294967296) (h0 : m ≠ 0) : ¬ (maskB m 0 = 0 ∧ maskB m 1 = 0 ∧ maskB m 2 = 0 ∧ maskB m 3 = 0) := by
  rintro ⟨h1, h2, h3, h4⟩
  have e1 := congrArg UInt8.toNat h1
  have e2 := congrArg UInt8.toNat h2
  have e3 := congrArg UInt8.toNat h3
  have e4 := congrArg UInt8.toNat h4
  simp only [maskB, UInt8.toNat_ofNat', Nat.mul_zero, Nat.pow_zero, Nat.div_one, show (2 : Nat) ^ 8 = 256 from rfl, show 8 * 1 = 8 from rfl, show (2 : Nat) ^ (8 * 2) = 65536 from rfl, show (2 : Nat) ^ (8 * 3) = 16777216 from rfl] at e1 e2 e3 e4
  have z : (0 : UInt8).toNat = 0 := rfl
  rw [z] at e1 e2 e3 e4
  omega
theorem xor_same {x y : UInt8} (h : x ^^^ y = x) : y = 0 := by
  have h1 := congrArg (fun z => x ^^^ z) h
  simpa [← UInt8.xor_assoc] using h1
theorem mask_bits (z : UInt8) (m t : Nat) : bits BinOp.xor IntKind.u8 (z.toNat : Int) ((m : Int) / 2 ^ (8 * t) % 256) = ((z ^^^ maskB m t).toNat : Int) := by
  have e : ((m : Int) / 2 ^ (8 * t) % 256) = ((m / 2 ^ (8 * t) % 256 : Nat) : Int) := by
    rw [show (2 : Int) ^ (8 * t) = ((2 ^ (8 * t) : Nat) : Int) by simp]
    omega
  rw [e, u8_xor_nat _ _ z.toNat_lt (by omega), UInt8.toNat_xor, maskB, UInt8.toNat_ofNat']
theorem xr_sum {b : List UInt8} {k m : Nat} (h : k + 4 ≤ b.length) (hm : m < 4294967296) (h0 : m ≠ 0) : sumOf (xr b k m 4) ≠ sumOf b := by
  obtain ⟨a0, a1, a2, a3, q, hb⟩ := four_of h
  have hp : (b.take k).length = k := by rw [List.length_take]; omega
  generalize b.take k = p at hb hp
  have e1 := xr_step p (a1 :: a2 :: a3 :: q) a0 b k m 0 hb (by omega)
  have e2 := xr_step (p ++ [a0 ^^^ maskB m 0]) (a2 :: a3 :: q) a1 b k m 1 e1 (by simp; omega)
  have e3 := xr_step (p ++ [a0 ^^^ maskB m 0] ++ [a1 ^^^ maskB m 1]) (a3 :: q) a2 b k m 2 e2 (by simp; omega)
  have e4 := xr_step (p ++ [a0 ^^^ maskB m 0] ++ [a1 ^^^ maskB m 1] ++ [a2 ^^^ maskB m 2]) q a3 b k m 3 e3 (by simp; omega)
  have e5 : xr b k m 4 = p ++ [a0 ^^^ maskB m 0, a1 ^^^ maskB m 1, a2 ^^^ maskB m 2, a3 ^^^ maskB m 3] ++ q := by rw [e4]; simp
  have e6 : b = p ++ [a0, a1, a2, a3] ++ q := by rw [hb]; simp
  have hne : [a0 ^^^ maskB m 0, a1 ^^^ maskB m 1, a2 ^^^ maskB m 2, a3 ^^^ maskB m 3] ≠ [a0, a1, a2, a3] := by
    intro e
    simp only [List.cons.injEq, and_true] at e
    exact mask_ne hm h0 ⟨xor_same e.1, xor_same e.2.1, xor_same e.2.2.1, xor_same e.2.2.2⟩
  rw [e5]
  conv => rhs; rw [e6]
  exact sum_four p _ _ q rfl rfl hne
theorem Bs.prefix {w : World} {A : Option Addr} {n C : Nat} {l : List UInt8} (h : Bs w (.slice A n C) l) (k : Nat) (hk : k ≤ l.length) (hp : 0 < l.length) : ∃ b o, A = some ⟨b, o, none⟩ ∧ l.length ≤ C ∧ Bs w (.slice (some ⟨b, o, none⟩) k C) (l.take k) := by
  rcases h with ⟨_, rfl⟩ | ⟨_, _, _, rfl⟩ | ⟨_, b, o, c, he, h1, h2, h3⟩
  · simp at hp
  · simp at hp
  · cases he
    exact ⟨b, o, rfl, h1, Bs.head h3 h2 k hk (by omega)⟩
theorem same_yes {x y : Value} {l : List UInt8} {w : World} (hA : Bs w x l) (hB : Bs w y l) (hm : l.length ≤ 140737488355328) :
    Calls Try.prog 10 #[x, y] w fun e w' => e = .returned (.bool true) ∧ ∃ q, w' = w.drewN q := by
  have := same_any hA hB hm
  rwa [decide_eq_true rfl] at this
set_option maxRecDepth 100000 in
theorem turned_big {w : World} {A B : Option Addr} {n m c d : Nat} {x z : Value} (h : 2000 < n ∨ 2000 < m) : Calls Try.prog 6 #[.slice A n c, x, .slice B m d, z] w fun e w' => e = .returned (.bool true) ∧ Below w.heap.size w w' := by
  rcases h with h | h
  · have h' : (2000 : Int) < n := by omega
    go_enter Try.func6, Try.ntmps6
    go_wp2_with fail
    refine (awake_any w).mono ?_
    rintro e w1 ⟨rfl, hB1⟩
    go_wp2
    go_ret
    exact ⟨rfl, hB1⟩
  · have h' : (2000 : Int) < m := by omega
    by_cases hn : 2000 < n
    · have hn' : (2000 : Int) < n := by omega
      go_enter Try.func6, Try.ntmps6
      go_wp2_with fail
      refine (awake_any w).mono ?_
      rintro e w1 ⟨rfl, hB1⟩
      go_wp2
      go_ret
      exact ⟨rfl, hB1⟩
    · have hn' : ¬ (2000 : Int) < n := by omega
      go_enter Try.func6, Try.ntmps6
      go_wp2_with fail
      refine (awake_any w).mono ?_
      rintro e w1 ⟨rfl, hB1⟩
      go_wp2
      go_ret
      exact ⟨rfl, hB1⟩
/- What the frame of some bytes is good for. -/
structure Framed (b M F : List UInt8) : Prop where
  len : F.length = 8 + b.length
  back : unframe (F ++ M) = some b
  cut : ∀ k, k < F.length → unframe (F.take k) = none
  turn : ∀ k (hk : k < F.length) (v : UInt8), 4 ≤ k → v ≠ F[k]'hk → unframe (F.set k v) = none
theorem framed (b M : List UInt8) (hb : b.length ≤ 1048576) : Framed b M (frameOf b) :=
  ⟨frameOf_len b, unframe_frame b M hb, fun k hk => unframe_cut b hb k hk, fun k hk v h4 hv => unframe_turn b hb k hk h4 v hv⟩
set_option maxRecDepth 100000 in
set_option maxHeartbeats 4000000 in
theorem turned_small {w : World} {x y : Value} {b M : List UInt8} {at_ : Int} {mask : Nat} (hx : Bs w x b) (hy : Bs w y M) (hb : b.length ≤ 2000) (hM : M.length ≤ 2000) (hat : -9223372036854775808 ≤ at_ ∧ at_ < 9223372036854775808) (hmask : mask < 4294967296) :
    Calls Try.prog 6 #[x, .int .i64 at_, y, .int .u32 mask] w fun e w' => e = .returned (.bool true) ∧ Below w.heap.size w w' := by
  have HX : Hid (Bs w x b) := hx
  have HM : Hid (Bs w y M) := hy
  obtain ⟨AX, CX, rfl⟩ := bs_form hx
  obtain ⟨AM, CM, rfl⟩ := bs_form hy
  clear hx hy
  have hb' : ¬ (2000 : Int) < b.length := by omega
  have hM' : ¬ (2000 : Int) < M.length := by omega
  have HF : Hid (Framed b M (frameOf b)) := framed b M (by omega)
  have hfr : ∀ (w1 : World), Bs w1 (.slice AX b.length CX) b → Calls Try.prog 32 #[.slice AX b.length CX] w1 fun e w' => ∃ v, e = .returned (.tuple #[v, .int .i64 0]) ∧ New w1 w' v (frameOf b) := fun w1 h => frame_any h (by omega)
  have HFR : Hid (∀ (w1 : World), Bs w1 (.slice AX b.length CX) b → Calls Try.prog 32 #[.slice AX b.length CX] w1 fun e w' => ∃ v, e = .returned (.tuple #[v, .int .i64 0]) ∧ New w1 w' v (frameOf b)) := hfr
  clear hfr
  generalize frameOf b = F at HF HFR
  have hFl : F.length ≤ 2008 := by have := HF.out.len; omega
  have hFp : 0 < F.length := by have := HF.out.len; omega
  go_enter Try.func6, Try.ntmps6
  go_wp2_with fail
  refine (awake_any w).mono ?_
  rintro e w1 ⟨rfl, hB1⟩
  go_wp2_with fail
  have h2 := HFR.out w1 (HX.out.below hB1 (fun k hk => HX.out.lt hk))
  refine h2.mono ?_
  clear h2
  rintro e w2 ⟨v2, rfl, hn2⟩
  have hB2 := hB1.trans (hn2.below.mono hB1.size)
  have H2 : Hid (Bs w2 v2 F) := hn2.bs
  obtain ⟨A2, C2, rfl⟩ := bs_form hn2.bs
  clear hn2
  go_wp2_with fail
  have h3 := copy_any H2.out (by omega)
  refine h3.mono ?_
  clear h3
  rintro e w3 ⟨v3, rfl, hn3⟩
  have hB3 := hB2.trans (hn3.below.mono hB2.size)
  have HO3 : Hid (w3.ownsRow w2.heap.size 5 1 v3 F.length (bv F)) := hn3.owns
  have HM3 : Hid (Bs w3 (.slice AM M.length CM) M) := HM.out.below hB3 (fun k hk => HM.out.lt hk)
  have H2' : Hid (Bs w3 (.slice A2 F.length C2) F) := H2.out.below hn3.below (fun k hk => H2.out.lt hk)
  have hle3 : w2.heap.size ≤ w3.heap.size := hn3.below.size
  obtain ⟨A3, C3, rfl⟩ := bs_form hn3.bs
  have hq4 : F.length + M.length ≤ 140737488355328 := by omega
  clear hn3
  go_wp2_with (at_builtin; refine wpList_app rfl (.tmp 41) (.tmp 42) rfl (.slice A3 F.length C3) (.slice AM M.length CM) rfl rfl HO3.out HM3.out hle3 hq4 ?_; intro A4 C4 w4 ho4 hg4 hat4 _; (have HO4 : Hid (w4.ownsRow w2.heap.size 5 1 (.slice A4 (F.length + M.length) C4) (F.length + M.length) (bv (F ++ M))) := ho4); clear ho4)
  have hc34 : Chg (fun k => blk (.slice A3 F.length C3) = some k) w3 w4 := Chg.of_grown hg4
  have hB4 : Below w.heap.size w w4 := hB3.grown hg4 hB3.size (fun k hk => by have := (HO3.out.lt k hk).1; have := hB2.size; omega)
  have H24 : Hid (Bs w4 (.slice A2 F.length C2) F) := H2'.out.keep hc34 (fun k hk e => by have := (HO3.out.lt k e).1; have := H2.out.lt hk; omega)
  have HX4 : Hid (Bs w4 (.slice AX b.length CX) b) := HX.out.below hB4 (fun k hk => HX.out.lt hk)
  have hq5 : (F ++ M).length ≤ 140737488355328 := by rw [List.length_append]; exact hq4
  have h5 := unframe_any (Bs.of_owns HO4.out) hq5
  rw [HF.out.back] at h5
  refine h5.mono ?_
  clear h5 hq5
  rintro e w5 ⟨v5, w5a, rfl, hn5, hB5, _⟩
  have hB5' := hB4.trans (hB5.mono hB4.size)
  have H5 : Hid (Bs w5 v5 b) := hn5.bs
  have HX5 : Hid (Bs w5 (.slice AX b.length CX) b) := HX4.out.below hB5 (fun k hk => HX4.out.lt hk)
  have H25 : Hid (Bs w5 (.slice A2 F.length C2) F) := H24.out.below hB5 (fun k hk => H24.out.lt hk)
  obtain ⟨A5, C5, rfl⟩ := bs_form hn5.bs
  clear hn5 H24 HX4 H2' HM3 HO3 HO4 hat4 hg4 hc34
  have hlen : ((8 + (b.length : Int)) != (F.length : Int)) = false := by have := HF.out.len; simp; omega
  go_wp2_with fail
  have h6 := same_yes H5.out HX5.out (by omega)
  refine h6.mono ?_
  clear h6 hlen
  rintro e w6 ⟨rfl, n6, hw6⟩
  have hB6 : Below w.heap.size w w6 := by rw [hw6]; exact below_drewN hB5' n6
  have HX6 : Hid (Bs w6 (.slice AX b.length CX) b) := by rw [hw6]; exact HX5.out.drewN n6
  have H26 : Hid (Bs w6 (.slice A2 F.length C2) F) := by rw [hw6]; exact H25.out.drewN n6
  clear hw6 HX5 H25 H5
  go_wp2_with fail
  have hp7 := pick_any at_ (8 * (F.length : Int)) hat.1 hat.2 (by omega) (by omega)
  have hm1 := Int.emod_nonneg at_ (show (8 * (F.length : Int)) ≠ 0 by omega)
  have hm2 := Int.emod_lt_of_pos at_ (show (0 : Int) < 8 * (F.length : Int) by omega)
  generalize at_ % (8 * (F.length : Int)) = at1 at hp7 hm1 hm2
  obtain ⟨m, rfl⟩ := Int.eq_ofNat_of_zero_le hm1
  obtain ⟨k, hk⟩ : ∃ k, k = m / 8 := ⟨_, rfl⟩
  obtain ⟨j, hj⟩ : ∃ j, j = m % 8 := ⟨_, rfl⟩
  have hkF : k < F.length := by omega
  have hj8 : j < 8 := by omega
  have hdiv : (m : Int) / 8 = (k : Int) := by omega
  have hmod : (m : Int) % 8 = (j : Int) := by omega
  have HMK : Hid (m = 8 * k + j) := by show m = 8 * k + j; omega
  clear hk hj
  refine (hp7 _).mono ?_
  clear hp7
  rintro e w7 ⟨rfl, rfl⟩
  go_wp2_with fail
  have h8 := copy_any H26.out (by omega)
  refine h8.mono ?_
  clear h8
  rintro e w8 ⟨v8, rfl, hn8⟩
  have hB8 := hB6.trans (hn8.below.mono hB6.size)
  have HO8 : Hid (w8.ownsRow w7.heap.size 5 1 v8 F.length (bv F)) := hn8.owns
  have H28 : Hid (Bs w8 (.slice A2 F.length C2) F) := H26.out.below hn8.below (fun k hk => H26.out.lt hk)
  have HX8 : Hid (Bs w8 (.slice AX b.length CX) b) := HX6.out.below hn8.below (fun k hk => HX6.out.lt hk)
  obtain ⟨g8, C8, rfl, hg8, hg8', hC8, hcell, hfroz⟩ := own_at hn8.owns k hkF
  clear hn8
  go_wp2_with fail
  have hfb := flip_bits (F[k]'hkF) j hj8
  rw [hfb]
  clear hfb hcell hfroz
  have hset := own_set HO8.out k (flip (F[k]'hkF) j)
  have HO9 : Hid ((w8.setCell ⟨g8, k, none⟩ (.int .u8 ((flip (F[k]'hkF) j).toNat : Int))).ownsRow w7.heap.size 5 1 (.slice (some ⟨g8, 0, none⟩) F.length C8) F.length (bv (F.set k (flip (F[k]'hkF) j)))) := hset.1
  have hB9 : Below w.heap.size w (w8.setCell ⟨g8, k, none⟩ (.int .u8 ((flip (F[k]'hkF) j).toNat : Int))) := hB8.trans (hset.2.below (fun i e => by have : i = g8 := e; have := hB6.size; omega) hB8.size)
  have H29 : Hid (Bs (w8.setCell ⟨g8, k, none⟩ (.int .u8 ((flip (F[k]'hkF) j).toNat : Int))) (.slice A2 F.length C2) F) := H28.out.keep hset.2 (fun i hi e => by have := H26.out.lt hi; have : i = g8 := e; omega)
  have HX9 : Hid (Bs (w8.setCell ⟨g8, k, none⟩ (.int .u8 ((flip (F[k]'hkF) j).toNat : Int))) (.slice AX b.length CX) b) := HX8.out.keep hset.2 (fun i hi e => by have := HX6.out.lt hi; have : i = g8 := e; omega)
  have HU : Hid (32 ≤ m → unframe (F.set k (flip (F[k]'hkF) j)) = none) := fun h32 => HF.out.turn k hkF _ (by have := HMK.out; omega) (flip_ne _ _ hj8)
  have HT : Hid (unframe (F.take k) = none) := HF.out.cut k hkF
  clear hset HO8 H28 HX8 H26 HX6
  generalize hw9 : w8.setCell ⟨g8, k, none⟩ (.int .u8 ((flip (F[k]'hkF) j).toNat : Int)) = w9 at HO9 hB9 H29 HX9
  clear hw9
  have hlc : (F.set k (flip (F[k]'hkF) j)).length ≤ 140737488355328 := by rw [List.length_set]; omega
  have h10 := unframe_any (Bs.of_owns HO9.out) hlc
  have HLS : Hid ((F.set k (flip (F[k]'hkF) j)).length = F.length) := List.length_set
  obtain ⟨bb, oo, rfl, hLC, hpre⟩ := H29.out.prefix k (by omega) hFp
  have HP : Hid (∀ w', Below w9.heap.size w9 w' → Bs w' (.slice (some ⟨bb, oo, none⟩) k C2) (F.take k)) := fun w' h => hpre.below h (fun i hi => hpre.lt hi)
  have hkC : k ≤ C2 := by omega
  have htl : (F.take k).length ≤ 140737488355328 := by rw [List.length_take]; omega
  clear hlc hpre
  generalize F.set k (flip (F[k]'hkF) j) = G at h10 HU HLS HO9
  have hcase : b.length < 4 ∨ (¬ b.length < 4 ∧ mask = 0) ∨ (¬ b.length < 4 ∧ 0 < mask) := by omega
  rcases hcase with h4 | ⟨h4, h0⟩ | ⟨h4, h0⟩
  · have h4' : (b.length : Int) < 4 := by omega
    clear h4
    cases hu : unframe G with
    | none =>
      rw [hu] at h10
      refine h10.mono ?_
      clear h10
      rintro e w10 ⟨rfl, hB10⟩
      have hB10' := hB9.trans (hB10.mono hB9.size)
      have HX10 : Hid (Bs w10 (.slice AX b.length CX) b) := HX9.out.below hB10 (fun k hk => HX9.out.lt hk)
      clear hu
      go_wp2_with fail
      have h11 := unframe_any (HP.out w10 hB10) htl
      rw [HT.out] at h11
      refine h11.mono ?_
      clear h11
      rintro e w11 ⟨rfl, hB11⟩
      have hB11' := hB10'.trans (hB11.mono hB10'.size)
      have HX11 : Hid (Bs w11 (.slice AX b.length CX) b) := HX10.out.below hB11 (fun k hk => HX10.out.lt hk)
      clear HX10 HX9 H29 HP HO9
      go_wp2
      go_ret
      exact ⟨rfl, hB11'⟩
    | some hd =>
      rw [hu] at h10
      have hm32 : ¬ (32 : Int) ≤ (m : Int) := fun h => by have := HU.out (by omega); rw [this] at hu; cases hu
      have hsz : ¬ ((F.length : Int) < 8 + (hd.length : Int)) := by have h1 := (unframe_some hu).2.1; have h2 := HLS.out; omega
      refine h10.mono ?_
      clear h10
      rintro e w10 ⟨v10, w10a, rfl, hn10, hB10, _⟩
      have hB10' := hB9.trans (hB10.mono hB9.size)
      have HX10 : Hid (Bs w10 (.slice AX b.length CX) b) := HX9.out.below hB10 (fun k hk => HX9.out.lt hk)
      obtain ⟨A10, C10, rfl⟩ := bs_form hn10.bs
      clear hu hn10
      go_wp2_with fail
      have h11 := unframe_any (HP.out w10 hB10) htl
      rw [HT.out] at h11
      refine h11.mono ?_
      clear h11
      rintro e w11 ⟨rfl, hB11⟩
      have hB11' := hB10'.trans (hB11.mono hB10'.size)
      have HX11 : Hid (Bs w11 (.slice AX b.length CX) b) := HX10.out.below hB11 (fun k hk => HX10.out.lt hk)
      clear HX10 HX9 H29 HP HO9
      go_wp2
      go_ret
      exact ⟨rfl, hB11'⟩
  · have h4' : ¬ (b.length : Int) < 4 := by omega
    clear h4
    subst h0
    cases hu : unframe G with
    | none =>
      rw [hu] at h10
      refine h10.mono ?_
      clear h10
      rintro e w10 ⟨rfl, hB10⟩
      have hB10' := hB9.trans (hB10.mono hB9.size)
      have HX10 : Hid (Bs w10 (.slice AX b.length CX) b) := HX9.out.below hB10 (fun k hk => HX9.out.lt hk)
      clear hu
      go_wp2_with fail
      have h11 := unframe_any (HP.out w10 hB10) htl
      rw [HT.out] at h11
      refine h11.mono ?_
      clear h11
      rintro e w11 ⟨rfl, hB11⟩
      have hB11' := hB10'.trans (hB11.mono hB10'.size)
      have HX11 : Hid (Bs w11 (.slice AX b.length CX) b) := HX10.out.below hB11 (fun k hk => HX10.out.lt hk)
      clear HX10 HX9 H29 HP HO9
      go_wp2
      go_ret
      exact ⟨rfl, hB11'⟩
    | some hd =>
      rw [hu] at h10
      have hm32 : ¬ (32 : Int) ≤ (m : Int) := fun h => by have := HU.out (by omega); rw [this] at hu; cases hu
      have hsz : ¬ ((F.length : Int) < 8 + (hd.length : Int)) := by have h1 := (unframe_some hu).2.1; have h2 := HLS.out; omega
      refine h10.mono ?_
      clear h10
      rintro e w10 ⟨v10, w10a, rfl, hn10, hB10, _⟩
      have hB10' := hB9.trans (hB10.mono hB9.size)
      have HX10 : Hid (Bs w10 (.slice AX b.length CX) b) := HX9.out.below hB10 (fun k hk => HX9.out.lt hk)
      obtain ⟨A10, C10, rfl⟩ := bs_form hn10.bs
      clear hu hn10
      go_wp2_with fail
      have h11 := unframe_any (HP.out w10 hB10) htl
      rw [HT.out] at h11
      refine h11.mono ?_
      clear h11
      rintro e w11 ⟨rfl, hB11⟩
      have hB11' := hB10'.trans (hB11.mono hB10'.size)
      have HX11 : Hid (Bs w11 (.slice AX b.length CX) b) := HX10.out.below hB11 (fun k hk => HX10.out.lt hk)
      clear HX10 HX9 H29 HP HO9
      go_wp2
      go_ret
      exact ⟨rfl, hB11'⟩
  · have h4' : ¬ (b.length : Int) < 4 := by omega
    have h0' : ((mask : Int) == 0) = false := by simp; omega
    cases hu : unframe G with
    | none =>
      rw [hu] at h10
      refine h10.mono ?_
      clear h10
      rintro e w10 ⟨rfl, hB10⟩
      have hB10' := hB9.trans (hB10.mono hB9.size)
      have HX10 : Hid (Bs w10 (.slice AX b.length CX) b) := HX9.out.below hB10 (fun k hk => HX9.out.lt hk)
      clear hu
      go_wp2_with fail
      have h11 := unframe_any (HP.out w10 hB10) htl
      rw [HT.out] at h11
      refine h11.mono ?_
      clear h11
      rintro e w11 ⟨rfl, hB11⟩
      have hB11' := hB10'.trans (hB11.mono hB10'.size)
      have HX11 : Hid (Bs w11 (.slice AX b.length CX) b) := HX10.out.below hB11 (fun k hk => HX10.out.lt hk)
      clear HX10 HX9 H29 HP HO9
      go_wp2_with fail
      have hp12 := pick_any (m : Int) ((b.length : Int) - 3) (by omega) (by omega) (by omega) (by omega)
      have hm3 := Int.emod_nonneg (m : Int) (show ((b.length : Int) - 3) ≠ 0 by omega)
      have hm4 := Int.emod_lt_of_pos (m : Int) (show (0 : Int) < (b.length : Int) - 3 by omega)
      generalize (m : Int) % ((b.length : Int) - 3) = k1 at hp12 hm3 hm4
      obtain ⟨k2, rfl⟩ := Int.eq_ofNat_of_zero_le hm3
      refine (hp12 _).mono ?_
      clear hp12
      rintro e w12 ⟨rfl, rfl⟩
      go_wp2_with fail
      have h13 := copy_any HX11.out (by omega)
      refine h13.mono ?_
      clear h13
      rintro e w13 ⟨v13, rfl, hn13⟩
      have hB13 := hB11'.trans (hn13.below.mono hB11'.size)
      have HX13 : Hid (Bs w13 (.slice AX b.length CX) b) := HX11.out.below hn13.below (fun k hk => HX11.out.lt hk)
      have HO13 : Hid (w13.ownsRow w12.heap.size 5 1 v13 b.length (bv b)) := hn13.owns
      obtain ⟨g13, C13, rfl, hg13, hg13', hC13, -, -⟩ := own_at hn13.owns k2 (by omega)
      have hXlt : ∀ i, bk (.slice AX b.length CX) = some i → i < w12.heap.size := fun i hi => HX11.out.lt hi
      have HXlt : Hid (∀ i, bk (.slice AX b.length CX) = some i → i < w12.heap.size) := hXlt
      have hle12 : w.heap.size ≤ w12.heap.size := hB11'.size
      clear hn13 hXlt
      go_wp2_with fail
      go_loopw [23] (fun i wr => ∃ t : Nat, i = .int .i64 t ∧ t ≤ 4 ∧ wr.ownsRow w12.heap.size 5 1 (.slice (some ⟨g13, 0, none⟩) b.length C13) b.length (bv (xr b k2 mask t)) ∧ Below w.heap.size w wr ∧ Bs wr (.slice AX b.length CX) b) (fun i _ => 4 - (intOf i).toNat)
      case atStart => exact ⟨0, rfl, by omega, HO13.out, hB13, HX13.out⟩
      case round =>
        obtain ⟨t, rfl, ht, ho, hB, hX⟩ := hrel
        have HO : Hid (wr.ownsRow w12.heap.size 5 1 (.slice (some ⟨g13, 0, none⟩) b.length C13) b.length (bv (xr b k2 mask t))) := ho
        have HB : Hid (Below w.heap.size w wr) := hB
        have HXr : Hid (Bs wr (.slice AX b.length CX) b) := hX
        clear ho hB hX
        by_cases ht4 : t < 4
        · have hlx : k2 + t < (xr b k2 mask t).length := by rw [xr_len]; omega
          obtain ⟨g', C', he, -, -, -, hcell, hfroz⟩ := own_at HO.out (k2 + t) hlx
          cases he
          have hgd : (xr b k2 mask t)[k2 + t]'hlx = (xr b k2 mask t).getD (k2 + t) 0 := by rw [List.getD_eq_getElem?_getD, List.getElem?_eq_getElem hlx]; rfl
          rw [hgd] at hcell
          clear hgd hlx
          generalize hz : (xr b k2 mask t).getD (k2 + t) 0 = z at hcell
          have HZ : Hid ((xr b k2 mask t).getD (k2 + t) 0 = z) := hz
          clear hz
          go_wp2_with fail
          rw [mask_bits]
          have hs := own_set HO.out (k2 + t) (z ^^^ maskB mask t)
          refine ⟨⟨t + 1, by go_num, by omega, ?_, ?_, ?_⟩, by simp [intOf]; omega⟩
          · have := hs.1
            rw [xr, HZ.out]
            exact this
          · exact HB.out.trans (hs.2.below (fun i e => by have : i = g13 := e; omega) HB.out.size)
          · exact HXr.out.keep hs.2 (fun i hi e => by have := HXlt.out i hi; have : i = g13 := e; omega)
        · have h44 : t = 4 := by omega
          subst h44
          go_wp2_with fail
          refine (sum_any (Bs.of_owns HO.out) (by rw [xr_len]; omega)).mono ?_
          rintro e w14 ⟨rfl, rfl⟩
          go_wp2_with fail
          refine (sum_any HXr.out (by omega)).mono ?_
          rintro e w15 ⟨rfl, rfl⟩
          have hne : (((sumOf (xr b k2 mask 4) : Nat) : Int) != ((sumOf b : Nat) : Int)) = true := by
            have := xr_sum (b := b) (k := k2) (m := mask) (by omega) hmask (by omega)
            simp; omega
          go_wp2
          go_ret
          exact ⟨rfl, HB.out⟩
    | some hd =>
      rw [hu] at h10
      have hm32 : ¬ (32 : Int) ≤ (m : Int) := fun h => by have := HU.out (by omega); rw [this] at hu; cases hu
      have hsz : ¬ ((F.length : Int) < 8 + (hd.length : Int)) := by have h1 := (unframe_some hu).2.1; have h2 := HLS.out; omega
      refine h10.mono ?_
      clear h10
      rintro e w10 ⟨v10, w10a, rfl, hn10, hB10, _⟩
      have hB10' := hB9.trans (hB10.mono hB9.size)
      have HX10 : Hid (Bs w10 (.slice AX b.length CX) b) := HX9.out.below hB10 (fun k hk => HX9.out.lt hk)
      obtain ⟨A10, C10, rfl⟩ := bs_form hn10.bs
      clear hu hn10
      go_wp2_with fail
      have h11 := unframe_any (HP.out w10 hB10) htl
      rw [HT.out] at h11
      refine h11.mono ?_
      clear h11
      rintro e w11 ⟨rfl, hB11⟩
      have hB11' := hB10'.trans (hB11.mono hB10'.size)
      have HX11 : Hid (Bs w11 (.slice AX b.length CX) b) := HX10.out.below hB11 (fun k hk => HX10.out.lt hk)
      clear HX10 HX9 H29 HP HO9
      go_wp2_with fail
      have hp12 := pick_any (m : Int) ((b.length : Int) - 3) (by omega) (by omega) (by omega) (by omega)
      have hm3 := Int.emod_nonneg (m : Int) (show ((b.length : Int) - 3) ≠ 0 by omega)
      have hm4 := Int.emod_lt_of_pos (m : Int) (show (0 : Int) < (b.length : Int) - 3 by omega)
      generalize (m : Int) % ((b.length : Int) - 3) = k1 at hp12 hm3 hm4
      obtain ⟨k2, rfl⟩ := Int.eq_ofNat_of_zero_le hm3
      refine (hp12 _).mono ?_
      clear hp12
      rintro e w12 ⟨rfl, rfl⟩
      go_wp2_with fail
      have h13 := copy_any HX11.out (by omega)
      refine h13.mono ?_
      clear h13
      rintro e w13 ⟨v13, rfl, hn13⟩
      have hB13 := hB11'.trans (hn13.below.mono hB11'.size)
      have HX13 : Hid (Bs w13 (.slice AX b.length CX) b) := HX11.out.below hn13.below (fun k hk => HX11.out.lt hk)
      have HO13 : Hid (w13.ownsRow w12.heap.size 5 1 v13 b.length (bv b)) := hn13.owns
      obtain ⟨g13, C13, rfl, hg13, hg13', hC13, -, -⟩ := own_at hn13.owns k2 (by omega)
      have hXlt : ∀ i, bk (.slice AX b.length CX) = some i → i < w12.heap.size := fun i hi => HX11.out.lt hi
      have HXlt : Hid (∀ i, bk (.slice AX b.length CX) = some i → i < w12.heap.size) := hXlt
      have hle12 : w.heap.size ≤ w12.heap.size := hB11'.size
      clear hn13 hXlt
      go_wp2_with fail
      go_loopw [23] (fun i wr => ∃ t : Nat, i = .int .i64 t ∧ t ≤ 4 ∧ wr.ownsRow w12.heap.size 5 1 (.slice (some ⟨g13, 0, none⟩) b.length C13) b.length (bv (xr b k2 mask t)) ∧ Below w.heap.size w wr ∧ Bs wr (.slice AX b.length CX) b) (fun i _ => 4 - (intOf i).toNat)
      case atStart => exact ⟨0, rfl, by omega, HO13.out, hB13, HX13.out⟩
      case round =>
        obtain ⟨t, rfl, ht, ho, hB, hX⟩ := hrel
        have HO : Hid (wr.ownsRow w12.heap.size 5 1 (.slice (some ⟨g13, 0, none⟩) b.length C13) b.length (bv (xr b k2 mask t))) := ho
        have HB : Hid (Below w.heap.size w wr) := hB
        have HXr : Hid (Bs wr (.slice AX b.length CX) b) := hX
        clear ho hB hX
        by_cases ht4 : t < 4
        · have hlx : k2 + t < (xr b k2 mask t).length := by rw [xr_len]; omega
          obtain ⟨g', C', he, -, -, -, hcell, hfroz⟩ := own_at HO.out (k2 + t) hlx
          cases he
          have hgd : (xr b k2 mask t)[k2 + t]'hlx = (xr b k2 mask t).getD (k2 + t) 0 := by rw [List.getD_eq_getElem?_getD, List.getElem?_eq_getElem hlx]; rfl
          rw [hgd] at hcell
          clear hgd hlx
          generalize hz : (xr b k2 mask t).getD (k2 + t) 0 = z at hcell
          have HZ : Hid ((xr b k2 mask t).getD (k2 + t) 0 = z) := hz
          clear hz
          go_wp2_with fail
          rw [mask_bits]
          have hs := own_set HO.out (k2 + t) (z ^^^ maskB mask t)
          refine ⟨⟨t + 1, by go_num, by omega, ?_, ?_, ?_⟩, by simp [intOf]; omega⟩
          · have := hs.1
            rw [xr, HZ.out]
            exact this
          · exact HB.out.trans (hs.2.below (fun i e => by have : i = g13 := e; omega) HB.out.size)
          · exact HXr.out.keep hs.2 (fun i hi e => by have := HXlt.out i hi; have : i = g13 := e; omega)
        · have h44 : t = 4 := by omega
          subst h44
          go_wp2_with fail
          refine (sum_any (Bs.of_owns HO.out) (by rw [xr_len]; omega)).mono ?_
          rintro e w14 ⟨rfl, rfl⟩
          go_wp2_with fail
          refine (sum_any HXr.out (by omega)).mono ?_
          rintro e w15 ⟨rfl, rfl⟩
          have hne : (((sumOf (xr b k2 mask 4) : Nat) : Int) != ((sumOf b : Nat) : Int)) = true := by
            have := xr_sum (b := b) (k := k2) (m := mask) (by omega) hmask (by omega)
            simp; omega
          go_wp2
          go_ret
          exact ⟨rfl, HB.out⟩
theorem turned_any {w : World} {x y : Value} {b M : List UInt8} {at_ : Int} {mask : Nat} (hx : Bs w x b) (hy : Bs w y M) (hat : -9223372036854775808 ≤ at_ ∧ at_ < 9223372036854775808) (hmask : mask < 4294967296) :
    Calls Try.prog 6 #[x, .int .i64 at_, y, .int .u32 mask] w fun e w' => e = .returned (.bool true) ∧ Below w.heap.size w w' := by
  by_cases h : b.length ≤ 2000 ∧ M.length ≤ 2000
  · exact turned_small hx hy h.1 h.2 hat hmask
  · obtain ⟨A, C, rfl⟩ := bs_form hx
    obtain ⟨A2, C2, rfl⟩ := bs_form hy
    exact turned_big (by omega)
theorem turned_law {w : World} {x y : Value} {b M : List UInt8} {at_ n : Int} (hx : Bs w x b) (hat : (Lit.int .i64 at_).wf = true) (hy : Bs w y M) (hn : (Lit.int .u32 n).wf = true) :
    Calls Try.prog 6 #[x, .int .i64 at_, y, .int .u32 n] w fun e w' => e = .returned (.bool true) ∧ Below w.heap.size w w' := by
  have h1 : -9223372036854775808 ≤ at_ ∧ at_ ≤ 9223372036854775807 := by simpa [Lit.wf, IntKind.min, IntKind.max, IntKind.signed, IntKind.bits] using hat
  have h2 : 0 ≤ n ∧ n ≤ 4294967295 := by simpa [Lit.wf, IntKind.min, IntKind.max, IntKind.signed, IntKind.bits] using hn
  obtain ⟨m, rfl⟩ := Int.eq_ofNat_of_zero_le h2.1
  exact turned_any hx hy ⟨h1.1, by omega⟩ (by omega)
end Go.Proofs.Ytchmkginkmldoaa
