/- The walks of a config's bytes: put and got. -/
import Derived.Deep.AppendLies
import Derived.Deep.RegionLaw
import Derived.Test.YtaeoafedfgbcaaaGreatDoorBase
import Derived.Test.YtaeoafedfgbcaaaGreatDoorEnsB
import Derived.Test.YtaeoafedfgbcaaaGreatDoorWalksS
namespace Go.Proofs.YtaeoafedfgbcaaaGreatDoor
open Go.RowKit

theorem memsB_snoc : ∀ (a : List Mem) (m : Mem), memsB (a ++ [m]) = memsB a ++ memB m
  | [], m => by simp [memsB]
  | x :: a, m => by rw [List.cons_append, memsB, memsB_snoc a m, memsB, List.append_assoc]
theorem numB_len (n : Int) (h1 : -9223372036854775808 ≤ n) (h2 : n < 9223372036854775808) : (numB n).length ≤ 10 := by
  have := dec_num n h1 h2 []
  rw [List.append_nil] at this
  have := dec_some _ 0 _ _ (by omega) this
  omega
theorem memsB_len : ∀ (l : List Mem), (∀ m ∈ l, fitRole m = true ∧ 0 < m.id ∧ m.id ≤ 7) → (memsB l).length ≤ 40 * l.length
  | [], _ => by simp [memsB]
  | m :: l, h => by
    have h1 := memsB_len l (fun x hx => h x (List.mem_cons_of_mem _ hx))
    have h2 := h m List.mem_cons_self
    have hr := fitRole_weight h2.1
    have hro : 0 ≤ m.role ∧ m.role ≤ 2 := by rcases hr.2.2.2.2.2 with h | h <;> omega
    have b1 := numB_len m.id (by omega) (by omega)
    have b2 := numB_len m.role (by omega) (by omega)
    have b3 := numB_len m.weight (by omega) (by omega)
    have b4 := numB_len m.group (by omega) (by omega)
    rw [memsB, List.length_append, List.length_cons, memB]
    simp only [List.length_append]
    omega
theorem owns_base {w : World} {base base' n : Nat} {v : Value} {xs : List Value} (h : w.ownsRow base 5 1 v n xs) (hb : base' ≤ base) : w.ownsRow base' 5 1 v n xs := by
  refine ⟨h.1, ?_⟩
  rcases h.2 with h2 | ⟨g, cap, cur, hv, hg, h3⟩
  · exact .inl h2
  · exact .inr ⟨g, cap, cur, hv, Nat.le_trans hb hg, h3⟩
theorem New.over {w0 w w' : World} {v : Value} {l : List UInt8} (h : New w w' v l) (hb : Below w0.heap.size w0 w) : New w0 w' v l := ⟨owns_base h.owns hb.size, hb.trans (h.below.mono hb.size)⟩
theorem idx0 (w : World) (a b c d : Int) : (Instr.index 125 (.agg #[.int .i64 a, .int .i64 b, .int .i64 c, .int .i64 d]) (.int .i64 0)).run Tryz.prog w = .ok (.int .i64 a) w := by
  simp [Instr.index, run_underlying Tryz.underlying125, asIntOf, go_sem]
theorem idx1 (w : World) (a b c d : Int) : (Instr.index 125 (.agg #[.int .i64 a, .int .i64 b, .int .i64 c, .int .i64 d]) (.int .i64 1)).run Tryz.prog w = .ok (.int .i64 b) w := by
  simp [Instr.index, run_underlying Tryz.underlying125, asIntOf, go_sem]
theorem idx2 (w : World) (a b c d : Int) : (Instr.index 125 (.agg #[.int .i64 a, .int .i64 b, .int .i64 c, .int .i64 d]) (.int .i64 2)).run Tryz.prog w = .ok (.int .i64 c) w := by
  simp [Instr.index, run_underlying Tryz.underlying125, asIntOf, go_sem]
theorem idx3 (w : World) (a b c d : Int) : (Instr.index 125 (.agg #[.int .i64 a, .int .i64 b, .int .i64 c, .int .i64 d]) (.int .i64 3)).run Tryz.prog w = .ok (.int .i64 d) w := by
  simp [Instr.index, run_underlying Tryz.underlying125, asIntOf, go_sem]
theorem put_no {w : World} {v : Value} {l : List Mem} (h : Mems w v l) (ver : Int) (hc : chk ver l ≠ 0) :
    Calls Tryz.prog 78 #[.agg #[.int .i64 ver, v]] w fun e w' => e = .returned (.tuple #[.slice none 0 0, .int .i64 (chk ver l)]) ∧ Below w.heap.size w w' := by
  have HM : Hid (Mems w v l) := h
  obtain ⟨A, C, rfl⟩ := h.form
  clear h
  have hB1 : Below w.heap.size w (w.alloc (.cells #[.int .i64 ver, .slice A l.length C] 39)) := (Below.refl _ _).alloc (Nat.le_refl _) _
  have hck := check_any (HM.out.below' hB1) ver
  have hcb : (chk ver l != 0) = true := by simpa using hc
  clear hc
  generalize chk ver l = c at hck hcb
  have HCK : Hid (Calls Tryz.prog 81 #[.agg #[.int .i64 ver, .slice A l.length C]] (w.alloc (.cells #[.int .i64 ver, .slice A l.length C] 39)) fun e w' => e = .returned (.int .i64 c) ∧ Below (w.alloc (.cells #[.int .i64 ver, .slice A l.length C] 39)).heap.size (w.alloc (.cells #[.int .i64 ver, .slice A l.length C] 39)) w') := hck
  clear hck
  go_enter Tryz.func78, Tryz.ntmps78
  go_wp2_with fail
  refine HCK.out.mono ?_
  rintro e w2 ⟨rfl, hB2⟩
  go_wp2
  go_ret2
  exact ⟨rfl, hB1.trans (hB2.mono (by simp))⟩
set_option maxRecDepth 100000 in
set_option maxHeartbeats 4000000 in
theorem put_yes {w : World} {v : Value} {l : List Mem} (h : Mems w v l) (ver : Int) (hc : chk ver l = 0) :
    Calls Tryz.prog 78 #[.agg #[.int .i64 ver, v]] w fun e w' => ∃ x, e = .returned (.tuple #[x, .int .i64 0]) ∧ New w w' x (cfgB ver l) := by
  have HM : Hid (Mems w v l) := h
  obtain ⟨A, C, rfl⟩ := h.form
  clear h
  have hB1 : Below w.heap.size w (w.alloc (.cells #[.int .i64 ver, .slice A l.length C] 39)) := (Below.refl _ _).alloc (Nat.le_refl _) _
  have hck := check_any (HM.out.below' hB1) ver
  rw [hc] at hck
  obtain ⟨h7, hv1, hv2, hfa, -⟩ := chk_ok hc
  have hall : ∀ m ∈ l, fitRole m = true ∧ 0 < m.id ∧ m.id ≤ 7 := fun m hm => ⟨(fitAll_mem hfa m hm).1, (fitAll_mem hfa m hm).2⟩
  have HALL : Hid (∀ m ∈ l, fitRole m = true ∧ 0 < m.id ∧ m.id ≤ 7) := hall
  have HCK : Hid (Calls Tryz.prog 81 #[.agg #[.int .i64 ver, .slice A l.length C]] (w.alloc (.cells #[.int .i64 ver, .slice A l.length C] 39)) fun e w' => e = .returned (.int .i64 0) ∧ Below (w.alloc (.cells #[.int .i64 ver, .slice A l.length C] 39)).heap.size (w.alloc (.cells #[.int .i64 ver, .slice A l.length C] 39)) w') := hck
  have hb1 := numB_len ver (by omega) (by omega)
  have hb2 := numB_len (l.length : Int) (by omega) (by omega)
  have hv : (w.alloc (.cells #[.int .i64 ver, .slice A l.length C] 39)).cell? ⟨w.heap.size, 0, none⟩ = some (.int .i64 ver) ∧ (w.alloc (.cells #[.int .i64 ver, .slice A l.length C] 39)).cell? ⟨w.heap.size, 1, none⟩ = some (.slice A l.length C) := by
    have h1 := heap_alloc_new w (.cells #[.int .i64 ver, .slice A l.length C] 39)
    exact ⟨by rw [cell_at h1]; rfl, by rw [cell_at h1]; rfl⟩
  have HV : Hid ((w.alloc (.cells #[.int .i64 ver, .slice A l.length C] 39)).cell? ⟨w.heap.size, 0, none⟩ = some (.int .i64 ver) ∧ (w.alloc (.cells #[.int .i64 ver, .slice A l.length C] 39)).cell? ⟨w.heap.size, 1, none⟩ = some (.slice A l.length C)) := hv
  clear hck hc hfa hall hv
  go_enter Tryz.func78, Tryz.ntmps78
  go_wp2_with fail
  refine HCK.out.mono ?_
  rintro e w2 ⟨rfl, hB2⟩
  have hB2' : Below w.heap.size w w2 := hB1.trans (hB2.mono (by simp))
  have hs2 : w.heap.size < w2.heap.size := by have := hB2.size; simp at this; omega
  have HV2 : Hid (w2.cell? ⟨w.heap.size, 0, none⟩ = some (.int .i64 ver) ∧ w2.cell? ⟨w.heap.size, 1, none⟩ = some (.slice A l.length C)) := ⟨by rw [hB2.cell (p := ⟨w.heap.size, 0, none⟩) (by simp)]; exact HV.out.1, by rw [hB2.cell (p := ⟨w.heap.size, 1, none⟩) (by simp)]; exact HV.out.2⟩
  clear hB1 hB2 HV HCK
  go_wp2_with fail
  refine (newWriter_any w2 w2.heap.size (Nat.le_refl _)).mono ?_
  rintro e w3 ⟨rfl, hw3, hB3, -⟩
  have hB3' := hB2'.trans (hB3.mono hB2'.size)
  have hc30 : w3.cell? ⟨w.heap.size, 0, none⟩ = some (.int .i64 ver) := by rw [hB3.cell (p := ⟨w.heap.size, 0, none⟩) hs2]; exact HV2.out.1
  have hc31 : w3.cell? ⟨w.heap.size, 1, none⟩ = some (.slice A l.length C) := by rw [hB3.cell (p := ⟨w.heap.size, 1, none⟩) hs2]; exact HV2.out.2
  go_wp2_with fail
  have h4 := wInt_any hw3 ver (by omega) (by omega) (by simp; omega)
  refine h4.mono ?_
  clear h4
  rintro e w4 ⟨rfl, q4, hw4, hp4⟩
  have hB4 := hp4.far hw3 (Nat.le_refl _)
  have hB4' := hB3'.trans (hB4.mono hB2'.size)
  have hc41 : w4.cell? ⟨w.heap.size, 1, none⟩ = some (.slice A l.length C) := by rw [hB4.cell (p := ⟨w.heap.size, 1, none⟩) hs2]; exact hc31
  clear hc30
  go_wp2_with fail
  have h5 := wInt_any hw4 (l.length : Int) (by omega) (by omega) (by simp; omega)
  refine h5.mono ?_
  clear h5
  rintro e w5 ⟨rfl, q5, hw5, hp5⟩
  have hB5 := hp5.far hw4 (Nat.le_refl _)
  have hB5' := hB4'.trans (hB5.mono hB2'.size)
  have hc51 : w5.cell? ⟨w.heap.size, 1, none⟩ = some (.slice A l.length C) := by rw [hB5.cell (p := ⟨w.heap.size, 1, none⟩) hs2]; exact hc41
  have HW5 : Hid (WrAt w5 w2.heap.size w2.heap.size q5 ([] ++ numB ver ++ numB l.length)) := hw5
  clear hc41 hc31 hw5 hw4 hw3
  go_wp2_with fail
  go_loopw [28] (fun i wr => ∃ (k : Nat) (q : Option Nat), i = .int .i64 k ∧ k ≤ l.length ∧ WrAt wr w2.heap.size w2.heap.size q (numB ver ++ (numB l.length ++ memsB (l.take k))) ∧ Below w.heap.size w wr) (fun i _ => l.length - (intOf i).toNat)
  case atStart => exact ⟨0, q5, rfl, by omega, by simpa [memsB] using HW5.out, hB5'⟩
  case round =>
    obtain ⟨k, q, rfl, hk, hw, hB⟩ := hrel
    have HW : Hid (WrAt wr w2.heap.size w2.heap.size q (numB ver ++ (numB l.length ++ memsB (l.take k)))) := hw
    have HB : Hid (Below w.heap.size w wr) := hB
    have hln := memsB_len (l.take k) (fun m hm => HALL.out m (List.mem_of_mem_take hm))
    have hlk : (l.take k).length ≤ 7 := by rw [List.length_take]; omega
    have hltw := hw.lt
    clear hw hB hc51
    by_cases hlt : k < l.length
    · obtain ⟨b, o, rfl, hb, c0, c1, c2, c3⟩ := (HM.out.below' HB.out).at' k hlt
      have hx := HALL.out _ (List.getElem_mem hlt)
      have hr := fitRole_weight hx.1
      have HT : Hid (l.take (k + 1) = l.take k ++ [l[k]'hlt]) := take_snoc hlt
      generalize (l[k]'hlt) = m at c0 c1 c2 c3 HT hx hr
      obtain ⟨mi, mr, mw, mg⟩ := m
      dsimp only at c0 c1 c2 c3 hx hr
      have hro : 0 ≤ mr ∧ mr ≤ 2 := by rcases hr.2.2.2.2.2 with h | h <;> omega
      obtain ⟨-, hi1, hi2⟩ := hx
      obtain ⟨hw1, hw2, hg1, hg2, -, -⟩ := hr
      obtain ⟨hr1, hr2⟩ := hro
      have n1 := numB_len mi (by omega) (by omega)
      have n2 := numB_len mr (by omega) (by omega)
      have n3 := numB_len mw (by omega) (by omega)
      have n4 := numB_len mg (by omega) (by omega)
      have hx0 := fun w => idx0 w mi mr mw mg
      have hx1 := fun w => idx1 w mi mr mw mg
      have hx2 := fun w => idx2 w mi mr mw mg
      have hx3 := fun w => idx3 w mi mr mw mg
      go_wp2_with fail
      refine wp_loop_rounds 5 ?_
      rw [rounds_succ]
      go_wp2_with fail
      have h6 := wInt_any (HW.out.alloc (.cells #[.int .i64 mi, .int .u8 mr, .int .i64 mw, .int .i64 mg] 118)) mi (by omega) (by omega) (by simp only [List.length_append]; omega)
      refine h6.mono ?_
      clear h6
      rintro e w6 ⟨rfl, q6, hw6, hp6⟩
      have hB6 : Below w2.heap.size wr w6 := ((Below.refl _ _).alloc (Nat.le_of_lt hltw) _).trans (hp6.far (HW.out.alloc _) (Nat.le_refl _))
      go_wp2_with fail
      rw [rounds_succ]
      go_wp2_with fail
      have h7 := wInt_any hw6 mr (by omega) (by omega) (by simp only [List.length_append]; omega)
      refine h7.mono ?_
      clear h7
      rintro e w7 ⟨rfl, q7, hw7, hp7⟩
      have hB7 := hB6.trans (hp7.far hw6 (Nat.le_refl _))
      go_wp2_with fail
      rw [rounds_succ]
      go_wp2_with fail
      have h8 := wInt_any hw7 mw (by omega) (by omega) (by simp only [List.length_append]; omega)
      refine h8.mono ?_
      clear h8
      rintro e w8 ⟨rfl, q8, hw8, hp8⟩
      have hB8 := hB7.trans (hp8.far hw7 (Nat.le_refl _))
      go_wp2_with fail
      rw [rounds_succ]
      go_wp2_with fail
      have h9 := wInt_any hw8 mg (by omega) (by omega) (by simp only [List.length_append]; omega)
      refine h9.mono ?_
      clear h9
      rintro e w9 ⟨rfl, q9, hw9, hp9⟩
      have hB9 := hB8.trans (hp9.far hw8 (Nat.le_refl _))
      have hw9' : WrAt w9 w2.heap.size w2.heap.size q9 (numB ver ++ (numB l.length ++ memsB (l.take (k + 1)))) := by
        rw [HT.out, memsB_snoc]
        simpa [memB] using hw9
      have HW9 : Hid (WrAt w9 w2.heap.size w2.heap.size q9 (numB ver ++ (numB l.length ++ memsB (l.take (k + 1))))) := hw9'
      clear hw6 hw7 hw8 hw9 hw9'
      go_wp2_with fail
      rw [rounds_succ]
      go_wp2
      exact ⟨⟨k + 1, q9, by go_num, by omega, HW9.out, HB.out.trans (hB9.mono hB2'.size)⟩, by simp [intOf]; omega⟩
    · have hkk : k = l.length := by omega
      subst hkk
      rw [List.take_length] at HW hln
      go_wp2_with fail
      have h6 := wDone_any HW.out (by simp only [List.length_append]; omega)
      refine h6.mono ?_
      clear h6
      rintro e w6 ⟨v6, rfl, hn6⟩
      have HN6 : Hid (New w w6 v6 (cfgB ver l)) := hn6.over HB.out
      obtain ⟨A6, C6, rfl⟩ := bs_form hn6.bs
      clear hn6
      generalize (numB ver ++ (numB l.length ++ memsB l)).length = N6 at HN6
      go_wp2
      go_ret2
      exact ⟨_, rfl, HN6.out⟩
theorem rdCount_le (r : Rd) (m : Int) (hm : 0 ≤ m) : 0 ≤ (rdCount r m).1 ∧ (rdCount r m).1 ≤ m := by
  unfold rdCount
  split
  · exact ⟨Int.le_refl _, hm⟩
  · omega
set_option maxRecDepth 100000 in
theorem member_any {w : World} {g : Nat} {q : Option Nat} {r : Rd} (h : Rdr w g q r) (hq : ∀ k, q = some k → k < w.heap.size) :
    Calls Tryz.prog 80 #[.pointer (some ⟨g, 0, none⟩)] w fun e w' => e = .returned (.agg #[.int .i64 (rdMem r).1.id, .int .u8 (rdMem r).1.role, .int .i64 (rdMem r).1.weight, .int .i64 (rdMem r).1.group]) ∧ Rdr w' g q (rdMem r).2 ∧ Chg (One g) w w' := by
  have hg : g < w.heap.size := by obtain ⟨v, h1, _⟩ := h; exact heap_lt h1
  have hne : w.heap.size ≠ g := by omega
  unfold rdMem
  dsimp only
  have hr1 := rdCount_le r 7 (by omega)
  have hr2 := rdCount_le (rdCount r 7).2 2 (by omega)
  have hr3 := rdCount_le (rdCount (rdCount r 7).2 2).2 1000 (by omega)
  have hr4 := rdCount_le (rdCount (rdCount (rdCount r 7).2 2).2 1000).2 6 (by omega)
  have h0 : Rdr (w.alloc (.cells #[.int .i64 0, .int .u8 0, .int .i64 0, .int .i64 0] 118)) g q r := h.keep (Chg.alloc Non w _) id (fun _ _ => id)
  have k1 := fun {w1 : World} (hh : Rdr w1 g q r) => rCount_any hh 7
  have k2 := fun {w1 : World} (hh : Rdr w1 g q (rdCount r 7).2) => rCount_any hh 2
  have k3 := fun {w1 : World} (hh : Rdr w1 g q (rdCount (rdCount r 7).2 2).2) => rCount_any hh 1000
  have k4 := fun {w1 : World} (hh : Rdr w1 g q (rdCount (rdCount (rdCount r 7).2 2).2 1000).2) => rCount_any hh 6
  generalize rdCount r 7 = p1 at *
  obtain ⟨i, r1⟩ := p1
  dsimp only at *
  generalize rdCount r1 2 = p2 at *
  obtain ⟨ro, r2⟩ := p2
  dsimp only at *
  generalize rdCount r2 1000 = p3 at *
  obtain ⟨we, r3⟩ := p3
  dsimp only at *
  generalize rdCount r3 6 = p4 at *
  obtain ⟨gr, r4⟩ := p4
  dsimp only at *
  have H0 : Hid (Rdr (w.alloc (.cells #[.int .i64 0, .int .u8 0, .int .i64 0, .int .i64 0] 118)) g q r) := h0
  have K1 : Hid (∀ {w1 : World}, Rdr w1 g q r → Calls Tryz.prog 59 #[.pointer (some ⟨g, 0, none⟩), .int .i64 7] w1 fun e w' => e = .returned (.int .i64 i) ∧ Rdr w' g q r1 ∧ Chg (One g) w1 w') := k1
  have K2 : Hid (∀ {w1 : World}, Rdr w1 g q r1 → Calls Tryz.prog 59 #[.pointer (some ⟨g, 0, none⟩), .int .i64 2] w1 fun e w' => e = .returned (.int .i64 ro) ∧ Rdr w' g q r2 ∧ Chg (One g) w1 w') := k2
  have K3 : Hid (∀ {w1 : World}, Rdr w1 g q r2 → Calls Tryz.prog 59 #[.pointer (some ⟨g, 0, none⟩), .int .i64 1000] w1 fun e w' => e = .returned (.int .i64 we) ∧ Rdr w' g q r3 ∧ Chg (One g) w1 w') := k3
  have K4 : Hid (∀ {w1 : World}, Rdr w1 g q r3 → Calls Tryz.prog 59 #[.pointer (some ⟨g, 0, none⟩), .int .i64 6] w1 fun e w' => e = .returned (.int .i64 gr) ∧ Rdr w' g q r4 ∧ Chg (One g) w1 w') := k4
  clear k1 k2 k3 k4 h h0
  go_enter Tryz.func80, Tryz.ntmps80
  go_wp2_with fail
  have h1 := K1.out H0.out
  refine h1.mono ?_
  clear h1
  rintro e w1 ⟨rfl, hq1, hc1⟩
  go_wp2_with fail
  have h2 := K2.out hq1
  refine h2.mono ?_
  clear h2
  rintro e w2 ⟨rfl, hq2, hc2⟩
  go_wp2_with fail
  have h3 := K3.out hq2
  refine h3.mono ?_
  clear h3
  rintro e w3 ⟨rfl, hq3, hc3⟩
  go_wp2_with fail
  have h4 := K4.out hq3
  refine h4.mono ?_
  clear h4
  rintro e w4 ⟨rfl, hq4, hc4⟩
  have hch : Chg (One g) (w.alloc (.cells #[.int .i64 0, .int .u8 0, .int .i64 0, .int .i64 0] 118)) w4 := ((hc1.trans hc2).trans hc3).trans hc4
  have hb4 : w4.heap[w.heap.size]? = some (.cells #[.int .i64 0, .int .u8 0, .int .i64 0, .int .i64 0] 118 (0, 0)) := by
    rw [hch.block _ (by simp) (fun e => hne e)]; exact heap_alloc_new w _
  have hlt4 := heap_lt hb4
  have f0 := frozen_at hb4 0
  have f1 := frozen_at hb4 1
  have f2 := frozen_at hb4 2
  have f3 := frozen_at hb4 3
  have z0 : w4.cell? ⟨w.heap.size, 0, none⟩ = some (.int .i64 0) := by rw [cell_at hb4]; rfl
  have z1 : w4.cell? ⟨w.heap.size, 1, none⟩ = some (.int .u8 0) := by rw [cell_at hb4]; rfl
  have z2 : w4.cell? ⟨w.heap.size, 2, none⟩ = some (.int .i64 0) := by rw [cell_at hb4]; rfl
  have z3 : w4.cell? ⟨w.heap.size, 3, none⟩ = some (.int .i64 0) := by rw [cell_at hb4]; rfl
  have HQ4 : Hid (Rdr w4 g q r4) := hq4
  have HCH : Hid (Chg (One g) w w4) := (Chg.alloc _ _ _).trans hch
  clear hq1 hq2 hq3 hq4 hc1 hc2 hc3 hc4 hb4 hch
  have HQ : Hid (∀ k, q = some k → k < w.heap.size) := hq
  clear hq
  go_wp2
  have hs : Chg (One w.heap.size) w4 ((((w4.setCell ⟨w.heap.size, 0, none⟩ (.int .i64 i)).setCell ⟨w.heap.size, 1, none⟩ (.int .u8 ro)).setCell ⟨w.heap.size, 2, none⟩ (.int .i64 we)).setCell ⟨w.heap.size, 3, none⟩ (.int .i64 gr)) :=
    (((Chg.setCell (S := One w.heap.size) w4 ⟨w.heap.size, 0, none⟩ _ rfl).trans (Chg.setCell (S := One w.heap.size) _ ⟨w.heap.size, 1, none⟩ _ rfl)).trans (Chg.setCell (S := One w.heap.size) _ ⟨w.heap.size, 2, none⟩ _ rfl)).trans (Chg.setCell (S := One w.heap.size) _ ⟨w.heap.size, 3, none⟩ _ rfl)
  refine bodyPost_ret (v := .agg #[.int .i64 i, .int .u8 ro, .int .i64 we, .int .i64 gr]) (by simp [results, Tryz.results80, go_sem, z0, z1, z2, z3]) rfl ⟨rfl, ?_, ?_⟩
  · exact HQ4.out.keep hs (fun e => hne (by have : g = w.heap.size := e; omega)) (fun k hk e => by have := HQ.out k hk; have : k = w.heap.size := e; omega)
  · exact HCH.out.trans' hs (fun k hk e => by have : k = w.heap.size := e; omega)
/- Members in a row of one's own. -/
def mvs : List Mem → List Value
  | [] => []
  | m :: l => .int .i64 m.id :: .int .u8 m.role :: .int .i64 m.weight :: .int .i64 m.group :: mvs l
theorem mvs_len : ∀ l, (mvs l).length = l.length * 4
  | [] => rfl
  | m :: l => by simp only [mvs, List.length_cons, mvs_len l]; omega
theorem mvs_app : ∀ a b, mvs (a ++ b) = mvs a ++ mvs b
  | [], b => rfl
  | m :: a, b => by simp only [List.cons_append, mvs, mvs_app a b]
theorem mvs_at : ∀ (l : List Mem) (j : Nat) (h : j < l.length), (mvs l)[j * 4]? = some (.int .i64 (l[j]'h).id) ∧ (mvs l)[j * 4 + 1]? = some (.int .u8 (l[j]'h).role) ∧ (mvs l)[j * 4 + 2]? = some (.int .i64 (l[j]'h).weight) ∧ (mvs l)[j * 4 + 3]? = some (.int .i64 (l[j]'h).group)
  | [], j, h => by simp at h
  | m :: l, 0, h => ⟨rfl, rfl, rfl, rfl⟩
  | m :: l, j + 1, h => by
    have := mvs_at l j (by simpa using h)
    have e : (j + 1) * 4 = j * 4 + 4 := by omega
    rw [e]
    exact this
theorem info30 : (Tryz.prog.info? 118).map (fun i => (i.zero, i.size, i.bytes)) = some (some (.agg #[.int .i64 0, .int .u8 0, .int .i64 0, .int .i64 0]), 4, 32) := by kernel_rfl
theorem mems_of_owns {w : World} {base : Nat} {v : Value} {l : List Mem} (h : w.ownsRow base 118 4 v l.length (mvs l)) : Mems w v l := by
  rcases h.2 with ⟨rfl, h0⟩ | ⟨g, cap, cur, rfl, hb, hg, hc, hm, hs, ht⟩
  · exact .inl ⟨rfl, List.length_eq_zero_iff.1 h0⟩
  · by_cases h0 : 0 < l.length
    · refine .inr (.inr ⟨h0, g, 0, cap, rfl, hc, heap_lt hg, fun j hj => ?_⟩)
      have hcell : ∀ i u, (mvs l)[i]? = some u → w.cell? ⟨g, i, none⟩ = some u := by
        intro i u hu
        have hil : i < (mvs l).length := (List.getElem?_eq_some_iff.1 hu).1
        rw [cell_at hg i]
        have : cur.toList[i]? = some u := by
          rw [← hu, ← ht, List.getElem?_take]
          rw [if_pos (by rw [mvs_len] at hil; exact hil)]
        simpa using this
      obtain ⟨c0, c1, c2, c3⟩ := mvs_at l j hj
      rw [Nat.zero_add]
      exact ⟨hcell _ _ c0, hcell _ _ c1, hcell _ _ c2, hcell _ _ c3⟩
    · have : l = [] := List.length_eq_zero_iff.1 (by omega)
      subst this
      exact .inr (.inl ⟨_, cap, rfl, rfl⟩)
theorem owns_keep {S : Nat → Prop} {w w' : World} {base e size n : Nat} {v : Value} {xs : List Value} (h : w.ownsRow base e size v n xs) (hc : Chg S w w') (hn : ∀ k, v.ownBlock = some k → ¬ S k) : w'.ownsRow base e size v n xs := by
  refine ⟨h.1, ?_⟩
  rcases h.2 with h2 | ⟨b, cap, cur, rfl, hb, hb2, hr⟩
  · exact .inl h2
  · exact .inr ⟨b, cap, cur, rfl, hb, by rw [hc.block b (heap_lt hb2) (hn b rfl)]; exact hb2, hr⟩
theorem owns_form' {w : World} {base e size n : Nat} {v : Value} {xs : List Value} (h : w.ownsRow base e size v n xs) : ∃ A C, v = .slice A n C := by
  rcases h.2 with ⟨rfl, rfl⟩ | ⟨g, cap, cur, rfl, _⟩
  · exact ⟨none, 0, rfl⟩
  · exact ⟨_, cap, rfl⟩
theorem mem_step (n : Nat) (r : Rd) : rdMems (n + 1) r = ((rdMem r).1 :: (rdMems n (rdMem r).2).1, (rdMems n (rdMem r).2).2) := rfl
/- What Get tells: the config, or that there is none. -/
def Got (w w' : World) (e : Ending) (o : Option (Int × List Mem)) : Prop :=
  match o with
  | none => e = .returned (.tuple #[.agg #[.int .i64 0, .slice none 0 0], .int .i64 4]) ∧ Below w.heap.size w w'
  | some (ver, l) => ∃ v, e = .returned (.tuple #[.agg #[.int .i64 ver, v], .int .i64 0]) ∧ w'.ownsRow w.heap.size 118 4 v l.length (mvs l) ∧ Below w.heap.size w w'
theorem Got.no {w w' : World} (h : Below w.heap.size w w') : Got w w' (.returned (.tuple #[.agg #[.int .i64 0, .slice none 0 0], .int .i64 4])) none := ⟨rfl, h⟩
theorem Got.yes {w w' : World} {ver : Int} {l : List Mem} (v : Value) (h1 : w'.ownsRow w.heap.size 118 4 v l.length (mvs l)) (h2 : Below w.heap.size w w') : Got w w' (.returned (.tuple #[.agg #[.int .i64 ver, v], .int .i64 0])) (some (ver, l)) := ⟨v, rfl, h1, h2⟩
set_option maxRecDepth 100000 in
set_option maxHeartbeats 4000000 in
theorem get_any {w : World} {x : Value} {b : List UInt8} (hx : Bs w x b) (hb : b.length ≤ 140737488355328) :
    Calls Tryz.prog 58 #[x] w fun e w' => Got w w' e (cfgOf b) := by
  have HX : Hid (Bs w x b) := hx
  obtain ⟨AX, CX, rfl⟩ := bs_form hx
  have hB1 : Below w.heap.size w (w.alloc (.cells #[.int .i64 0, .slice none 0 0] 39)) := (Below.refl _ _).alloc (Nat.le_refl _) _
  clear hx
  have hcf : cfgOf b = if (rdMems (rdCount (rdInt (some b)).2 7).1.toNat (rdCount (rdInt (some b)).2 7).2).2 = some [] ∧ chk (rdInt (some b)).1 (rdMems (rdCount (rdInt (some b)).2 7).1.toNat (rdCount (rdInt (some b)).2 7).2).1 = 0 then some ((rdInt (some b)).1, (rdMems (rdCount (rdInt (some b)).2 7).1.toNat (rdCount (rdInt (some b)).2 7).2).1) else none := rfl
  rw [hcf]
  clear hcf
  have hr0 := rdInt_range (some b)
  have hr1 := rdCount_le (rdInt (some b)).2 7 (by omega)
  have k1 := fun {w1 : World} {g : Nat} {q : Option Nat} (hh : Rdr w1 g q (some b)) => rInt_any hh
  have k2 := fun {w1 : World} {g : Nat} {q : Option Nat} (hh : Rdr w1 g q (rdInt (some b)).2) => rCount_any hh 7
  generalize rdInt (some b) = p1 at *
  obtain ⟨ver, r1⟩ := p1
  dsimp only at *
  generalize rdCount r1 7 = p2 at *
  obtain ⟨nn, r2⟩ := p2
  dsimp only at *
  obtain ⟨n, rfl⟩ := Int.eq_ofNat_of_zero_le hr1.1
  rw [Int.toNat_natCast]
  have K1 : Hid (∀ {w1 : World} {g : Nat} {q : Option Nat}, Rdr w1 g q (some b) → Calls Tryz.prog 24 #[.pointer (some ⟨g, 0, none⟩)] w1 fun e w' => e = .returned (.int .i64 ver) ∧ Rdr w' g q r1 ∧ Chg (One g) w1 w') := k1
  have K2 : Hid (∀ {w1 : World} {g : Nat} {q : Option Nat}, Rdr w1 g q r1 → Calls Tryz.prog 59 #[.pointer (some ⟨g, 0, none⟩), .int .i64 7] w1 fun e w' => e = .returned (.int .i64 (n : Nat)) ∧ Rdr w' g q r2 ∧ Chg (One g) w1 w') := k2
  clear k1 k2
  obtain ⟨hr11, hr12⟩ := hr1
  generalize hOO : (if (rdMems n r2).2 = some [] ∧ chk ver (rdMems n r2).1 = 0 then some (ver, (rdMems n r2).1) else none) = OO
  have HOO : Hid ((if (rdMems n r2).2 = some [] ∧ chk ver (rdMems n r2).1 = 0 then some (ver, (rdMems n r2).1) else none) = OO) := hOO
  clear hOO
  go_enter Tryz.func58, Tryz.ntmps58
  go_wp2_with fail
  have h2 := newReader_any (HX.out.below hB1 (fun k hk => HX.out.lt hk)) hb
  refine h2.mono ?_
  clear h2
  rintro e w2 ⟨g, q, rfl, hq2, hB2, hg2, hqq2⟩
  have hs1 : w.heap.size < g := by simp at hg2; omega
  have hbl2 : w2.heap[w.heap.size]? = some (.cells #[.int .i64 0, .slice none 0 0] 39 (0, 0)) := by rw [hB2.block _ (by simp)]; exact heap_alloc_new w _
  have hB2' := hB1.trans (hB2.mono (by simp))
  have hg2' := hq2.lt
  go_wp2_with fail
  have h3 := K1.out hq2
  refine h3.mono ?_
  clear h3
  rintro e w3 ⟨rfl, hq3, hc3⟩
  have hB3 : Below w.heap.size w w3 := hB2'.trans (hc3.below (fun k e => by have : k = g := e; omega) hB2'.size)
  have hbl3 : w3.heap[w.heap.size]? = some (.cells #[.int .i64 0, .slice none 0 0] 39 (0, 0)) := by rw [hc3.block _ (by omega) (fun e => by have : w.heap.size = g := e; omega)]; exact hbl2
  have hg3' := hq3.lt
  have hqq3 : ∀ k, q = some k → k < w3.heap.size := fun k hk => Nat.lt_of_lt_of_le (hqq2 k hk).2 hc3.size
  clear hq2 hbl2
  go_wp2_with fail
  have hq3a := hq3.keep (Chg.alloc Non w3 (.cells #[.int .i64 ver, .slice none 0 0] 39)) id (fun _ _ => id)
  have h4 := K2.out hq3a
  refine h4.mono ?_
  clear h4
  rintro e w4 ⟨rfl, hq4, hc4⟩
  have hB4 : Below w.heap.size w w4 := (hB3.alloc hB3.size _).trans (hc4.below (fun k e => by have : k = g := e; omega) (by have := hB3.size; simp; omega))
  have hs4 : w3.heap.size < w4.heap.size := by have := hc4.size; simp at this; omega
  have HE4 : Hid (w4.heap[w3.heap.size]? = some (.cells #[.int .i64 ver, .slice none 0 0] 39 (0, 0))) := by
    show w4.heap[w3.heap.size]? = _
    rw [hc4.block _ (by simp) (fun e => by have : w3.heap.size = g := e; omega)]; exact heap_alloc_new w3 _
  have HL4 : Hid (w4.heap[w.heap.size]? = some (.cells #[.int .i64 0, .slice none 0 0] 39 (0, 0))) := by
    show w4.heap[w.heap.size]? = _
    rw [hc4.block _ (by have := hB3.size; simp; omega) (fun e => by have : w.heap.size = g := e; omega), Below.heap_alloc _ _ _ (by omega)]; exact hbl3
  have HQ4 : Hid (Rdr w4 g q r2) := hq4
  have HQQ : Hid (∀ k, q = some k → k < w3.heap.size) := hqq3
  clear hq3 hq3a hq4 hqq3 hqq2 hbl3
  go_wp2_with fail
  go_loopw [13] (fun i wr => ∃ (k : Nat) (ms : List Mem) (r : Rd) (v : Value), i = .int .i64 k ∧ k ≤ n ∧ ms.length = k ∧ rdMems n r2 = (ms ++ (rdMems (n - k) r).1, (rdMems (n - k) r).2) ∧ Rdr wr g q r ∧
      wr.heap[w3.heap.size]? = some (.cells #[.int .i64 ver, v] 39 (0, 0)) ∧ wr.heap[w.heap.size]? = some (.cells #[.int .i64 0, .slice none 0 0] 39 (0, 0)) ∧ wr.ownsRow w4.heap.size 118 4 v k (mvs ms) ∧ Below w.heap.size w wr ∧ w4.heap.size ≤ wr.heap.size) (fun i _ => n - (intOf i).toNat)
  case atStart => exact ⟨0, [], r2, .slice none 0 0, rfl, by omega, rfl, rfl, HQ4.out, HE4.out, HL4.out, World.ownsRow_nil _ _ _ _, hB4, Nat.le_refl _⟩
  case round =>
    obtain ⟨k, ms, r, v, rfl, hk, hms, hrd, hq, he, hl, ho, hB, hsz⟩ := hrel
    have HRD : Hid (rdMems n r2 = (ms ++ (rdMems (n - k) r).1, (rdMems (n - k) r).2)) := hrd
    have HQ : Hid (Rdr wr g q r) := hq
    have HE : Hid (wr.heap[w3.heap.size]? = some (.cells #[.int .i64 ver, v] 39 (0, 0))) := he
    have HL : Hid (wr.heap[w.heap.size]? = some (.cells #[.int .i64 0, .slice none 0 0] 39 (0, 0))) := hl
    have HO : Hid (wr.ownsRow w4.heap.size 118 4 v k (mvs ms)) := ho
    have HB : Hid (Below w.heap.size w wr) := hB
    have HMS : Hid (ms.length = k) := hms
    have hce0 : wr.cell? ⟨w3.heap.size, 0, none⟩ = some (.int .i64 ver) := by rw [cell_at he]; rfl
    have hce : wr.cell? ⟨w3.heap.size, 1, none⟩ = some v := by rw [cell_at he]; rfl
    have hfe : wr.frozen? ⟨w3.heap.size, 1, none⟩ = false := frozen_at he 1
    have hltw : w3.heap.size < wr.heap.size := by omega
    clear hrd hq he hl ho hB hms
    by_cases hlt : k < n
    · obtain ⟨j, hj⟩ : ∃ j, n - k = j + 1 := ⟨n - k - 1, by omega⟩
      have HJ : Hid (n - k = j + 1) := hj
      clear hj
      have hm := member_any (HQ.out.keep (Chg.drew Non wr) id (fun _ _ => id)) (fun k hk => by have := HQQ.out k hk; show k < wr.heap.size; omega)
      have hst := mem_step j r
      generalize rdMem r = p3 at hm hst
      obtain ⟨m, r3⟩ := p3
      obtain ⟨mi, mr, mw, mg⟩ := m
      dsimp only at hm hst
      have HM : Hid (Calls Tryz.prog 80 #[.pointer (some ⟨g, 0, none⟩)] wr.drew fun e w' => e = .returned (.agg #[.int .i64 mi, .int .u8 mr, .int .i64 mw, .int .i64 mg]) ∧ Rdr w' g q r3 ∧ Chg (One g) wr.drew w') := hm
      have HST : Hid (rdMems (j + 1) r = (⟨mi, mr, mw, mg⟩ :: (rdMems j r3).1, (rdMems j r3).2)) := hst
      clear hm hst
      obtain ⟨i0, hi, hz0, hz1, hz2⟩ := info_parts info30
      go_wp2_with fail
      go_region_law ((first | (refine step_append_lies _ rfl (.tmp 16) (.tmp 19) 37 rfl w4.heap.size 118 i0 _ 4 32 Tryz.underlying37 hi hz0 hz1 hz2 rfl (by decide) v k (mvs ms) rfl HO5.out ⟨w5.heap.size, 0, none⟩ 1 1 [.int .i64 mi, .int .u8 mr, .int .i64 mw, .int .i64 mg] rfl rfl (World.news_of_block (heap_alloc_new w5 _)) (fun u hu => by simp at hu; rcases hu with rfl | rfl | rfl | rfl <;> rfl) (by omega) (by unfold maxLen; omega) (by omega) (by simp; omega) _ rfl ?_; intro g6 cap6 w6 ho6 hg6 hat6 hlt6; (have HE6 : Hid (w6.heap[w3.heap.size]? = some (.cells #[.int .i64 ver, v] 39 (0, 0))) := (hg6.block _ (by simp; omega) (fun e => by have := (HO.out.lt _ e.symm).1; omega)).trans ((Below.heap_alloc _ _ _ hlt5).trans HE5.out)); (have hce6 : w6.cell? ⟨w3.heap.size, 1, none⟩ = some v := cell_at HE6.out 1); (have hfe6 : w6.frozen? ⟨w3.heap.size, 1, none⟩ = false := frozen_at HE6.out 1)) | (go_simp; go_at_call 80; refine HM.out.mono ?_; rintro e w5 ⟨rfl, hq5, hc5⟩; (have hs5 : wr.heap.size ≤ w5.heap.size := hc5.size); (have hlt5 : w3.heap.size < w5.heap.size := by omega); (have HE5 : Hid (w5.heap[w3.heap.size]? = some (.cells #[.int .i64 ver, v] 39 (0, 0))) := (hc5.block _ hltw (fun e => by have : w3.heap.size = g := e; omega)).trans HE.out); (have hce5 : w5.cell? ⟨w3.heap.size, 1, none⟩ = some v := cell_at HE5.out 1); (have HO5 : Hid ((w5.alloc (.cells #[.int .i64 mi, .int .u8 mr, .int .i64 mw, .int .i64 mg] 118)).ownsRow w4.heap.size 118 4 v k (mvs ms)) := owns_keep (owns_keep HO.out ((Chg.drew _ wr).trans hc5) (fun i hi e => by have := (HO.out.lt i hi).1; have : i = g := e; omega)) (Chg.alloc Non w5 _) (fun _ _ => id)))))
      all_goals
        have hc56 : Chg (fun i => v.ownBlock = some i) w5 w6 := (Chg.alloc _ w5 (.cells #[.int .i64 mi, .int .u8 mr, .int .i64 mw, .int .i64 mg] 118)).trans (Chg.of_grown hg6)
        have hc67 : Chg (One w3.heap.size) w6 (w6.setCell ⟨w3.heap.size, 1, none⟩ (.slice (some ⟨g6, 0, none⟩) (k + 1) cap6)) := Chg.setCell w6 ⟨w3.heap.size, 1, none⟩ _ rfl
        have hvb : ∀ i, v.ownBlock = some i → w4.heap.size ≤ i := fun i hi => (HO.out.lt i hi).1
        have HVB : Hid (∀ i, v.ownBlock = some i → w4.heap.size ≤ i) := hvb
        have hq6 : Rdr w6 g q r3 := hq5.keep hc56 (fun e => by have := HVB.out _ e; omega) (fun i hi e => by have := HVB.out _ e; have := HQQ.out i hi; omega)
        have HQ7 : Hid (Rdr (w6.setCell ⟨w3.heap.size, 1, none⟩ (.slice (some ⟨g6, 0, none⟩) (k + 1) cap6)) g q r3) := hq6.keep hc67 (fun e => by have : g = w3.heap.size := e; omega) (fun i hi e => by have := HQQ.out i hi; have : i = w3.heap.size := e; omega)
        have HE7 : Hid ((w6.setCell ⟨w3.heap.size, 1, none⟩ (.slice (some ⟨g6, 0, none⟩) (k + 1) cap6)).heap[w3.heap.size]? = some (.cells #[.int .i64 ver, .slice (some ⟨g6, 0, none⟩) (k + 1) cap6] 39 (0, 0))) := heap_set HE6.out 1 _
        have hsw : w.heap.size < wr.heap.size := by have := hB4.size; omega
        have hs56 := hc56.size
        have HL7 : Hid ((w6.setCell ⟨w3.heap.size, 1, none⟩ (.slice (some ⟨g6, 0, none⟩) (k + 1) cap6)).heap[w.heap.size]? = some (.cells #[.int .i64 0, .slice none 0 0] 39 (0, 0))) :=
          (hc67.block _ (by omega) (fun e => by have : w.heap.size = w3.heap.size := e; omega)).trans ((hc56.block _ (by omega) (fun e => by have := HVB.out _ e; omega)).trans ((hc5.block _ hsw (fun e => by have : w.heap.size = g := e; omega)).trans HL.out))
        have HO7 : Hid ((w6.setCell ⟨w3.heap.size, 1, none⟩ (.slice (some ⟨g6, 0, none⟩) (k + 1) cap6)).ownsRow w4.heap.size 118 4 (.slice (some ⟨g6, 0, none⟩) (k + 1) cap6) (k + 1) (mvs (ms ++ [⟨mi, mr, mw, mg⟩]))) := by
          have h1 := owns_keep ho6 hc67 (fun i hi e => by have := (ho6.lt i hi).1; have : i = w3.heap.size := e; omega)
          show World.ownsRow _ _ _ _ _ _ _
          rw [mvs_app]
          exact h1
        have HB7 : Hid (Below w.heap.size w (w6.setCell ⟨w3.heap.size, 1, none⟩ (.slice (some ⟨g6, 0, none⟩) (k + 1) cap6))) := by
          have b5 : Below w.heap.size w w5 := HB.out.trans (((Chg.drew _ wr).trans hc5).below (fun i e => by have : i = g := e; omega) HB.out.size)
          have b6 : Below w.heap.size w w6 := b5.trans (hc56.below (fun i e => by have := HVB.out i e; omega) b5.size)
          exact b6.trans (hc67.below (fun i e => by have : i = w3.heap.size := e; omega) b6.size)
        have hs7 : w4.heap.size ≤ (w6.setCell ⟨w3.heap.size, 1, none⟩ (.slice (some ⟨g6, 0, none⟩) (k + 1) cap6)).heap.size := by have := hc67.size; omega
        clear ho6 hg6 hq5 hq6 hc56 hc67 hc5 hat6 hvb hce6 hfe6 hce5
        go_wp2
        refine ⟨⟨k + 1, ms ++ [⟨mi, mr, mw, mg⟩], r3, _, by go_num, by omega, by rw [List.length_append, HMS.out]; rfl, ?_, HQ7.out, HE7.out, HL7.out, HO7.out, HB7.out, hs7⟩, by simp [intOf]; omega⟩
        rw [HRD.out, HJ.out, HST.out, show n - (k + 1) = j by have := HJ.out; omega, List.append_assoc]
        rfl
    · have hkk : k = n := by omega
      subst hkk
      obtain ⟨Av, Cv, rfl⟩ := owns_form' HO.out
      have hoo : (if r = some [] ∧ chk ver ms = 0 then some (ver, ms) else none) = OO := by
        have hrd := HRD.out
        rw [Nat.sub_self] at hrd
        have e1 : (rdMems k r2).1 = ms := by rw [hrd]; exact List.append_nil ms
        have e2 : (rdMems k r2).2 = r := by rw [hrd]; rfl
        have := HOO.out
        rw [e1, e2] at this
        exact this
      have hz0 : wr.cell? ⟨w.heap.size, 0, none⟩ = some (.int .i64 0) := by rw [cell_at HL.out]; rfl
      have hz1 : wr.cell? ⟨w.heap.size, 1, none⟩ = some (.slice none 0 0) := by rw [cell_at HL.out]; rfl
      have hf0 : wr.frozen? ⟨w.heap.size, 0, none⟩ = false := frozen_at HL.out 0
      have hf1 : wr.frozen? ⟨w.heap.size, 1, none⟩ = false := frozen_at HL.out 1
      have hlw := heap_lt HL.out
      clear HRD HOO
      by_cases hw : r = some []
      · have hwb : decide (r = some []) = true := decide_eq_true hw
        have hwh := whole_any HQ.out
        rw [hwb] at hwh
        have HWH : Hid (Calls Tryz.prog 28 #[.pointer (some ⟨g, 0, none⟩)] wr fun e w' => e = .returned (.bool true) ∧ w' = wr) := hwh
        have hmm : Mems wr (.slice Av k Cv) ms := mems_of_owns (base := w4.heap.size) (by rw [HMS.out]; exact HO.out)
        have hck := check_any hmm ver
        have HOM : Hid (wr.ownsRow w4.heap.size 118 4 (.slice Av k Cv) ms.length (mvs ms)) := by show World.ownsRow _ _ _ _ _ _ _; rw [HMS.out]; exact HO.out
        simp only [hw, true_and] at hoo
        clear hwb hwh hw hmm
        by_cases hc : chk ver ms = 0
        · rw [if_pos hc] at hoo
          subst hoo
          rw [hc] at hck
          have HCK : Hid (Calls Tryz.prog 81 #[.agg #[.int .i64 ver, .slice Av k Cv]] wr fun e w' => e = .returned (.int .i64 0) ∧ Below wr.heap.size wr w') := hck
          clear hck hc
          go_wp2_with fail
          refine HWH.out.mono ?_
          rintro e w8 ⟨rfl, rfl⟩
          go_wp2_with fail
          refine HCK.out.mono ?_
          rintro e w9 ⟨rfl, hB9⟩
          have y0 : w9.cell? ⟨w.heap.size, 0, none⟩ = some (.int .i64 0) := by rw [hB9.cell (p := ⟨w.heap.size, 0, none⟩) hlw]; exact hz0
          have y1 : w9.cell? ⟨w.heap.size, 1, none⟩ = some (.slice none 0 0) := by rw [hB9.cell (p := ⟨w.heap.size, 1, none⟩) hlw]; exact hz1
          have g0 : w9.frozen? ⟨w.heap.size, 0, none⟩ = false := by rw [hB9.frozen (p := ⟨w.heap.size, 0, none⟩) hlw]; exact hf0
          have g1 : w9.frozen? ⟨w.heap.size, 1, none⟩ = false := by rw [hB9.frozen (p := ⟨w.heap.size, 1, none⟩) hlw]; exact hf1
          have x0 : w9.cell? ⟨w3.heap.size, 0, none⟩ = some (.int .i64 ver) := by rw [hB9.cell (p := ⟨w3.heap.size, 0, none⟩) hltw]; exact hce0
          have x1 : w9.cell? ⟨w3.heap.size, 1, none⟩ = some (.slice Av k Cv) := by rw [hB9.cell (p := ⟨w3.heap.size, 1, none⟩) hltw]; exact hce
          have hlw9 : w.heap.size < w9.heap.size := Nat.lt_of_lt_of_le hlw hB9.size
          have hc9 : Chg (One w.heap.size) w8 ((w9.setCell ⟨w.heap.size, 0, none⟩ (.int .i64 ver)).setCell ⟨w.heap.size, 1, none⟩ (.slice Av k Cv)) :=
            ((Chg.of_below hB9).weak (fun _ _ e => e.elim)).trans ((Chg.setCell (S := One w.heap.size) w9 ⟨w.heap.size, 0, none⟩ _ rfl).trans (Chg.setCell (S := One w.heap.size) _ ⟨w.heap.size, 1, none⟩ _ rfl))
          have hs4' : w.heap.size < w4.heap.size := by have := hB3.size; omega
          clear hz0 hz1 hf0 hf1
          go_wp2
          refine bodyPost_ret (v := .tuple #[.agg #[.int .i64 ver, .slice Av k Cv], .int .i64 0]) (by simp [results, Tryz.results58, go_sem, y0, y1]) rfl ?_
          refine Got.yes _ ?_ ?_
          · have h1 := owns_keep HOM.out hc9 (fun i hi e => by have := (HOM.out.lt i hi).1; have : i = w.heap.size := e; omega)
            refine ⟨h1.1, ?_⟩
            rcases h1.2 with h2 | ⟨gg, cap, cur, hv, hg, h3⟩
            · exact .inl h2
            · exact .inr ⟨gg, cap, cur, hv, by omega, h3⟩
          · exact HB.out.trans (hc9.below (fun i e => by have : i = w.heap.size := e; omega) HB.out.size)
        · rw [if_neg hc] at hoo
          subst hoo
          have hcb : (chk ver ms != 0) = true := by simpa using hc
          generalize chk ver ms = c at hck hcb
          have HCK : Hid (Calls Tryz.prog 81 #[.agg #[.int .i64 ver, .slice Av k Cv]] wr fun e w' => e = .returned (.int .i64 c) ∧ Below wr.heap.size wr w') := hck
          clear hck hc
          go_wp2_with fail
          refine HWH.out.mono ?_
          rintro e w8 ⟨rfl, rfl⟩
          go_wp2_with fail
          refine HCK.out.mono ?_
          rintro e w9 ⟨rfl, hB9⟩
          have y0 : w9.cell? ⟨w.heap.size, 0, none⟩ = some (.int .i64 0) := by rw [hB9.cell (p := ⟨w.heap.size, 0, none⟩) hlw]; exact hz0
          have y1 : w9.cell? ⟨w.heap.size, 1, none⟩ = some (.slice none 0 0) := by rw [hB9.cell (p := ⟨w.heap.size, 1, none⟩) hlw]; exact hz1
          have g0 : w9.frozen? ⟨w.heap.size, 0, none⟩ = false := by rw [hB9.frozen (p := ⟨w.heap.size, 0, none⟩) hlw]; exact hf0
          have g1 : w9.frozen? ⟨w.heap.size, 1, none⟩ = false := by rw [hB9.frozen (p := ⟨w.heap.size, 1, none⟩) hlw]; exact hf1
          have hlw9 : w.heap.size < w9.heap.size := Nat.lt_of_lt_of_le hlw hB9.size
          have hc9 : Chg (One w.heap.size) w8 ((w9.setCell ⟨w.heap.size, 0, none⟩ (.int .i64 0)).setCell ⟨w.heap.size, 1, none⟩ (.slice none 0 0)) :=
            ((Chg.of_below hB9).weak (fun _ _ e => e.elim)).trans ((Chg.setCell (S := One w.heap.size) w9 ⟨w.heap.size, 0, none⟩ _ rfl).trans (Chg.setCell (S := One w.heap.size) _ ⟨w.heap.size, 1, none⟩ _ rfl))
          clear hz0 hz1 hf0 hf1
          go_wp2
          exact bodyPost_ret (v := .tuple #[.agg #[.int .i64 0, .slice none 0 0], .int .i64 4]) (by simp [results, Tryz.results58, go_sem, y0, y1]) rfl (Got.no (HB.out.trans (hc9.below (fun i e => by have : i = w.heap.size := e; omega) HB.out.size)))
      · have hwb : decide (r = some []) = false := decide_eq_false hw
        have hwh := whole_any HQ.out
        rw [hwb] at hwh
        have HWH : Hid (Calls Tryz.prog 28 #[.pointer (some ⟨g, 0, none⟩)] wr fun e w' => e = .returned (.bool false) ∧ w' = wr) := hwh
        rw [if_neg (fun h => hw h.1)] at hoo
        subst hoo
        clear hwb hwh hw
        have hc9 : Chg (One w.heap.size) wr ((wr.setCell ⟨w.heap.size, 0, none⟩ (.int .i64 0)).setCell ⟨w.heap.size, 1, none⟩ (.slice none 0 0)) :=
          (Chg.setCell (S := One w.heap.size) wr ⟨w.heap.size, 0, none⟩ _ rfl).trans (Chg.setCell (S := One w.heap.size) _ ⟨w.heap.size, 1, none⟩ _ rfl)
        go_wp2_with fail
        refine HWH.out.mono ?_
        rintro e w8 ⟨rfl, rfl⟩
        go_wp2
        exact bodyPost_ret (v := .tuple #[.agg #[.int .i64 0, .slice none 0 0], .int .i64 4]) (by simp [results, Tryz.results58, go_sem, hz0, hz1]) rfl (Got.no (HB.out.trans (hc9.below (fun i e => by have : i = w.heap.size := e; omega) HB.out.size)))
end Go.Proofs.YtaeoafedfgbcaaaGreatDoor
