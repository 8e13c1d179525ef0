/- The walks of the document's configs as bytes: small, Read, Get. -/
import Derived.Test.YtohhbhkpekieiaaRefX
import Derived.Test.YtohhbhkpekieiaaRefS
namespace Go.Proofs.Ytohhbhkpekieiaa
open Go.RowKit

set_option maxRecDepth 100000 in
theorem rf4small_any {w : World} {g : Nat} {q : Option Nat} {r : Rd} (h : Rdf w g q r) (most : Int) (h0 : 0 ≤ most) (h1 : most ≤ 1000000) :
    Calls Try.prog 70 #[.pointer (some ⟨g, 0, none⟩), .int .i64 most] w fun e w' => e = .returned (.int .i64 (rdSmall r most).1) ∧ Rdf w' g q (rdSmall r most).2 ∧ Chg (One g) w w' := by
  have hi := rfInt_any h
  have hr := rdInt_range r
  unfold rdSmall
  generalize rdInt r = p at hi hr ⊢
  obtain ⟨n, r'⟩ := p
  dsimp only at hi hr ⊢
  generalize hZ : (if n < 0 ∨ most < n then most + 1 else n) = Z
  have HZ : Hid ((if n < 0 ∨ most < n then most + 1 else n) = Z) := hZ
  clear hZ
  go_enter Try.func70, Try.ntmps70
  go_wp2_with fail
  refine hi.mono ?_
  rintro e w1 ⟨rfl, hq, hc⟩
  have HQ : Hid (Rdf w1 g q r') := hq
  have HC : Hid (Chg (One g) w w1) := hc
  clear hi hq hc h
  by_cases hn : n < 0
  · obtain rfl : most + 1 = Z := by have := HZ.out; rw [if_pos (Or.inl hn)] at this; exact this
    go_wp2
    go_ret
    exact ⟨rfl, HQ.out, HC.out⟩
  · by_cases hn2 : most < n
    · obtain rfl : most + 1 = Z := by have := HZ.out; rw [if_pos (Or.inr hn2)] at this; exact this
      go_wp2
      go_ret
      exact ⟨rfl, HQ.out, HC.out⟩
    · obtain rfl : n = Z := by have := HZ.out; rw [if_neg (by omega)] at this; exact this
      go_wp2
      go_ret
      exact ⟨rfl, HQ.out, HC.out⟩
theorem rdSmall_le (r : Rd) (m : Int) (hm : 0 ≤ m) : 0 ≤ (rdSmall r m).1 ∧ (rdSmall r m).1 ≤ m + 1 := by
  unfold rdSmall
  dsimp only
  split <;> omega
/- What Read tells: a config, or that it may not be; the reader has gone on. -/
def RGot (w w' : World) (g : Nat) (q : Option Nat) (e : Ending) (ver : Int) (ms : List Mem) (r : Rd) : Prop :=
  Rdf w' g q r ∧ Chg (One g) w w' ∧ ((r.isSome = true ∧ chk ver ms = 0 ∧ ∃ v, e = .returned (.tuple #[.agg #[.int .i64 ver, v], .bool true]) ∧ w'.ownsRow w.heap.size 30 4 v ms.length (mvs ms)) ∨
    (¬ (r.isSome = true ∧ chk ver ms = 0) ∧ e = .returned (.tuple #[.agg #[.int .i64 0, .slice none 0 0], .bool false])))
/- What holds between the rounds of Read. -/
structure RS (w w2 : World) (g p1 : Nat) (q : Option Nat) (ver : Int) (W : World) (r : Rd) (v : Value) (k : Nat) (ms : List Mem) : Prop where
  rd : Rdf W g q r
  ev : W.heap[p1]? = some (.cells #[.int .i64 ver, v] 25 (0, 0))
  re : W.heap[w.heap.size]? = some (.cells #[.int .i64 0, .slice none 0 0] 25 (0, 0))
  row : W.ownsRow w2.heap.size 30 4 v k (mvs ms)
  chg : Chg (One g) w W
  sz : w2.heap.size ≤ W.heap.size
  g1 : g < w.heap.size
  q1 : ∀ i, q = some i → i < w.heap.size
  p0 : w.heap.size < p1
  p2 : p1 < w2.heap.size
theorem RS.call {w w2 : World} {g p1 : Nat} {q : Option Nat} {ver : Int} {W W' : World} {r r' : Rd} {v : Value} {k : Nat} {ms : List Mem} (h : RS w w2 g p1 q ver W r v k ms) (hc : Chg (One g) W W') (hq : Rdf W' g q r') : RS w w2 g p1 q ver W' r' v k ms := by
  have hp0 := h.p0
  have hp2 := h.p2
  have hg1 := h.g1
  refine ⟨hq, ?_, ?_, ?_, h.chg.trans hc, Nat.le_trans h.sz hc.size, h.g1, h.q1, h.p0, h.p2⟩
  · rw [hc.block _ (blk_lt h.ev) (fun e => by have : p1 = g := e; omega)]; exact h.ev
  · rw [hc.block _ (blk_lt h.re) (fun e => by have : w.heap.size = g := e; omega)]; exact h.re
  · exact owns_keep h.row hc (fun i hi e => by have := (h.row.lt i hi).1; have : i = g := e; omega)
theorem RS.keep {S : Nat → Prop} {w w2 : World} {g p1 : Nat} {q : Option Nat} {ver : Int} {W W' : World} {r : Rd} {v : Value} {k : Nat} {ms : List Mem} (h : RS w w2 g p1 q ver W r v k ms) (hc : Chg S W W') (hS : ∀ i, S i → w2.heap.size ≤ i ∧ v.ownBlock ≠ some i) : RS w w2 g p1 q ver W' r v k ms := by
  have hp0 := h.p0
  have hp2 := h.p2
  have hg1 := h.g1
  refine ⟨h.rd.keep hc (fun e => by have := (hS _ e).1; omega) (fun i hi e => by have := (hS _ e).1; have := h.q1 i hi; omega), ?_, ?_, ?_, h.chg.trans' hc (fun i hi e => by have := (hS _ e).1; omega), Nat.le_trans h.sz hc.size, h.g1, h.q1, h.p0, h.p2⟩
  · rw [hc.block _ (blk_lt h.ev) (fun e => by have := (hS _ e).1; omega)]; exact h.ev
  · rw [hc.block _ (blk_lt h.re) (fun e => by have := (hS _ e).1; omega)]; exact h.re
  · exact owns_keep h.row hc (fun i hi e => (hS _ e).2 hi)
theorem RS.at8 {w w2 : World} {g p1 : Nat} {q : Option Nat} {ver : Int} {X w8 : World} {r : Rd} {v : Value} {k : Nat} {ms : List Mem} {o : Obj} (h : RS w w2 g p1 q ver X r v k ms) (hg : (X.alloc o).grownBy w8 v.ownBlock) : w8.heap[p1]? = some (.cells #[.int .i64 ver, v] 25 (0, 0)) := by
  have hp2 := h.p2
  have hc : Chg (fun i => v.ownBlock = some i) X w8 := (Chg.alloc _ X o).trans (Chg.of_grown hg)
  rw [hc.block _ (blk_lt h.ev) (fun e => by have := (h.row.lt _ e).1; omega)]; exact h.ev
theorem RS.app {w w2 : World} {g p1 : Nat} {q : Option Nat} {ver : Int} {X w8 : World} {r : Rd} {v v' : Value} {k : Nat} {ms : List Mem} {o : Obj} (m : Mem) (h : RS w w2 g p1 q ver X r v k ms) (hg : (X.alloc o).grownBy w8 v.ownBlock)
    (hown : w8.ownsRow w2.heap.size 30 4 v' (k + 1) (mvs ms ++ mvs [m])) : RS w w2 g p1 q ver (w8.setCell ⟨p1, 1, none⟩ v') r v' (k + 1) (ms ++ [m]) := by
  have hp0 := h.p0
  have hp2 := h.p2
  have hg1 := h.g1
  have hc : Chg (fun i => v.ownBlock = some i) X w8 := (Chg.alloc _ X o).trans (Chg.of_grown hg)
  have hvb : ∀ i, v.ownBlock = some i → w2.heap.size ≤ i := fun i hi => (h.row.lt i hi).1
  have hc2 : Chg (One p1) w8 (w8.setCell ⟨p1, 1, none⟩ v') := Chg.setCell w8 ⟨p1, 1, none⟩ _ rfl
  have h8 : w8.heap[p1]? = _ := h.at8 hg
  have hr8 : w8.heap[w.heap.size]? = some (.cells #[.int .i64 0, .slice none 0 0] 25 (0, 0)) := by
    rw [hc.block _ (blk_lt h.re) (fun e => by have := hvb _ e; omega)]; exact h.re
  refine ⟨?_, heap_set h8 1 v', ?_, ?_, ?_, Nat.le_trans h.sz (Nat.le_trans hc.size hc2.size), h.g1, h.q1, h.p0, h.p2⟩
  · exact (h.rd.keep hc (fun e => by have := hvb _ e; omega) (fun i hi e => by have := hvb _ e; have := h.q1 i hi; omega)).keep hc2 (fun e => by have : g = p1 := e; omega) (fun i hi e => by have : i = p1 := e; have := h.q1 i hi; omega)
  · rw [hc2.block _ (blk_lt hr8) (fun e => by have : w.heap.size = p1 := e; omega)]; exact hr8
  · rw [mvs_app]
    exact owns_keep hown hc2 (fun i hi e => by have := (hown.lt i hi).1; have : i = p1 := e; omega)
  · exact (h.chg.trans' hc (fun i hi e => by have := hvb _ e; omega)).trans' hc2 (fun i hi e => by have : i = p1 := e; omega)
theorem rfm_step (n : Nat) (r : Rd) : rfMems (n + 1) r = ((rfMem r).1 :: (rfMems n (rfMem r).2).1, (rfMems n (rfMem r).2).2) := rfl
set_option maxRecDepth 100000 in
set_option maxHeartbeats 4000000 in
theorem rf4Read_any {w : World} {g : Nat} {q : Option Nat} {r : Rd} (h : Rdf w g q r) (hqw : ∀ k, q = some k → k < w.heap.size) :
    Calls Try.prog 54 #[.pointer (some ⟨g, 0, none⟩)] w fun e w' => RGot w w' g q e (rdInt r).1 (rfMems (rdCount (rdInt r).2 7).1.toNat (rdCount (rdInt r).2 7).2).1 (rfMems (rdCount (rdInt r).2 7).1.toNat (rdCount (rdInt r).2 7).2).2 := by
  have hgw : g < w.heap.size := h.lt
  have HQ0 : Hid (Rdf w g q r) := h
  have hr0 := rdInt_range r
  have hr1 := rdCount_le (rdInt r).2 7 (by omega)
  have k1 := fun {w1 : World} (hh : Rdf w1 g q r) => rfInt_any hh
  have k2 := fun {w1 : World} (hh : Rdf w1 g q (rdInt r).2) => rfCount_any hh 7
  generalize rdInt r = p1 at *
  obtain ⟨ver, r1⟩ := p1
  dsimp only at *
  generalize rdCount r1 7 = p2 at *
  obtain ⟨nn, r2⟩ := p2
  dsimp only at *
  obtain ⟨n, rfl⟩ := Int.eq_ofNat_of_zero_le hr1.1
  rw [Int.toNat_natCast]
  have K1 : Hid (∀ {w1 : World}, Rdf w1 g q r → Calls Try.prog 68 #[.pointer (some ⟨g, 0, none⟩)] w1 fun e w' => e = .returned (.int .i64 ver) ∧ Rdf w' g q r1 ∧ Chg (One g) w1 w') := k1
  have K2 : Hid (∀ {w1 : World}, Rdf w1 g q r1 → Calls Try.prog 69 #[.pointer (some ⟨g, 0, none⟩), .int .i64 7] w1 fun e w' => e = .returned (.int .i64 (n : Nat)) ∧ Rdf w' g q r2 ∧ Chg (One g) w1 w') := k2
  have HQW : Hid (∀ k, q = some k → k < w.heap.size) := hqw
  obtain ⟨hr11, hr12⟩ := hr1
  clear k1 k2 h hqw
  generalize hRR : rfMems n r2 = RR
  have HRR : Hid (rfMems n r2 = RR) := hRR
  clear hRR
  go_enter Try.func54, Try.ntmps54
  go_wp2_with fail
  have hx0 := heap_alloc_new w (.cells #[.int .i64 0, .slice none 0 0] 25 (0, 0))
  have h1 := K1.out (HQ0.out.keep (Chg.alloc Non w (.cells #[.int .i64 0, .slice none 0 0] 25)) id (fun _ _ => id))
  refine h1.mono ?_
  rintro e w1 ⟨rfl, hq1, hc1⟩
  have hx1 : w1.heap[w.heap.size]? = some (.cells #[.int .i64 0, .slice none 0 0] 25 (0, 0)) := by rw [hc1.block _ (by simp) (fun e => by have : w.heap.size = g := e; omega)]; exact hx0
  have C1 : Chg (One g) w w1 := (Chg.alloc _ w _).trans hc1
  have hs1 := blk_lt hx1
  clear h1 hx0 hc1 HQ0
  go_wp2_with fail
  have hy1 := heap_alloc_new w1 (.cells #[.int .i64 ver, .slice none 0 0] 25 (0, 0))
  have hx1a := box_al hx1 (.cells #[.int .i64 ver, .slice none 0 0] 25)
  have h2 := K2.out (hq1.keep (Chg.alloc Non w1 (.cells #[.int .i64 ver, .slice none 0 0] 25)) id (fun _ _ => id))
  refine h2.mono ?_
  rintro e w2 ⟨rfl, hq2, hc2⟩
  have hx2 : w2.heap[w.heap.size]? = some (.cells #[.int .i64 0, .slice none 0 0] 25 (0, 0)) := by rw [hc2.block _ (blk_lt hx1a) (fun e => by have : w.heap.size = g := e; omega)]; exact hx1a
  have hy2 : w2.heap[w1.heap.size]? = some (.cells #[.int .i64 ver, .slice none 0 0] 25 (0, 0)) := by rw [hc2.block _ (by simp) (fun e => by have : w1.heap.size = g := e; omega)]; exact hy1
  have C2 : Chg (One g) w w2 := (C1.trans (Chg.alloc _ w1 _)).trans hc2
  have hs2 := blk_lt hy2
  have HX2 : Hid (w2.heap[w.heap.size]? = some (.cells #[.int .i64 0, .slice none 0 0] 25 (0, 0))) := hx2
  have HY2 : Hid (w2.heap[w1.heap.size]? = some (.cells #[.int .i64 ver, .slice none 0 0] 25 (0, 0))) := hy2
  have HQ2 : Hid (Rdf w2 g q r2) := hq2
  have HC2 : Hid (Chg (One g) w w2) := C2
  clear h2 hx1 hx1a hy1 hc2 hq1 hq2 hx2 hy2 C1 C2
  obtain ⟨p1, hp1⟩ : ∃ p, p = w1.heap.size := ⟨_, rfl⟩
  rw [← hp1] at hs1 hs2 HY2 ⊢
  clear hp1 K1 K2
  have HRS : Hid (RS w w2 g p1 q ver w2 r2 (.slice none 0 0) 0 []) := ⟨HQ2.out, HY2.out, HX2.out, World.ownsRow_nil _ _ _ _, HC2.out, Nat.le_refl _, hgw, HQW.out, hs1, hs2⟩
  clear HX2 HY2 HQ2 HC2
  go_wp2_with fail
  go_loopw [6] (fun i wr => ∃ (k : Nat) (ms : List Mem) (r : Rd) (v : Value), i = .int .i64 k ∧ k ≤ n ∧ ms.length = k ∧ RR = (ms ++ (rfMems (n - k) r).1, (rfMems (n - k) r).2) ∧ RS w w2 g p1 q ver wr r v k ms) (fun i _ => n - (intOf i).toNat)
  case atStart => exact ⟨0, [], r2, .slice none 0 0, rfl, by omega, rfl, HRR.out.symm, HRS.out⟩
  case round =>
    clear HRS
    obtain ⟨k, ms, r3, v, rfl, hk, hms, hrd, hs⟩ := hrel
    have HRD : Hid (RR = (ms ++ (rfMems (n - k) r3).1, (rfMems (n - k) r3).2)) := hrd
    have HS : Hid (RS w w2 g p1 q ver wr r3 v k ms) := hs
    have HMS : Hid (ms.length = k) := hms
    clear hrd hs hms
    by_cases hlt : k < n
    · obtain ⟨j, hj⟩ : ∃ j, n - k = j + 1 := ⟨n - k - 1, by omega⟩
      have HJ : Hid (n - k = j + 1) := hj
      clear hj
      have hst := rfm_step j r3
      have s1 := rdSmall_le r3 7 (by omega)
      have a1 := rf4small_any HS.out.rd 7 (by omega) (by omega)
      unfold rfMem at hst
      generalize rdSmall r3 7 = t1 at hst s1 a1
      obtain ⟨mi, r4⟩ := t1
      dsimp only at hst s1 a1
      have s2 := rdSmall_le r4 2 (by omega)
      have a2 := fun {W : World} (hh : Rdf W g q r4) => rf4small_any hh 2 (by omega) (by omega)
      generalize rdSmall r4 2 = t2 at hst s2 a2
      obtain ⟨mr, r5⟩ := t2
      dsimp only at hst s2 a2
      have s3 := rdSmall_le r5 1000 (by omega)
      have a3 := fun {W : World} (hh : Rdf W g q r5) => rf4small_any hh 1000 (by omega) (by omega)
      generalize rdSmall r5 1000 = t3 at hst s3 a3
      obtain ⟨mw, r6⟩ := t3
      dsimp only at hst s3 a3
      have s4 := rdSmall_le r6 7 (by omega)
      have a4 := fun {W : World} (hh : Rdf W g q r6) => rf4small_any hh 7 (by omega) (by omega)
      generalize rdSmall r6 7 = t4 at hst s4 a4
      obtain ⟨mg, r7⟩ := t4
      dsimp only at hst s4 a4
      have HST : Hid (rfMems (j + 1) r3 = (⟨mi, mr, mw, mg⟩ :: (rfMems j r7).1, (rfMems j r7).2)) := hst
      have A2 : Hid (∀ {W : World}, Rdf W g q r4 → Calls Try.prog 70 #[.pointer (some ⟨g, 0, none⟩), .int .i64 2] W fun e w' => e = .returned (.int .i64 mr) ∧ Rdf w' g q r5 ∧ Chg (One g) W w') := a2
      have A3 : Hid (∀ {W : World}, Rdf W g q r5 → Calls Try.prog 70 #[.pointer (some ⟨g, 0, none⟩), .int .i64 1000] W fun e w' => e = .returned (.int .i64 mw) ∧ Rdf w' g q r6 ∧ Chg (One g) W w') := a3
      have A4 : Hid (∀ {W : World}, Rdf W g q r6 → Calls Try.prog 70 #[.pointer (some ⟨g, 0, none⟩), .int .i64 7] W fun e w' => e = .returned (.int .i64 mg) ∧ Rdf w' g q r7 ∧ Chg (One g) W w') := a4
      obtain ⟨s21, s22⟩ := s2
      clear hst a2 a3 a4
      go_wp2_with fail
      refine a1.mono ?_
      rintro e w3 ⟨rfl, hq3, hc3⟩
      have HS3 : Hid (RS w w2 g p1 q ver w3 r4 v k ms) := HS.out.call hc3 hq3
      clear a1 hq3 hc3
      have hvb : v.ownBlock ≠ some w3.heap.size := fun e => by have := (HS3.out.row.lt _ e).2; omega
      have hsz3 := HS3.out.sz
      have HS3a : Hid (RS w w2 g p1 q ver (w3.alloc (.cells #[.int .i64 mi, .int .u8 0, .int .i64 0, .int .i64 0] 30)) r4 v k ms) := HS3.out.keep (Chg.alloc Non w3 _) (fun _ e => e.elim)
      have HM3 : Hid ((w3.alloc (.cells #[.int .i64 mi, .int .u8 0, .int .i64 0, .int .i64 0] 30)).heap[w3.heap.size]? = some (.cells #[.int .i64 mi, .int .u8 0, .int .i64 0, .int .i64 0] 30 (0, 0))) := heap_alloc_new w3 _
      go_wp2_with fail
      have h4 := A2.out HS3a.out.rd
      refine h4.mono ?_
      rintro e w4 ⟨rfl, hq4, hc4⟩
      have HS4 : Hid (RS w w2 g p1 q ver w4 r5 v k ms) := HS3a.out.call hc4 hq4
      obtain ⟨mb, hmb⟩ : ∃ mb, mb = w3.heap.size := ⟨_, rfl⟩
      have hgmb : mb ≠ g := by have := HS3.out.g1; have := HS3.out.p0; have := HS3.out.p2; omega
      have hm4 : w4.heap[mb]? = some (.cells #[.int .i64 mi, .int .u8 0, .int .i64 0, .int .i64 0] 30 (0, 0)) := by rw [hc4.block mb (by rw [hmb]; simp) (fun e => hgmb e), hmb]; exact HM3.out
      rw [← hmb] at hvb hsz3 ⊢
      clear h4 hq4 hc4 HM3 HS3a HS3 hmb HS
      clear w3
      have y1 : w4.cell? ⟨mb, 1, none⟩ = some (.int .u8 0) := by rw [cell_at hm4]; rfl
      have f1 : w4.frozen? ⟨mb, 1, none⟩ = false := frozen_at hm4 1
      have HM4 : Hid (w4.heap[mb]? = some (.cells #[.int .i64 mi, .int .u8 0, .int .i64 0, .int .i64 0] 30 (0, 0))) := hm4
      clear hm4
      have HS4a : Hid (RS w w2 g p1 q ver (w4.setCell ⟨mb, 1, none⟩ (.int .u8 mr)) r5 v k ms) := HS4.out.keep (Chg.setCell (S := One mb) w4 ⟨mb, 1, none⟩ _ rfl) (fun i e => by have : i = mb := e; subst this; exact ⟨hsz3, hvb⟩)
      have HM4a : Hid ((w4.setCell ⟨mb, 1, none⟩ (.int .u8 mr)).heap[mb]? = some (.cells #[.int .i64 mi, .int .u8 mr, .int .i64 0, .int .i64 0] 30 (0, 0))) := heap_set HM4.out 1 _
      go_wp2_with fail
      have h5 := A3.out HS4a.out.rd
      refine h5.mono ?_
      rintro e w5 ⟨rfl, hq5, hc5⟩
      have HS5 : Hid (RS w w2 g p1 q ver w5 r6 v k ms) := HS4a.out.call hc5 hq5
      have hm5 : w5.heap[mb]? = some (.cells #[.int .i64 mi, .int .u8 mr, .int .i64 0, .int .i64 0] 30 (0, 0)) := by rw [hc5.block mb (blk_lt HM4a.out) (fun e => hgmb e)]; exact HM4a.out
      clear h5 hq5 hc5 HM4a HS4a HS4 HM4 y1 f1
      clear w4
      have y2 : w5.cell? ⟨mb, 2, none⟩ = some (.int .i64 0) := by rw [cell_at hm5]; rfl
      have f2 : w5.frozen? ⟨mb, 2, none⟩ = false := frozen_at hm5 2
      have HM5 : Hid (w5.heap[mb]? = some (.cells #[.int .i64 mi, .int .u8 mr, .int .i64 0, .int .i64 0] 30 (0, 0))) := hm5
      clear hm5
      have HS5a : Hid (RS w w2 g p1 q ver (w5.setCell ⟨mb, 2, none⟩ (.int .i64 mw)) r6 v k ms) := HS5.out.keep (Chg.setCell (S := One mb) w5 ⟨mb, 2, none⟩ _ rfl) (fun i e => by have : i = mb := e; subst this; exact ⟨hsz3, hvb⟩)
      have HM5a : Hid ((w5.setCell ⟨mb, 2, none⟩ (.int .i64 mw)).heap[mb]? = some (.cells #[.int .i64 mi, .int .u8 mr, .int .i64 mw, .int .i64 0] 30 (0, 0))) := heap_set HM5.out 2 _
      go_wp2_with fail
      have h6 := A4.out HS5a.out.rd
      refine h6.mono ?_
      rintro e w6 ⟨rfl, hq6, hc6⟩
      have HS6 : Hid (RS w w2 g p1 q ver w6 r7 v k ms) := HS5a.out.call hc6 hq6
      have hm6 : w6.heap[mb]? = some (.cells #[.int .i64 mi, .int .u8 mr, .int .i64 mw, .int .i64 0] 30 (0, 0)) := by rw [hc6.block mb (blk_lt HM5a.out) (fun e => hgmb e)]; exact HM5a.out
      clear h6 hq6 hc6 HM5a HS5a HS5 HM5 y2 f2
      clear w5
      have y0 : w6.cell? ⟨mb, 0, none⟩ = some (.int .i64 mi) := by rw [cell_at hm6]; rfl
      have y1 : w6.cell? ⟨mb, 1, none⟩ = some (.int .u8 mr) := by rw [cell_at hm6]; rfl
      have y2 : w6.cell? ⟨mb, 2, none⟩ = some (.int .i64 mw) := by rw [cell_at hm6]; rfl
      have y3 : w6.cell? ⟨mb, 3, none⟩ = some (.int .i64 0) := by rw [cell_at hm6]; rfl
      have f3 : w6.frozen? ⟨mb, 3, none⟩ = false := frozen_at hm6 3
      have x1 : w6.cell? ⟨p1, 1, none⟩ = some v := by rw [cell_at HS6.out.ev]; rfl
      have hpmb : p1 ≠ mb := by have := HS6.out.p2; omega
      have hlp : p1 < w6.heap.size := blk_lt HS6.out.ev
      have hlm : mb < w6.heap.size := blk_lt hm6
      have HS6a : Hid (RS w w2 g p1 q ver (w6.setCell ⟨mb, 3, none⟩ (.int .i64 mg)) r7 v k ms) := HS6.out.keep (Chg.setCell (S := One mb) w6 ⟨mb, 3, none⟩ _ rfl) (fun i e => by have : i = mb := e; subst this; exact ⟨hsz3, hvb⟩)
      obtain ⟨Av, Cv, rfl⟩ := owns_form' HS6.out.row
      clear hm6 HS6
      have HNW : Hid (∀ j u, [Value.int .i64 mi, .int .u8 mr, .int .i64 mw, .int .i64 mg][j]? = some u → ((w6.setCell ⟨mb, 3, none⟩ (.int .i64 mg)).alloc (.cells #[.int .i64 mi, .int .u8 mr, .int .i64 mw, .int .i64 mg] 30)).cell? ((⟨w6.heap.size, 0, none⟩ : Addr).add j) = some u) := by
        have e : w6.heap.size = (w6.setCell ⟨mb, 3, none⟩ (.int .i64 mg)).heap.size := by simp
        show ∀ j u, _
        rw [e]
        exact four_new _ _ _ _ _ _
      have HBS : Hid (w2.heap.size ≤ ((w6.setCell ⟨mb, 3, none⟩ (.int .i64 mg)).alloc (.cells #[.int .i64 mi, .int .u8 mr, .int .i64 mw, .int .i64 mg] 30)).heap.size) := by
        show _ ≤ _
        have := HS6a.out.sz; simp at this ⊢; omega
      obtain ⟨i0, hi, hz0, hz1, hz2⟩ := info_parts info30
      go_wp2_with (at_builtin; refine wpList_append_own_at _ rfl (.tmp 32) (.tmp 34) 23 rfl w2.heap.size 30 i0 _ 4 32 Try.underlying23 hi hz0 hz1 hz2 rfl (by decide) (.slice Av k Cv) k (mvs ms) rfl (HS6a.out.row.alloc _) ⟨_, 0, none⟩ 1 1 [.int .i64 mi, .int .u8 mr, .int .i64 mw, .int .i64 mg] rfl rfl HNW.out (mvs_one [⟨mi, mr, mw, mg⟩]) (by unfold maxLen; omega) (by omega) HBS.out ?_; intro v8 w8 hown hgrow hnil hat; (obtain ⟨A8, C8, rfl⟩ := owns_form' hown); (have HO8 : Hid (w8.ownsRow w2.heap.size 30 4 (.slice A8 (k + 1) C8) (k + 1) (mvs ms ++ mvs [⟨mi, mr, mw, mg⟩])) := hown); (have he8 := HS6a.out.at8 hgrow); (have HSN := HS6a.out.app ⟨mi, mr, mw, mg⟩ hgrow hown); (have HSN' : Hid _ := HSN); (have c81 : w8.cell? ⟨p1, 1, none⟩ = some (.slice Av k Cv) := by rw [cell_at he8]; rfl); (have f81 : w8.frozen? ⟨p1, 1, none⟩ = false := frozen_at he8 1); clear he8 HSN hnil hat hown hgrow)
      exact ⟨⟨k + 1, ms ++ [⟨mi, mr, mw, mg⟩], r7, _, by go_num, by omega, by rw [List.length_append, HMS.out]; rfl, by rw [HRD.out, HJ.out, HST.out, show n - (k + 1) = j by have := HJ.out; omega, List.append_assoc]; rfl, HSN'.out⟩, by simp [intOf]; omega⟩
    · have hkk : k = n := by omega
      subst hkk
      have hrr : RR = (ms, r3) := by
        have := HRD.out
        rw [Nat.sub_self] at this
        rw [this]
        simp [rfMems]
      subst hrr
      obtain ⟨Av, Cv, rfl⟩ := owns_form' HS.out.row
      have hz0 : wr.cell? ⟨w.heap.size, 0, none⟩ = some (.int .i64 0) := by rw [cell_at HS.out.re]; rfl
      have hz1 : wr.cell? ⟨w.heap.size, 1, none⟩ = some (.slice none 0 0) := by rw [cell_at HS.out.re]; rfl
      have hf0 : wr.frozen? ⟨w.heap.size, 0, none⟩ = false := frozen_at HS.out.re 0
      have hf1 : wr.frozen? ⟨w.heap.size, 1, none⟩ = false := frozen_at HS.out.re 1
      have hlw := blk_lt HS.out.re
      have hx0 : wr.cell? ⟨p1, 0, none⟩ = some (.int .i64 ver) := by rw [cell_at HS.out.ev]; rfl
      have hx1 : wr.cell? ⟨p1, 1, none⟩ = some (.slice Av k Cv) := by rw [cell_at HS.out.ev]; rfl
      have hlp := blk_lt HS.out.ev
      have hmm : Mems wr (.slice Av k Cv) ms := mems_of_owns (base := w2.heap.size) (by rw [HMS.out]; exact HS.out.row)
      have hck := rf4Check_any hmm ver
      have hgd := rfGood_any HS.out.rd
      generalize hsm : r3.isSome = so at hgd
      have HSM : Hid (r3.isSome = so) := hsm
      clear hmm hsm HRD HRR
      cases so with
      | false =>
        have hc9 : Chg (One w.heap.size) wr ((wr.setCell ⟨w.heap.size, 0, none⟩ (.int .i64 0)).setCell ⟨w.heap.size, 1, none⟩ (.slice none 0 0)) :=
          (Chg.setCell (S := One w.heap.size) wr ⟨w.heap.size, 0, none⟩ _ rfl).trans (Chg.setCell (S := One w.heap.size) _ ⟨w.heap.size, 1, none⟩ _ rfl)
        have HC9 : Hid (Chg (One w.heap.size) wr ((wr.setCell ⟨w.heap.size, 0, none⟩ (.int .i64 0)).setCell ⟨w.heap.size, 1, none⟩ (.slice none 0 0))) := hc9
        clear hck hc9
        go_wp2_with fail
        refine hgd.mono ?_
        rintro e w8 ⟨rfl, rfl⟩
        go_wp2
        refine bodyPost_ret (v := .tuple #[.agg #[.int .i64 0, .slice none 0 0], .bool false]) (by simp [results, Try.results54, go_sem, hz0, hz1]) rfl ⟨?_, ?_, .inr ⟨?_, rfl⟩⟩
        · exact HS.out.rd.keep HC9.out (fun e => by have : g = w.heap.size := e; omega) (fun i hi e => by have : i = w.heap.size := e; have := HQW.out i hi; omega)
        · exact HS.out.chg.trans' HC9.out (fun i hi e => by have : i = w.heap.size := e; omega)
        · rw [HSM.out]; simp
      | true =>
        by_cases hc : chk ver ms = 0
        · rw [hc] at hck
          have HCC : Hid (chk ver ms = 0) := hc
          clear hc
          go_wp2_with fail
          refine hgd.mono ?_
          rintro e w8 ⟨rfl, rfl⟩
          go_wp2_with fail
          refine hck.mono ?_
          rintro e w9 ⟨rfl, hB9⟩
          have y0 : w9.cell? ⟨w.heap.size, 0, none⟩ = some (.int .i64 0) := by rw [hB9.cell (p := ⟨w.heap.size, 0, none⟩) hlw]; exact hz0
          have y1 : w9.cell? ⟨w.heap.size, 1, none⟩ = some (.slice none 0 0) := by rw [hB9.cell (p := ⟨w.heap.size, 1, none⟩) hlw]; exact hz1
          have g0 : w9.frozen? ⟨w.heap.size, 0, none⟩ = false := by rw [hB9.frozen (p := ⟨w.heap.size, 0, none⟩) hlw]; exact hf0
          have g1 : w9.frozen? ⟨w.heap.size, 1, none⟩ = false := by rw [hB9.frozen (p := ⟨w.heap.size, 1, none⟩) hlw]; exact hf1
          have x0 : w9.cell? ⟨p1, 0, none⟩ = some (.int .i64 ver) := by rw [hB9.cell (p := ⟨p1, 0, none⟩) hlp]; exact hx0
          have x1 : w9.cell? ⟨p1, 1, none⟩ = some (.slice Av k Cv) := by rw [hB9.cell (p := ⟨p1, 1, none⟩) hlp]; exact hx1
          have hlw9 : w.heap.size < w9.heap.size := Nat.lt_of_lt_of_le hlw hB9.size
          have HC9 : Hid (Chg (One w.heap.size) w8 ((w9.setCell ⟨w.heap.size, 0, none⟩ (.int .i64 ver)).setCell ⟨w.heap.size, 1, none⟩ (.slice Av k Cv))) :=
            ((Chg.of_below hB9).weak (fun _ _ e => e.elim)).trans ((Chg.setCell (S := One w.heap.size) w9 ⟨w.heap.size, 0, none⟩ _ rfl).trans (Chg.setCell (S := One w.heap.size) _ ⟨w.heap.size, 1, none⟩ _ rfl))
          clear hz0 hz1 hf0 hf1
          go_wp2
          refine bodyPost_ret (v := .tuple #[.agg #[.int .i64 ver, .slice Av k Cv], .bool true]) (by simp [results, Try.results54, go_sem, y0, y1]) rfl ⟨?_, ?_, .inl ⟨HSM.out, HCC.out, _, rfl, ?_⟩⟩
          · exact HS.out.rd.keep HC9.out (fun e => by have : g = w.heap.size := e; omega) (fun i hi e => by have : i = w.heap.size := e; have := HQW.out i hi; omega)
          · exact HS.out.chg.trans' HC9.out (fun i hi e => by have : i = w.heap.size := e; omega)
          · have h1 := owns_keep HS.out.row HC9.out (fun i hi e => by have := (HS.out.row.lt i hi).1; have : i = w.heap.size := e; omega)
            rw [HMS.out]
            refine ⟨h1.1, ?_⟩
            rcases h1.2 with h2 | ⟨gg, cap, cur, hv, hg, h3⟩
            · exact .inl h2
            · exact .inr ⟨gg, cap, cur, hv, by omega, h3⟩
        · have hcb : (chk ver ms != 0) = true := by simpa using hc
          have HCC : Hid (¬ chk ver ms = 0) := hc
          generalize chk ver ms = c at hck hcb
          clear hc
          go_wp2_with fail
          refine hgd.mono ?_
          rintro e w8 ⟨rfl, rfl⟩
          go_wp2_with fail
          refine hck.mono ?_
          rintro e w9 ⟨rfl, hB9⟩
          have y0 : w9.cell? ⟨w.heap.size, 0, none⟩ = some (.int .i64 0) := by rw [hB9.cell (p := ⟨w.heap.size, 0, none⟩) hlw]; exact hz0
          have y1 : w9.cell? ⟨w.heap.size, 1, none⟩ = some (.slice none 0 0) := by rw [hB9.cell (p := ⟨w.heap.size, 1, none⟩) hlw]; exact hz1
          have g0 : w9.frozen? ⟨w.heap.size, 0, none⟩ = false := by rw [hB9.frozen (p := ⟨w.heap.size, 0, none⟩) hlw]; exact hf0
          have g1 : w9.frozen? ⟨w.heap.size, 1, none⟩ = false := by rw [hB9.frozen (p := ⟨w.heap.size, 1, none⟩) hlw]; exact hf1
          have hlw9 : w.heap.size < w9.heap.size := Nat.lt_of_lt_of_le hlw hB9.size
          have HC9 : Hid (Chg (One w.heap.size) w8 ((w9.setCell ⟨w.heap.size, 0, none⟩ (.int .i64 0)).setCell ⟨w.heap.size, 1, none⟩ (.slice none 0 0))) :=
            ((Chg.of_below hB9).weak (fun _ _ e => e.elim)).trans ((Chg.setCell (S := One w.heap.size) w9 ⟨w.heap.size, 0, none⟩ _ rfl).trans (Chg.setCell (S := One w.heap.size) _ ⟨w.heap.size, 1, none⟩ _ rfl))
          clear hz0 hz1 hf0 hf1
          go_wp2
          refine bodyPost_ret (v := .tuple #[.agg #[.int .i64 0, .slice none 0 0], .bool false]) (by simp [results, Try.results54, go_sem, y0, y1]) rfl ⟨?_, ?_, .inr ⟨fun h => HCC.out h.2, rfl⟩⟩
          · exact HS.out.rd.keep HC9.out (fun e => by have : g = w.heap.size := e; omega) (fun i hi e => by have : i = w.heap.size := e; have := HQW.out i hi; omega)
          · exact HS.out.chg.trans' HC9.out (fun i hi e => by have : i = w.heap.size := e; omega)
set_option maxRecDepth 100000 in
set_option maxHeartbeats 2000000 in
theorem rf4Get_any {w : World} {x : Value} {b : List UInt8} (hx : Bs w x b) (hb : b.length ≤ 140737488355328) :
    Calls Try.prog 27 #[x] w fun e w' => Got w w' e (cfgRf b) := by
  have HX : Hid (Bs w x b) := hx
  obtain ⟨AX, CX, rfl⟩ := bs_form hx
  have hB1 : Below w.heap.size w (w.alloc (.cells #[.int .i64 0, .slice none 0 0] 25)) := (Below.refl _ _).alloc (Nat.le_refl _) _
  clear hx
  have hcf : cfgRf b = if (rfMems (rdCount (rdInt (some b)).2 7).1.toNat (rdCount (rdInt (some b)).2 7).2).2 = some [] ∧ chk (rdInt (some b)).1 (rfMems (rdCount (rdInt (some b)).2 7).1.toNat (rdCount (rdInt (some b)).2 7).2).1 = 0 then some ((rdInt (some b)).1, (rfMems (rdCount (rdInt (some b)).2 7).1.toNat (rdCount (rdInt (some b)).2 7).2).1) else none := rfl
  rw [hcf]
  clear hcf
  have k1 := fun {w1 : World} {g : Nat} {q : Option Nat} (hh : Rdf w1 g q (some b)) hq => rf4Read_any hh hq
  generalize (rfMems (rdCount (rdInt (some b)).2 7).1.toNat (rdCount (rdInt (some b)).2 7).2) = p1 at *
  obtain ⟨ms, r⟩ := p1
  generalize (rdInt (some b)).1 = ver at *
  dsimp only at *
  have K1 : Hid (∀ {w1 : World} {g : Nat} {q : Option Nat}, Rdf w1 g q (some b) → (∀ k, q = some k → k < w1.heap.size) → Calls Try.prog 54 #[.pointer (some ⟨g, 0, none⟩)] w1 fun e w' => RGot w1 w' g q e ver ms r) := k1
  clear k1
  generalize hOO : (if r = some [] ∧ chk ver ms = 0 then some (ver, ms) else none) = OO
  have HOO : Hid ((if r = some [] ∧ chk ver ms = 0 then some (ver, ms) else none) = OO) := hOO
  clear hOO
  go_enter Try.func27, Try.ntmps27
  go_wp2_with fail
  have h2 := rfNew_any (HX.out.below hB1 (fun k hk => HX.out.lt hk)) hb
  refine h2.mono ?_
  clear h2
  rintro e w2 ⟨g, q, rfl, hq2, hB2, hg2, hqq2⟩
  have hs1 : w.heap.size < g := by simp at hg2; omega
  have hx2 : w2.heap[w.heap.size]? = some (.cells #[.int .i64 0, .slice none 0 0] 25 (0, 0)) := by rw [hB2.block _ (by simp)]; exact heap_alloc_new w _
  have HB2 : Hid (Below w.heap.size w w2) := hB1.trans (hB2.mono (by simp))
  have hsz2 : w.heap.size < w2.heap.size := blk_lt hx2
  have h3 := K1.out hq2 (fun k hk => (hqq2 k hk).2)
  clear hB1 hB2 hg2 K1
  go_wp2_with fail
  refine h3.mono ?_
  rintro e w3 ⟨hq3, hc3, hres⟩
  have hx3 : w3.heap[w.heap.size]? = some (.cells #[.int .i64 0, .slice none 0 0] 25 (0, 0)) := by rw [hc3.block _ hsz2 (fun e => by have : w.heap.size = g := e; omega)]; exact hx2
  have HB3 : Hid (Below w.heap.size w w3) := HB2.out.trans (hc3.below (fun k e => by have : k = g := e; omega) HB2.out.size)
  have hz0 : w3.cell? ⟨w.heap.size, 0, none⟩ = some (.int .i64 0) := by rw [cell_at hx3]; rfl
  have hz1 : w3.cell? ⟨w.heap.size, 1, none⟩ = some (.slice none 0 0) := by rw [cell_at hx3]; rfl
  have hf0 : w3.frozen? ⟨w.heap.size, 0, none⟩ = false := frozen_at hx3 0
  have hf1 : w3.frozen? ⟨w.heap.size, 1, none⟩ = false := frozen_at hx3 1
  have hlw := blk_lt hx3
  have HQ3 : Hid (Rdf w3 g q r) := hq3
  clear h3 hq2 hqq2 hx2 hc3 hq3 hx3
  have hB8 := fun o => (Below.refl w3.heap.size w3).alloc (Nat.le_refl _) o
  have HW8 : Hid (∀ (a b : Value) (w8 : World), w8 = w3.alloc (.cells #[a, b] 25) → w8.cell? ⟨w.heap.size, 0, none⟩ = some (.int .i64 0) ∧ w8.cell? ⟨w.heap.size, 1, none⟩ = some (.slice none 0 0) ∧ w8.frozen? ⟨w.heap.size, 0, none⟩ = false ∧ w8.frozen? ⟨w.heap.size, 1, none⟩ = false ∧ w.heap.size < w8.heap.size ∧ w8.cell? ⟨w3.heap.size, 0, none⟩ = some a ∧ w8.cell? ⟨w3.heap.size, 1, none⟩ = some b ∧ w3.heap.size < w8.heap.size ∧
      (∀ x y, Below w.heap.size w ((w8.setCell ⟨w.heap.size, 0, none⟩ x).setCell ⟨w.heap.size, 1, none⟩ y)) ∧ (∀ x y, Chg (One w.heap.size) w3 ((w8.setCell ⟨w.heap.size, 0, none⟩ x).setCell ⟨w.heap.size, 1, none⟩ y))) := by
    rintro a b w8 rfl
    have hn := heap_alloc_new w3 (.cells #[a, b] 25 (0, 0))
    have hc := fun x y => ((Chg.alloc (One w.heap.size) w3 (.cells #[a, b] 25)).trans (Chg.setCell (S := One w.heap.size) _ ⟨w.heap.size, 0, none⟩ x rfl)).trans (Chg.setCell (S := One w.heap.size) _ ⟨w.heap.size, 1, none⟩ y rfl)
    refine ⟨?_, ?_, ?_, ?_, by simp; omega, by rw [cell_at hn]; rfl, by rw [cell_at hn]; rfl, by simp, fun x y => HB3.out.trans ((hc x y).below (fun k e => by have : k = w.heap.size := e; omega) HB3.out.size), hc⟩
    · rw [(hB8 _).cell (p := ⟨w.heap.size, 0, none⟩) hlw]; exact hz0
    · rw [(hB8 _).cell (p := ⟨w.heap.size, 1, none⟩) hlw]; exact hz1
    · rw [(hB8 _).frozen (p := ⟨w.heap.size, 0, none⟩) hlw]; exact hf0
    · rw [(hB8 _).frozen (p := ⟨w.heap.size, 1, none⟩) hlw]; exact hf1
  have HZ : Hid (w3.cell? ⟨w.heap.size, 0, none⟩ = some (.int .i64 0) ∧ w3.cell? ⟨w.heap.size, 1, none⟩ = some (.slice none 0 0) ∧ w3.frozen? ⟨w.heap.size, 0, none⟩ = false ∧ w3.frozen? ⟨w.heap.size, 1, none⟩ = false) := ⟨hz0, hz1, hf0, hf1⟩
  clear hz0 hz1 hf0 hf1 hB8
  rcases hres with ⟨hso, hck, v, rfl, hown⟩ | ⟨hno, rfl⟩
  · obtain ⟨Av, Cv, rfl⟩ := owns_form' hown
    have HOW : Hid (w3.ownsRow w2.heap.size 30 4 (.slice Av ms.length Cv) ms.length (mvs ms)) := hown
    clear hown
    have hwh0 := fun o => rfWhole_any (HQ3.out.keep (Chg.alloc Non w3 o) id (fun _ _ => id))
    by_cases hw : r = some []
    · obtain rfl : some (ver, ms) = OO := by have := HOO.out; rw [if_pos ⟨hw, hck⟩] at this; exact this
      rw [decide_eq_true hw] at hwh0
      clear hw hck hso HOO
      obtain ⟨N, hN⟩ : ∃ N, N = ms.length := ⟨_, rfl⟩
      rw [← hN] at HOW ⊢
      have HN : Hid (N = ms.length) := hN
      clear hN
      go_wp2_with fail
      refine (hwh0 _).mono ?_
      rintro e w8 ⟨rfl, hw8⟩
      obtain ⟨z0, z1, f0, f1, l0, x0, x1, l1, b8, c8⟩ := HW8.out _ _ _ hw8
      have B8 : Hid (∀ x y, Below w.heap.size w ((w8.setCell ⟨w.heap.size, 0, none⟩ x).setCell ⟨w.heap.size, 1, none⟩ y)) := b8
      have C8 : Hid (∀ x y, Chg (One w.heap.size) w3 ((w8.setCell ⟨w.heap.size, 0, none⟩ x).setCell ⟨w.heap.size, 1, none⟩ y)) := c8
      clear hw8 b8 c8 hwh0
      go_wp2
      refine bodyPost_ret (v := .tuple #[.agg #[.int .i64 ver, .slice Av N Cv], .int .i64 0]) (by simp [results, Try.results27, go_sem, z0, z1]) rfl ?_
      refine Got.yes _ ?_ (B8.out _ _)
      have hle := HB2.out.size
      have h1 := owns_keep HOW.out (C8.out (.int .i64 ver) (.slice Av N Cv)) (fun i hi e => by have := (HOW.out.lt i hi).1; have : i = w.heap.size := e; omega)
      rw [← HN.out]
      refine ⟨h1.1, ?_⟩
      rcases h1.2 with h2 | ⟨gg, cap, cur, hv, hg, h3⟩
      · exact .inl h2
      · exact .inr ⟨gg, cap, cur, hv, by omega, h3⟩
    · obtain rfl : none = OO := by have := HOO.out; rw [if_neg (fun h => hw h.1)] at this; exact this
      rw [decide_eq_false hw] at hwh0
      clear hw hck hso HOO
      go_wp2_with fail
      refine (hwh0 _).mono ?_
      rintro e w8 ⟨rfl, hw8⟩
      obtain ⟨z0, z1, f0, f1, l0, x0, x1, l1, b8, c8⟩ := HW8.out _ _ _ hw8
      have B8 : Hid (∀ x y, Below w.heap.size w ((w8.setCell ⟨w.heap.size, 0, none⟩ x).setCell ⟨w.heap.size, 1, none⟩ y)) := b8
      clear hw8 b8 c8 hwh0
      go_wp2
      exact bodyPost_ret (v := .tuple #[.agg #[.int .i64 0, .slice none 0 0], .int .i64 4]) (by simp [results, Try.results27, go_sem, z0, z1]) rfl (Got.no (B8.out _ _))
  · obtain rfl : none = OO := by have := HOO.out; rw [if_neg (fun h => hno ⟨by rw [h.1]; rfl, h.2⟩)] at this; exact this
    clear hno HOO
    obtain ⟨hz0, hz1, hf0, hf1⟩ := HZ.out
    have hbb : ∀ x y o, Below w.heap.size w (((w3.setCell ⟨w.heap.size, 0, none⟩ x).setCell ⟨w.heap.size, 1, none⟩ y).alloc o) := fun x y o =>
      HB3.out.trans ((((Chg.setCell (S := One w.heap.size) w3 ⟨w.heap.size, 0, none⟩ x rfl).trans (Chg.setCell (S := One w.heap.size) _ ⟨w.heap.size, 1, none⟩ y rfl)).trans (Chg.alloc (One w.heap.size) _ o)).below (fun k e => by have : k = w.heap.size := e; omega) HB3.out.size)
    have HBB : Hid (∀ x y o, Below w.heap.size w (((w3.setCell ⟨w.heap.size, 0, none⟩ x).setCell ⟨w.heap.size, 1, none⟩ y).alloc o)) := hbb
    clear hbb
    go_wp2
    exact bodyPost_ret (v := .tuple #[.agg #[.int .i64 0, .slice none 0 0], .int .i64 4]) (by simp [results, Try.results27, go_sem, hz0, hz1, hlw]) rfl (Got.no (HBB.out _ _ _))
end Go.Proofs.Ytohhbhkpekieiaa
