/- The walk of GetEvent. -/
import Derived.Test.YtmojplgoohnmdaaDoorAkG
namespace Go.Proofs.YtmojplgoohnmdaaDoor.AK
set_option linter.unusedVariables false
open Go.RowKit
set_option linter.unusedVariables false

theorem rdTake_inv {r : Rd} {n : Nat} {t : List UInt8} (h : (rdTake r n).2 = some t) : r = some ((rdTake r n).1 ++ t) ∧ (rdTake r n).1.length = n := by
  cases r with
  | none => simp [rdTake] at h
  | some l =>
    simp only [rdTake] at h ⊢
    split at h
    · cases h
    · next hl =>
      simp only [Option.some.injEq] at h
      subst h
      rw [if_neg hl]
      simp; omega
theorem rdText_inv {r : Rd} {m : Int} {t : List UInt8} (h : (rdText r m).2 = some t) : r = some (textB (rdText r m).1 ++ t) ∧ ((rdText r m).1.length : Int) ≤ m := by
  unfold rdText at h
  obtain ⟨h1, h2⟩ := rdTake_inv h
  obtain ⟨h3, h4, h5⟩ := rdCount_inv (pair_some h1)
  have e : (rdText r m).1 = (rdTake (rdCount r m).2 (rdCount r m).1.toNat).1 := rfl
  rw [e]
  have h6 : ((rdTake (rdCount r m).2 (rdCount r m).1.toNat).1.length : Int) = (rdCount r m).1 := by rw [h2]; omega
  refine ⟨?_, by omega⟩
  rw [textB, h6, List.append_assoc]
  exact h3
theorem rdText_le (r : Rd) (m : Int) (hm : 0 ≤ m) : ((rdText r m).1.length : Int) ≤ m := by
  cases h : (rdText r m).2 with
  | some t => exact (rdText_inv h).2
  | none =>
    have : (rdText r m).1 = [] := by
      unfold rdText at h ⊢
      cases h1 : (rdCount r m).2 with
      | none => rfl
      | some l =>
        rw [h1] at h
        simp only [rdTake] at h ⊢
        split at h
        · next hl => rw [if_pos hl]
        · cases h
    rw [this]; simpa using hm
structure GE (w0 w : World) (g : Nat) (q : Option Nat) (r : Rd) : Prop where
  rd : Rdr w g q r
  res : w.heap[w0.heap.size]? = some (.cells #[.int .u8 0, .int .u8 0, .string ⟨#[]⟩, .int .i64 0] 46 (0, 0))
  bel : Below w0.heap.size w0 w
  g : w0.heap.size < g
  q : ∀ k, q = some k → w0.heap.size < k ∧ k < w.heap.size
theorem GE.read {w0 w w' : World} {g : Nat} {q : Option Nat} {r r' : Rd} (h : GE w0 w g q r) (hr : Rdr w' g q r') (hc : Chg (One g) w w') : GE w0 w' g q r' :=
  ⟨hr, by rw [hc.block _ (heap_lt h.res) (fun e => by have := h.g; unfold One at e; omega)]; exact h.res, h.bel.trans (hc.below (fun k e => by have := h.g; unfold One at e; omega) h.bel.size), h.g, fun k hk => ⟨(h.q k hk).1, Nat.lt_of_lt_of_le (h.q k hk).2 hc.size⟩⟩
theorem GE.turn {w0 w w' : World} {g : Nat} {q : Option Nat} {r : Rd} {S : Nat → Prop} (h : GE w0 w g q r) (hc : Chg S w w') (hs : ∀ k, S k → w0.heap.size < k ∧ k ≠ g ∧ q ≠ some k) : GE w0 w' g q r :=
  ⟨h.rd.keep hc (fun e => (hs _ e).2.1 rfl) (fun k hk e => (hs k e).2.2 hk), by rw [hc.block _ (heap_lt h.res) (fun e => by have := (hs _ e).1; omega)]; exact h.res, h.bel.trans (hc.below (fun k e => by have := (hs k e).1; omega) h.bel.size), h.g, fun k hk => ⟨(h.q k hk).1, Nat.lt_of_lt_of_le (h.q k hk).2 hc.size⟩⟩
theorem GE.below {w0 w w' : World} {g : Nat} {q : Option Nat} {r : Rd} (h : GE w0 w g q r) (hb : Below w.heap.size w w') : GE w0 w' g q r := h.turn (Chg.of_below hb) (fun _ e => e.elim)
def evRet : Option Ev → Value
  | some e => .tuple #[.agg #[.int .u8 e.kind, .int .u8 e.sort, .string (mkS e.path), .int .i64 e.zxid], .int .i64 0]
  | none => .tuple #[.agg #[.int .u8 0, .int .u8 0, .string ⟨#[]⟩, .int .i64 0], .int .i64 4]
theorem set4 {w : World} {p T : Nat} {u0 u1 u2 u3 : Value} (h : w.heap[p]? = some (.cells #[u0, u1, u2, u3] T (0, 0))) (v0 v1 v2 v3 : Value) :
    ((((w.setCell ⟨p, 0, none⟩ v0).setCell ⟨p, 1, none⟩ v1).setCell ⟨p, 2, none⟩ v2).setCell ⟨p, 3, none⟩ v3).heap[p]? = some (.cells #[v0, v1, v2, v3] T (0, 0)) ∧ Chg (fun k => k = p) w ((((w.setCell ⟨p, 0, none⟩ v0).setCell ⟨p, 1, none⟩ v1).setCell ⟨p, 2, none⟩ v2).setCell ⟨p, 3, none⟩ v3) := by
  have h0 : (w.setCell ⟨p, 0, none⟩ v0).heap[p]? = some (.cells #[v0, u1, u2, u3] T (0, 0)) := heap_set h 0 v0
  have h1 : ((w.setCell ⟨p, 0, none⟩ v0).setCell ⟨p, 1, none⟩ v1).heap[p]? = some (.cells #[v0, v1, u2, u3] T (0, 0)) := heap_set h0 1 v1
  have h2 : (((w.setCell ⟨p, 0, none⟩ v0).setCell ⟨p, 1, none⟩ v1).setCell ⟨p, 2, none⟩ v2).heap[p]? = some (.cells #[v0, v1, v2, u3] T (0, 0)) := heap_set h1 2 v2
  have key : ∀ (u : World) (i : Nat) (v : Value), Chg (fun k => k = p) u (u.setCell ⟨p, i, none⟩ v) := fun u i v => Chg.setCell u _ v rfl
  exact ⟨heap_set h2 3 v3, (((key w 0 v0).trans (key _ 1 v1)).trans (key _ 2 v2)).trans (key _ 3 v3)⟩
set_option maxRecDepth 100000 in
set_option maxHeartbeats 4000000 in
theorem getE_any (w : World) (y : Value) (b : List UInt8) (hB : Bs w y b) (hl : b.length ≤ 140737488355328) :
    Calls Tryd.prog 25 #[y] w fun a w' => a = .returned (evRet (eventOf b)) ∧ Below w.heap.size w w' := by
  have HB : Hid (Bs w y b) := hB
  have HE : Hid (∀ e, (rdE b).1 = e → EvFit e ∧ (e.path.length : Int) ≤ 220 ∧ eventOf b = if (rightE e && decide (eventB e = b)) = true then some e else none) := by
    intro e he
    refine ⟨he ▸ rdE_fit b, he ▸ rdText_le _ _ (by omega), ?_⟩
    unfold eventOf
    rw [he]
    simp only [Bool.and_eq_true, decide_eq_true_eq]
  have HR : Hid ((rdE b).1 = ⟨((rdByte (some b)).1.toNat : Int), ((rdByte (rdByte (some b)).2).1.toNat : Int), (rdText (rdByte (rdByte (some b)).2).2 220).1, (rdInt (rdText (rdByte (rdByte (some b)).2).2 220).2).1⟩) := rfl
  obtain ⟨A1, C1, rfl⟩ := bs_form hB
  obtain ⟨w1, hw1⟩ : ∃ X, X = w.alloc (.cells #[.int .u8 0, .int .u8 0, .string ⟨#[]⟩, .int .i64 0] 46) := ⟨_, rfl⟩
  have hB1 : Below w.heap.size w w1 := by rw [hw1]; exact (Below.refl _ _).alloc (Nat.le_refl _) _
  have hsz1 : w1.heap.size = w.heap.size + 1 := by rw [hw1]; simp
  have HX1 : Hid (Bs w1 (.slice A1 b.length C1) b) := by rw [hw1]; exact hB.alloc _
  have HC1 : Hid (w1.heap[w.heap.size]? = some (.cells #[.int .u8 0, .int .u8 0, .string ⟨#[]⟩, .int .i64 0] 46 (0, 0))) := by rw [hw1]; exact heap_alloc_new w _
  have HB1 : Hid (Below w.heap.size w w1) := hB1
  have hnr := newReader_any HX1.out hl
  rw [hw1] at hnr
  clear hB hl hB1
  generalize (rdE b).1 = ev at HE HR
  go_enter Tryd.func25, Tryd.ntmps25
  go_wp2_with fail
  refine hnr.mono ?_
  rintro a w2 ⟨g, q, rfl, hR2, hB2, hg2, hq2⟩
  rw [← hw1] at hB2 hg2 hq2
  have HG2 : Hid (GE w w2 g q (some b)) := ⟨hR2, by rw [hB2.block _ (heap_lt HC1.out)]; exact HC1.out, HB1.out.trans (hB2.mono HB1.out.size), by omega, fun k hk => ⟨by have := (hq2 k hk).1; omega, (hq2 k hk).2⟩⟩
  have hrb := rByte_any HG2.out.rd
  have hkb := byte_kind (rdByte (some b)).1
  generalize ((rdByte (some b)).1.toNat : Int) = kb at hrb HR hkb
  generalize (rdByte (some b)).2 = r1 at hrb HR
  clear hnr hR2 hB2 hg2 hq2 hw1 HC1 HB1 HX1 hsz1 w1
  as_aux_lemma =>
  go_wp2_with fail
  refine hrb.mono ?_
  rintro a w3 ⟨rfl, hR3, hC3⟩
  have HG3 : Hid (GE w w3 g q r1) := HG2.out.read hR3 hC3
  clear hrb hR3 hC3 HG2 w2
  have hrb := rByte_any HG3.out.rd
  have hks := byte_kind (rdByte r1).1
  generalize ((rdByte r1).1.toNat : Int) = ks at hrb HR hks
  generalize (rdByte r1).2 = r2 at hrb HR
  as_aux_lemma =>
  go_wp2_with fail
  refine hrb.mono ?_
  rintro a w4 ⟨rfl, hR4, hC4⟩
  have HG4 : Hid (GE w w4 g q r2) := HG3.out.read hR4 hC4
  clear hrb hR4 hC4 HG3 w3
  have hrt := rText_any HG4.out.rd 220
  generalize (rdText r2 220).1 = pp at hrt HR
  generalize (rdText r2 220).2 = r3 at hrt HR
  as_aux_lemma =>
  go_wp2_with fail
  refine hrt.mono ?_
  rintro a w5 ⟨rfl, hR5, hC5⟩
  have HG5 : Hid (GE w w5 g q r3) := HG4.out.read hR5 hC5
  clear hrt hR5 hC5 HG4 w4
  obtain ⟨w6, hw6⟩ : ∃ X, X = w5.alloc (.cells #[.int .u8 kb, .int .u8 ks, .string (mkS pp), .int .i64 0] 46) := ⟨_, rfl⟩
  have hB6 : Below w5.heap.size w5 w6 := by rw [hw6]; exact (Below.refl _ _).alloc (Nat.le_refl _) _
  have HG6 : Hid (GE w w6 g q r3) := HG5.out.below hB6
  have HN6 : Hid (w6.heap[w5.heap.size]? = some (.cells #[.int .u8 kb, .int .u8 ks, .string (mkS pp), .int .i64 0] 46 (0, 0))) := by rw [hw6]; exact heap_alloc_new w5 _
  have HP6 : Hid (w.heap.size < w5.heap.size ∧ g < w5.heap.size ∧ ∀ k, q = some k → k < w5.heap.size) := ⟨heap_lt HG5.out.res, HG5.out.rd.lt, fun k hk => (HG5.out.q k hk).2⟩
  have hri := rInt_any HG6.out.rd
  rw [hw6] at hri
  generalize (rdInt r3).1 = zz at hri HR
  generalize (rdInt r3).2 = r4 at hri HR
  as_aux_lemma =>
  go_wp2_with fail
  refine hri.mono ?_
  rintro a w7 ⟨rfl, hR7, hC7⟩
  rw [← hw6] at hC7
  have HG7 : Hid (GE w w7 g q r4) := HG6.out.read hR7 hC7
  have HN7 : Hid (w7.heap[w5.heap.size]? = some (.cells #[.int .u8 kb, .int .u8 ks, .string (mkS pp), .int .i64 0] 46 (0, 0))) := by
    show _ = _
    rw [hC7.block _ (heap_lt HN6.out) (fun e => by have := HP6.out.2.1; unfold One at e; omega)]; exact HN6.out
  clear hri hR7 hC7 HG6 HN6 HG5 hw6 hB6 w6
  generalize w5.heap.size = p at HN7 HP6 ⊢
  clear w5
  obtain ⟨w8, hw8⟩ : ∃ X, X = w7.setCell ⟨p, 3, none⟩ (.int .i64 zz) := ⟨_, rfl⟩
  have HN8 : Hid (w8.heap[p]? = some (.cells #[.int .u8 kb, .int .u8 ks, .string (mkS pp), .int .i64 zz] 46 (0, 0))) := by rw [hw8]; exact heap_set HN7.out 3 _
  have hc8 : Chg (fun k => k = p) w7 w8 := by rw [hw8]; exact Chg.setCell _ _ _ rfl
  have HG8 : Hid (GE w w8 g q r4) := HG7.out.turn hc8 (fun k e => by subst e; exact ⟨HP6.out.1, by have := HP6.out.2.1; omega, fun e => by have := HP6.out.2.2 _ e; omega⟩)
  obtain ⟨z0, z1, z2, z3⟩ := cells4 HN7.out
  have k3 := frozen_at HN7.out 3
  obtain ⟨hfit, hpl, hev⟩ := HE.out _ HR.out
  have hip := isPutE_any ⟨kb, ks, pp, zz⟩ w8 (.slice A1 b.length C1) b hfit (by omega) (Bs.below' HB.out HG8.out.bel)
  dsimp only at hip
  have HEV : Hid _ := hev
  have HW8 : Hid _ := hw8
  clear hfit hpl hev HE hc8
  rw [hw8] at hip
  as_aux_lemma =>
  go_wp2_with fail
  refine hip.mono ?_
  rintro a w9 ⟨rfl, hB9⟩
  rw [← hw8] at hB9
  have HG9 : Hid (GE w w9 g q r4) := HG8.out.below hB9
  have HN9 : Hid (w9.heap[p]? = some (.cells #[.int .u8 kb, .int .u8 ks, .string (mkS pp), .int .i64 zz] 46 (0, 0))) := by
    show _ = _
    rw [hB9.block _ (heap_lt HN8.out)]; exact HN8.out
  clear hip hB9 HG8 HN8 HW8 hw8 w8 HG7 HN7 z0 z1 z2 z3 k3 w7 HR
  obtain ⟨z0, z1, z2, z3⟩ := cells4 HN9.out
  obtain ⟨y0, y1, y2, y3⟩ := cells4 HG9.out.res
  have f0 := frozen_at HG9.out.res 0
  have f1 := frozen_at HG9.out.res 1
  have f2 := frozen_at HG9.out.res 2
  have f3 := frozen_at HG9.out.res 3
  generalize hX : (rightE ⟨kb, ks, pp, zz⟩ && decide (eventB ⟨kb, ks, pp, zz⟩ = b)) = X
  have HEV' : Hid (eventOf b = if X = true then some ⟨kb, ks, pp, zz⟩ else none) := by rw [← hX]; exact HEV.out
  clear HEV hX
  cases X with
  | false =>
    have HEQ : Hid (eventOf b = none) := HEV'.out
    clear HEV'
    as_aux_lemma =>
    go_wp2_with fail
    obtain ⟨hh, hcc⟩ := set4 HG9.out.res (.int .u8 0) (.int .u8 0) (.string ⟨#[]⟩) (.int .i64 0)
    generalize ((((w9.setCell ⟨w.heap.size, 0, none⟩ (.int .u8 0)).setCell ⟨w.heap.size, 1, none⟩ (.int .u8 0)).setCell ⟨w.heap.size, 2, none⟩ (.string ⟨#[]⟩)).setCell ⟨w.heap.size, 3, none⟩ (.int .i64 0)) = wz at hh hcc ⊢
    obtain ⟨x0, x1, x2, x3⟩ := cells4 hh
    refine bodyPost_ret (v := .tuple #[.agg #[.int .u8 0, .int .u8 0, .string ⟨#[]⟩, .int .i64 0], .int .i64 4]) (by simp [results, Tryd.results25, go_sem, x0, x1, x2, x3]) rfl ?_
    exact ⟨by rw [HEQ.out]; rfl, HG9.out.bel.trans (hcc.below (fun k hk => by omega) HG9.out.bel.size)⟩
  | true =>
    have HEQ : Hid (eventOf b = some ⟨kb, ks, pp, zz⟩) := HEV'.out
    clear HEV'
    as_aux_lemma =>
    go_wp2_with fail
    obtain ⟨hh, hcc⟩ := set4 HG9.out.res (.int .u8 kb) (.int .u8 ks) (.string (mkS pp)) (.int .i64 zz)
    generalize ((((w9.setCell ⟨w.heap.size, 0, none⟩ (.int .u8 kb)).setCell ⟨w.heap.size, 1, none⟩ (.int .u8 ks)).setCell ⟨w.heap.size, 2, none⟩ (.string (mkS pp))).setCell ⟨w.heap.size, 3, none⟩ (.int .i64 zz)) = wz at hh hcc ⊢
    obtain ⟨x0, x1, x2, x3⟩ := cells4 hh
    refine bodyPost_ret (v := .tuple #[.agg #[.int .u8 kb, .int .u8 ks, .string (mkS pp), .int .i64 zz], .int .i64 0]) (by simp [results, Tryd.results25, go_sem, x0, x1, x2, x3]) rfl ?_
    exact ⟨by rw [HEQ.out]; rfl, HG9.out.bel.trans (hcc.below (fun k hk => by omega) HG9.out.bel.size)⟩
end Go.Proofs.YtmojplgoohnmdaaDoor.AK
