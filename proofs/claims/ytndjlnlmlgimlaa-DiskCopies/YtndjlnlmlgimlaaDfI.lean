/- The document's disk: appending. -/
import Derived.Test.YtndjlnlmlgimlaaDfG
namespace Go.Proofs.Ytndjlnlmlgimlaa
open Go.RowKit Go.MapKept

def rappR (room : Int) (F : List Fi) (k l : List UInt8) : List Fi := if appE room F k l = 0 then (if (lookF k F).isSome then appF F k l else insF ⟨k, l, 0⟩ F) else F
/- Old bytes and new ones copied into new memory. -/
theorem copy_two {W : World} {A X : Option Addr} {n m C c : Nat} {b l : List UInt8} (hx : Bs W (.slice A n C) b) (hn : n = b.length) (hy : Bs W (.slice X m c) l) (hm : m = l.length) (hl : b.length + l.length ≤ 4194304) :
    ∃ A2 C2 W2 A3 C3 W3, (Builtin.append_ #[28, 28] 28 #[.slice (some ⟨W.heap.size, 0, none⟩) 0 0, .slice A n C]).run Try.prog (W.alloc (.cells #[] 5)) = .ok (.slice A2 n C2) W2 ∧
      (Builtin.append_ #[28, 28] 28 #[.slice A2 n C2, .slice X m c]).run Try.prog W2 = .ok (.slice A3 (n + m) C3) W3 ∧ W3.ownsRow W.heap.size 5 1 (.slice A3 (n + m) C3) (n + m) (bv (b ++ l)) ∧ Below W.heap.size W W2 ∧ Below W.heap.size W W3 := by
  obtain ⟨A2, C2, W2, h1, h2, h3⟩ := copy_math hx hn (by omega)
  subst hn hm
  obtain ⟨v3, W3, hr3, ho3, hg3, hl3, hn3⟩ := app_bytes 28 h2 (hy.keep (Chg.of_below h3) (fun _ _ => id)) h3.size (by omega)
  rw [List.length_append] at ho3
  obtain ⟨A3, C3, rfl⟩ := owns_formN ho3
  refine ⟨A2, C2, W2, A3, C3, W3, h1, hr3, ho3, h3, h3.trans ((Chg.of_grown hg3).below (fun k hk => ?_) h3.size)⟩
  obtain ⟨cur, hc, hle⟩ := owns_blockN h2 hk
  exact hle
set_option maxRecDepth 100000 in
set_option maxHeartbeats 4000000 in
theorem rappend_any {w : World} {base r : Nat} {room : Int} {v : Value} {L : List Fv} (hb : base ≤ w.heap.size) (h : Rk w base r room v L) (hL : L.length ≤ 999999) (k : List UInt8) (hlk : Len63 k.length) {X : Option Addr} {m c : Nat} {l : List UInt8} (hX : Bs w (.slice X m c) l) (hm : m = l.length) (hll : l.length ≤ 140737488355328) :
    Calls Try.prog 19 #[.pointer (some ⟨r, 0, none⟩), .string (mkS k), .slice X m c] w fun e w' => e = .returned (.int .i64 (appE room (L.map Prod.fst) k l)) ∧ Rn base r room v L w w' (rappR room (L.map Prod.fst) k l) := by
  have hn1 := rname_any k hlk _ rfl w
  have hc := rfind_any h (by omega) k
  have hu : Hid (∀ n, Calls Try.prog 32 #[.pointer (some ⟨r, 0, none⟩)] (w.drewN n) fun e w' => e = .returned (.int .i64 (used (L.map Prod.fst) : Nat)) ∧ w' = w.drewN n) := fun n => rused_any (h.drewN n) (by omega)
  have hrm := h.rm
  have huse := used_le (L.map Prod.fst) (fun f hf => by
    obtain ⟨p, hp, rfl⟩ := List.mem_map.1 hf
    exact (h.fits p hp).2)
  rw [List.length_map] at huse
  have HR : Hid _ := Rn.refl h (Below.refl _ w)
  cases hnm : nameB k with
  | false =>
    have HE : Hid (appE room (L.map Prod.fst) k l = 2 ∧ rappR room (L.map Prod.fst) k l = L.map Prod.fst) := by simp [Hid, appE, rappR, hnm]
    rw [HE.out.1, HE.out.2]
    rw [hnm] at hn1
    clear HE h hL hc hu hrm huse hnm
    go_enter Try.func19, Try.ntmps19
    go_wp2_with fail
    refine hn1.mono ?_
    rintro e w1 ⟨rfl, rfl⟩
    clear hn1
    go_wp2_with fail
    go_ret
    exact ⟨rfl, HR.out⟩
  | true =>
  rw [hnm] at hn1
  have hfits : ∀ f ∈ L.map Prod.fst, f.b.length ≤ 4194304 := fun f hf => by
    obtain ⟨p, hp, rfl⟩ := List.mem_map.1 hf
    exact (h.fits p hp).2
  obtain ⟨U, hU⟩ : ∃ U, U = used (L.map Prod.fst) := ⟨_, rfl⟩
  rw [← hU] at hu huse
  have hUb : U ≤ 4194304 * 1000000 := Nat.le_trans huse (Nat.mul_le_mul_left _ (by omega))
  unfold plI at hc
  cases hq : plF k (L.map Prod.fst) with
  | none =>
    have hl := plF_none hq
    rw [hq] at hc
    simp only at hc
    have hgf : getF k (L.map Prod.fst) = ⟨[], [], 0⟩ := by simp [getF, hl]
    by_cases h1 : 4194304 < l.length
    · have HE : Hid (appE room (L.map Prod.fst) k l = 3 ∧ rappR room (L.map Prod.fst) k l = L.map Prod.fst) := by simp [Hid, appE, rappR, hnm, hgf, h1]
      rw [HE.out.1, HE.out.2]
      clear HE hl hgf h hL hu hrm huse hnm hfits hUb hU hq
      subst hm
      go_enter Try.func19, Try.ntmps19
      go_wp2_with fail
      refine hn1.mono ?_
      rintro e w1 ⟨rfl, rfl⟩
      clear hn1
      go_wp2_with fail
      refine hc.mono ?_
      rintro e w1 ⟨rfl, rfl⟩
      clear hc
      go_wp2_with fail
      go_ret
      exact ⟨rfl, HR.out⟩
    by_cases h2 : room < (U : Int) + (l.length : Int)
    · have HE : Hid (appE room (L.map Prod.fst) k l = 5 ∧ rappR room (L.map Prod.fst) k l = L.map Prod.fst) := by simp [Hid, appE, rappR, hnm, hgf, h1, ← hU, h2]
      rw [HE.out.1, HE.out.2]
      have hc0 := h.head.1
      clear HE hl hgf h hL huse hnm hfits hU hq
      subst hm
      go_enter Try.func19, Try.ntmps19
      go_wp2_with fail
      refine hn1.mono ?_
      rintro e w1 ⟨rfl, rfl⟩
      clear hn1
      go_wp2_with fail
      refine hc.mono ?_
      rintro e w1 ⟨rfl, rfl⟩
      clear hc
      go_wp2_with fail
      have hsum : IntKind.i64.wrap ((U : Int) + (l.length : Int)) = (U : Int) + (l.length : Int) := Go.IntWalk.i64_in _ (by omega)
      go_quiet (first | (go_at_call 32; exact Calls.quiet_of_same (hu.out _)))
      go_wp2_with fail
      go_ret
      exact ⟨rfl, Rn.later HR.out (below_drewN (Below.refl _ _) _)⟩
    · have HE : Hid (appE room (L.map Prod.fst) k l = 0 ∧ rappR room (L.map Prod.fst) k l = insF ⟨k, l, 0⟩ (L.map Prod.fst)) := by simp [Hid, appE, rappR, hnm, hgf, h1, ← hU, h2, hl]
      rw [HE.out.1, HE.out.2]
      have hc0 := h.head.1
      have HPT : Hid (∀ {w5 : World} {A5 : Option Addr} {C5 : Nat}, Below w.heap.size w w5 → w5.ownsRow w.heap.size 5 1 (.slice A5 l.length C5) l.length (bv l) → Calls Try.prog 40 #[.pointer (some ⟨r, 0, none⟩), .agg #[.string (mkS k), .slice A5 l.length C5, .int .i64 0]] w5 fun e w' => e = .returned (.tuple #[]) ∧ Rn base r room v L w w' (insF ⟨k, l, 0⟩ (L.map Prod.fst))) := by
        intro w5 A5 C5 hB5 ho5
        have hp := rput_any (Nat.le_trans hb hB5.size) (h.below hB5) hL ⟨k, l, 0⟩ (owns_lowN ho5 hb) ⟨Nat.zero_le _, by simpa using h1⟩
        refine hp.mono ?_
        rintro e w6 ⟨rfl, v6, h6, c6, n6⟩
        exact ⟨rfl, v6, _, insV_F _ _, h6, ((Chg.of_below hB5).weak (fun _ _ e => e.elim)).trans c6, fun g hg => .inr (Nat.le_trans hB5.size (n6 g hg)), fun p hp k hk => by
          rcases insV_mem hp with hp | rfl
          · exact .inl ⟨p, hp, hk⟩
          · obtain ⟨cur, hc, hle⟩ := owns_blockN ho5 hk
            exact .inr hle⟩
      have HX : Hid (Bs w (.slice X l.length c) l) := by rw [← hm]; exact hX
      clear HE hl hgf h hL huse hnm hfits hU hq hX HR
      subst hm
      go_enter Try.func19, Try.ntmps19
      go_wp2_with fail
      refine hn1.mono ?_
      rintro e w1 ⟨rfl, rfl⟩
      clear hn1
      go_wp2_with fail
      refine hc.mono ?_
      rintro e w1 ⟨rfl, rfl⟩
      clear hc
      go_wp2_with fail
      have hsum : IntKind.i64.wrap ((U : Int) + (l.length : Int)) = (U : Int) + (l.length : Int) := Go.IntWalk.i64_in _ (by omega)
      go_quiet (first | (go_at_call 32; exact Calls.quiet_of_same (hu.out _)))
      obtain ⟨w2, hw2⟩ : ∃ X, X = w1.drewN nq := ⟨_, rfl⟩
      have HB2 : Hid (Below w1.heap.size w1 w2) := by rw [hw2]; exact below_drewN (Below.refl _ _) nq
      have HX2 : Hid (Bs w2 (.slice X l.length c) l) := HX.out.keep (Chg.of_below HB2.out) (fun _ _ => id)
      rw [← hw2]
      clear hw2
      go_wp2_with (first
        | (at_builtin; refine wpList_app rfl _ _ rfl _ _ rfl rfl (new_own w2) (HX2.out.alloc _) (by simp) (by simp; omega) ?_; intro A9 C9 w9 ho9 hg9 hl9 hn9; simp only [List.length_nil, Nat.zero_add, List.nil_append] at *; have hB9 : Below w2.heap.size w2 w9 := (below1 _ _).trans ((Chg.of_grown hg9).below (fun k hk => by cases hk; exact Nat.le_refl _) (by simp)); have hput := HPT.out (HB2.out.trans (hB9.mono HB2.out.size)) (owns_lowN ho9 HB2.out.size); clear ho9 hg9 hl9 hn9 hB9)
        | fail)
      refine hput.mono ?_
      rintro e w6 ⟨rfl, hR⟩
      have HRn : Hid _ := hR
      clear hput hR
      go_wp2_with fail
      go_ret
      exact ⟨rfl, HRn.out⟩
  | some j =>
    obtain ⟨hj0, hj1, hj2, hj3, hj4⟩ := plF_some hq
    have hj : j < L.length := by simpa using hj0
    rw [hq] at hc
    simp only at hc
    obtain ⟨A1, C1, hv1⟩ := owns_formN h.row
    subst hv1
    obtain ⟨p, hp⟩ : ∃ p : Fv, p = L[j]'hj := ⟨_, rfl⟩
    have hgf : getF k (L.map Prod.fst) = p.1 := by simp [getF, hj2, hp]
    have hbs := h.bs _ (List.getElem_mem hj)
    have hfit := h.fits _ (List.getElem_mem hj)
    obtain ⟨A3, C3, hv3⟩ := owns_formN hbs
    obtain ⟨g, hA, y0, y1, y2⟩ := h.at j hj
    subst hA
    have hc0 := h.head.1
    have hc1 := h.head.2
    have hrl := heap_lt h.cell
    have hgl : g < w.heap.size := World.block_lt_of_cell? w _ y0
    have hgr : ¬ g = r := h.row_ne (g := g) rfl
    have hrg : ¬ r = g := fun e => hgr e.symm
    rw [← hp] at y0 y1 y2 hbs hfit hv3
    rw [hv3] at y1
    have hlk2 : (lookF k (L.map Prod.fst)).isSome = true := by rw [hj2]; rfl
    by_cases h1 : 4194304 < p.1.b.length + l.length
    · have HE : Hid (appE room (L.map Prod.fst) k l = 3 ∧ rappR room (L.map Prod.fst) k l = L.map Prod.fst) := by simp [Hid, appE, rappR, hnm, hgf, h1]
      rw [HE.out.1, HE.out.2]
      obtain ⟨N, hN⟩ : ∃ N, N = L.length := ⟨_, rfl⟩
      have hjN : j < N := by omega
      rw [← hN] at hc1
      have hb4 := hfit.2
      generalize p.1.b.length = M at *
      clear HE hgf h hL hu hrm huse hnm hfits hUb hU hq hj0 hj1 hj2 hj3 hj4 hN hj hp hbs hv3 hfit hlk2
      subst hm
      go_enter Try.func19, Try.ntmps19
      go_wp2_with fail
      refine hn1.mono ?_
      rintro e w1 ⟨rfl, rfl⟩
      clear hn1
      go_wp2_with fail
      refine hc.mono ?_
      rintro e w1 ⟨rfl, rfl⟩
      clear hc
      have hsum : IntKind.i64.wrap ((l.length : Int) + (M : Int)) = (l.length : Int) + (M : Int) := Go.IntWalk.i64_in _ (by omega)
      go_wp2_with fail
      go_ret
      exact ⟨rfl, HR.out⟩
    by_cases h2 : room < (U : Int) + (l.length : Int)
    · have HE : Hid (appE room (L.map Prod.fst) k l = 5 ∧ rappR room (L.map Prod.fst) k l = L.map Prod.fst) := by simp [Hid, appE, rappR, hnm, hgf, h1, ← hU, h2]
      rw [HE.out.1, HE.out.2]
      obtain ⟨N, hN⟩ : ∃ N, N = L.length := ⟨_, rfl⟩
      have hjN : j < N := by omega
      rw [← hN] at hc1
      have hb4 := hfit.2
      generalize p.1.b.length = M at *
      clear HE hgf h hL huse hnm hfits hU hq hj0 hj1 hj2 hj3 hj4 hN hj hp hbs hv3 hfit hlk2
      subst hm
      go_enter Try.func19, Try.ntmps19
      go_wp2_with fail
      refine hn1.mono ?_
      rintro e w1 ⟨rfl, rfl⟩
      clear hn1
      go_wp2_with fail
      refine hc.mono ?_
      rintro e w1 ⟨rfl, rfl⟩
      clear hc
      have hsm2 : IntKind.i64.wrap ((l.length : Int) + (M : Int)) = (l.length : Int) + (M : Int) := Go.IntWalk.i64_in _ (by omega)
      go_wp2_with fail
      have hsum : IntKind.i64.wrap ((U : Int) + (l.length : Int)) = (U : Int) + (l.length : Int) := Go.IntWalk.i64_in _ (by omega)
      go_quiet (first | (go_at_call 32; exact Calls.quiet_of_same (hu.out _)))
      go_wp2_with fail
      go_ret
      exact ⟨rfl, Rn.later HR.out (below_drewN (Below.refl _ _) _)⟩
    · have HE : Hid (appE room (L.map Prod.fst) k l = 0 ∧ rappR room (L.map Prod.fst) k l = appF (L.map Prod.fst) k l) := by simp [Hid, appE, rappR, hnm, hgf, h1, ← hU, h2, hlk2]
      rw [HE.out.1, HE.out.2]
      have hnmk : p.1.nm = k := by rw [hp, ← hj1, List.getElem_map]
      have haf : ∀ v', (L.set j (⟨p.1.nm, p.1.b ++ l, p.1.sy⟩, v')).map Prod.fst = appF (L.map Prod.fst) k l := by
        intro v'
        unfold appF
        rw [hgf, List.map_set, hj4 ⟨k, p.1.b ++ l, p.1.sy⟩ rfl, hnmk]
      obtain ⟨N, hN⟩ : ∃ N, N = L.length := ⟨_, rfl⟩
      have hjN : j < N := by omega
      rw [← hN] at hc1 h
      rw [← hN]
      have hb4 := hfit.2
      have HXX : Hid (∀ {w2 : World}, Below w.heap.size w w2 → ∃ A2 C2 W2 A5 C5 W3, (Builtin.append_ #[28, 28] 28 #[.slice (some ⟨w2.heap.size, 0, none⟩) 0 0, .slice A3 p.1.b.length C3]).run Try.prog (w2.drew.alloc (.cells #[] 5)) = .ok (.slice A2 p.1.b.length C2) W2 ∧
          (Builtin.append_ #[28, 28] 28 #[.slice A2 p.1.b.length C2, .slice X l.length c]).run Try.prog W2 = .ok (.slice A5 (p.1.b.length + l.length) C5) W3 ∧
          (w2.cell? ⟨r, 1, none⟩ = some (.slice (some ⟨g, 0, none⟩) N C1) ∧ w2.cell? ⟨g, j * 3 + 1, none⟩ = some (.slice A3 p.1.b.length C3)) ∧ ((w2.alloc (.cells #[] 5)).cell? ⟨r, 1, none⟩ = some (.slice (some ⟨g, 0, none⟩) N C1) ∧ (w2.alloc (.cells #[] 5)).cell? ⟨g, j * 3 + 1, none⟩ = some (.slice A3 p.1.b.length C3)) ∧
          (W2.cell? ⟨r, 1, none⟩ = some (.slice (some ⟨g, 0, none⟩) N C1) ∧ W2.cell? ⟨g, j * 3 + 1, none⟩ = some (.slice A3 p.1.b.length C3)) ∧ (W3.cell? ⟨r, 1, none⟩ = some (.slice (some ⟨g, 0, none⟩) N C1) ∧ W3.cell? ⟨g, j * 3 + 1, none⟩ = some (.slice A3 p.1.b.length C3) ∧ W3.frozen? ⟨g, j * 3 + 1, none⟩ = false) ∧
          Hid (Rn base r room (.slice (some ⟨g, 0, none⟩) N C1) L w (W3.setCell ⟨g, j * 3 + 1, none⟩ (.slice A5 (p.1.b.length + l.length) C5)) (appF (L.map Prod.fst) k l))) := by
        intro w2 hB
        have h2' := h.below hB
        have hbs2 := owns_keepN hbs (Chg.of_below hB) (fun _ _ => id)
        rw [hv3] at hbs2
        have hX2 : Bs w2 (.slice X l.length c) l := by rw [← hm]; exact hX.keep (Chg.of_below hB) (fun _ _ => id)
        obtain ⟨A2, C2, W2, A5, C5, W3, e1, e2, e3, e4, e5⟩ := copy_two (W := w2.drew) (Bs.of_owns hbs2).drew rfl hX2.drew rfl (by omega)
        have hB2 : Below w.heap.size w W2 := hB.trans ((((Below.refl w2.heap.size w2).drew).trans e4).mono hB.size)
        have hB3 : Below w.heap.size w W3 := hB.trans ((((Below.refl w2.heap.size w2).drew).trans e5).mono hB.size)
        obtain ⟨⟨q0, q1, q2⟩, _, _, HQ⟩ := h.two hb hN j hj hB3 (owns_lowN e3 hB.size) (by rw [List.length_append]) p.1.sy ⟨by rw [List.length_append]; omega, by rw [List.length_append]; omega⟩
        have HQ := HQ (by rw [hp])
        rw [← hp, haf] at HQ
        rw [← hp, hv3] at q1
        have ha := h2'.alloc (.cells #[] 5)
        have k1 : ∀ {wz : World}, Below w.heap.size w wz → wz.cell? ⟨g, j * 3 + 1, none⟩ = some (.slice A3 p.1.b.length C3) := by
          intro wz hz
          rw [← y1]; exact (Chg.of_below hz).cell (a := ⟨g, j * 3 + 1, none⟩) hgl (fun e => e)
        exact ⟨A2, C2, W2, A5, C5, W3, e1, e2, ⟨h2'.head.2, k1 hB⟩, ⟨ha.head.2, k1 (hB.alloc hB.size _)⟩, ⟨(h.below hB2).head.2, k1 hB2⟩, ⟨q0, q1, q2⟩, HQ⟩
      generalize appF (L.map Prod.fst) k l = R at HXX ⊢
      generalize p.1.b.length = M at *
      clear HE haf hgf h hL huse hnm hfits hU hq hj0 hj1 hj2 hj3 hj4 hN hj hp hbs hv3 hfit hlk2 hX HR hnmk
      subst hm
      go_enter Try.func19, Try.ntmps19
      go_wp2_with fail
      refine hn1.mono ?_
      rintro e w1 ⟨rfl, rfl⟩
      clear hn1
      go_wp2_with fail
      refine hc.mono ?_
      rintro e w1 ⟨rfl, rfl⟩
      clear hc
      have hsm2 : IntKind.i64.wrap ((l.length : Int) + (M : Int)) = (l.length : Int) + (M : Int) := Go.IntWalk.i64_in _ (by omega)
      go_wp2_with fail
      have hsum : IntKind.i64.wrap ((U : Int) + (l.length : Int)) = (U : Int) + (l.length : Int) := Go.IntWalk.i64_in _ (by omega)
      go_quiet (first | (go_at_call 32; exact Calls.quiet_of_same (hu.out _)))
      obtain ⟨w2, hw2⟩ : ∃ X, X = w1.drewN nq := ⟨_, rfl⟩
      have HB2 : Hid (Below w1.heap.size w1 w2) := by rw [hw2]; exact below_drewN (Below.refl _ _) nq
      rw [← hw2]
      clear hw2 hc0 hc1 y0 y1 y2
      obtain ⟨A2, C2, W2, A5, C5, W3, r1, r2, ⟨a0, a1⟩, ⟨b0, b1⟩, ⟨d0, d1⟩, ⟨e0, e1, e2⟩, HQ⟩ := HXX.out HB2.out
      clear HXX hu
      go_wp2_with fail
      go_region_law (first
        | (refine step_app1 28 rfl (.tmp 56) (.tmp 64) rfl _ _ _ _ rfl rfl r1 ?_)
        | (refine step_app1 28 rfl (.tmp 65) (.tmp 66) rfl _ _ _ _ rfl rfl r2 ?_))
      all_goals
        go_wp2_with fail
        go_ret
        exact ⟨rfl, HQ.out⟩
end Go.Proofs.Ytndjlnlmlgimlaa
