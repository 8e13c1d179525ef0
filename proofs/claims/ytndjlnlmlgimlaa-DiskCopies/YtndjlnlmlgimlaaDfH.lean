/- The document's disk: renaming. -/
import Derived.Test.YtndjlnlmlgimlaaDfG
namespace Go.Proofs.Ytndjlnlmlgimlaa
open Go.RowKit Go.MapKept

theorem size_setCell (w : World) (a : Addr) (u : Value) : (w.setCell a u).heap.size = w.heap.size := by simp [World.setCell]
theorem wr_chain {r : Nat} {v v1 : Value} {w w1 w2 : World} (c1 : Chg (Wr r v) w w1) (hv : ∀ g, blk v1 = some g → blk v = some g ∨ w.heap.size ≤ g) (c2 : Chg (Wr r v1) w1 w2) : Chg (Wr r v) w w2 := by
  refine c1.trans' c2 fun i hi h => ?_
  rcases h with h | h
  · exact .inl h
  · rcases hv i h with e | e
    · exact .inr e
    · omega
def rrenR (F : List Fi) (a b : List UInt8) : List Fi := if nameB a = false ∨ nameB b = false then F else match lookF a F with
  | none => F
  | some f => insF ⟨b, f.b, f.sy⟩ (delF b (delF a F))
set_option maxRecDepth 100000 in
theorem rrename_any {w : World} {base r : Nat} {room : Int} {v : Value} {L : List Fv} (hb : base ≤ w.heap.size) (h : Rk w base r room v L) (hL : L.length ≤ 999999) (a b : List UInt8) (hla : Len63 a.length) (hlb : Len63 b.length) :
    Calls Try.prog 25 #[.pointer (some ⟨r, 0, none⟩), .string (mkS a), .string (mkS b)] w fun e w' => e = .returned (.int .i64 (renE (L.map Prod.fst) a b)) ∧ Rn base r room v L w w' (rrenR (L.map Prod.fst) a b) := by
  have hn1 := rname_any a hla _ rfl w
  have hn2 := rname_any b hlb _ rfl w
  have hc := rfind_any h (by omega) a
  by_cases hn : nameB a = false ∨ nameB b = false
  · have HE : Hid (renE (L.map Prod.fst) a b = 2 ∧ rrenR (L.map Prod.fst) a b = L.map Prod.fst) := by simp [Hid, renE, rrenR, hn]
    rw [HE.out.1, HE.out.2]
    have HR : Hid _ := Rn.refl h (Below.refl _ w)
    clear HE h hL
    cases ha : nameB a
    · rw [ha] at hn1
      clear hn hn2 hc ha
      go_enter Try.func25, Try.ntmps25
      go_wp2_with fail
      refine hn1.mono ?_
      rintro e w1 ⟨rfl, rfl⟩
      clear hn1
      go_wp2_with fail
      go_ret
      exact ⟨rfl, HR.out⟩
    · have hbf : nameB b = false := by rcases hn with e | e; (rw [ha] at e; cases e); exact e
      rw [ha] at hn1
      rw [hbf] at hn2
      clear hn hc ha hbf
      go_enter Try.func25, Try.ntmps25
      go_wp2_with fail
      refine hn1.mono ?_
      rintro e w1 ⟨rfl, rfl⟩
      clear hn1
      go_wp2_with fail
      refine hn2.mono ?_
      rintro e w1 ⟨rfl, rfl⟩
      clear hn2
      go_wp2_with fail
      go_ret
      exact ⟨rfl, HR.out⟩
  have ha : nameB a = true := by cases e : nameB a; (exact absurd (.inl e) hn); rfl
  have hbt : nameB b = true := by cases e : nameB b; (exact absurd (.inr e) hn); rfl
  rw [ha] at hn1
  rw [hbt] at hn2
  unfold plI at hc
  cases hq : plF a (L.map Prod.fst) with
  | none =>
    have hl := plF_none hq
    rw [hq] at hc
    simp only at hc
    have HE : Hid (renE (L.map Prod.fst) a b = 6 ∧ rrenR (L.map Prod.fst) a b = L.map Prod.fst) := by simp [Hid, renE, rrenR, hn, hl]
    rw [HE.out.1, HE.out.2]
    have HR : Hid _ := Rn.refl h (Below.refl _ w)
    clear hl hq HE h ha hbt hn
    go_enter Try.func25, Try.ntmps25
    go_wp2_with fail
    refine hn1.mono ?_
    rintro e w1 ⟨rfl, rfl⟩
    clear hn1
    go_wp2_with fail
    refine hn2.mono ?_
    rintro e w1 ⟨rfl, rfl⟩
    clear hn2
    go_wp2_with fail
    refine hc.mono ?_
    rintro e w1 ⟨rfl, rfl⟩
    clear hc
    go_wp2_with fail
    go_ret
    exact ⟨rfl, HR.out⟩
  | some j =>
    obtain ⟨hj0, hj1, hj2, hj3, hj4⟩ := plF_some hq
    have hj : j < L.length := by simpa using hj0
    rw [hq] at hc
    simp only at hc
    obtain ⟨p, hp⟩ : ∃ p : Fv, p = L[j]'hj := ⟨_, rfl⟩
    have HE : Hid (renE (L.map Prod.fst) a b = 0 ∧ rrenR (L.map Prod.fst) a b = insF ⟨b, p.1.b, p.1.sy⟩ (delF b ((L.eraseIdx j).map Prod.fst))) := by
      refine ⟨by simp [renE, hn, hj2], ?_⟩
      rw [erase_F, ← hj3]
      simp only [rrenR, if_neg hn, hj2, List.getElem_map, hp]
    rw [HE.out.1, HE.out.2]
    clear HE hn
    have hbs := h.bs _ (List.getElem_mem hj)
    have hfit := h.fits _ (List.getElem_mem hj)
    rw [← hp] at hbs hfit
    obtain ⟨A3, C3, hv3⟩ := owns_formN hbs
    rw [hv3] at hbs
    have hrl := heap_lt h.cell
    have hwne := fun {g' : Nat} => h.bs_ne (g := g') (List.getElem_mem hj)
    rw [← hp, hv3] at hwne
    obtain ⟨A1, C1, hv1⟩ := owns_formN h.row
    subst hv1
    obtain ⟨g, hA, y0, y1, y2⟩ := h.at j hj
    subst hA
    rw [← hp] at y0 y1 y2
    rw [hv3] at y1
    have hc0 := h.head.2
    have hld : L.length ≤ 1000000 := by omega
    have hlen : (L.eraseIdx j).length ≤ 999999 := by rw [List.length_eraseIdx]; split <;> omega
    obtain ⟨N, hN⟩ : ∃ N, N = L.length := ⟨_, rfl⟩
    have hjN : j < N := by omega
    rw [← hN] at hc0
    rw [← hN] at hwne ⊢
    obtain ⟨f, hf⟩ : ∃ f, f = p.1 := ⟨_, rfl⟩
    have hv3q : p.2 = .slice A3 f.b.length C3 := by rw [hf]; exact hv3
    rw [← hf] at y0 y1 y2 hbs hfit hwne ⊢
    have HPL : Hid ((f, Value.slice A3 f.b.length C3) ∈ L) := by
      have := List.getElem_mem hj
      rw [← hp] at this
      rw [Hid, hf]
      rw [hf] at hv3q
      rw [← hv3q]
      exact this
    have HBS : Hid (w.ownsRow base 5 1 (.slice A3 f.b.length C3) f.b.length (bv f.b)) := hbs
    have HFIT : Hid (f.sy ≤ f.b.length ∧ f.b.length ≤ 4194304) := hfit
    have HWN : Hid (∀ {g' : Nat}, blk (.slice A3 f.b.length C3) = some g' → ¬ Wr r (.slice (some ⟨g, 0, none⟩) N C1) g') := hwne
    obtain ⟨W, hW⟩ : ∃ W, W = w.alloc (.cells #[.string (mkS f.nm), .slice A3 f.b.length C3, .int .i64 (f.sy : Int)] 64) := ⟨_, rfl⟩
    have HW : Hid (W = w.alloc (.cells #[.string (mkS f.nm), .slice A3 f.b.length C3, .int .i64 (f.sy : Int)] 64)) := hW
    have hbx : W.heap[w.heap.size]? = some (.cells #[.string (mkS f.nm), .slice A3 f.b.length C3, .int .i64 (f.sy : Int)] 64 (0, 0)) := by rw [hW]; exact heap_alloc_new w _
    have hWs : W.heap.size = w.heap.size + 1 := by rw [hW]; simp
    have hRW : Rk W base r room (.slice (some ⟨g, 0, none⟩) L.length C1) L := by rw [hW]; exact h.alloc _
    have hd := rdrop_any (by omega) hRW hld j hj
    have hBW : Below w.heap.size w W := by rw [hW]; exact below1 _ _
    have HBW : Hid (Below w.heap.size w W ∧ W.heap.size = w.heap.size + 1 ∧ r < w.heap.size ∧ g < w.heap.size ∧ W.heap[w.heap.size]? = some (.cells #[.string (mkS f.nm), .slice A3 f.b.length C3, .int .i64 (f.sy : Int)] 64 (0, 0))) := ⟨hBW, hWs, hrl, World.block_lt_of_cell? w _ y0, hbx⟩
    rw [← hN] at hd
    have HSB : Hid (∀ p ∈ L.eraseIdx j, p ∈ L) := fun p hp => List.mem_of_mem_eraseIdx hp
    generalize L.eraseIdx j = L1 at hd hlen HSB ⊢
    /- what a world must have for the end: the row L3, and the box -/
    have HFIN : Hid (∀ {w3 : World} {v3 : Value} {L3 : List Fv}, Rk w3 base r room v3 L3 → L3.length ≤ 999999 → (∀ p ∈ L3, p ∈ L) → Chg (Wr r (.slice (some ⟨g, 0, none⟩) N C1)) W w3 → (∀ k, blk v3 = some k → W.heap.size ≤ k) → w3.heap[w.heap.size]? = some (.cells #[.string (mkS f.nm), .slice A3 f.b.length C3, .int .i64 (f.sy : Int)] 64 (0, 0)) →
        Hid (Rk w3 base r room v3 L3 ∧ L3.length ≤ 999999 ∧ Chg (Wr r (.slice (some ⟨g, 0, none⟩) N C1)) W w3 ∧ (∀ k, blk v3 = some k → W.heap.size ≤ k)) ∧ w3.cell? ⟨w.heap.size, 0, none⟩ = some (.string (mkS f.nm)) ∧ w3.frozen? ⟨w.heap.size, 0, none⟩ = false ∧ (w3.setCell ⟨w.heap.size, 0, none⟩ (.string (mkS b))).cell? ⟨w.heap.size, 0, none⟩ = some (.string (mkS b)) ∧ (w3.setCell ⟨w.heap.size, 0, none⟩ (.string (mkS b))).cell? ⟨w.heap.size, 1, none⟩ = some (.slice A3 f.b.length C3) ∧ (w3.setCell ⟨w.heap.size, 0, none⟩ (.string (mkS b))).cell? ⟨w.heap.size, 2, none⟩ = some (.int .i64 (f.sy : Int)) ∧
        Calls Try.prog 40 #[.pointer (some ⟨r, 0, none⟩), .agg #[.string (mkS b), .slice A3 f.b.length C3, .int .i64 (f.sy : Int)]] (w3.setCell ⟨w.heap.size, 0, none⟩ (.string (mkS b))) fun e w' => e = .returned (.tuple #[]) ∧ Rn base r room (.slice (some ⟨g, 0, none⟩) N C1) L w w' (insF ⟨b, f.b, f.sy⟩ (L3.map Prod.fst))) := by
      intro w3 v3 L3 h3 hl3 hs3 c3 hn3 hb3
      obtain ⟨hBW, hWs, hrl, hgl, hbx⟩ := HBW.out
      have hb4 : (w3.setCell ⟨w.heap.size, 0, none⟩ (.string (mkS b))).heap[w.heap.size]? = some (.cells #[.string (mkS b), .slice A3 f.b.length C3, .int .i64 (f.sy : Int)] 64 (0, 0)) := by
        have := heap_set hb3 0 (.string (mkS b))
        simpa using this
      have e0 := cell_at hb3 0
      have f0 := cell_at hb4 0
      have f1 := cell_at hb4 1
      have f2 := cell_at hb4 2
      have c4 : Chg (fun k => k = w.heap.size) w3 (w3.setCell ⟨w.heap.size, 0, none⟩ (.string (mkS b))) := Chg.setCell w3 ⟨w.heap.size, 0, none⟩ _ rfl
      have h4 : Rk (w3.setCell ⟨w.heap.size, 0, none⟩ (.string (mkS b))) base r room v3 L3 := h3.keep c4 (fun k hk e => by
        subst e
        rcases hk with e | e | ⟨q, hq, e⟩
        · omega
        · have := hn3 _ e; omega
        · obtain ⟨cur, hc, _⟩ := owns_blockN (h3.bs q hq) e
          rw [hb3] at hc; cases hc)
      have o1 : W.ownsRow base 5 1 (.slice A3 f.b.length C3) f.b.length (bv f.b) := owns_keepN HBS.out (Chg.of_below hBW) (fun _ _ => id)
      have o3 : w3.ownsRow base 5 1 (.slice A3 f.b.length C3) f.b.length (bv f.b) := owns_keepN o1 c3 (fun k hk e => HWN.out hk e)
      have o4 : (w3.setCell ⟨w.heap.size, 0, none⟩ (.string (mkS b))).ownsRow base 5 1 (.slice A3 f.b.length C3) f.b.length (bv f.b) := owns_keepN o3 c4 (fun k hk e => by
        obtain ⟨cur, hc, _⟩ := owns_blockN o3 hk
        rw [e, hb3] at hc; cases hc)
      have hp := rput_any (by have := c3.size; rw [size_setCell]; omega) h4 hl3 ⟨b, f.b, f.sy⟩ o4 HFIT.out
      refine ⟨⟨h3, hl3, c3, hn3⟩, by simpa using e0, frozen_at hb3 0, by simpa using f0, by simpa using f1, by simpa using f2, ?_⟩
      refine hp.mono ?_
      rintro e w5 ⟨rfl, v5, h5, c5, hn5⟩
      have s3 := c3.size
      refine ⟨rfl, v5, _, insV_F _ _, h5, ?_, fun k hk => .inr ?_, fun p hp k hk => ?_⟩
      · have q1 : Chg (Wr r (.slice (some ⟨g, 0, none⟩) N C1)) w w3 := ((Chg.of_below hBW).weak (fun _ _ e => e.elim)).trans c3
        have q2 := q1.trans' c4 (fun i hi e => by omega)
        refine wr_chain q2 (fun k hk => .inr ?_) c5
        have := hn3 k hk; omega
      · have := hn5 k hk
        rw [size_setCell] at this
        omega
      · rcases insV_mem hp with hp | rfl
        · exact .inl ⟨p, hs3 p hp, hk⟩
        · exact .inl ⟨_, HPL.out, hk⟩
    have HFD : Hid (∀ {w2 : World} {v2 : Value}, Rk w2 base r room v2 L1 → Calls Try.prog 35 #[.pointer (some ⟨r, 0, none⟩), .string (mkS b)] w2 fun e w' => e = .returned (.int .i64 (plI b (L1.map Prod.fst))) ∧ w' = w2) := fun h2 => rfind_any h2 (by omega) b
    have HBX2 : Hid (∀ {w2 : World}, Chg (Wr r (.slice (some ⟨g, 0, none⟩) N C1)) W w2 → w2.heap[w.heap.size]? = some (.cells #[.string (mkS f.nm), .slice A3 f.b.length C3, .int .i64 (f.sy : Int)] 64 (0, 0))) := by
      intro w2 c2
      obtain ⟨hBW, hWs, hrl, hgl, hbx⟩ := HBW.out
      rw [c2.block _ (by omega) (fun e => by
        rcases e with e | e
        · omega
        · have e' : some g = some w.heap.size := e
          injection e' with e'
          omega)]
      exact hbx
    have HLN : Hid (L1.length ≤ 999999) := hlen
    rw [hW] at hd
    clear hW hbx hWs hRW hBW hld hq hj0 hj1 hj2 hj3 hj4 hv3 hf hbs hfit hwne h hN hL hj hp hlen hrl hv3q
    go_enter Try.func25, Try.ntmps25
    go_wp2_with fail
    refine hn1.mono ?_
    rintro e w1 ⟨rfl, rfl⟩
    clear hn1
    go_wp2_with fail
    refine hn2.mono ?_
    rintro e w1 ⟨rfl, rfl⟩
    clear hn2
    go_wp2_with fail
    refine hc.mono ?_
    rintro e w1 ⟨rfl, rfl⟩
    clear hc
    go_wp2_with fail
    refine hd.mono ?_
    rintro e w2 ⟨rfl, v2, h2, c2, n2⟩
    rw [← HW.out] at c2 n2
    have hfd := HFD.out h2
    unfold plI at hfd
    cases hq : plF b (L1.map Prod.fst) with
    | none =>
      rw [hq] at hfd
      simp only at hfd
      have HDE : Hid (delF b (L1.map Prod.fst) = L1.map Prod.fst) := del_none (plF_none hq)
      obtain ⟨HX, z0, z1, z2, z3, z4, hput⟩ := HFIN.out h2 HLN.out HSB.out c2 n2 (HBX2.out c2)
      clear hd h2 c2 n2 hq
      go_wp2_with fail
      refine hfd.mono ?_
      rintro e w3 ⟨rfl, rfl⟩
      clear hfd
      go_wp2_with fail
      refine hput.mono ?_
      rintro e w4 ⟨rfl, hR⟩
      have HR : Hid _ := hR
      clear hput hR
      go_wp2_with fail
      go_ret
      exact ⟨rfl, by rw [HDE.out]; exact HR.out⟩
    | some i =>
      obtain ⟨hi0, hi1, hi2, hi3, hi4⟩ := plF_some hq
      have hi : i < L1.length := by simpa using hi0
      rw [hq] at hfd
      simp only at hfd
      have HDE : Hid (delF b (L1.map Prod.fst) = (L1.eraseIdx i).map Prod.fst) := by rw [erase_F]; exact hi3
      have hd2 := rdrop_any (by have := HBW.out.2.1; have := c2.size; omega) h2 (by have := HLN.out; omega) i hi
      have HL2 : Hid ((L1.eraseIdx i).length ≤ 999999) := by have := HLN.out; rw [Hid, List.length_eraseIdx]; split <;> omega
      have HSB2 : Hid (∀ p ∈ L1.eraseIdx i, p ∈ L) := fun p hp => HSB.out p (List.mem_of_mem_eraseIdx hp)
      generalize L1.eraseIdx i = L2 at hd2 HDE HL2 HSB2
      have HC2 : Hid (Chg (Wr r (.slice (some ⟨g, 0, none⟩) N C1)) W w2 ∧ ∀ k, blk v2 = some k → W.heap.size ≤ k) := ⟨c2, n2⟩
      clear hd h2 c2 n2 hq hi4 hi3 hi2 hi1 hi0 hi
      go_wp2_with fail
      refine hfd.mono ?_
      rintro e w3 ⟨rfl, rfl⟩
      clear hfd
      go_wp2_with fail
      refine hd2.mono ?_
      rintro e w4 ⟨rfl, v4, h4, c4, n4⟩
      obtain ⟨c2, n2⟩ := HC2.out
      have c5 : Chg (Wr r (.slice (some ⟨g, 0, none⟩) N C1)) W w4 := wr_chain c2 (fun k hk => .inr (n2 k hk)) c4
      have n5 : ∀ k, blk v4 = some k → W.heap.size ≤ k := fun k hk => Nat.le_trans c2.size (n4 k hk)
      obtain ⟨HX, z0, z1, z2, z3, z4, hput⟩ := HFIN.out h4 HL2.out HSB2.out c5 n5 (HBX2.out c5)
      clear hd2 h4 c4 n4 c2 n2 c5 n5
      go_wp2_with fail
      refine hput.mono ?_
      rintro e w6 ⟨rfl, hR⟩
      have HR : Hid _ := hR
      clear hput hR
      go_wp2_with fail
      go_ret
      exact ⟨rfl, by rw [HDE.out]; exact HR.out⟩
end Go.Proofs.Ytndjlnlmlgimlaa
