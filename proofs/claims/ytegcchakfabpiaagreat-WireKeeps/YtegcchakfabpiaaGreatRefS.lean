/- The walks of the document's own reader: texts and bytes. -/
import Derived.Test.YtegcchakfabpiaaGreatRefR
namespace Go.Proofs.YtegcchakfabpiaaGreat
open Go.RowKit

theorem rfText_no {w : World} {g : Nat} {q : Option Nat} {r : Rd} (h : Rdf w g q r) (most : Int) (hn : (rdInt r).1 < 0 ∨ most < (rdInt r).1 ∨ ((((rdInt r).2.getD []).length : Int) < (rdInt r).1)) :
    Calls Tryz.prog 41 #[.pointer (some ⟨g, 0, none⟩), .int .i64 most] w fun e w' => e = .returned (.string (mkS [])) ∧ Rdf w' g q none ∧ Chg (One g) w w' := by
  have hi := rfInt_any h
  generalize rdInt r = p at hi hn
  obtain ⟨n, r'⟩ := p
  dsimp only at hi hn
  have HI : Hid (Calls Tryz.prog 51 #[.pointer (some ⟨g, 0, none⟩)] w fun e w' => e = .returned (.int .i64 n) ∧ Rdf w' g q r' ∧ Chg (One g) w w') := hi
  clear hi h
  have hnn : (n < 0) ∨ (¬ n < 0 ∧ most < n) ∨ (¬ n < 0 ∧ ¬ most < n ∧ ((r'.getD []).length : Int) < n) := by omega
  clear hn
  rcases hnn with hb | ⟨hb, hb2⟩ | ⟨hb, hb2, hb3⟩
  · go_enter Tryz.func41, Tryz.ntmps41
    go_wp2_with fail
    refine HI.out.mono ?_
    rintro e w1 ⟨rfl, hr, hc⟩
    go_wp2_with fail
    refine (rfFail_any hr).mono ?_
    rintro e w3 ⟨rfl, hr3, hc3⟩
    go_wp2
    go_ret
    exact ⟨rfl, hr3, hc.trans hc3⟩
  · go_enter Tryz.func41, Tryz.ntmps41
    go_wp2_with fail
    refine HI.out.mono ?_
    rintro e w1 ⟨rfl, hr, hc⟩
    go_wp2_with fail
    refine (rfFail_any hr).mono ?_
    rintro e w3 ⟨rfl, hr3, hc3⟩
    go_wp2
    go_ret
    exact ⟨rfl, hr3, hc.trans hc3⟩
  · go_enter Tryz.func41, Tryz.ntmps41
    go_wp2_with fail
    refine HI.out.mono ?_
    rintro e w1 ⟨rfl, hr, hc⟩
    have HR : Hid (Rdf w1 g q r') := hr
    obtain ⟨v, h1, h2, _⟩ := hr
    have hc0 := cell_at h1 0
    rw [show #[v, Value.bool r'.isNone][0]? = some v from rfl] at hc0
    obtain ⟨A, C, rfl⟩ := bs_form h2
    clear h1 h2
    go_wp2_with fail
    refine (rfFail_any HR.out).mono ?_
    rintro e w3 ⟨rfl, hr3, hc3⟩
    go_wp2
    go_ret
    exact ⟨rfl, hr3, hc.trans hc3⟩
set_option maxRecDepth 100000 in
theorem rfText_yes {w : World} {g : Nat} {q : Option Nat} {r : Rd} (h : Rdf w g q r) (most : Int) (hn : ¬ ((rdInt r).1 < 0 ∨ most < (rdInt r).1 ∨ ((((rdInt r).2.getD []).length : Int) < (rdInt r).1))) :
    Calls Tryz.prog 41 #[.pointer (some ⟨g, 0, none⟩), .int .i64 most] w fun e w' => e = .returned (.string (mkS (((rdInt r).2.getD []).take (rdInt r).1.toNat))) ∧ Rdf w' g q ((rdInt r).2.map (fun l => l.drop (rdInt r).1.toNat)) ∧ Chg (One g) w w' := by
  have hi := rfInt_any h
  generalize rdInt r = p at hi hn
  obtain ⟨n, r'⟩ := p
  dsimp only at hi hn ⊢
  obtain ⟨m, rfl⟩ := Int.eq_ofNat_of_zero_le (show 0 ≤ n by omega)
  rw [Int.toNat_natCast]
  have HI : Hid (Calls Tryz.prog 51 #[.pointer (some ⟨g, 0, none⟩)] w fun e w' => e = .returned (.int .i64 (m : Nat)) ∧ Rdf w' g q r' ∧ Chg (One g) w w') := hi
  clear hi h
  have hb2 : ¬ most < (m : Int) := by omega
  have hb3 : m ≤ (r'.getD []).length := by omega
  clear hn
  generalize hL : (r'.getD []) = l at hb3
  have HL : Hid (r'.getD [] = l) := hL
  have HL2 : Hid ((r'.map (fun l => l.drop m)).isNone = r'.isNone ∧ (r'.map (fun l => l.drop m)).getD [] = l.drop m) := by
    show _ ∧ _
    rw [← hL]
    cases r' <;> simp
  clear hL
  have hlm : ¬ ((l.length : Int) < m) := by omega
  go_enter Tryz.func41, Tryz.ntmps41
  go_wp2_with fail
  refine HI.out.mono ?_
  rintro e w1 ⟨rfl, hr, hc⟩
  have HR : Hid (Rdf w1 g q r') := hr
  have hr0 : RdAt w1 g 65 r'.isNone q l := by have := hr; unfold Rdf at this; rw [HL.out] at this; exact this
  have HR0 : Hid (RdAt w1 g 65 r'.isNone q l) := hr0
  obtain ⟨v, h1, h2, h3, h4, hlim⟩ := hr0
  have hc0 := cell_at h1 0
  have hf0 := frozen_at h1 0
  rw [show #[v, Value.bool r'.isNone][0]? = some v from rfl] at hc0
  have H3 : Hid (∀ k, bk v = some k → q = some k) := h3
  clear h1 h3 hr
  have HEND : Hid (∀ v', Bs w1 v' (l.drop m) → (∀ k, bk v' = some k → q = some k) → Rdf (w1.setCell ⟨g, 0, none⟩ v') g q (r'.map (fun l => l.drop m)) ∧ Chg (One g) w (w1.setCell ⟨g, 0, none⟩ v')) := fun v' hb hq => by
    have := HR0.out.turn1 v' (l.drop m) hb hq (by rw [List.length_drop]; omega)
    refine ⟨?_, hc.trans this.2⟩
    unfold Rdf
    rw [HL2.out.1, HL2.out.2]
    exact this.1
  rcases h2 with ⟨rfl, rfl⟩ | ⟨ad, c, rfl, rfl⟩ | ⟨hpos, b, o, c, rfl, hcc, hbb, hcl⟩
  · have hm0 : m = 0 := by simpa using hb3
    subst hm0
    have hcv := convert_bytes (Bs.nil w1)
    go_wp2
    go_ret
    have := HEND.out (.slice none 0 0) (Bs.nil _) (fun k hk => absurd hk (bk_zero _ _ _))
    exact ⟨rfl, this⟩
  · have hm0 : m = 0 := by simpa using hb3
    subst hm0
    have hcv := convert_bytes (w := w1) (x := .slice (some ad) 0 c) (l := []) Bs.none'
    by_cases hc0c : c = 0
    · subst hc0c
      go_wp2
      go_ret
      have := HEND.out (.slice (some ad) 0 0) Bs.none' (fun k hk => absurd hk (bk_zero _ _ _))
      exact ⟨rfl, this⟩
    · go_wp2
      go_ret
      have := HEND.out (.slice (some ad) 0 c) Bs.none' (fun k hk => absurd hk (bk_zero _ _ _))
      exact ⟨rfl, this⟩
  · have hq3 : q = some b := H3.out b (bk_pos hpos)
    have HC : Hid (∀ j (h : j < l.length), w1.cell? ⟨b, o + j, none⟩ = some (.int .u8 ((l[j]'h).toNat : Int))) := hcl
    have HQ : Hid (q = some b) := hq3
    have hcv := convert_bytes (Bs.head hcl hbb m hb3 (c := c) (by omega))
    have hmc : m ≤ c := by omega
    clear hcl hq3
    by_cases hcm : c = m
    · have hll : l.length = m := by omega
      subst hcm
      have HDN : Hid (l.drop c = []) := List.drop_eq_nil_of_le (by omega)
      go_wp2
      go_ret
      have := HEND.out (.slice (some ⟨b, o, none⟩) 0 0) (by rw [HDN.out]; exact Bs.none') (fun k hk => absurd hk (bk_zero _ _ _))
      exact ⟨rfl, this⟩
    · go_wp2
      go_ret
      have := HEND.out (.slice (some ⟨b, o + m, none⟩) (l.length - m) (c - m)) (Bs.tail HC.out hbb m rfl (by omega)) (fun k hk => by rw [HQ.out]; exact bk_blk hk)
      exact ⟨rfl, this⟩
theorem rfText_any {w : World} {g : Nat} {q : Option Nat} {r : Rd} (h : Rdf w g q r) (most : Int) :
    Calls Tryz.prog 41 #[.pointer (some ⟨g, 0, none⟩), .int .i64 most] w fun e w' => e = .returned (.string (mkS (rdText r most).1)) ∧ Rdf w' g q (rdText r most).2 ∧ Chg (One g) w w' := by
  rcases rdText_cases r most with ⟨h1, h2⟩ | ⟨h1, h2, h3⟩
  · rw [h2]
    exact rfText_no h most h1
  · rw [h2, h3]
    exact rfText_yes h most h1
theorem rfBytes_any {w : World} {g : Nat} {q : Option Nat} {r : Rd} (h : Rdf w g q r) (most : Int) (hl : (rdText r most).1.length ≤ 140737488355328) :
    Calls Tryz.prog 20 #[.pointer (some ⟨g, 0, none⟩), .int .i64 most] w fun e w' => ∃ v, e = .returned v ∧ Bs w' v (rdText r most).1 ∧ Rdf w' g q (rdText r most).2 ∧ Chg (One g) w w' ∧ (∀ k, bk v = some k → w.heap.size ≤ k) := by
  have ht := rfText_any h most
  generalize rdText r most = p at ht hl
  obtain ⟨s, r'⟩ := p
  dsimp only at ht hl ⊢
  have HT : Hid (Calls Tryz.prog 41 #[.pointer (some ⟨g, 0, none⟩), .int .i64 most] w fun e w' => e = .returned (.string (mkS s)) ∧ Rdf w' g q r' ∧ Chg (One g) w w') := ht
  clear ht
  have hsz := mkS_size s
  have hcv : ∀ w, (convert 9 22 (.string (mkS s))).run Tryz.prog w = _ := fun w => run_bytes_of_string w 9 22 5 (mkS s) Tryz.underlying9 Tryz.underlying22 Tryz.underlying5
  go_enter Tryz.func20, Tryz.ntmps20
  go_wp2_with fail
  refine HT.out.mono ?_
  rintro e w1 ⟨rfl, hr, hc⟩
  go_wp2
  go_ret
  have hch : Chg Non w1 (w1.alloc (.cells (bytesRow (mkS s) (grownCap w1 s.length 0 5)) 5 ((bytesRow (mkS s) (grownCap w1 s.length 0 5)).size, (bytesRow (mkS s) (grownCap w1 s.length 0 5)).size + 1))).drew := (Chg.alloc Non w1 _).trans (Chg.drew Non _)
  refine ⟨_, rfl, ?_, hr.keep hch id (fun _ _ => id), hc.trans (hch.weak (fun _ _ h => h.elim)), fun k hk => ?_⟩
  · have := Bs_row w1 s (grownCap w1 s.length 0 5) ((bytesRow (mkS s) (grownCap w1 s.length 0 5)).size, (bytesRow (mkS s) (grownCap w1 s.length 0 5)).size + 1) (grownCap_ge _ _ _ _)
    exact this
  · have h1 := bk_blk hk
    have h2 : w1.heap.size = k := by simpa [blk, Value.ownBlock] using h1
    have := hc.size
    omega
theorem rfNew_any {w : World} {x : Value} {l : List UInt8} (hx : Bs w x l) (hl : l.length ≤ 140737488355328) :
    Calls Tryz.prog 18 #[x] w fun e w' => ∃ g q, e = .returned (.pointer (some ⟨g, 0, none⟩)) ∧ Rdf w' g q (some l) ∧ Below w.heap.size w w' ∧ w.heap.size ≤ g ∧ (∀ k, q = some k → w.heap.size ≤ k ∧ k < w'.heap.size) := by
  have HX : Hid (Bs w x l) := hx
  obtain ⟨A, C, rfl⟩ := bs_form hx
  clear hx
  go_enter Tryz.func18, Tryz.ntmps18
  go_wp2_with (at_builtin; refine wpList_app rfl (.tmp 3) (.tmp 4) rfl (.slice (some ⟨w.heap.size, 0, none⟩) 0 0) (.slice A l.length C) rfl rfl (owns_empty w) (HX.out.alloc _) (by simp) (by simp; omega) ?_; intro A1 C1 w1 ho hg hat _; (have HO : Hid (w1.ownsRow w.heap.size 5 1 (.slice A1 l.length C1) l.length (bv l)) := by simpa [Hid] using ho); (have HB : Hid (Below w.heap.size w w1) := ((Below.refl _ _).alloc (Nat.le_refl _) _).grown hg (by simp) (fun k hk => by simp [blk, Value.ownBlock] at hk; omega)); clear ho hg hat)
  go_ret
  refine ⟨w1.heap.size, bk (.slice A1 l.length C1), rfl, ⟨_, heap_alloc_new w1 _, (Bs.of_owns HO.out).alloc _, fun k hk => hk, fun e => ?_, hl⟩, HB.out.alloc HB.out.size _, HB.out.size, fun k hk => ?_⟩
  · have := (HO.out.lt _ (bk_blk e)).2
    omega
  · have := HO.out.lt k (bk_blk hk)
    exact ⟨this.1, by simp; omega⟩
end Go.Proofs.YtegcchakfabpiaaGreat
