/- The walk of getParts. -/
import Derived.Test.YtaeoafedfgbcaaaGreatDoorDdH
import Derived.Deep.AppendLies
namespace Go.Proofs.YtaeoafedfgbcaaaGreatDoor.DD
set_option linter.unusedVariables false
open Go.RowKit
set_option linter.unusedVariables false

/- A deed without parts, and where its slices lie. -/
structure El where
  f : Fl
  A1 : Option Addr
  c1 : Nat
  A2 : Option Addr
  c2 : Nat
def ev (e : El) : List Value := [.int .i64 e.f.zxid, .int .u8 e.f.kind, .int .i64 e.f.session, .int .i64 e.f.turn, .int .i64 e.f.xid, .int .i64 e.f.time, .string (mkS e.f.path), .slice e.A1 e.f.data.length e.c1, .int .i64 e.f.owner, .int .i64 e.f.version, .int .i64 e.f.cversion, .int .i64 e.f.timeout, .int .i64 e.f.err, .int .i64 e.f.cver, .slice e.A2 e.f.mems.length e.c2, .slice none 0 0]
def evd (l : List El) : List Value := (l.map ev).flatten
theorem ev_len (e : El) : (ev e).length = 16 := rfl
theorem evd_len : ∀ l, (evd l).length = l.length * 16
  | [] => rfl
  | e :: l => by
    have h := evd_len l
    have e1 : evd (e :: l) = ev e ++ evd l := by simp [evd]
    rw [e1, List.length_append, ev_len, h, List.length_cons]; omega
theorem evd_app (a b : List El) : evd (a ++ b) = evd a ++ evd b := by simp [evd]
theorem evd_at : ∀ (l : List El) (j : Nat) (h : j < l.length) (i : Nat) (hi : i < 16), (evd l)[j * 16 + i]? = (ev (l[j]'h))[i]?
  | [], _, h, _, _ => by simp at h
  | e :: l, 0, _, i, hi => by
    have e1 : evd (e :: l) = ev e ++ evd l := by simp [evd]
    rw [e1, Nat.zero_mul, Nat.zero_add, List.getElem?_append_left (by rw [ev_len]; exact hi)]
    rfl
  | e :: l, j + 1, h, i, hi => by
    have e1 : evd (e :: l) = ev e ++ evd l := by simp [evd]
    rw [e1, List.getElem?_append_right (by rw [ev_len]; omega), ev_len, show (j + 1) * 16 + i - 16 = j * 16 + i by omega]
    exact evd_at l j (by simpa using h) i hi
theorem ev_one (e : El) : ∀ u ∈ ev e, u.oneCell' = true := by
  intro u hu
  simp only [ev, List.mem_cons, List.not_mem_nil, or_false] at hu
  rcases hu with rfl | rfl | rfl | rfl | rfl | rfl | rfl | rfl | rfl | rfl | rfl | rfl | rfl | rfl | rfl | rfl <;> rfl
theorem infoD : (Tryz.prog.info? 41).map (fun i => (i.zero, i.size, i.bytes)) = some (some (.agg #[.int .i64 0, .int .u8 0, .int .i64 0, .int .i64 0, .int .i64 0, .int .i64 0, .string ⟨#[]⟩, .slice none 0 0, .int .i64 0, .int .i64 0, .int .i64 0, .int .i64 0, .int .i64 0, .int .i64 0, .slice none 0 0, .slice none 0 0]), 16, 184) := by kernel_rfl
/- What an element's slices hold, new since w0, and not in the row's own block. -/
structure ElAt (w0 w : World) (rb : Option Nat) (e : El) : Prop where
  bs : Bs w (.slice e.A1 e.f.data.length e.c1) e.f.data
  bsB : ∀ k, bk (.slice e.A1 e.f.data.length e.c1) = some k → w0.heap.size ≤ k ∧ k < w.heap.size ∧ rb ≠ some k
  ms : Mems w (.slice e.A2 e.f.mems.length e.c2) e.f.mems
  msB : ∀ k, bk (.slice e.A2 e.f.mems.length e.c2) = some k → w0.heap.size ≤ k ∧ k < w.heap.size ∧ rb ≠ some k
  np : e.f.np = 0
theorem ElAt.keep {w0 w w' : World} {rb rb' : Option Nat} {e : El} {S : Nat → Prop} (h : ElAt w0 w rb e) (hc : Chg S w w') (hs : ∀ k, w0.heap.size ≤ k → k < w.heap.size → rb ≠ some k → ¬ S k ∧ rb' ≠ some k) : ElAt w0 w' rb' e := by
  refine ⟨h.bs.keep hc (fun k hk => ?_), fun k hk => ?_, h.ms.keep hc (fun k hk => ?_), fun k hk => ?_, h.np⟩
  · obtain ⟨a, b, c⟩ := h.bsB k hk
    exact (hs k a b c).1
  · obtain ⟨a, b, c⟩ := h.bsB k hk
    exact ⟨a, Nat.lt_of_lt_of_le b hc.size, (hs k a b c).2⟩
  · obtain ⟨a, b, c⟩ := h.msB k hk
    exact (hs k a b c).1
  · obtain ⟨a, b, c⟩ := h.msB k hk
    exact ⟨a, Nat.lt_of_lt_of_le b hc.size, (hs k a b c).2⟩
theorem Laid.chg' {S : Nat → Prop} {w w' : World} (h : PA.Laid w) (hc : Chg S w w') (h1 : ¬ S 1) (h2 : ¬ S 0) : PA.Laid w' := by
  obtain ⟨m, hm⟩ := h.one
  exact ⟨⟨m, by rw [hc.cell (a := ⟨1, 0, none⟩) h.gt.1 h1]; exact hm⟩, fun j hj => by rw [hc.cell (a := ⟨0, j, none⟩) h.gt.2 h2]; exact h.tab j hj⟩
theorem part_step (j : Nat) (r : Rd) : rdParts (j + 1) r = ((rdPart r).1 :: (rdParts j (rdPart r).2).1, (rdParts j (rdPart r).2).2) := rfl
/- Parts that were got. -/
structure GotP (w w' : World) (g : Nat) (q : Option Nat) (v : Value) (ps : List Fl) (r : Rd) : Prop where
  rd : Rdr w' g q r
  chg : Chg (One g) w w'
  pr : Prts w' w'.heap.size v ps
  new : ∀ k, bk v = some k → w.heap.size ≤ k
  far : ∀ (w'' : World) (S : Nat → Prop), Chg S w' w'' → (∀ k, w.heap.size ≤ k → ¬ S k) → Prts w'' w''.heap.size v ps
theorem prts_of {w0 w : World} {base : Nat} {v : Value} {l : List El} (ho : w.ownsRow base 41 16 v l.length (evd l)) (he : ∀ e ∈ l, ElAt w0 w v.ownBlock e) : Prts w w.heap.size v (l.map El.f) := by
  rcases ho.2 with ⟨rfl, h0⟩ | ⟨g, cap, cur, rfl, hb, hg, hc, hm, hs, ht⟩
  · have : l = [] := List.length_eq_zero_iff.1 (by omega)
    subst this
    exact .inl ⟨rfl, rfl⟩
  · by_cases h0 : 0 < l.length
    · refine .inr (.inr ⟨by simpa using h0, g, 0, cap, by simp, by simpa using hc, heap_lt hg, Nat.le_refl _, fun j hj => ?_⟩)
      have hjl : j < l.length := by simpa using hj
      have hel := he _ (List.getElem_mem hjl)
      have hcell : ∀ i u, i < 16 → (ev (l[j]'hjl))[i]? = some u → w.cell? ⟨g, 0 + j * 16 + i, none⟩ = some u := by
        intro i u hi hu
        have := ho.cells (g := g) rfl (j * 16 + i) u (by rw [evd_at l j hjl i hi]; exact hu)
        rw [show (⟨g, 0, none⟩ : Addr).add (j * 16 + i) = ⟨g, 0 + (j * 16 + i), none⟩ by simp only [Addr.add]; split <;> simp_all] at this
        rw [Nat.add_assoc]
        exact this
      have hf : (l.map El.f)[j]'hj = (l[j]'hjl).f := by simp
      rw [hf]
      generalize (l[j]'hjl) = e at hel hcell
      refine ⟨e.A1, e.c1, e.A2, e.c2, none, 0, ⟨hcell 0 _ (by omega) rfl, hcell 1 _ (by omega) rfl, hcell 2 _ (by omega) rfl, hcell 3 _ (by omega) rfl, hcell 4 _ (by omega) rfl, hcell 5 _ (by omega) rfl, hcell 6 _ (by omega) rfl, hcell 7 _ (by omega) rfl, hcell 8 _ (by omega) rfl, hcell 9 _ (by omega) rfl, hcell 10 _ (by omega) rfl, hcell 11 _ (by omega) rfl, hcell 12 _ (by omega) rfl, hcell 13 _ (by omega) rfl, hcell 14 _ (by omega) rfl, hcell 15 _ (by omega) (by rw [hel.np]; rfl)⟩, ⟨hel.bs, fun k hk => (hel.bsB k hk).2.1, hel.ms, fun k hk => (hel.msB k hk).2.1⟩⟩
    · have : l = [] := List.length_eq_zero_iff.1 (by omega)
      subst this
      exact .inr (.inl ⟨_, _, rfl, rfl⟩)
set_option maxRecDepth 100000 in
set_option maxHeartbeats 4000000 in
theorem getParts_any {w : World} {g : Nat} {q : Option Nat} {r : Rd} (h : Rdr w g q r) (hq : ∀ k, q = some k → k < w.heap.size) (hL : PA.Laid w) (hg1 : 1 ≠ g) (hg2 : 0 ≠ g) :
    Calls Tryz.prog 27 #[.pointer (some ⟨g, 0, none⟩)] w fun e w' => ∃ A C, e = .returned (.slice A (rdParts (rdCount r 500).1.toNat (rdCount r 500).2).1.length C) ∧ GotP w w' g q (.slice A (rdParts (rdCount r 500).1.toNat (rdCount r 500).2).1.length C) (rdParts (rdCount r 500).1.toNat (rdCount r 500).2).1 (rdParts (rdCount r 500).1.toNat (rdCount r 500).2).2 := by
  obtain ⟨i0, hi, hz0, hz1, hz2⟩ := info_parts infoD
  have hrc := rCount_any h 500
  have hgl : g < w.heap.size := h.lt
  have hcp := rdCount_pos r 500
  have hcm : (rdCount r 500).1 ≤ 500 := by
    unfold rdCount
    split
    · simp
    · omega
  have HL : Hid (PA.Laid w) := hL
  have HQ : Hid (∀ k, q = some k → k < w.heap.size) := hq
  clear h hL hq
  generalize hn : (rdCount r 500).1 = nn at hrc hcp hcm ⊢
  clear hn
  generalize (rdCount r 500).2 = r2 at hrc ⊢
  obtain ⟨n, rfl⟩ : ∃ n : Nat, nn = (n : Int) := ⟨nn.toNat, by omega⟩
  rw [Int.toNat_natCast]
  clear hcp
  generalize hRES : rdParts n r2 = RES
  have HRES : Hid (rdParts n r2 = RES) := hRES
  clear hRES
  go_enter Tryz.func27, Tryz.ntmps27
  go_wp2_with fail
  refine hrc.mono ?_
  rintro e w2 ⟨rfl, hR2, hC2⟩
  have HR2 : Hid (Rdr w2 g q r2) := hR2
  have HC2 : Hid (Chg (One g) w w2) := hC2
  clear hrc hR2 hC2
  go_wp2_with fail
  go_loopw [3, 6] (fun v c wr => ∃ (k : Nat) (els : List El) (r' : Rd) (A : Option Addr) (C : Nat), v = .slice A k C ∧ c = .int .i64 k ∧ k ≤ n ∧ els.length = k ∧ rdParts n r2 = (els.map El.f ++ (rdParts (n - k) r').1, (rdParts (n - k) r').2) ∧ Rdr wr g q r' ∧ wr.ownsRow w.heap.size 41 16 v k (evd els) ∧ (∀ e ∈ els, ElAt w wr v.ownBlock e) ∧ Chg (One g) w wr) (fun _ c _ => n - (intOf c).toNat)
  case atStart => exact ⟨0, [], r2, none, 0, rfl, rfl, by omega, rfl, rfl, HR2.out, World.ownsRow_nil _ _ _ _, fun e he => by simp at he, HC2.out⟩
  case round =>
    obtain ⟨k, els, r', A, C, rfl, rfl, hk, hel, hrd, hRr, hOr, hEr, hCr⟩ := hrel
    have HRD : Hid (rdParts n r2 = (els.map El.f ++ (rdParts (n - k) r').1, (rdParts (n - k) r').2)) := hrd
    have HEL : Hid (els.length = k) := hel
    have HRr : Hid (Rdr wr g q r') := hRr
    have HOr : Hid (wr.ownsRow w.heap.size 41 16 (.slice A k C) k (evd els)) := hOr
    have HEr : Hid (∀ e ∈ els, ElAt w wr (Value.slice A k C).ownBlock e) := hEr
    have HCr : Hid (Chg (One g) w wr) := hCr
    clear hel hrd hRr hOr hEr hCr HR2 HC2
    by_cases hlt : k < n
    · obtain ⟨j, hj⟩ : ∃ j, n - k = j + 1 := ⟨n - k - 1, by omega⟩
      have HJ : Hid (n - k = j + 1) := hj
      clear hj
      have hrb := rByte_any HRr.out
      have HST : Hid (rdParts (j + 1) r' = ((rdBody ((rdByte r').1.toNat : Int) (rdByte r').2).1 :: (rdParts j (rdBody ((rdByte r').1.toNat : Int) (rdByte r').2).2).1, (rdParts j (rdBody ((rdByte r').1.toNat : Int) (rdByte r').2).2).2)) := part_step j r'
      have hkb := byte_kind (rdByte r').1
      generalize ((rdByte r').1.toNat : Int) = kb at hrb HST hkb
      generalize (rdByte r').2 = r3 at hrb HST
      have hnp := rdBody_np kb r3
      go_wp2_with fail
      refine hrb.mono ?_
      rintro e w3 ⟨rfl, hR3, hC3⟩
      have HC3 : Hid (Chg (One g) wr w3) := hC3
      have hgf := getFields_any hR3 (fun i hi => by have := HQ.out i hi; have := HCr.out.size; have := hC3.size; omega) kb hkb (Laid.chg' HL.out (HCr.out.trans hC3) hg1 hg2)
      generalize (rdBody kb r3).1 = f at hgf HST hnp
      generalize (rdBody kb r3).2 = r4 at hgf HST
      clear hrb hR3 hC3
      go_wp2_with fail
      refine hgf.mono ?_
      rintro e w4 ⟨A1, c1, A2, c2, rfl, hR4, hC4, hb4, hbB4, hm4, hmB4⟩
      have HR4 : Hid (Rdr w4 g q r4) := hR4
      have HC4 : Hid (Chg (One g) wr w4) := HC3.out.trans hC4
      have hs34 := HC3.out.size
      have hO4 : w4.ownsRow w.heap.size 41 16 (.slice A k C) k (evd els) := owns_keep HOr.out HC4.out (fun i hi e => by have := (HOr.out.lt i hi).1; unfold One at e; omega)
      have hlt4 : ∀ i, (Value.slice A k C).ownBlock = some i → i < wr.heap.size := fun i hi => (HOr.out.lt i hi).2
      have HE4 : Hid (∀ e ∈ els, ElAt w w4 (Value.slice A k C).ownBlock e) := fun e he => (HEr.out e he).keep HC4.out (fun i h1 h2 h3 => ⟨fun e' => by unfold One at e'; omega, h3⟩)
      have HN4 : Hid (ElAt w w4 (Value.slice A k C).ownBlock ⟨f, A1, c1, A2, c2⟩) := by
        have hs := HCr.out.size
        refine ⟨hb4, fun i hi => ⟨by have := hbB4 i hi; omega, hb4.lt hi, fun e' => by have := hbB4 i hi; have := hlt4 i e'; omega⟩, hm4, fun i hi => ⟨by have := hmB4 i hi; omega, hm4.lt hi, fun e' => by have := hmB4 i hi; have := hlt4 i e'; omega⟩, hnp⟩
      have hsw4 : w.heap.size ≤ w4.heap.size := by have := HCr.out.size; have := HC4.out.size; omega
      have HLT : Hid (∀ i, (Value.slice A k C).ownBlock = some i → i < w4.heap.size) := fun i hi => by have := hlt4 i hi; have := HC4.out.size; omega
      clear hgf hR4 hC4 hb4 hbB4 hm4 hmB4 hlt4 hs34 HC3 HOr HEr HRr hnp
      go_wp2_with (at_builtin; refine wpList_append_lies _ rfl (.tmp 8) (.tmp 13) 24 rfl w.heap.size 41 i0 _ 16 184 Tryz.underlying24 hi hz0 hz1 hz2 rfl (by decide) (.slice A k C) k (evd els) rfl (hO4.alloc _) ⟨w4.heap.size, 0, none⟩ 1 1 (ev ⟨f, A1, c1, A2, c2⟩) rfl rfl (World.news_of_block (heap_alloc_new w4 _)) (ev_one _) (by omega) (by unfold maxLen; omega) (by omega) (by simp; omega) (w4.heap.size + 1) (by simp) ?_; intro g6 cap6 w6 ho6 hg6 hat6 hlt6)
      have hc56 : Chg (fun i => (Value.slice A k C).ownBlock = some i) w4 w6 := (Chg.alloc _ w4 _).trans (Chg.of_grown hg6)
      have HC6 : Hid (Chg (One g) w w6) := by
        have h1 : Chg (One g) w w4 := HCr.out.trans HC4.out
        exact h1.trans' hc56 (fun i hi e => by have := (hO4.lt i e).1; omega)
      have HR6 : Hid (Rdr w6 g q r4) := HR4.out.keep hc56 (fun e => by have := (hO4.lt g e).1; omega) (fun i hi e => by have := (hO4.lt i e).1; have := HQ.out i hi; omega)
      have HO6 : Hid (w6.ownsRow w.heap.size 41 16 (.slice (some ⟨g6, 0, none⟩) (k + 1) cap6) (k + 1) (evd (els ++ [⟨f, A1, c1, A2, c2⟩]))) := by
        show World.ownsRow _ _ _ _ _ _ _
        rw [evd_app]
        simpa [evd] using ho6
      have HE6 : Hid (∀ e ∈ els ++ [⟨f, A1, c1, A2, c2⟩], ElAt w w6 (Value.slice (some ⟨g6, 0, none⟩) (k + 1) cap6).ownBlock e) := by
        have key : ∀ i, w.heap.size ≤ i → i < w4.heap.size → (Value.slice A k C).ownBlock ≠ some i → ¬ ((Value.slice A k C).ownBlock = some i) ∧ (Value.slice (some ⟨g6, 0, none⟩) (k + 1) cap6).ownBlock ≠ some i := by
          intro i h1 h2 h3
          refine ⟨h3, fun e => ?_⟩
          have e' : g6 = i := Option.some.inj e
          subst e'
          rcases hat6 with h | h
          · exact h3 h
          · omega
        intro e he
        rcases List.mem_append.1 he with he | he
        · exact (HE4.out e he).keep hc56 key
        · simp at he
          subst he
          exact HN4.out.keep hc56 key
      have HRD6 : Hid (rdParts n r2 = ((els ++ [(⟨f, A1, c1, A2, c2⟩ : El)]).map El.f ++ (rdParts (n - (k + 1)) r4).1, (rdParts (n - (k + 1)) r4).2)) := by
        show _ = _
        rw [HRD.out, HJ.out, HST.out, show n - (k + 1) = j by have := HJ.out; omega]
        simp
      clear ho6 hg6 hat6 hlt6 hc56 hO4 HE4 HN4 HR4 HC4 HCr HLT
      go_wp2
      refine ⟨⟨k + 1, els ++ [⟨f, A1, c1, A2, c2⟩], r4, some ⟨g6, 0, none⟩, cap6, rfl, by go_num, by omega, by rw [List.length_append, HEL.out]; rfl, HRD6.out, HR6.out, HO6.out, HE6.out, HC6.out⟩, by simp [intOf]; omega⟩
    · have hkn : k = n := by omega
      subst hkn
      have hres : RES = (els.map El.f, r') := by
        rw [← HRES.out, HRD.out, Nat.sub_self]
        simp [rdParts]
      subst hres
      have HEL2 : Hid ((els.map El.f).length = k) := by show _ = _; rw [List.length_map]; exact HEL.out
      go_wp2
      go_ret
      have e1 := HEL2.out
      have e2 := HEL.out
      refine ⟨A, C, ?_, ?_⟩
      · show Ending.returned (Value.slice A k C) = _
        rw [e2]
      rw [e2]
      have key : ∀ (w'' : World) (S : Nat → Prop), Chg S wr w'' → (∀ k, w.heap.size ≤ k → ¬ S k) → Prts w'' w''.heap.size (.slice A k C) (els.map El.f) := by
        intro w'' S hc hs
        have ho := owns_keep HOr.out hc (fun i hi => hs i (HOr.out.lt i hi).1)
        have he : ∀ e ∈ els, ElAt w w'' (Value.slice A k C).ownBlock e := fun e he => (HEr.out e he).keep hc (fun i h1 h2 h3 => ⟨hs i h1, h3⟩)
        rw [← e2] at ho he
        have hp := prts_of (w0 := w) ho he
        rw [e2] at hp
        exact hp
      exact ⟨HRr.out, HCr.out, key wr Non (Chg.refl _ _) (fun _ _ e => e), fun i hi => (HOr.out.lt i (bk_blk hi)).1, key⟩
end Go.Proofs.YtaeoafedfgbcaaaGreatDoor.DD
