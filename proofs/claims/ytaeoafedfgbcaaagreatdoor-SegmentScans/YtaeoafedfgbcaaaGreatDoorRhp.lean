/- The walks of the document's own read of a body, and of parts. The walks of the document's own read of a deed with parts, and of any deed. -/
import Derived.Test.YtaeoafedfgbcaaaGreatDoorRhA
import Derived.Test.YtaeoafedfgbcaaaGreatDoorRhB
import Derived.Test.YtaeoafedfgbcaaaGreatDoorRfA
namespace Go.Proofs.YtaeoafedfgbcaaaGreatDoor.DD
set_option linter.unusedVariables false
open Go.RowKit
set_option linter.unusedVariables false

theorem rreadL_any {w : World} {g : Nat} {q : Option Nat} {r : Rd} (h : Rdf w g q r) (hq : ∀ k, q = some k → k < w.heap.size) (k : Int) (zx se tu xi ti : Int) (deep : Bool) (hd : deep = false ∨ hasParts k = false) :
    Calls Tryz.prog 35 #[.pointer (some ⟨g, 0, none⟩), .agg #[.int .i64 zx, .int .u8 k, .int .i64 se, .int .i64 tu, .int .i64 xi, .int .i64 ti, .string ⟨#[]⟩, .slice none 0 0, .int .i64 0, .int .i64 0, .int .i64 0, .int .i64 0, .int .i64 0, .int .i64 0, .slice none 0 0, .slice none 0 0], .bool deep] w fun e w' => GotG w w' g q e (hd5 (rdBody k r).1 zx se tu xi ti) (rdBody k r).2 := by
  by_cases e1 : k = 1
  · subst e1; exact rread1 h hq zx se tu xi ti deep
  by_cases e2 : k = 2
  · subst e2; exact rread2 h hq zx se tu xi ti deep
  by_cases e3 : k = 3
  · subst e3; exact rread3 h hq zx se tu xi ti deep
  by_cases e4 : k = 4
  · subst e4; exact rread4 h hq zx se tu xi ti deep
  by_cases e5 : k = 5
  · subst e5
    have hf : deep = false := by rcases hd with e | e; exact e; cases e
    subst hf
    exact rread5 h hq zx se tu xi ti
  by_cases e7 : k = 7
  · subst e7; exact rread7 h hq zx se tu xi ti deep
  by_cases e9 : k = 9
  · subst e9; exact rread9 h hq zx se tu xi ti deep
  have eb : rdBody k r = (fl0 k, r) := by unfold rdBody; rw [if_neg e1, if_neg e2, if_neg e3, if_neg e4, if_neg e5, if_neg e7, if_neg e9]
  rw [eb]
  by_cases e8 : k = 8
  · subst e8
    have hf : deep = false := by rcases hd with e | e; exact e; cases e
    subst hf
    exact rread8 h hq zx se tu xi ti
  exact rreadO h hq k (neb _ _ e1).1 (neb _ _ e2).1 (neb _ _ e3).1 (neb _ _ e4).1 (neb _ _ e5).1 (neb _ _ e7).1 (neb _ _ e8).1 (neb _ _ e9).1 zx se tu xi ti deep
theorem hd5_zero (k : Int) (r : Rd) : hd5 (rdBody k r).1 0 0 0 0 0 = (rdBody k r).1 := by
  obtain ⟨h1, h2, h3, h4, h5, h6⟩ := body_head (k := k) (r := r)
  unfold hd5
  cases hb : (rdBody k r).1
  rw [hb] at h1 h2 h3 h4 h5
  simp_all
/- Parts that were read. -/
structure GotPF (w w' : World) (g : Nat) (q : Option Nat) (v : Value) (ps : List Fl) (r : Rd) : Prop where
  rd : Rdf w' g q r
  chg : Chg (One g) w w'
  pr : Prts w' w'.heap.size v ps
  new : ∀ k, bk v = some k → w.heap.size ≤ k
  far : ∀ (w'' : World) (S : Nat → Prop), Chg S w' w'' → (∀ k, w.heap.size ≤ k → ¬ S k) → Prts w'' w''.heap.size v ps
theorem rpart_step (j : Nat) (s : List UInt8) : rfParts (j + 1) (some s) = ((rdPart (some s)).1 :: (rfParts j (rdPart (some s)).2).1, (rfParts j (rdPart (some s)).2).2) := rfl
set_option maxRecDepth 100000 in
set_option maxHeartbeats 4000000 in
theorem rread2_any {w : World} {g : Nat} {q : Option Nat} {r : Rd} (h : Rdf w g q r) (hq : ∀ k, q = some k → k < w.heap.size) (most : Int) (hm0 : 0 ≤ most) (hm1 : most ≤ 500) :
    Calls Tryz.prog 65 #[.pointer (some ⟨g, 0, none⟩), .int .i64 most] w fun e w' => ∃ A C, e = .returned (.slice A (rfParts (rdCount r most).1.toNat (rdCount r most).2).1.length C) ∧ GotPF w w' g q (.slice A (rfParts (rdCount r most).1.toNat (rdCount r most).2).1.length C) (rfParts (rdCount r most).1.toNat (rdCount r most).2).1 (rfParts (rdCount r most).1.toNat (rdCount r most).2).2 := by
  obtain ⟨i0, hi, hz0, hz1, hz2⟩ := info_parts infoD
  have hrc := rfCount_any h most
  have hgl : g < w.heap.size := RdAt.lt h
  have hcp := rdCount_pos r most
  have hcm : (rdCount r most).1 ≤ 500 := by
    unfold rdCount
    split
    · simp
    · omega
  have HQ : Hid (∀ k, q = some k → k < w.heap.size) := hq
  clear h hq
  generalize hn : (rdCount r most).1 = nn at hrc hcp hcm ⊢
  clear hn
  generalize (rdCount r most).2 = r2 at hrc ⊢
  obtain ⟨n, rfl⟩ : ∃ n : Nat, nn = (n : Int) := ⟨nn.toNat, by omega⟩
  rw [Int.toNat_natCast]
  clear hcp
  generalize hRES : rfParts n r2 = RES
  have HRES : Hid (rfParts n r2 = RES) := hRES
  clear hRES hm0 hm1
  go_enter Tryz.func65, Tryz.ntmps65
  go_wp2_with fail
  refine hrc.mono ?_
  rintro e w2 ⟨rfl, hR2, hC2⟩
  have HR2 : Hid (Rdf w2 g q r2) := hR2
  have HC2 : Hid (Chg (One g) w w2) := hC2
  clear hrc hR2 hC2
  go_wp2_with fail
  go_loopw [6, 7] (fun v c wr => ∃ (k : Nat) (els : List El) (r' : Rd) (A : Option Addr) (C : Nat), v = .slice A k C ∧ c = .int .i64 k ∧ k ≤ n ∧ els.length = k ∧ rfParts n r2 = (els.map El.f ++ (rfParts (n - k) r').1, (rfParts (n - k) r').2) ∧ Rdf wr g q r' ∧ wr.ownsRow w.heap.size 41 16 v k (evd els) ∧ (∀ e ∈ els, ElAt w wr v.ownBlock e) ∧ Chg (One g) w wr) (fun _ c _ => n - (intOf c).toNat)
  case atStart => exact ⟨0, [], r2, none, 0, rfl, rfl, by omega, rfl, rfl, HR2.out, World.ownsRow_nil _ _ _ _, fun e he => by simp at he, HC2.out⟩
  case round =>
    obtain ⟨k, els, r', A, C, rfl, rfl, hk, hel, hrd, hRr, hOr, hEr, hCr⟩ := hrel
    have HRD : Hid (rfParts n r2 = (els.map El.f ++ (rfParts (n - k) r').1, (rfParts (n - k) r').2)) := hrd
    have HEL : Hid (els.length = k) := hel
    have HRr : Hid (Rdf wr g q r') := hRr
    have HOr : Hid (wr.ownsRow w.heap.size 41 16 (.slice A k C) k (evd els)) := hOr
    have HEr : Hid (∀ e ∈ els, ElAt w wr (Value.slice A k C).ownBlock e) := hEr
    have HCr : Hid (Chg (One g) w wr) := hCr
    have FIN : Hid (∀ (hend : rfParts n r2 = (els.map El.f, r')), RES = (els.map El.f, r') ∧ ∃ A' C', Ending.returned (.slice A k C) = Ending.returned (.slice A' (els.map El.f).length C') ∧ GotPF w wr g q (.slice A' (els.map El.f).length C') (els.map El.f) r') := by
      intro hend
      have e2 := HEL.out
      have e1 : (els.map El.f).length = k := by rw [List.length_map]; exact e2
      refine ⟨by rw [← HRES.out, hend], A, C, by rw [e1], ?_⟩
      rw [e1]
      have key : ∀ (w'' : World) (S : Nat → Prop), Chg S wr w'' → (∀ k, w.heap.size ≤ k → ¬ S k) → Prts w'' w''.heap.size (.slice A k C) (els.map El.f) := by
        intro w'' S hc hs
        have ho := owns_keep HOr.out hc (fun i hi => hs i (HOr.out.lt i hi).1)
        have he : ∀ e ∈ els, ElAt w w'' (Value.slice A k C).ownBlock e := fun e he => (HEr.out e he).keep hc (fun i h1 h2 h3 => ⟨hs i h1, h3⟩)
        rw [← e2] at ho he
        have hp := prts_of (w0 := w) ho he
        rw [e2] at hp
        exact hp
      exact ⟨HRr.out, HCr.out, key wr Non (Chg.refl _ _) (fun _ _ e => e), fun i hi => (HOr.out.lt i (bk_blk hi)).1, key⟩
    clear hel hrd hRr hOr hEr hCr HR2 HC2
    by_cases hlt : k < n
    · obtain ⟨j, hj⟩ : ∃ j, n - k = j + 1 := ⟨n - k - 1, by omega⟩
      have HJ : Hid (n - k = j + 1) := hj
      clear hj
      have hgd := rfGood_any HRr.out
      cases r' with
      | none =>
        obtain ⟨hres, A', C', hret, hgp⟩ := FIN.out (by rw [HRD.out, HJ.out]; simp [rfParts])
        subst hres
        rw [List.length_map] at hret hgp
        have HRET : Hid _ := hret
        have HGP : Hid _ := hgp
        clear hret hgp FIN
        go_wp2_with fail
        refine hgd.mono ?_
        rintro e w3 ⟨rfl, hw3⟩
        subst hw3
        clear hgd
        go_wp2
        go_ret
        exact ⟨A', C', HRET.out, HGP.out⟩
      | some s =>
        have HST : Hid (rfParts (j + 1) (some s) = ((rdBody ((rdByte (some s)).1.toNat : Int) (rdByte (some s)).2).1 :: (rfParts j (rdBody ((rdByte (some s)).1.toNat : Int) (rdByte (some s)).2).2).1, (rfParts j (rdBody ((rdByte (some s)).1.toNat : Int) (rdByte (some s)).2).2).2)) := rpart_step j s
        have hrb := rfByte_any HRr.out
        have hkb := byte_kind (rdByte (some s)).1
        generalize ((rdByte (some s)).1.toNat : Int) = kb at hrb HST hkb
        generalize (rdByte (some s)).2 = r3 at hrb HST
        have hnp := rdBody_np kb r3
        clear FIN
        go_wp2_with fail
        refine hgd.mono ?_
        rintro e w3g ⟨rfl, hw3⟩
        subst hw3
        clear hgd
        go_wp2_with fail
        refine hrb.mono ?_
        rintro e w3 ⟨rfl, hR3, hC3⟩
        have HC3' : Hid (Chg (One g) w3g w3) := hC3
        obtain ⟨w3a, hw3a⟩ : ∃ X, X = w3.alloc (.cells #[.int .i64 0, .int .u8 kb, .int .i64 0, .int .i64 0, .int .i64 0, .int .i64 0, .string ⟨#[]⟩, .slice none 0 0, .int .i64 0, .int .i64 0, .int .i64 0, .int .i64 0, .int .i64 0, .int .i64 0, .slice none 0 0, .slice none 0 0] 41) := ⟨_, rfl⟩
        have hB3a : Below w3.heap.size w3 w3a := by rw [hw3a]; exact (Below.refl _ _).alloc (Nat.le_refl _) _
        have HC3 : Hid (Chg (One g) w3g w3a) := HC3'.out.trans ((Chg.of_below hB3a).weak fun _ _ e => e.elim)
        have hR3a : Rdf w3a g q r3 := RdAt.keep hR3 (Chg.of_below hB3a) (fun e => e) (fun _ _ e => e)
        have hgf := rreadL_any hR3a (fun i hi => by have := HQ.out i hi; have := HCr.out.size; have := HC3.out.size; omega) kb 0 0 0 0 0 false (.inl rfl)
        rw [hd5_zero] at hgf
        generalize (rdBody kb r3).1 = f at hgf HST hnp
        generalize (rdBody kb r3).2 = r4 at hgf HST
        rw [hw3a] at hgf
        clear hrb hR3 hC3 hR3a hB3a
        go_wp2_with fail
        refine hgf.mono ?_
        rintro e w4 ⟨A1, c1, A2, c2, rfl, hR4, hC4, hb4, hbB4, hm4, hmB4⟩
        rw [← hw3a] at hC4 hbB4 hmB4
        have HR4 : Hid (Rdf w4 g q r4) := hR4
        have HC4 : Hid (Chg (One g) w3g w4) := HC3.out.trans hC4
        have hs34 := HC3.out.size
        have hO4 : w4.ownsRow w.heap.size 41 16 (.slice A k C) k (evd els) := owns_keep HOr.out HC4.out (fun i hi e => by have := (HOr.out.lt i hi).1; unfold One at e; omega)
        have hlt4 : ∀ i, (Value.slice A k C).ownBlock = some i → i < w3g.heap.size := fun i hi => (HOr.out.lt i hi).2
        have HE4 : Hid (∀ e ∈ els, ElAt w w4 (Value.slice A k C).ownBlock e) := fun e he => (HEr.out e he).keep HC4.out (fun i h1 h2 h3 => ⟨fun e' => by unfold One at e'; omega, h3⟩)
        have HN4 : Hid (ElAt w w4 (Value.slice A k C).ownBlock ⟨f, A1, c1, A2, c2⟩) := by
          have hs := HCr.out.size
          refine ⟨hb4, fun i hi => ⟨by have := hbB4 i hi; omega, hb4.lt hi, fun e' => by have := hbB4 i hi; have := hlt4 i e'; omega⟩, hm4, fun i hi => ⟨by have := hmB4 i hi; omega, hm4.lt hi, fun e' => by have := hmB4 i hi; have := hlt4 i e'; omega⟩, hnp⟩
        have hsw4 : w.heap.size ≤ w4.heap.size := by have := HCr.out.size; have := HC4.out.size; omega
        clear hgf hR4 hC4 hb4 hbB4 hm4 hmB4 hlt4 hs34 HC3 HC3' HOr HEr HRr hnp hw3a
        go_wp2_with (at_builtin; refine wpList_append_lies _ rfl (.tmp 24) (.tmp 28) 24 rfl w.heap.size 41 i0 _ 16 184 Tryz.underlying24 hi hz0 hz1 hz2 rfl (by decide) (.slice A k C) k (evd els) rfl (hO4.alloc _) ⟨w4.heap.size, 0, none⟩ 1 1 (ev ⟨f, A1, c1, A2, c2⟩) rfl rfl (World.news_of_block (heap_alloc_new w4 _)) (ev_one _) (by omega) (by unfold maxLen; omega) (by omega) (by simp; omega) (w4.heap.size + 1) (by simp) ?_; intro g6 cap6 w6 ho6 hg6 hat6 hlt6)
        have hc56 : Chg (fun i => (Value.slice A k C).ownBlock = some i) w4 w6 := (Chg.alloc _ w4 _).trans (Chg.of_grown hg6)
        have HC6 : Hid (Chg (One g) w w6) := by
          have h1 : Chg (One g) w w4 := HCr.out.trans HC4.out
          exact h1.trans' hc56 (fun i hi e => by have := (hO4.lt i e).1; omega)
        have HR6 : Hid (Rdf w6 g q r4) := RdAt.keep HR4.out hc56 (fun e => by have := (hO4.lt g e).1; omega) (fun i hi e => by have := (hO4.lt i e).1; have := HQ.out i hi; omega)
        have HO6 : Hid (w6.ownsRow w.heap.size 41 16 (.slice (some ⟨g6, 0, none⟩) (k + 1) cap6) (k + 1) (evd (els ++ [⟨f, A1, c1, A2, c2⟩]))) := by
          show World.ownsRow _ _ _ _ _ _ _
          rw [evd_app]
          simpa [evd] using ho6
        have HE6 : Hid (∀ e ∈ els ++ [⟨f, A1, c1, A2, c2⟩], ElAt w w6 (Value.slice (some ⟨g6, 0, none⟩) (k + 1) cap6).ownBlock e) := by
          have key : ∀ i, w.heap.size ≤ i → i < w4.heap.size → (Value.slice A k C).ownBlock ≠ some i → ¬ ((Value.slice A k C).ownBlock = some i) ∧ (Value.slice (some ⟨g6, 0, none⟩) (k + 1) cap6).ownBlock ≠ some i := by
            intro i h1 h2 h3
            refine ⟨h3, fun e => ?_⟩
            have e' : g6 = i := Option.some.inj e
            subst e'
            rcases hat6 with h | h
            · exact h3 h
            · omega
          intro e he
          rcases List.mem_append.1 he with he | he
          · exact (HE4.out e he).keep hc56 key
          · simp at he
            subst he
            exact HN4.out.keep hc56 key
        have HRD6 : Hid (rfParts n r2 = ((els ++ [(⟨f, A1, c1, A2, c2⟩ : El)]).map El.f ++ (rfParts (n - (k + 1)) r4).1, (rfParts (n - (k + 1)) r4).2)) := by
          show _ = _
          rw [HRD.out, HJ.out, HST.out, show n - (k + 1) = j by have := HJ.out; omega]
          simp
        clear ho6 hg6 hat6 hlt6 hc56 hO4 HE4 HN4 HR4 HC4 HCr
        go_wp2
        refine ⟨⟨k + 1, els ++ [⟨f, A1, c1, A2, c2⟩], r4, some ⟨g6, 0, none⟩, cap6, rfl, by go_num, by omega, by rw [List.length_append, HEL.out]; rfl, HRD6.out, HR6.out, HO6.out, HE6.out, HC6.out⟩, by simp [intOf]; omega⟩
    · have hkn : k = n := by omega
      subst hkn
      obtain ⟨hres, A', C', hret, hgp⟩ := FIN.out (by rw [HRD.out, Nat.sub_self]; simp [rfParts])
      subst hres
      rw [List.length_map] at hret hgp
      have HRET : Hid _ := hret
      have HGP : Hid _ := hgp
      clear hret hgp FIN
      go_wp2
      go_ret
      exact ⟨A', C', HRET.out, HGP.out⟩
end Go.Proofs.YtaeoafedfgbcaaaGreatDoor.DD

namespace Go.Proofs.YtaeoafedfgbcaaaGreatDoor.DD
set_option linter.unusedSimpArgs false
set_option linter.unusedVariables false
open Go.RowKit
set_option linter.unusedVariables false
set_option linter.unusedSimpArgs false

/- What a deed that is read leaves. -/
def GotGD (w w' : World) (g : Nat) (q : Option Nat) (e : Ending) (f : Fl) (ps : List Fl) (r : Rd) : Prop :=
  ∃ A1 c1 A2 c2 A3 c3, e = .returned (.agg #[.int .i64 f.zxid, .int .u8 f.kind, .int .i64 f.session, .int .i64 f.turn, .int .i64 f.xid, .int .i64 f.time, .string (mkS f.path), .slice A1 f.data.length c1, .int .i64 f.owner, .int .i64 f.version, .int .i64 f.cversion, .int .i64 f.timeout, .int .i64 f.err, .int .i64 f.cver, .slice A2 f.mems.length c2, .slice A3 ps.length c3]) ∧ Rdf w' g q r ∧ Chg (One g) w w' ∧
    Bs w' (.slice A1 f.data.length c1) f.data ∧ (∀ k, bk (.slice A1 f.data.length c1) = some k → w.heap.size ≤ k) ∧ Mems w' (.slice A2 f.mems.length c2) f.mems ∧ (∀ k, bk (.slice A2 f.mems.length c2) = some k → w.heap.size ≤ k) ∧
    (∀ (w'' : World) (S : Nat → Prop), Chg S w' w'' → (∀ k, w.heap.size ≤ k → ¬ S k) → Prts w'' w''.heap.size (.slice A3 ps.length c3) ps)
theorem chg_three {S : Nat → Prop} {p : Nat} {w1 w2 w3 w4 : World} (h1 : Chg (fun k => k = p) w1 w2) (h2 : Chg (fun k => k = p + 1) w2 w3) (h3 : Chg S w3 w4) : Chg (fun k => k = p ∨ k = p + 1 ∨ S k) w1 w4 :=
  ((h1.weak fun _ _ e => .inl e).trans (h2.weak fun _ _ e => .inr (.inl e))).trans (h3.weak fun _ _ e => .inr (.inr e))
set_option maxRecDepth 100000 in
set_option maxHeartbeats 8000000 in
theorem rreadD5 {w : World} {g : Nat} {q : Option Nat} {r : Rd} (h : Rdf w g q r) (hq : ∀ k, q = some k → k < w.heap.size) (zx se tu xi ti : Int) :
    Calls Tryz.prog 35 #[.pointer (some ⟨g, 0, none⟩), .agg #[.int .i64 zx, .int .u8 5, .int .i64 se, .int .i64 tu, .int .i64 xi, .int .i64 ti, .string ⟨#[]⟩, .slice none 0 0, .int .i64 0, .int .i64 0, .int .i64 0, .int .i64 0, .int .i64 0, .int .i64 0, .slice none 0 0, .slice none 0 0], .bool true] w fun e w' => GotGD w w' g q e (hd5 (rdBody 5 r).1 zx se tu xi ti) (rfParts (rdCount (rdInt r).2 500).1.toNat (rdCount (rdInt r).2 500).2).1 (rfParts (rdCount (rdInt r).2 500).1.toNat (rdCount (rdInt r).2 500).2).2 := by
  have hgl : g < w.heap.size := RdAt.lt h
  obtain ⟨w1, hw1⟩ : ∃ X, X = (w.alloc (.cells #[.int .i64 zx, .int .u8 5, .int .i64 se, .int .i64 tu, .int .i64 xi, .int .i64 ti, .string ⟨#[]⟩, .slice none 0 0, .int .i64 0, .int .i64 0, .int .i64 0, .int .i64 0, .int .i64 0, .int .i64 0, .slice none 0 0, .slice none 0 0] 41)).alloc (.cells #[.int .i64 0, .int .u8 0, .int .i64 0, .int .i64 0, .int .i64 0, .int .i64 0, .string ⟨#[]⟩, .slice none 0 0, .int .i64 0, .int .i64 0, .int .i64 0, .int .i64 0, .int .i64 0, .int .i64 0, .slice none 0 0, .slice none 0 0] 41) := ⟨_, rfl⟩
  have hB1 : Below w.heap.size w w1 := by rw [hw1]; exact below2 _ _ _
  have HG1 : Hid (GR w w1 g q r #[.int .i64 zx, .int .u8 5, .int .i64 se, .int .i64 tu, .int .i64 xi, .int .i64 ti, .string ⟨#[]⟩, .slice none 0 0, .int .i64 0, .int .i64 0, .int .i64 0, .int .i64 0, .int .i64 0, .int .i64 0, .slice none 0 0, .slice none 0 0]) := by
    refine ⟨RdAt.keep h (Chg.of_below hB1) (fun e => e) (fun _ _ e => e), ?_, ?_, (Chg.of_below hB1).weak fun _ _ e => e.elim, hgl, hq⟩
    · rw [hw1, Below.heap_alloc _ _ _ (by simp)]
      exact heap_alloc_new w _
    · rw [hw1]
      have := heap_alloc_new (w.alloc (.cells #[.int .i64 zx, .int .u8 5, .int .i64 se, .int .i64 tu, .int .i64 xi, .int .i64 ti, .string ⟨#[]⟩, .slice none 0 0, .int .i64 0, .int .i64 0, .int .i64 0, .int .i64 0, .int .i64 0, .int .i64 0, .slice none 0 0, .slice none 0 0] 41)) (.cells #[.int .i64 0, .int .u8 0, .int .i64 0, .int .i64 0, .int .i64 0, .int .i64 0, .string ⟨#[]⟩, .slice none 0 0, .int .i64 0, .int .i64 0, .int .i64 0, .int .i64 0, .int .i64 0, .int .i64 0, .slice none 0 0, .slice none 0 0] 41)
      rwa [World.size_alloc] at this
  clear h hB1
  have ht := rfInt_any HG1.out.rd
  obtain ⟨x1, r1, hX1⟩ : ∃ a b, rdInt (r) = (a, b) := ⟨_, _, rfl⟩
  have HX1 : Hid (rdInt (r) = (x1, r1)) := hX1
  rw [hX1] at ht
  dsimp only at ht
  clear hX1
  rw [hw1] at ht
  go_enter Tryz.func35, Tryz.ntmps35
  go_wp2_with fail
  refine ht.mono ?_
  rintro e v2 ⟨rfl, hR, hC⟩
  rw [← hw1] at hC
  have HV : Hid (GR w v2 g q r1 #[.int .i64 zx, .int .u8 5, .int .i64 se, .int .i64 tu, .int .i64 xi, .int .i64 ti, .string ⟨#[]⟩, .slice none 0 0, .int .i64 0, .int .i64 0, .int .i64 0, .int .i64 0, .int .i64 0, .int .i64 0, .slice none 0 0, .slice none 0 0]) := HG1.out.read hR hC
  obtain ⟨w2, hw2⟩ : ∃ X, X = v2.setCell ⟨w.heap.size, 8, none⟩ (.int .i64 x1) := ⟨_, rfl⟩
  have HG2 : Hid (GR w w2 g q r1 #[.int .i64 zx, .int .u8 5, .int .i64 se, .int .i64 tu, .int .i64 xi, .int .i64 ti, .string ⟨#[]⟩, .slice none 0 0, .int .i64 x1, .int .i64 0, .int .i64 0, .int .i64 0, .int .i64 0, .int .i64 0, .slice none 0 0, .slice none 0 0]) := by rw [hw2]; exact HV.out.set 8 _
  obtain ⟨z0, z1, z2, z3, z4, z5, z6, z7, z8, z9, z10, z11, z12, z13, z14, z15⟩ := cells16 HV.out.d
  obtain ⟨f0, f1, f2, f3, f4, f5, f6, f7, f8, f9, f10, f11, f12, f13, f14, f15⟩ := frozen16 HV.out.d
  clear ht hR hC HG1 hw1 z0 z1 z2 z3 z4 z5 z6 z7 z9 z10 z11 z12 z13 z14 z15 f0 f1 f2 f3 f4 f5 f6 f7 f9 f10 f11 f12 f13 f14 f15
  have ht := rread2_any HG2.out.rd (fun k hk => by have := HG2.out.q k hk; have := heap_lt HG2.out.d; omega) 500 (by decide) (by decide)
  obtain ⟨PS, RP, hPS⟩ : ∃ a b, rfParts (rdCount r1 500).1.toNat (rdCount r1 500).2 = (a, b) := ⟨_, _, rfl⟩
  rw [hPS] at ht
  have HPS : Hid _ := hPS
  clear hPS
  dsimp only at ht
  rw [hw2] at ht
  go_wp2_with fail
  refine ht.mono ?_
  rintro e v9 ⟨A3, C3, rfl, hP⟩
  rw [← hw2] at hP
  have HV : Hid (GR w v9 g q RP #[.int .i64 zx, .int .u8 5, .int .i64 se, .int .i64 tu, .int .i64 xi, .int .i64 ti, .string ⟨#[]⟩, .slice none 0 0, .int .i64 x1, .int .i64 0, .int .i64 0, .int .i64 0, .int .i64 0, .int .i64 0, .slice none 0 0, .slice none 0 0]) := HG2.out.read hP.rd hP.chg
  have hbase : w.heap.size + 1 < w2.heap.size := heap_lt HG2.out.res
  have HFAR : Hid (∀ (w'' : World) (S : Nat → Prop), Chg S v9 w'' → (∀ k, w.heap.size + 2 ≤ k → ¬ S k) → Prts w'' w''.heap.size (.slice A3 PS.length C3) PS) := fun w'' S hc hs => hP.far w'' S hc (fun k hk => hs k (by omega))
  obtain ⟨w3, hw3⟩ : ∃ X, X = v9.setCell ⟨w.heap.size, 15, none⟩ (.slice A3 PS.length C3) := ⟨_, rfl⟩
  have HG3 : Hid (GR w w3 g q RP #[.int .i64 zx, .int .u8 5, .int .i64 se, .int .i64 tu, .int .i64 xi, .int .i64 ti, .string ⟨#[]⟩, .slice none 0 0, .int .i64 x1, .int .i64 0, .int .i64 0, .int .i64 0, .int .i64 0, .int .i64 0, .slice none 0 0, .slice A3 PS.length C3]) := by rw [hw3]; exact HV.out.set 15 _
  have HC9 : Hid (Chg (fun k => k = w.heap.size) v9 w3) := by rw [hw3]; exact Chg.setCell v9 ⟨w.heap.size, 15, none⟩ _ rfl
  obtain ⟨-, -, -, -, -, -, -, -, -, -, -, -, -, -, -, z15⟩ := cells16 HV.out.d
  obtain ⟨-, -, -, -, -, -, -, -, -, -, -, -, -, -, -, f15⟩ := frozen16 HV.out.d
  clear ht hP HG2 hw2 HV hbase
  as_aux_lemma =>
  have hrg := range16 HG3.out.d
  have hth := there16 HG3.out.res
  have hon : (#[.int .i64 zx, .int .u8 5, .int .i64 se, .int .i64 tu, .int .i64 xi, .int .i64 ti, .string ⟨#[]⟩, .slice none 0 0, .int .i64 x1, .int .i64 0, .int .i64 0, .int .i64 0, .int .i64 0, .int .i64 0, .slice none 0 0, .slice A3 PS.length C3] : Array Value).all (·.oneCell') = true := all_oneCell_toArray (by intro v hv; simp only [List.mem_cons, List.not_mem_nil, or_false] at hv; rcases hv with rfl | rfl | rfl | rfl | rfl | rfl | rfl | rfl | rfl | rfl | rfl | rfl | rfl | rfl | rfl | rfl <;> rfl)
  obtain ⟨w8, hw8⟩ : ∃ X, X = w3.setCells (w.heap.size + 1) 0 [.int .i64 zx, .int .u8 5, .int .i64 se, .int .i64 tu, .int .i64 xi, .int .i64 ti, .string ⟨#[]⟩, .slice none 0 0, .int .i64 x1, .int .i64 0, .int .i64 0, .int .i64 0, .int .i64 0, .int .i64 0, .slice none 0 0, .slice A3 PS.length C3] := ⟨_, rfl⟩
  obtain ⟨h8, hcc⟩ := set16L HG3.out.res (.int .i64 zx) (.int .u8 5) (.int .i64 se) (.int .i64 tu) (.int .i64 xi) (.int .i64 ti) (.string ⟨#[]⟩) (.slice none 0 0) (.int .i64 x1) (.int .i64 0) (.int .i64 0) (.int .i64 0) (.int .i64 0) (.int .i64 0) (.slice none 0 0) (.slice A3 PS.length C3)
  rw [← hw8] at h8 hcc
  have HR8 : Hid _ := sixteenR HG3.out hcc
  have HCC : Hid _ := hcc
  have HH8 : Hid _ := h8
  rw [hw3] at hrg hth
  clear h8 hcc
  go_wp2_with (first | (refine wpList_load_mid rfl 41 _ rfl w.heap.size 0 rfl [.int .i64 zx, .int .u8 5, .int .i64 se, .int .i64 tu, .int .i64 xi, .int .i64 ti, .string ⟨#[]⟩, .slice none 0 0, .int .i64 x1, .int .i64 0, .int .i64 0, .int .i64 0, .int .i64 0, .int .i64 0, .slice none 0 0, .slice A3 PS.length C3] _ hrg Tryz.underlying41 rfl infoDs ?_) | (refine wpList_store_mid rfl 41 _ _ rfl (w.heap.size + 1) 0 #[.int .i64 zx, .int .u8 5, .int .i64 se, .int .i64 tu, .int .i64 xi, .int .i64 ti, .string ⟨#[]⟩, .slice none 0 0, .int .i64 x1, .int .i64 0, .int .i64 0, .int .i64 0, .int .i64 0, .int .i64 0, .slice none 0 0, .slice A3 PS.length C3] rfl rfl hth infoDs hon ?_))
  rw [← hw3, ← hw8]
  obtain ⟨x0_, x1_, x2_, x3_, x4_, x5_, x6_, x7_, x8_, x9_, x10_, x11_, x12_, x13_, x14_, x15_⟩ := cells16 HH8.out
  refine bodyPost_ret (v := .agg #[.int .i64 zx, .int .u8 5, .int .i64 se, .int .i64 tu, .int .i64 xi, .int .i64 ti, .string ⟨#[]⟩, .slice none 0 0, .int .i64 x1, .int .i64 0, .int .i64 0, .int .i64 0, .int .i64 0, .int .i64 0, .slice none 0 0, .slice A3 PS.length C3]) (by simp [results, Tryz.results35, go_sem, x0_, x1_, x2_, x3_, x4_, x5_, x6_, x7_, x8_, x9_, x10_, x11_, x12_, x13_, x14_, x15_]) rfl ?_
  unfold GotGD
  have hq1 : (rfParts (rdCount (rdInt r).2 500).1.toNat (rdCount (rdInt r).2 500).2) = (PS, RP) := by rw [HX1.out]; exact HPS.out
  rw [hq1]
  simp only [rdBody, fl0, hd5, Int.reduceEq, if_true, if_false, HX1.out]
  exact ⟨none, 0, none, 0, A3, C3, rfl, HR8.out.1, HR8.out.2, .inl ⟨rfl, rfl⟩, (fun k hk => absurd hk (bk_zero _ _ _)), .inl ⟨rfl, rfl⟩, (fun k hk => absurd hk (bk_zero _ _ _)), fun w'' S hc hs => HFAR.out w'' _ (chg_three HC9.out HCC.out hc) (fun k hk e => by
    rcases e with e | e | e
    · omega
    · omega
    · exact hs k (by omega) e)⟩
set_option maxRecDepth 100000 in
set_option maxHeartbeats 8000000 in
theorem rreadD8 {w : World} {g : Nat} {q : Option Nat} {r : Rd} (h : Rdf w g q r) (hq : ∀ k, q = some k → k < w.heap.size) (zx se tu xi ti : Int) :
    Calls Tryz.prog 35 #[.pointer (some ⟨g, 0, none⟩), .agg #[.int .i64 zx, .int .u8 8, .int .i64 se, .int .i64 tu, .int .i64 xi, .int .i64 ti, .string ⟨#[]⟩, .slice none 0 0, .int .i64 0, .int .i64 0, .int .i64 0, .int .i64 0, .int .i64 0, .int .i64 0, .slice none 0 0, .slice none 0 0], .bool true] w fun e w' => GotGD w w' g q e (hd5 (rdBody 8 r).1 zx se tu xi ti) (rfParts (rdCount r 16).1.toNat (rdCount r 16).2).1 (rfParts (rdCount r 16).1.toNat (rdCount r 16).2).2 := by
  have hgl : g < w.heap.size := RdAt.lt h
  obtain ⟨w1, hw1⟩ : ∃ X, X = (w.alloc (.cells #[.int .i64 zx, .int .u8 8, .int .i64 se, .int .i64 tu, .int .i64 xi, .int .i64 ti, .string ⟨#[]⟩, .slice none 0 0, .int .i64 0, .int .i64 0, .int .i64 0, .int .i64 0, .int .i64 0, .int .i64 0, .slice none 0 0, .slice none 0 0] 41)).alloc (.cells #[.int .i64 0, .int .u8 0, .int .i64 0, .int .i64 0, .int .i64 0, .int .i64 0, .string ⟨#[]⟩, .slice none 0 0, .int .i64 0, .int .i64 0, .int .i64 0, .int .i64 0, .int .i64 0, .int .i64 0, .slice none 0 0, .slice none 0 0] 41) := ⟨_, rfl⟩
  have hB1 : Below w.heap.size w w1 := by rw [hw1]; exact below2 _ _ _
  have HG1 : Hid (GR w w1 g q r #[.int .i64 zx, .int .u8 8, .int .i64 se, .int .i64 tu, .int .i64 xi, .int .i64 ti, .string ⟨#[]⟩, .slice none 0 0, .int .i64 0, .int .i64 0, .int .i64 0, .int .i64 0, .int .i64 0, .int .i64 0, .slice none 0 0, .slice none 0 0]) := by
    refine ⟨RdAt.keep h (Chg.of_below hB1) (fun e => e) (fun _ _ e => e), ?_, ?_, (Chg.of_below hB1).weak fun _ _ e => e.elim, hgl, hq⟩
    · rw [hw1, Below.heap_alloc _ _ _ (by simp)]
      exact heap_alloc_new w _
    · rw [hw1]
      have := heap_alloc_new (w.alloc (.cells #[.int .i64 zx, .int .u8 8, .int .i64 se, .int .i64 tu, .int .i64 xi, .int .i64 ti, .string ⟨#[]⟩, .slice none 0 0, .int .i64 0, .int .i64 0, .int .i64 0, .int .i64 0, .int .i64 0, .int .i64 0, .slice none 0 0, .slice none 0 0] 41)) (.cells #[.int .i64 0, .int .u8 0, .int .i64 0, .int .i64 0, .int .i64 0, .int .i64 0, .string ⟨#[]⟩, .slice none 0 0, .int .i64 0, .int .i64 0, .int .i64 0, .int .i64 0, .int .i64 0, .int .i64 0, .slice none 0 0, .slice none 0 0] 41)
      rwa [World.size_alloc] at this
  clear h hB1
  have ht := rread2_any HG1.out.rd (fun k hk => by have := HG1.out.q k hk; have := heap_lt HG1.out.d; omega) 16 (by decide) (by decide)
  obtain ⟨PS, RP, hPS⟩ : ∃ a b, rfParts (rdCount r 16).1.toNat (rdCount r 16).2 = (a, b) := ⟨_, _, rfl⟩
  rw [hPS] at ht
  have HPS : Hid _ := hPS
  clear hPS
  dsimp only at ht
  rw [hw1] at ht
  go_enter Tryz.func35, Tryz.ntmps35
  go_wp2_with fail
  refine ht.mono ?_
  rintro e v9 ⟨A3, C3, rfl, hP⟩
  rw [← hw1] at hP
  have HV : Hid (GR w v9 g q RP #[.int .i64 zx, .int .u8 8, .int .i64 se, .int .i64 tu, .int .i64 xi, .int .i64 ti, .string ⟨#[]⟩, .slice none 0 0, .int .i64 0, .int .i64 0, .int .i64 0, .int .i64 0, .int .i64 0, .int .i64 0, .slice none 0 0, .slice none 0 0]) := HG1.out.read hP.rd hP.chg
  have hbase : w.heap.size + 1 < w1.heap.size := heap_lt HG1.out.res
  have HFAR : Hid (∀ (w'' : World) (S : Nat → Prop), Chg S v9 w'' → (∀ k, w.heap.size + 2 ≤ k → ¬ S k) → Prts w'' w''.heap.size (.slice A3 PS.length C3) PS) := fun w'' S hc hs => hP.far w'' S hc (fun k hk => hs k (by omega))
  obtain ⟨w2, hw2⟩ : ∃ X, X = v9.setCell ⟨w.heap.size, 15, none⟩ (.slice A3 PS.length C3) := ⟨_, rfl⟩
  have HG2 : Hid (GR w w2 g q RP #[.int .i64 zx, .int .u8 8, .int .i64 se, .int .i64 tu, .int .i64 xi, .int .i64 ti, .string ⟨#[]⟩, .slice none 0 0, .int .i64 0, .int .i64 0, .int .i64 0, .int .i64 0, .int .i64 0, .int .i64 0, .slice none 0 0, .slice A3 PS.length C3]) := by rw [hw2]; exact HV.out.set 15 _
  have HC9 : Hid (Chg (fun k => k = w.heap.size) v9 w2) := by rw [hw2]; exact Chg.setCell v9 ⟨w.heap.size, 15, none⟩ _ rfl
  obtain ⟨-, -, -, -, -, -, -, -, -, -, -, -, -, -, -, z15⟩ := cells16 HV.out.d
  obtain ⟨-, -, -, -, -, -, -, -, -, -, -, -, -, -, -, f15⟩ := frozen16 HV.out.d
  clear ht hP HG1 hw1 HV hbase
  as_aux_lemma =>
  have hrg := range16 HG2.out.d
  have hth := there16 HG2.out.res
  have hon : (#[.int .i64 zx, .int .u8 8, .int .i64 se, .int .i64 tu, .int .i64 xi, .int .i64 ti, .string ⟨#[]⟩, .slice none 0 0, .int .i64 0, .int .i64 0, .int .i64 0, .int .i64 0, .int .i64 0, .int .i64 0, .slice none 0 0, .slice A3 PS.length C3] : Array Value).all (·.oneCell') = true := all_oneCell_toArray (by intro v hv; simp only [List.mem_cons, List.not_mem_nil, or_false] at hv; rcases hv with rfl | rfl | rfl | rfl | rfl | rfl | rfl | rfl | rfl | rfl | rfl | rfl | rfl | rfl | rfl | rfl <;> rfl)
  obtain ⟨w8, hw8⟩ : ∃ X, X = w2.setCells (w.heap.size + 1) 0 [.int .i64 zx, .int .u8 8, .int .i64 se, .int .i64 tu, .int .i64 xi, .int .i64 ti, .string ⟨#[]⟩, .slice none 0 0, .int .i64 0, .int .i64 0, .int .i64 0, .int .i64 0, .int .i64 0, .int .i64 0, .slice none 0 0, .slice A3 PS.length C3] := ⟨_, rfl⟩
  obtain ⟨h8, hcc⟩ := set16L HG2.out.res (.int .i64 zx) (.int .u8 8) (.int .i64 se) (.int .i64 tu) (.int .i64 xi) (.int .i64 ti) (.string ⟨#[]⟩) (.slice none 0 0) (.int .i64 0) (.int .i64 0) (.int .i64 0) (.int .i64 0) (.int .i64 0) (.int .i64 0) (.slice none 0 0) (.slice A3 PS.length C3)
  rw [← hw8] at h8 hcc
  have HR8 : Hid _ := sixteenR HG2.out hcc
  have HCC : Hid _ := hcc
  have HH8 : Hid _ := h8
  rw [hw2] at hrg hth
  clear h8 hcc
  go_wp2_with (first | (refine wpList_load_mid rfl 41 _ rfl w.heap.size 0 rfl [.int .i64 zx, .int .u8 8, .int .i64 se, .int .i64 tu, .int .i64 xi, .int .i64 ti, .string ⟨#[]⟩, .slice none 0 0, .int .i64 0, .int .i64 0, .int .i64 0, .int .i64 0, .int .i64 0, .int .i64 0, .slice none 0 0, .slice A3 PS.length C3] _ hrg Tryz.underlying41 rfl infoDs ?_) | (refine wpList_store_mid rfl 41 _ _ rfl (w.heap.size + 1) 0 #[.int .i64 zx, .int .u8 8, .int .i64 se, .int .i64 tu, .int .i64 xi, .int .i64 ti, .string ⟨#[]⟩, .slice none 0 0, .int .i64 0, .int .i64 0, .int .i64 0, .int .i64 0, .int .i64 0, .int .i64 0, .slice none 0 0, .slice A3 PS.length C3] rfl rfl hth infoDs hon ?_))
  rw [← hw2, ← hw8]
  obtain ⟨x0_, x1_, x2_, x3_, x4_, x5_, x6_, x7_, x8_, x9_, x10_, x11_, x12_, x13_, x14_, x15_⟩ := cells16 HH8.out
  refine bodyPost_ret (v := .agg #[.int .i64 zx, .int .u8 8, .int .i64 se, .int .i64 tu, .int .i64 xi, .int .i64 ti, .string ⟨#[]⟩, .slice none 0 0, .int .i64 0, .int .i64 0, .int .i64 0, .int .i64 0, .int .i64 0, .int .i64 0, .slice none 0 0, .slice A3 PS.length C3]) (by simp [results, Tryz.results35, go_sem, x0_, x1_, x2_, x3_, x4_, x5_, x6_, x7_, x8_, x9_, x10_, x11_, x12_, x13_, x14_, x15_]) rfl ?_
  unfold GotGD
  have hq1 : (rfParts (rdCount r 16).1.toNat (rdCount r 16).2) = (PS, RP) := by exact HPS.out
  rw [hq1]
  simp only [rdBody, fl0, hd5, Int.reduceEq, if_true, if_false]
  exact ⟨none, 0, none, 0, A3, C3, rfl, HR8.out.1, HR8.out.2, .inl ⟨rfl, rfl⟩, (fun k hk => absurd hk (bk_zero _ _ _)), .inl ⟨rfl, rfl⟩, (fun k hk => absurd hk (bk_zero _ _ _)), fun w'' S hc hs => HFAR.out w'' _ (chg_three HC9.out HCC.out hc) (fun k hk e => by
    rcases e with e | e | e
    · omega
    · omega
    · exact hs k (by omega) e)⟩
theorem rread_any {w : World} {g : Nat} {q : Option Nat} {r : Rd} (h : Rdf w g q r) (hq : ∀ k, q = some k → k < w.heap.size) (k : Int) (zx se tu xi ti : Int) :
    Calls Tryz.prog 35 #[.pointer (some ⟨g, 0, none⟩), .agg #[.int .i64 zx, .int .u8 k, .int .i64 se, .int .i64 tu, .int .i64 xi, .int .i64 ti, .string ⟨#[]⟩, .slice none 0 0, .int .i64 0, .int .i64 0, .int .i64 0, .int .i64 0, .int .i64 0, .int .i64 0, .slice none 0 0, .slice none 0 0], .bool true] w fun e w' => GotGD w w' g q e (hd5 (rdBody k r).1 zx se tu xi ti) (rfTail k (rdBody k r).2).1 (rfTail k (rdBody k r).2).2 := by
  by_cases e5 : k = 5
  · subst e5
    have := rreadD5 h hq zx se tu xi ti
    exact this
  by_cases e8 : k = 8
  · subst e8
    have := rreadD8 h hq zx se tu xi ti
    exact this
  have hp : hasParts k = false := by unfold hasParts; simp [e5, e8]
  refine (rreadL_any h hq k zx se tu xi ti true (.inr hp)).mono ?_
  rintro e w' ⟨A1, c1, A2, c2, rfl, h1, h2, h3, h4, h5, h6⟩
  unfold rfTail
  rw [hp]
  exact ⟨A1, c1, A2, c2, none, 0, rfl, h1, h2, h3, h4, h5, h6, fun w'' S _ _ => .inl ⟨rfl, rfl⟩⟩
end Go.Proofs.YtaeoafedfgbcaaaGreatDoor.DD
