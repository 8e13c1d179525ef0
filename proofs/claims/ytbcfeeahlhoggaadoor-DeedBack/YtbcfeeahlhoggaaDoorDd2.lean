/- Plain mathematics of deeds: bytes and what is read of them go to and fro; no program in this text. -/
import Derived.Test.YtbcfeeahlhoggaaDoorDd
namespace Go.Proofs.YtbcfeeahlhoggaaDoor

theorem node_kind {k : Int} (h : isNode k = true) : k = 1 ∨ k = 2 ∨ k = 3 := by
  unfold isNode at h
  simp only [Bool.or_eq_true, decide_eq_true_eq] at h
  omega
theorem u8_back {k : Int} (h : 0 ≤ k ∧ k < 256) : ((u8 k).toNat : Int) = k := by
  unfold u8
  rw [show (k % 256).toNat = k.toNat by omega, ofNat_small (by omega)]
  omega
theorem np_zero {f : Fl} (hb : bareB f = true) (h : hasParts f.kind = false) : f.np = 0 := by
  refine (bare_fields hb f.kind rfl).2.2.2.2.2.2.2.2 ?_
  unfold hasParts at h
  simp only [Bool.or_eq_false_iff, decide_eq_false_iff_not] at h
  unfold allow
  simp only [h.1, h.2, if_false]
  repeat' split
  all_goals rfl
theorem node_parts {k : Int} (h : isNode k = true) : hasParts k = false := by
  rcases node_kind h with rfl | rfl | rfl <;> rfl
theorem bodyOf_leaf {p : Fl} (hz : headZ p = true) (hl : leafB p = true) : bodyOf p = p := by
  obtain ⟨h1, h2, _⟩ := leaf_parts hl
  have hn := np_zero (com_parts h2).1 (node_parts h1)
  unfold headZ at hz
  simp only [Bool.and_eq_true, decide_eq_true_eq] at hz
  unfold bodyOf
  obtain ⟨⟨⟨⟨z1, z2⟩, z3⟩, z4⟩, z5⟩ := hz
  cases p
  simp_all
theorem rdPart_put {p : Fl} (hf : FlFit p) (hz : headZ p = true) (hl : leafB p = true) (t : List UInt8) : rdPart (some (prtB p ++ t)) = (p, some t) := by
  unfold rdPart prtB
  rw [List.cons_append]
  simp only [rdByte]
  rw [u8_back hf.kind]
  have hfit : fitsB p [] = true := by unfold fitsB; rw [if_pos (leaf_parts hl).1]; exact hl
  rw [rdBody_put hf hfit, bodyOf_leaf hz hl]
theorem rdParts_put : ∀ (ps : List Fl), (∀ p ∈ ps, FlFit p ∧ headZ p = true ∧ leafB p = true) → ∀ t, rdParts ps.length (some (prtsB ps ++ t)) = (ps, some t)
  | [], _, t => by simp [rdParts, prtsB]
  | p :: ps, h, t => by
    have hp := h p List.mem_cons_self
    rw [List.length_cons, rdParts]
    have e : prtsB (p :: ps) ++ t = prtB p ++ (prtsB ps ++ t) := by simp [prtsB]
    rw [e, rdPart_put hp.1 hp.2.1 hp.2.2]
    dsimp only
    rw [rdParts_put ps (fun q hq => h q (List.mem_cons_of_mem _ hq))]
theorem rdInt_I64 (r : Rd) : I64 (rdInt r).1 := by
  cases h : (rdInt r).2 with
  | some t => exact (rdInt_inv' h).2
  | none =>
    cases r with
    | none => exact ⟨by decide, by decide⟩
    | some l =>
      simp only [rdInt] at h ⊢
      split at h
      · cases h
      · exact ⟨by decide, by decide⟩
theorem cfgOr_I64 (b : List UInt8) : I64 (cfgOr (cfgOf b)).1 := by
  cases h : cfgOf b with
  | none => exact ⟨by decide, by decide⟩
  | some x =>
    have h1 := ((cfgOf_iff b x.1 x.2).1 h).2
    obtain ⟨_, h2, h3, _⟩ := chk_ok h1
    show I64 x.1
    exact ⟨by omega, by omega⟩
theorem I64_0 : I64 0 := ⟨by decide, by decide⟩
theorem rdBody_fit (k : Int) (r : Rd) (hk : 0 ≤ k ∧ k < 256) : FlFit (rdBody k r).1 := by
  unfold rdBody
  by_cases e1 : k = 1
  · rw [if_pos e1]; exact ⟨I64_0, hk, I64_0, I64_0, I64_0, I64_0, rdInt_I64 _, I64_0, rdInt_I64 _, I64_0, I64_0, I64_0⟩
  · rw [if_neg e1]
    by_cases e2 : k = 2
    · rw [if_pos e2]; exact ⟨I64_0, hk, I64_0, I64_0, I64_0, I64_0, I64_0, I64_0, rdInt_I64 _, I64_0, I64_0, I64_0⟩
    · rw [if_neg e2]
      by_cases e3 : k = 3
      · rw [if_pos e3]; exact ⟨I64_0, hk, I64_0, I64_0, I64_0, I64_0, I64_0, rdInt_I64 _, I64_0, I64_0, I64_0, I64_0⟩
      · rw [if_neg e3]
        by_cases e4 : k = 4
        · rw [if_pos e4]; exact ⟨I64_0, hk, I64_0, I64_0, I64_0, I64_0, I64_0, I64_0, I64_0, rdInt_I64 _, I64_0, I64_0⟩
        · rw [if_neg e4]
          by_cases e5 : k = 5
          · rw [if_pos e5]; exact ⟨I64_0, hk, I64_0, I64_0, I64_0, I64_0, rdInt_I64 _, I64_0, I64_0, I64_0, I64_0, I64_0⟩
          · rw [if_neg e5]
            by_cases e7 : k = 7
            · rw [if_pos e7]; exact ⟨I64_0, hk, I64_0, I64_0, I64_0, I64_0, I64_0, I64_0, I64_0, I64_0, I64_0, cfgOr_I64 _⟩
            · rw [if_neg e7]
              by_cases e9 : k = 9
              · rw [if_pos e9]; exact ⟨I64_0, hk, I64_0, I64_0, I64_0, I64_0, I64_0, I64_0, I64_0, I64_0, rdInt_I64 _, I64_0⟩
              · rw [if_neg e9]; exact ⟨I64_0, hk, I64_0, I64_0, I64_0, I64_0, I64_0, I64_0, I64_0, I64_0, I64_0, I64_0⟩
theorem byte_kind (x : UInt8) : 0 ≤ (x.toNat : Int) ∧ (x.toNat : Int) < 256 := by have := x.toNat_lt; omega
theorem rdParts_fit : ∀ n r, ∀ p ∈ (rdParts n r).1, FlFit p
  | 0, r, p, h => by simp [rdParts] at h
  | n + 1, r, p, h => by
    rw [rdParts] at h
    rcases List.mem_cons.1 h with rfl | h
    · exact rdBody_fit _ _ (byte_kind _)
    · exact rdParts_fit n _ p h
theorem withHead_fit (h : Hd) (f : Fl) (n : Nat) (h1 : I64 h.zxid) (h2 : I64 h.session) (h3 : I64 h.turn) (h4 : I64 h.xid) (h5 : I64 h.time) (hf : FlFit f) : FlFit (withHead h f n) :=
  ⟨h1, hf.kind, h2, h3, h4, h5, hf.owner, hf.version, hf.cversion, hf.timeout, hf.err, hf.cver⟩
theorem bodyB_head (h : Hd) (f : Fl) (n : Nat) : bodyB (withHead h f n) = bodyB f := rfl
structure DedFit (f : Fl) (ps : List Fl) : Prop where
  top : FlFit f
  all : ∀ p ∈ ps, FlFit p
  len : f.np = ps.length
theorem rdAll_fit (b : List UInt8) : DedFit (rdAll b).1 (rdAll b).2.1 := by
  refine ⟨withHead_fit _ _ _ (rdInt_I64 _) (rdInt_I64 _) (rdInt_I64 _) (rdInt_I64 _) (rdInt_I64 _) (rdBody_fit _ _ (byte_kind _)), fun p hp => ?_, rfl⟩
  have : p ∈ (rdTail ((rdByte (some b)).1.toNat : Int) (rdBody ((rdByte (some b)).1.toNat : Int) (rdHead (rdByte (some b)).2).2).2).1 := hp
  unfold rdTail at this
  split at this
  · exact rdParts_fit _ _ p this
  · simp at this
theorem rdTail_none (k : Int) : (rdTail k none).2 = none := by
  unfold rdTail
  split
  · rw [rdCount_none]; exact rdParts_none _
  · rfl
theorem rightD_fits {f : Fl} {ps : List Fl} (h : rightD f ps = true) : fitsB f ps = true := by
  unfold rightD at h
  simp only [Bool.and_eq_true] at h
  exact h.2
theorem rdAll_inv {b : List UInt8} (h : (rdAll b).2.2 = some []) (hr : rightD (rdAll b).1 (rdAll b).2.1 = true) : b = deedB (rdAll b).1 (rdAll b).2.1 := by
  have hfit := rightD_fits hr
  unfold rdAll at h hfit ⊢
  dsimp only at h hfit ⊢
  generalize e1 : rdByte (some b) = x1 at h hfit ⊢
  obtain ⟨kb, r1⟩ := x1
  generalize e2 : rdHead r1 = x2 at h hfit ⊢
  obtain ⟨hd, r2⟩ := x2
  dsimp only at h hfit ⊢
  generalize e3 : rdBody (kb.toNat : Int) r2 = x3 at h hfit ⊢
  obtain ⟨f, r3⟩ := x3
  dsimp only at h hfit ⊢
  generalize e4 : rdTail (kb.toNat : Int) r3 = x4 at h hfit ⊢
  obtain ⟨ps, r4⟩ := x4
  dsimp only at h hfit ⊢
  subst h
  have hkind : f.kind = (kb.toNat : Int) := by have := rdBody_kind (kb.toNat : Int) r2; rwa [e3] at this
  have hkw : (withHead hd f ps.length).kind = (kb.toNat : Int) := hkind
  have t4 : r3 = some (tailB (withHead hd f ps.length) ps) := by
    unfold tailB
    rw [hkw]
    unfold rdTail at e4
    split at e4
    · next hp =>
      rw [if_pos hp]
      have hps := fits_parts hfit (by rw [hkw]; exact hp)
      generalize e5 : rdCount r3 500 = x5 at e4
      obtain ⟨n, r5⟩ := x5
      dsimp only at e4
      have q1 : (rdParts n.toNat r5).1 = ps := by rw [e4]
      have q2 : (rdParts n.toNat r5).2 = some [] := by rw [e4]
      have q3 := rdParts_inv n.toNat q2 (fun p hp => (hps.2 p (by rw [← q1]; exact hp)).1)
      rw [q1, List.append_nil] at q3
      subst q3
      obtain ⟨c1, c2, c3⟩ := rdCount_inv e5
      have q4 : (ps.length : Int) = n := by rw [← q1, rdParts_len]; omega
      rw [c1, q4]
    · next hp =>
      rw [if_neg hp]
      cases e4; rfl
  subst t4
  have t3 : r2 = some (bodyB f ++ tailB (withHead hd f ps.length) ps) := by
    have := rdBody_inv (k := (kb.toNat : Int)) (r := r2) (t := tailB (withHead hd f ps.length) ps) (by rw [e3]) (fun e => by
      rw [e3]
      exact (fits_cfg hfit (by rw [hkw]; exact e)).2)
    rwa [e3] at this
  subst t3
  have t2 := rdHead_inv (show (rdHead r1).2 = some (bodyB f ++ tailB (withHead hd f ps.length) ps) by rw [e2])
  rw [e2] at t2
  dsimp only at t2
  subst t2
  have t1 := rdByte_inv2 e1
  unfold deedB
  rw [hkw, u8_toNat, bodyB_head]
  cases t1
  rfl
theorem rdAll_put {f : Fl} {ps : List Fl} (hf : DedFit f ps) (hr : rightD f ps = true) : rdAll (deedB f ps) = (f, ps, some []) := by
  have hfit := rightD_fits hr
  unfold rdAll deedB
  simp only [rdByte]
  rw [u8_back hf.top.kind]
  unfold rdHead
  rw [rdInt_num _ hf.top.zxid.1 hf.top.zxid.2]
  dsimp only
  rw [rdInt_num _ hf.top.session.1 hf.top.session.2]
  dsimp only
  rw [rdInt_num _ hf.top.turn.1 hf.top.turn.2]
  dsimp only
  rw [rdInt_num _ hf.top.xid.1 hf.top.xid.2]
  dsimp only
  rw [rdInt_num _ hf.top.time.1 hf.top.time.2]
  dsimp only
  rw [rdBody_put hf.top hfit]
  dsimp only
  have ht : rdTail f.kind (some (tailB f ps)) = (ps, some []) := by
    unfold rdTail tailB
    cases hp : hasParts f.kind with
    | true =>
      have hps := fits_parts hfit hp
      rw [if_pos rfl, if_pos rfl, rdCount_num _ 500 (by omega) (by omega) (by omega)]
      dsimp only
      rw [Int.toNat_natCast]
      have := rdParts_put ps (fun p hp => ⟨hf.all p hp, (hps.2 p hp).2.1, (hps.2 p hp).2.2⟩) []
      rwa [List.append_nil] at this
    | false =>
      have h0 := np_zero (com_parts (fits_com hfit).1).1 hp
      have : ps = [] := List.length_eq_zero_iff.1 (by rw [← hf.len]; exact h0)
      rw [if_neg (by simp), if_neg (by simp), this]
  rw [ht]
  dsimp only
  refine Prod.ext ?_ rfl
  show withHead _ (bodyOf f) ps.length = f
  unfold withHead bodyOf
  have := hf.len
  cases f
  simp_all
theorem deedOf_put {f : Fl} {ps : List Fl} (hf : DedFit f ps) (hr : rightD f ps = true) : deedOf (deedB f ps) = some (f, ps) := by
  unfold deedOf
  rw [rdAll_put hf hr, if_pos ⟨rfl, hr⟩]
theorem deedOf_iff (b : List UInt8) (f : Fl) (ps : List Fl) : deedOf b = some (f, ps) ↔ b = deedB f ps ∧ rightD f ps = true ∧ DedFit f ps := by
  constructor
  · intro h
    unfold deedOf at h
    split at h
    · next hh =>
      cases h
      exact ⟨rdAll_inv hh.1 hh.2, hh.2, rdAll_fit b⟩
    · cases h
  · rintro ⟨rfl, h1, h2⟩
    exact deedOf_put h2 h1
end Go.Proofs.YtbcfeeahlhoggaaDoor
