/- No beginning of a deed's bytes, and nothing behind them, is a deed's. -/
import Derived.Test.YtbcfeeahlhoggaaDoorDd2
namespace Go.Proofs.YtbcfeeahlhoggaaDoor

theorem rdAll_more {f : Fl} {ps : List Fl} (hf : DedFit f ps) (hr : rightD f ps = true) (t : List UInt8) : rdAll (deedB f ps ++ t) = (f, ps, some t) := by
  have hfit := rightD_fits hr
  unfold rdAll deedB
  simp only [rdByte, List.cons_append, List.append_assoc]
  rw [u8_back hf.top.kind]
  unfold rdHead
  rw [rdInt_num _ hf.top.zxid.1 hf.top.zxid.2]
  dsimp only
  rw [rdInt_num _ hf.top.session.1 hf.top.session.2]
  dsimp only
  rw [rdInt_num _ hf.top.turn.1 hf.top.turn.2]
  dsimp only
  rw [rdInt_num _ hf.top.xid.1 hf.top.xid.2]
  dsimp only
  rw [rdInt_num _ hf.top.time.1 hf.top.time.2]
  dsimp only
  rw [rdBody_put hf.top hfit]
  dsimp only
  have ht : rdTail f.kind (some (tailB f ps ++ t)) = (ps, some t) := by
    unfold rdTail tailB
    cases hp : hasParts f.kind with
    | true =>
      have hps := fits_parts hfit hp
      rw [if_pos rfl, if_pos rfl, List.append_assoc, rdCount_num _ 500 (by omega) (by omega) (by omega)]
      dsimp only
      rw [Int.toNat_natCast]
      exact rdParts_put ps (fun p hp => ⟨hf.all p hp, (hps.2 p hp).2.1, (hps.2 p hp).2.2⟩) t
    | false =>
      have h0 := np_zero (com_parts (fits_com hfit).1).1 hp
      have : ps = [] := List.length_eq_zero_iff.1 (by rw [← hf.len]; exact h0)
      rw [if_neg (by simp), if_neg (by simp), this, List.nil_append]
  rw [ht]
  dsimp only
  refine Prod.ext ?_ rfl
  show withHead _ (bodyOf f) ps.length = f
  unfold withHead bodyOf
  have := hf.len
  cases f
  simp_all
theorem deedOf_more {f : Fl} {ps : List Fl} (hf : DedFit f ps) (hr : rightD f ps = true) {t : List UInt8} (ht : t ≠ []) : deedOf (deedB f ps ++ t) = none := by
  unfold deedOf
  rw [rdAll_more hf hr, if_neg (fun h => ht (by simpa using h.1))]
theorem deedOf_less {f : Fl} {ps : List Fl} (hf : DedFit f ps) (hr : rightD f ps = true) {k : Nat} (hk : k < (deedB f ps).length) : deedOf ((deedB f ps).take k) = none := by
  cases h : deedOf ((deedB f ps).take k) with
  | none => rfl
  | some p =>
    obtain ⟨g, qs⟩ := p
    obtain ⟨h1, h2, h3⟩ := (deedOf_iff _ _ _).1 h
    have e1 := rdAll_more h3 h2 ((deedB f ps).drop k)
    rw [← h1, List.take_append_drop, rdAll_put hf hr] at e1
    have e2 : (deedB f ps).drop k = [] := by
      have := congrArg (fun x => x.2.2) e1
      simpa using this.symm
    have e3 := congrArg List.length e2
    simp at e3
    omega
end Go.Proofs.YtbcfeeahlhoggaaDoor
