/- Plain mathematics of a frame with one byte turned; no program in this text. Deeds in a row of bytes, as mathematics: what is told of any bytes. -/
import Derived.Test.YtaeoafedfgbcaaaGreatDoorBase
import Derived.Test.YtaeoafedfgbcaaaGreatDoorDdS
namespace Go.Proofs.YtaeoafedfgbcaaaGreatDoor

theorem numOf_four_inj {a b : List UInt8} (ha : a.length = 4) (hb : b.length = 4) (h : numOf a = numOf b) : a = b := by
  match a, ha with
  | [a0, a1, a2, a3], _ =>
    match b, hb with
    | [b0, b1, b2, b3], _ =>
      simp only [numOf, List.getD_cons_zero, List.getD_cons_succ] at h
      have h0 := a0.toNat_lt
      have h1 := a1.toNat_lt
      have h2 := a2.toNat_lt
      have h3 := a3.toNat_lt
      have g0 := b0.toNat_lt
      have g1 := b1.toNat_lt
      have g2 := b2.toNat_lt
      have g3 := b3.toNat_lt
      rw [UInt8.toNat.inj (show a0.toNat = b0.toNat by omega), UInt8.toNat.inj (show a1.toNat = b1.toNat by omega), UInt8.toNat.inj (show a2.toNat = b2.toNat by omega), UInt8.toNat.inj (show a3.toNat = b3.toNat by omega)]
theorem numOf_app {a : List UInt8} (ha : a.length = 4) (r : List UInt8) : numOf (a ++ r) = numOf a := by
  match a, ha with
  | [a0, a1, a2, a3], _ => simp [numOf]
theorem set_ne {l : List UInt8} {k : Nat} {v : UInt8} (h : k < l.length) (hv : v ≠ l[k]'h) : l.set k v ≠ l := by
  intro e
  have := congrArg (fun x => x[k]?) e
  simp [h] at this
  exact hv this
theorem sum_set {l : List UInt8} {k : Nat} {v : UInt8} (h : k < l.length) (hv : v ≠ l[k]'h) : sumOf (l.set k v) ≠ sumOf l := by
  have e1 : l.set k v = l.take k ++ [v] ++ l.drop (k + 1) := by rw [List.set_eq_take_append_cons_drop, if_pos h]; simp
  have e2 : l = l.take k ++ [l[k]'h] ++ l.drop (k + 1) := by
    rw [List.append_assoc, List.singleton_append, ← List.drop_eq_getElem_cons h, List.take_append_drop]
  rw [e1]
  have := sumOf_ne (l.take k) [v] [l[k]'h] (l.drop (k + 1)) rfl (by simp) (by simpa using hv)
  rwa [← e2] at this
/- A frame with one byte turned behind its length is none. -/
theorem unframe_turn (b : List UInt8) (hb : b.length ≤ 1048576) (k : Nat) (hk : k < (frameOf b).length) (h4 : 4 ≤ k) (v : UInt8) (hv : v ≠ (frameOf b)[k]'hk) : unframe ((frameOf b).set k v) = none := by
  cases hu : unframe ((frameOf b).set k v) with
  | none => rfl
  | some x =>
    exfalso
    obtain ⟨h1, h2, h3, h5, _⟩ := unframe_some hu
    have hf : frameOf b = four b.length ++ (four (sumOf b) ++ b) := by rw [frameOf, List.append_assoc]
    have hlen := frameOf_len b
    have hset : (frameOf b).set k v = four b.length ++ (four (sumOf b) ++ b).set (k - 4) v := by
      rw [hf, List.set_append_right _ _ (by rw [four_len]; exact h4), four_len]
    have hnum : numOf ((frameOf b).set k v) = b.length := by rw [hset]; exact numOf_four _ (by omega) _
    have hd4 : ((frameOf b).set k v).drop 4 = (four (sumOf b) ++ b).set (k - 4) v := by rw [hset]; exact List.drop_left' rfl
    have hgetk : (frameOf b)[k]? = (four (sumOf b) ++ b)[k - 4]? := by
      rw [hf, List.getElem?_append_right (by rw [four_len]; exact h4), four_len]
    have hgk : (frameOf b)[k]? = some ((frameOf b)[k]'hk) := List.getElem?_eq_getElem hk
    by_cases h8 : k < 8
    · have e1 : (four (sumOf b) ++ b).set (k - 4) v = (four (sumOf b)).set (k - 4) v ++ b := List.set_append_left _ _ (by rw [four_len]; omega)
      have hd8 : ((frameOf b).set k v).drop 8 = b := by
        have : ((frameOf b).set k v).drop 8 = (((frameOf b).set k v).drop 4).drop 4 := by rw [List.drop_drop]
        rw [this, hd4, e1]
        exact List.drop_left' (by simp [four_len])
      rw [hnum, hd8, List.take_length] at h3
      subst h3
      rw [hd4, e1, numOf_app (by simp [four_len])] at h5
      have h6 : numOf (four (sumOf x)) = sumOf x := by have := numOf_four (sumOf x) (sumOf_lt x) []; rwa [List.append_nil] at this
      have h7 := numOf_four_inj (a := (four (sumOf x)).set (k - 4) v) (b := four (sumOf x)) (by simp [four_len]) rfl (by rw [← h5, h6])
      have hlt : k - 4 < (four (sumOf x)).length := by rw [four_len]; omega
      refine set_ne hlt ?_ h7
      have : (four (sumOf x) ++ x)[k - 4]? = some ((four (sumOf x))[k - 4]'hlt) := by rw [List.getElem?_append_left hlt, List.getElem?_eq_getElem hlt]
      rw [hgk, this] at hgetk
      intro e
      exact hv (by rw [e]; exact (Option.some.inj hgetk).symm)
    · have e1 : (four (sumOf b) ++ b).set (k - 4) v = four (sumOf b) ++ b.set (k - 8) v := by
        rw [List.set_append_right _ _ (by rw [four_len]; omega), four_len, show k - 4 - 4 = k - 8 by omega]
      have hd8 : ((frameOf b).set k v).drop 8 = b.set (k - 8) v := by
        have : ((frameOf b).set k v).drop 8 = (((frameOf b).set k v).drop 4).drop 4 := by rw [List.drop_drop]
        rw [this, hd4, e1]
        exact List.drop_left' rfl
      rw [hnum, hd8, List.take_of_length_le (by simp)] at h3
      rw [hd4, e1, numOf_four _ (sumOf_lt b), h3] at h5
      have hlt : k - 8 < b.length := by omega
      refine sum_set hlt ?_ h5
      have : (four (sumOf b) ++ b)[k - 4]? = some (b[k - 8]'hlt) := by
        rw [List.getElem?_append_right (by rw [four_len]; omega), four_len, show k - 4 - 4 = k - 8 by omega, List.getElem?_eq_getElem hlt]
      rw [hgk, this] at hgetk
      intro e
      exact hv (by rw [e]; exact (Option.some.inj hgetk).symm)
/- Four bytes side by side, turned by a mask that is not 0. -/
theorem sum_four (p x y q : List UInt8) (hx : x.length = 4) (hy : y.length = 4) (hne : x ≠ y) : sumOf (p ++ x ++ q) ≠ sumOf (p ++ y ++ q) := sumOf_ne p x y q (by omega) (by omega) hne
end Go.Proofs.YtaeoafedfgbcaaaGreatDoor

namespace Go.Proofs.YtaeoafedfgbcaaaGreatDoor.DD
set_option linter.unusedVariables false
open Go.RowKit
set_option linter.unusedVariables false

theorem take4 {l : List UInt8} (h : 4 ≤ l.length) : four (numOf l) = l.take 4 := by
  have h1 : numOf (four (numOf l)) = numOf l := by
    have := numOf_four (numOf l) (numOf_lt l) []
    simpa using this
  have h2 : numOf (l.take 4) = numOf l := by
    have hl : (l.take 4).length = 4 := by rw [List.length_take]; omega
    have := numOf_app hl (l.drop 4)
    rw [List.take_append_drop] at this
    exact this.symm
  exact numOf_four_inj rfl (by rw [List.length_take]; omega) (h1.trans h2.symm)
theorem unframe_whole {l x : List UInt8} (h : unframe l = some x) : l = frameOf x ++ l.drop (8 + x.length) ∧ x.length ≤ 1048576 ∧ 8 + x.length ≤ l.length := by
  obtain ⟨h1, h2, h3, h4, h5⟩ := unframe_some h
  refine ⟨?_, h5, by omega⟩
  have e1 : four x.length = l.take 4 := by rw [h1]; exact take4 (by omega)
  have e2 : four (sumOf x) = (l.drop 4).take 4 := by rw [h4]; exact take4 (by rw [List.length_drop]; omega)
  have e3 : x = (l.drop 8).take x.length := by rw [h1]; exact h3
  have e4 : frameOf x = l.take (8 + x.length) := by
    unfold frameOf
    rw [e1, e2]
    have a1 : l.take 4 ++ (l.drop 4).take 4 = l.take 8 := by
      have := (List.take_add (l := l) (i := 4) (j := 4)).symm
      simpa using this
    rw [a1]
    have a2 := (List.take_add (l := l) (i := 8) (j := x.length)).symm
    rw [← e3] at a2
    exact a2
  rw [e4, List.take_append_drop]

abbrev It := Fl × List Fl
def itB (p : It) : List UInt8 := frameOf (deedB p.1 p.2)
def catI (l : List It) : List UInt8 := l.flatMap itB
def okIt (p : It) : Prop := rightD p.1 p.2 = true ∧ DedFit p.1 p.2
def risen : Int → List It → Prop
  | _, [] => True
  | z, p :: r => z < p.1.zxid ∧ risen p.1.zxid r
def lastZ : Int → List It → Int
  | z, [] => z
  | _, p :: r => lastZ p.1.zxid r
def scanN : Nat → List UInt8 → Int → List It
  | 0, _, _ => []
  | n + 1, l, z => match unframe l with
    | none => []
    | some x => match deedOf x with
      | none => []
      | some p => if p.1.zxid ≤ z then [] else p :: scanN n (l.drop (8 + x.length)) p.1.zxid
def scanF (l : List UInt8) (z : Int) : List It := scanN l.length l z

theorem unframe_nil : unframe [] = none := by decide
theorem scanN_more : ∀ (n : Nat) (l : List UInt8) (z : Int), l.length ≤ n → scanN (n + 1) l z = scanN n l z
  | 0, l, z, h => by
    have : l = [] := List.length_eq_zero_iff.1 (by omega)
    subst this
    simp [scanN, unframe_nil]
  | n + 1, l, z, h => by
    show scanN (n + 1 + 1) l z = scanN (n + 1) l z
    rw [scanN, scanN]
    cases hu : unframe l with
    | none => rfl
    | some x =>
      dsimp only
      cases hd : deedOf x with
      | none => rfl
      | some p =>
        dsimp only
        by_cases hz : p.1.zxid ≤ z
        · rw [if_pos hz, if_pos hz]
        · rw [if_neg hz, if_neg hz, scanN_more n _ _ (by rw [List.length_drop]; omega)]
theorem scanN_eq {n : Nat} {l : List UInt8} (h : l.length ≤ n) (z : Int) : scanN n l z = scanF l z := by
  induction n with
  | zero => have : l = [] := List.length_eq_zero_iff.1 (by omega); subst this; rfl
  | succ n ih =>
    by_cases e : l.length = n + 1
    · unfold scanF; rw [e]
    · rw [scanN_more n l z (by omega)]; exact ih (by omega)
theorem scanF_none {l : List UInt8} (h : unframe l = none) (z : Int) : scanF l z = [] := by
  unfold scanF
  cases l.length with
  | zero => rfl
  | succ n => rw [scanN, h]
theorem len_pos {l x : List UInt8} (h : unframe l = some x) : ∃ n, l.length = n + 1 := ⟨l.length - 1, by have := (unframe_whole h).2.2; omega⟩
theorem scanF_bad {l x : List UInt8} (h : unframe l = some x) (hd : deedOf x = none) (z : Int) : scanF l z = [] := by
  obtain ⟨n, e⟩ := len_pos h
  unfold scanF
  rw [e, scanN, h]
  dsimp only
  rw [hd]
theorem scanF_low {l x : List UInt8} (h : unframe l = some x) {p : It} (hd : deedOf x = some p) {z : Int} (hz : p.1.zxid ≤ z) : scanF l z = [] := by
  obtain ⟨n, e⟩ := len_pos h
  unfold scanF
  rw [e, scanN, h]
  dsimp only
  rw [hd]
  dsimp only
  rw [if_pos hz]
theorem scanF_step {l x : List UInt8} (h : unframe l = some x) {p : It} (hd : deedOf x = some p) {z : Int} (hz : ¬ p.1.zxid ≤ z) : scanF l z = p :: scanF (l.drop (8 + x.length)) p.1.zxid := by
  obtain ⟨n, e⟩ := len_pos h
  conv => lhs; unfold scanF
  rw [e, scanN, h]
  dsimp only
  rw [hd]
  dsimp only
  rw [if_neg hz, scanN_eq (by rw [List.length_drop]; omega)]
theorem itB_len (p : It) : (itB p).length = 8 + (deedB p.1 p.2).length := frameOf_len _
theorem okIt.len {p : It} (h : okIt p) : (deedB p.1 p.2).length ≤ 700000 := by
  refine deed_len h.2 ?_
  have := h.1
  unfold rightD at this
  simp only [Bool.and_eq_true] at this
  exact this.2
theorem catI_cons (p : It) (l : List It) : catI (p :: l) = itB p ++ catI l := rfl
theorem catI_app (a b : List It) : catI (a ++ b) = catI a ++ catI b := List.flatMap_append
theorem catI_one (p : It) : catI [p] = itB p := by simp [catI]
theorem catI_ge : ∀ l : List It, 8 * l.length ≤ (catI l).length
  | [] => by simp [catI]
  | p :: l => by have := catI_ge l; rw [catI_cons, List.length_append, itB_len, List.length_cons]; omega
theorem unframe_it {p : It} (h : okIt p) (r : List UInt8) : unframe (itB p ++ r) = some (deedB p.1 p.2) := unframe_frame _ r (Nat.le_trans h.len (by omega))
theorem deedOf_it {p : It} (h : okIt p) : deedOf (deedB p.1 p.2) = some p := deedOf_put h.2 h.1
theorem scan_it {p : It} (h : okIt p) (r : List UInt8) {z : Int} (hz : z < p.1.zxid) : scanF (itB p ++ r) z = p :: scanF r p.1.zxid := by
  rw [scanF_step (unframe_it h r) (deedOf_it h) (by omega), ← itB_len, List.drop_left]
theorem scan_cat : ∀ (l : List It) (r : List UInt8) (z : Int), (∀ p ∈ l, okIt p) → risen z l → scanF (catI l ++ r) z = l ++ scanF r (lastZ z l)
  | [], r, z, _, _ => rfl
  | p :: l, r, z, h, hz => by
    rw [catI_cons, List.append_assoc, scan_it (h p List.mem_cons_self) _ hz.1, scan_cat l r _ (fun q hq => h q (List.mem_cons_of_mem _ hq)) hz.2]
    rfl
theorem scan_spec : ∀ (n : Nat) (l : List UInt8) (z : Int), l.length ≤ n → ∃ r, l = catI (scanF l z) ++ r ∧ (∀ p ∈ scanF l z, okIt p) ∧ risen z (scanF l z)
  | 0, l, z, h => by
    have : l = [] := List.length_eq_zero_iff.1 (by omega)
    subst this
    exact ⟨[], rfl, fun p hp => (nomatch hp), trivial⟩
  | n + 1, l, z, h => by
    cases hu : unframe l with
    | none => rw [scanF_none hu]; exact ⟨l, rfl, fun p hp => (nomatch hp), trivial⟩
    | some x =>
      cases hd : deedOf x with
      | none => rw [scanF_bad hu hd]; exact ⟨l, rfl, fun p hp => (nomatch hp), trivial⟩
      | some p =>
        by_cases hz : p.1.zxid ≤ z
        · rw [scanF_low hu hd hz]; exact ⟨l, rfl, fun p hp => (nomatch hp), trivial⟩
        · rw [scanF_step hu hd hz]
          obtain ⟨h1, h2, h3⟩ := unframe_whole hu
          obtain ⟨r, e1, e2, e3⟩ := scan_spec n (l.drop (8 + x.length)) p.1.zxid (by rw [List.length_drop]; omega)
          obtain ⟨f, ps⟩ := p
          obtain ⟨d1, d2, d3⟩ := (deedOf_iff x f ps).1 hd
          refine ⟨r, ?_, ?_, ?_⟩
          · rw [catI_cons, List.append_assoc, ← e1]
            show l = frameOf (deedB f ps) ++ _
            rw [← d1]
            exact h1
          · intro q hq
            rcases List.mem_cons.1 hq with rfl | hq
            · exact ⟨d2, d3⟩
            · exact e2 q hq
          · exact ⟨by omega, e3⟩
/- Where each one ends. -/
def endsF : Nat → List It → List Nat
  | _, [] => []
  | t, p :: r => (t + (itB p).length) :: endsF (t + (itB p).length) r
theorem endsF_len : ∀ (t : Nat) (l : List It), (endsF t l).length = l.length
  | _, [] => rfl
  | t, p :: r => by simp [endsF, endsF_len]
theorem endsF_app : ∀ (t : Nat) (l : List It) (p : It), endsF t (l ++ [p]) = endsF t l ++ [t + (catI l).length + (itB p).length]
  | t, [], p => by simp [endsF, catI]
  | t, q :: l, p => by
    show _ :: endsF _ (l ++ [p]) = _
    rw [endsF_app, catI_cons, List.length_append]
    simp [endsF, Nat.add_assoc]
theorem lastZ_app : ∀ (z : Int) (l : List It) (p : It), lastZ z (l ++ [p]) = p.1.zxid
  | _, [], _ => rfl
  | _, q :: l, p => lastZ_app _ l p
theorem risen_app : ∀ (z : Int) (l : List It) (p : It), risen z (l ++ [p]) ↔ risen z l ∧ lastZ z l < p.1.zxid
  | z, [], p => by simp [risen, lastZ]
  | z, q :: l, p => by
    show _ ∧ risen _ (l ++ [p]) ↔ (_ ∧ risen _ l) ∧ lastZ _ l < _
    rw [risen_app]
    exact and_assoc.symm
end Go.Proofs.YtaeoafedfgbcaaaGreatDoor.DD
