/- Plain mathematics of a frame with one byte turned; no program in this text. -/
import Derived.Test.YtogikhondibifaaDoorBase
namespace Go.Proofs.YtogikhondibifaaDoor

theorem numOf_four_inj {a b : List UInt8} (ha : a.length = 4) (hb : b.length = 4) (h : numOf a = numOf b) : a = b := by
  match a, ha with
  | [a0, a1, a2, a3], _ =>
    match b, hb with
    | [b0, b1, b2, b3], _ =>
      simp only [numOf, List.getD_cons_zero, List.getD_cons_succ] at h
      have h0 := a0.toNat_lt
      have h1 := a1.toNat_lt
      have h2 := a2.toNat_lt
      have h3 := a3.toNat_lt
      have g0 := b0.toNat_lt
      have g1 := b1.toNat_lt
      have g2 := b2.toNat_lt
      have g3 := b3.toNat_lt
      rw [UInt8.toNat.inj (show a0.toNat = b0.toNat by omega), UInt8.toNat.inj (show a1.toNat = b1.toNat by omega), UInt8.toNat.inj (show a2.toNat = b2.toNat by omega), UInt8.toNat.inj (show a3.toNat = b3.toNat by omega)]
theorem numOf_app {a : List UInt8} (ha : a.length = 4) (r : List UInt8) : numOf (a ++ r) = numOf a := by
  match a, ha with
  | [a0, a1, a2, a3], _ => simp [numOf]
theorem set_ne {l : List UInt8} {k : Nat} {v : UInt8} (h : k < l.length) (hv : v ≠ l[k]'h) : l.set k v ≠ l := by
  intro e
  have := congrArg (fun x => x[k]?) e
  simp [h] at this
  exact hv this
theorem sum_set {l : List UInt8} {k : Nat} {v : UInt8} (h : k < l.length) (hv : v ≠ l[k]'h) : sumOf (l.set k v) ≠ sumOf l := by
  have e1 : l.set k v = l.take k ++ [v] ++ l.drop (k + 1) := by rw [List.set_eq_take_append_cons_drop, if_pos h]; simp
  have e2 : l = l.take k ++ [l[k]'h] ++ l.drop (k + 1) := by
    rw [List.append_assoc, List.singleton_append, ← List.drop_eq_getElem_cons h, List.take_append_drop]
  rw [e1]
  have := sumOf_ne (l.take k) [v] [l[k]'h] (l.drop (k + 1)) rfl (by simp) (by simpa using hv)
  rwa [← e2] at this
/- A frame with one byte turned behind its length is none. -/
theorem unframe_turn (b : List UInt8) (hb : b.length ≤ 1048576) (k : Nat) (hk : k < (frameOf b).length) (h4 : 4 ≤ k) (v : UInt8) (hv : v ≠ (frameOf b)[k]'hk) : unframe ((frameOf b).set k v) = none := by
  cases hu : unframe ((frameOf b).set k v) with
  | none => rfl
  | some x =>
    exfalso
    obtain ⟨h1, h2, h3, h5, _⟩ := unframe_some hu
    have hf : frameOf b = four b.length ++ (four (sumOf b) ++ b) := by rw [frameOf, List.append_assoc]
    have hlen := frameOf_len b
    have hset : (frameOf b).set k v = four b.length ++ (four (sumOf b) ++ b).set (k - 4) v := by
      rw [hf, List.set_append_right _ _ (by rw [four_len]; exact h4), four_len]
    have hnum : numOf ((frameOf b).set k v) = b.length := by rw [hset]; exact numOf_four _ (by omega) _
    have hd4 : ((frameOf b).set k v).drop 4 = (four (sumOf b) ++ b).set (k - 4) v := by rw [hset]; exact List.drop_left' rfl
    have hgetk : (frameOf b)[k]? = (four (sumOf b) ++ b)[k - 4]? := by
      rw [hf, List.getElem?_append_right (by rw [four_len]; exact h4), four_len]
    have hgk : (frameOf b)[k]? = some ((frameOf b)[k]'hk) := List.getElem?_eq_getElem hk
    by_cases h8 : k < 8
    · have e1 : (four (sumOf b) ++ b).set (k - 4) v = (four (sumOf b)).set (k - 4) v ++ b := List.set_append_left _ _ (by rw [four_len]; omega)
      have hd8 : ((frameOf b).set k v).drop 8 = b := by
        have : ((frameOf b).set k v).drop 8 = (((frameOf b).set k v).drop 4).drop 4 := by rw [List.drop_drop]
        rw [this, hd4, e1]
        exact List.drop_left' (by simp [four_len])
      rw [hnum, hd8, List.take_length] at h3
      subst h3
      rw [hd4, e1, numOf_app (by simp [four_len])] at h5
      have h6 : numOf (four (sumOf x)) = sumOf x := by have := numOf_four (sumOf x) (sumOf_lt x) []; rwa [List.append_nil] at this
      have h7 := numOf_four_inj (a := (four (sumOf x)).set (k - 4) v) (b := four (sumOf x)) (by simp [four_len]) rfl (by rw [← h5, h6])
      have hlt : k - 4 < (four (sumOf x)).length := by rw [four_len]; omega
      refine set_ne hlt ?_ h7
      have : (four (sumOf x) ++ x)[k - 4]? = some ((four (sumOf x))[k - 4]'hlt) := by rw [List.getElem?_append_left hlt, List.getElem?_eq_getElem hlt]
      rw [hgk, this] at hgetk
      intro e
      exact hv (by rw [e]; exact (Option.some.inj hgetk).symm)
    · have e1 : (four (sumOf b) ++ b).set (k - 4) v = four (sumOf b) ++ b.set (k - 8) v := by
        rw [List.set_append_right _ _ (by rw [four_len]; omega), four_len, show k - 4 - 4 = k - 8 by omega]
      have hd8 : ((frameOf b).set k v).drop 8 = b.set (k - 8) v := by
        have : ((frameOf b).set k v).drop 8 = (((frameOf b).set k v).drop 4).drop 4 := by rw [List.drop_drop]
        rw [this, hd4, e1]
        exact List.drop_left' rfl
      rw [hnum, hd8, List.take_of_length_le (by simp)] at h3
      rw [hd4, e1, numOf_four _ (sumOf_lt b), h3] at h5
      have hlt : k - 8 < b.length := by omega
      refine sum_set hlt ?_ h5
      have : (four (sumOf b) ++ b)[k - 4]? = some (b[k - 8]'hlt) := by
        rw [List.getElem?_append_right (by rw [four_len]; omega), four_len, show k - 4 - 4 = k - 8 by omega, List.getElem?_eq_getElem hlt]
      rw [hgk, this] at hgetk
      intro e
      exact hv (by rw [e]; exact (Option.some.inj hgetk).symm)
/- Four bytes side by side, turned by a mask that is not 0. -/
theorem sum_four (p x y q : List UInt8) (hx : x.length = 4) (hy : y.length = 4) (hne : x ≠ y) : sumOf (p ++ x ++ q) ≠ sumOf (p ++ y ++ q) := sumOf_ne p x y q (by omega) (by omega) hne
end Go.Proofs.YtogikhondibifaaDoor
