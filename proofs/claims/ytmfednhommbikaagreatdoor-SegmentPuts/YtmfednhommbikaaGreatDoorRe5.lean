/- Plain mathematics: which deeds are right, as the document's own answer asks it; no program in this text. -/
import Derived.Test.YtmfednhommbikaaGreatDoorDd2
namespace Go.Proofs.YtmfednhommbikaaGreatDoor.DD
set_option linter.unusedSimpArgs false
set_option linter.unusedSimpArgs false

def docNode (f : Fl) : Bool := bareB f && (PA.right f.path && (decide (f.data.length ≤ 1000) && (decide (0 ≤ f.owner) && (decide (0 ≤ f.cversion) && (decide (0 ≤ f.version) && (decide (f.kind = 3) || ((decide (f.kind = 1) || decide (f.kind = 2)) && decide (f.path ≠ [47]))))))))
def docPart (all : Bool) (p : Fl) : Bool := headZ p && (docNode p && (all || decide (p.kind = 2)))
def docParts (ps : List Fl) (least most : Nat) (all : Bool) : Bool := decide (least ≤ ps.length) && (decide (ps.length ≤ most) && ps.all (docPart all))
def docKind (f : Fl) (ps : List Fl) : Bool :=
  if isNode f.kind = true then docNode f
  else if f.kind = 4 then decide (1 ≤ f.timeout) && decide (f.timeout ≤ 1000)
  else if f.kind = 5 then decide (1 ≤ f.owner) && docParts ps 0 500 false
  else if f.kind = 6 then true
  else if f.kind = 7 then decide (chk f.cver f.mems = 0) && decide (f.cver = f.zxid)
  else if f.kind = 8 then docParts ps 1 16 true
  else if f.kind = 9 then decide (1 ≤ f.err)
  else false
def docHead (f : Fl) : Bool := decide (1 ≤ f.zxid) && (decide (f.zxid / 4294967296 ≤ 1073741824) && (decide (0 ≤ f.session) && (decide (0 ≤ f.turn) && (decide (0 ≤ f.xid) && decide (0 ≤ f.time)))))
def docRight (f : Fl) (ps : List Fl) : Bool := docHead f && (bareB f && docKind f ps)

theorem bare_nums {f : Fl} (h : bareB f = true) : (f.kind ≠ 4 → f.timeout = 0) ∧ (f.kind ≠ 9 → f.err = 0) ∧ (f.kind ≠ 1 → f.kind ≠ 5 → f.owner = 0) ∧ (f.kind ≠ 3 → f.version = 0) ∧ (f.kind ≠ 1 → f.kind ≠ 2 → f.cversion = 0) ∧ (f.kind ≠ 1 → f.kind ≠ 3 → f.data = []) := by
  have hb := bare_fields h f.kind rfl
  refine ⟨fun e => hb.2.2.2.2.2.1 ?_, fun e => hb.2.2.2.2.2.2.1 ?_, fun e1 e2 => hb.2.2.1 ?_, fun e => hb.2.2.2.1 ?_, fun e1 e2 => hb.2.2.2.2.1 ?_, fun e1 e2 => hb.2.1 ?_⟩
  all_goals
    unfold allow
    repeat' split
    all_goals first | rfl | (exfalso; omega)
theorem docNode_eq (f : Fl) : docNode f = leafB f := by
  unfold docNode leafB comB numsB
  cases hb : bareB f with
  | false => simp
  | true =>
    obtain ⟨n1, n2, n3, n4, n5, n6⟩ := bare_nums hb
    by_cases hn : isNode f.kind = true
    · rcases node_kind hn with e | e | e
      all_goals
        have a1 := n1 (by omega)
        have a2 := n2 (by omega)
        simp only [e, a1, a2, isNode, Bool.true_and, Int.reduceEq, decide_true, decide_false, Bool.or_false, Bool.false_or, Bool.or_true, Bool.true_or, Bool.and_true, Int.le_refl]
        rw [Bool.eq_iff_iff]
        simp only [Bool.and_eq_true, decide_eq_true_eq]
        constructor <;> (intro h; simp only [h, and_self, not_false_eq_true, ne_eq, true_and, and_true])
    · have e1 : f.kind ≠ 1 := fun e => hn (by rw [e]; rfl)
      have e2 : f.kind ≠ 2 := fun e => hn (by rw [e]; rfl)
      have e3 : f.kind ≠ 3 := fun e => hn (by rw [e]; rfl)
      simp [e1, e2, e3, isNode]
theorem docPart_eq (all : Bool) (p : Fl) : docPart all p = partB all p := by
  unfold docPart partB
  rw [docNode_eq]
  cases all with
  | true =>
    simp only [Bool.true_or, Bool.and_true, if_true]
    cases hl : leafB p with
    | false => simp
    | true => rw [(leaf_parts hl).1]; simp
  | false =>
    simp only [Bool.false_or, Bool.false_eq_true, if_false]
    cases headZ p <;> cases leafB p <;> simp
theorem docParts_eq (ps : List Fl) (least most : Nat) (all : Bool) : docParts ps least most all = (decide (least ≤ ps.length) && (decide (ps.length ≤ most) && ps.all (partB all))) := by
  unfold docParts
  rw [show docPart all = partB all from funext (docPart_eq all)]
theorem docRight_eq (f : Fl) (ps : List Fl) : docRight f ps = rightD f ps := by
  unfold docRight rightD fitsB docKind
  have hh : (headB f && decide (0 < f.zxid) && decide (f.zxid / 4294967296 ≤ 1073741824)) = docHead f := by
    unfold headB docHead
    rw [Bool.eq_iff_iff]
    simp only [Bool.and_eq_true, decide_eq_true_eq]
    omega
  rw [hh]
  congr 1
  by_cases hn : isNode f.kind = true
  · rw [if_pos hn, if_pos hn, docNode_eq]
    cases hl : leafB f with
    | false => simp
    | true => rw [(com_parts (leaf_parts hl).2.1).1]; rfl
  · rw [if_neg hn, if_neg hn]
    unfold comB numsB kindB
    cases hb : bareB f with
    | false => simp
    | true =>
      obtain ⟨n1, n2, n3, n4, n5, n6⟩ := bare_nums hb
      have e1 : f.kind ≠ 1 := fun e => hn (by rw [e]; rfl)
      have e2 : f.kind ≠ 2 := fun e => hn (by rw [e]; rfl)
      have e3 : f.kind ≠ 3 := fun e => hn (by rw [e]; rfl)
      have d0 := n6 e1 e3
      have c0 := n5 e1 e2
      have v0 := n4 e3
      rw [d0, c0, v0]
      have t0 := n1
      have r0 := n2
      have o0 := n3 e1
      rw [docParts_eq, docParts_eq]
      generalize ps.all (partB false) = B1
      generalize ps.all (partB true) = B2
      generalize ps.length = n
      generalize chk f.cver f.mems = ck
      rw [Bool.eq_iff_iff]
      clear hh n1 n2 n3 n4 n5 n6 hb d0 c0 v0 hn
      by_cases k4 : f.kind = 4
      · have r0 := r0 (by omega)
        have o0 := o0 (by omega)
        simp only [k4, if_true, r0, o0, Bool.and_eq_true, decide_eq_true_eq, List.length_nil, true_and]
        omega
      have t0 := t0 k4
      by_cases k5 : f.kind = 5
      · have r0 := r0 (by omega)
        simp only [k5, Int.reduceEq, if_true, if_false, r0, t0, Bool.and_eq_true, decide_eq_true_eq, List.length_nil, true_and]
        cases B1 <;> simp <;> omega
      have o0 := o0 k5
      by_cases k9 : f.kind = 9
      · simp only [k9, Int.reduceEq, if_true, if_false, o0, t0, Bool.and_eq_true, decide_eq_true_eq, List.length_nil, true_and]
        omega
      have r0 := r0 k9
      by_cases k6 : f.kind = 6
      · simp [k6, o0, t0, r0]
      by_cases k7 : f.kind = 7
      · simp only [k7, Int.reduceEq, if_true, if_false, o0, t0, r0, Bool.and_eq_true, decide_eq_true_eq, List.length_nil, true_and]
        omega
      by_cases k8 : f.kind = 8
      · simp only [k8, Int.reduceEq, if_true, if_false, o0, t0, r0, Bool.and_eq_true, decide_eq_true_eq, List.length_nil, true_and]
        cases B2 <;> simp <;> omega
      simp [k4, k5, k6, k7, k8, k9]
end Go.Proofs.YtmfednhommbikaaGreatDoor.DD
