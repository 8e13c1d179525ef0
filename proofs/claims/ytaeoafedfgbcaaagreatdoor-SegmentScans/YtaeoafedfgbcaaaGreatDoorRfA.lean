/- Plain mathematics: which deeds are right, as the document's own answer asks it; no program in this text. Plain mathematics: what the document's own answer reads of a deed's bytes is what the program reads; no program in this text. The contracts of the library's functions at this dump: each an application of a proved contract, the program's own bodies compared by the kernel. The walks of the document's own answers (package beadleref02): what is a part, the parts of a text, whether a text is a path. The walk of the document's own bare: which fields must be zero. The walks of the document's own node and parts. -/
import Derived.Test.YtaeoafedfgbcaaaGreatDoorDd2
import Derived.Shelf.Utf8.RuneCount
import Derived.Shelf.Strings.Search1
import Derived.Shelf.Strings.Search2
import Derived.Shelf.Strings.Search3
import Derived.Shelf.Strings.Cut
import Derived.Shelf.Strings.Count
import Derived.Shelf.LaysM
import Derived.Shelf.Strings.Shaped
import Derived.Shelf.Strings.Prefix
import Derived.Shelf.Strings.Split
import Derived.Shelf.Strings.SplitShaped
import Derived.Shelf.Unicode.Decode
import Derived.Shelf.Strings.RuneCount
import Derived.Shelf.Strings.Explode
import Derived.Shelf.Unicode.DecodeSlow
import Derived.Shelf.Unicode.DecodeAny
import Derived.Test.YtaeoafedfgbcaaaGreatDoorProg
import Derived.Test.YtaeoafedfgbcaaaGreatDoorPathW
import Derived.Test.YtaeoafedfgbcaaaGreatDoorDdW
import Derived.Test.YtaeoafedfgbcaaaGreatDoorDdF
namespace Go.Proofs.YtaeoafedfgbcaaaGreatDoor.DD
set_option linter.unusedSimpArgs false
set_option linter.unusedSimpArgs false

def docNode (f : Fl) : Bool := bareB f && (PA.right f.path && (decide (f.data.length ≤ 1000) && (decide (0 ≤ f.owner) && (decide (0 ≤ f.cversion) && (decide (0 ≤ f.version) && (decide (f.kind = 3) || ((decide (f.kind = 1) || decide (f.kind = 2)) && decide (f.path ≠ [47]))))))))
def docPart (all : Bool) (p : Fl) : Bool := headZ p && (docNode p && (all || decide (p.kind = 2)))
def docParts (ps : List Fl) (least most : Nat) (all : Bool) : Bool := decide (least ≤ ps.length) && (decide (ps.length ≤ most) && ps.all (docPart all))
def docKind (f : Fl) (ps : List Fl) : Bool :=
  if isNode f.kind = true then docNode f
  else if f.kind = 4 then decide (1 ≤ f.timeout) && decide (f.timeout ≤ 1000)
  else if f.kind = 5 then decide (1 ≤ f.owner) && docParts ps 0 500 false
  else if f.kind = 6 then true
  else if f.kind = 7 then decide (chk f.cver f.mems = 0) && decide (f.cver = f.zxid)
  else if f.kind = 8 then docParts ps 1 16 true
  else if f.kind = 9 then decide (1 ≤ f.err)
  else false
def docHead (f : Fl) : Bool := decide (1 ≤ f.zxid) && (decide (f.zxid / 4294967296 ≤ 1073741824) && (decide (0 ≤ f.session) && (decide (0 ≤ f.turn) && (decide (0 ≤ f.xid) && decide (0 ≤ f.time)))))
def docRight (f : Fl) (ps : List Fl) : Bool := docHead f && (bareB f && docKind f ps)

theorem bare_nums {f : Fl} (h : bareB f = true) : (f.kind ≠ 4 → f.timeout = 0) ∧ (f.kind ≠ 9 → f.err = 0) ∧ (f.kind ≠ 1 → f.kind ≠ 5 → f.owner = 0) ∧ (f.kind ≠ 3 → f.version = 0) ∧ (f.kind ≠ 1 → f.kind ≠ 2 → f.cversion = 0) ∧ (f.kind ≠ 1 → f.kind ≠ 3 → f.data = []) := by
  have hb := bare_fields h f.kind rfl
  refine ⟨fun e => hb.2.2.2.2.2.1 ?_, fun e => hb.2.2.2.2.2.2.1 ?_, fun e1 e2 => hb.2.2.1 ?_, fun e => hb.2.2.2.1 ?_, fun e1 e2 => hb.2.2.2.2.1 ?_, fun e1 e2 => hb.2.1 ?_⟩
  all_goals
    unfold allow
    repeat' split
    all_goals first | rfl | (exfalso; omega)
theorem docNode_eq (f : Fl) : docNode f = leafB f := by
  unfold docNode leafB comB numsB
  cases hb : bareB f with
  | false => simp
  | true =>
    obtain ⟨n1, n2, n3, n4, n5, n6⟩ := bare_nums hb
    by_cases hn : isNode f.kind = true
    · rcases node_kind hn with e | e | e
      all_goals
        have a1 := n1 (by omega)
        have a2 := n2 (by omega)
        simp only [e, a1, a2, isNode, Bool.true_and, Int.reduceEq, decide_true, decide_false, Bool.or_false, Bool.false_or, Bool.or_true, Bool.true_or, Bool.and_true, Int.le_refl]
        rw [Bool.eq_iff_iff]
        simp only [Bool.and_eq_true, decide_eq_true_eq]
        constructor <;> (intro h; simp only [h, and_self, not_false_eq_true, ne_eq, true_and, and_true])
    · have e1 : f.kind ≠ 1 := fun e => hn (by rw [e]; rfl)
      have e2 : f.kind ≠ 2 := fun e => hn (by rw [e]; rfl)
      have e3 : f.kind ≠ 3 := fun e => hn (by rw [e]; rfl)
      simp [e1, e2, e3, isNode]
theorem docPart_eq (all : Bool) (p : Fl) : docPart all p = partB all p := by
  unfold docPart partB
  rw [docNode_eq]
  cases all with
  | true =>
    simp only [Bool.true_or, Bool.and_true, if_true]
    cases hl : leafB p with
    | false => simp
    | true => rw [(leaf_parts hl).1]; simp
  | false =>
    simp only [Bool.false_or, Bool.false_eq_true, if_false]
    cases headZ p <;> cases leafB p <;> simp
theorem docParts_eq (ps : List Fl) (least most : Nat) (all : Bool) : docParts ps least most all = (decide (least ≤ ps.length) && (decide (ps.length ≤ most) && ps.all (partB all))) := by
  unfold docParts
  rw [show docPart all = partB all from funext (docPart_eq all)]
theorem docRight_eq (f : Fl) (ps : List Fl) : docRight f ps = rightD f ps := by
  unfold docRight rightD fitsB docKind
  have hh : (headB f && decide (0 < f.zxid) && decide (f.zxid / 4294967296 ≤ 1073741824)) = docHead f := by
    unfold headB docHead
    rw [Bool.eq_iff_iff]
    simp only [Bool.and_eq_true, decide_eq_true_eq]
    omega
  rw [hh]
  congr 1
  by_cases hn : isNode f.kind = true
  · rw [if_pos hn, if_pos hn, docNode_eq]
    cases hl : leafB f with
    | false => simp
    | true => rw [(com_parts (leaf_parts hl).2.1).1]; rfl
  · rw [if_neg hn, if_neg hn]
    unfold comB numsB kindB
    cases hb : bareB f with
    | false => simp
    | true =>
      obtain ⟨n1, n2, n3, n4, n5, n6⟩ := bare_nums hb
      have e1 : f.kind ≠ 1 := fun e => hn (by rw [e]; rfl)
      have e2 : f.kind ≠ 2 := fun e => hn (by rw [e]; rfl)
      have e3 : f.kind ≠ 3 := fun e => hn (by rw [e]; rfl)
      have d0 := n6 e1 e3
      have c0 := n5 e1 e2
      have v0 := n4 e3
      rw [d0, c0, v0]
      have t0 := n1
      have r0 := n2
      have o0 := n3 e1
      rw [docParts_eq, docParts_eq]
      generalize ps.all (partB false) = B1
      generalize ps.all (partB true) = B2
      generalize ps.length = n
      generalize chk f.cver f.mems = ck
      rw [Bool.eq_iff_iff]
      clear hh n1 n2 n3 n4 n5 n6 hb d0 c0 v0 hn
      by_cases k4 : f.kind = 4
      · have r0 := r0 (by omega)
        have o0 := o0 (by omega)
        simp only [k4, if_true, r0, o0, Bool.and_eq_true, decide_eq_true_eq, List.length_nil, true_and]
        omega
      have t0 := t0 k4
      by_cases k5 : f.kind = 5
      · have r0 := r0 (by omega)
        simp only [k5, Int.reduceEq, if_true, if_false, r0, t0, Bool.and_eq_true, decide_eq_true_eq, List.length_nil, true_and]
        cases B1 <;> simp <;> omega
      have o0 := o0 k5
      by_cases k9 : f.kind = 9
      · simp only [k9, Int.reduceEq, if_true, if_false, o0, t0, Bool.and_eq_true, decide_eq_true_eq, List.length_nil, true_and]
        omega
      have r0 := r0 k9
      by_cases k6 : f.kind = 6
      · simp [k6, o0, t0, r0]
      by_cases k7 : f.kind = 7
      · simp only [k7, Int.reduceEq, if_true, if_false, o0, t0, r0, Bool.and_eq_true, decide_eq_true_eq, List.length_nil, true_and]
        omega
      by_cases k8 : f.kind = 8
      · simp only [k8, Int.reduceEq, if_true, if_false, o0, t0, r0, Bool.and_eq_true, decide_eq_true_eq, List.length_nil, true_and]
        cases B2 <;> simp <;> omega
      simp [k4, k5, k6, k7, k8, k9]
end Go.Proofs.YtaeoafedfgbcaaaGreatDoor.DD

namespace Go.Proofs.YtaeoafedfgbcaaaGreatDoor.DD

def rfParts : Nat → Rd → List Fl × Rd
  | 0, r => ([], r)
  | _ + 1, none => ([], none)
  | n + 1, some s => ((rdPart (some s)).1 :: (rfParts n (rdPart (some s)).2).1, (rfParts n (rdPart (some s)).2).2)
theorem rfParts_none : ∀ n, rfParts n none = ([], none)
  | 0 => rfl
  | _ + 1 => rfl
theorem rfParts_rd : ∀ n r, (rfParts n r).2 = (rdParts n r).2
  | 0, r => by cases r <;> rfl
  | n + 1, none => by rw [rdParts_none]; rfl
  | n + 1, some s => by rw [rdParts]; exact rfParts_rd n _
theorem rfParts_eq : ∀ n r {t : List UInt8}, (rfParts n r).2 = some t → (rfParts n r).1 = (rdParts n r).1
  | 0, r, _, _ => by cases r <;> rfl
  | n + 1, none, _, h => by cases h
  | n + 1, some s, _, h => by
    rw [rdParts]
    show (rdPart (some s)).1 :: _ = _
    rw [rfParts_eq n _ h]
def mostOf (k : Int) : Int := if k = 8 then 16 else 500
def rfTail (k : Int) (r : Rd) : List Fl × Rd := if hasParts k = true then rfParts (rdCount r (mostOf k)).1.toNat (rdCount r (mostOf k)).2 else ([], r)
def rfAll (b : List UInt8) : Fl × List Fl × Rd :=
  let k : Int := (rdByte (some b)).1.toNat
  let h := rdHead (rdByte (some b)).2
  let f := rdBody k h.2
  let t := rfTail k f.2
  (withHead h.1 f.1 t.1.length, t.1, t.2)
def deedRf (b : List UInt8) : Option (Fl × List Fl) :=
  if (rfAll b).2.2 = some [] ∧ rightD (rfAll b).1 (rfAll b).2.1 = true then some ((rfAll b).1, (rfAll b).2.1) else none
theorem tail_same (k : Int) (r : Rd) : ((rfTail k r).2 = some [] → rfTail k r = rdTail k r) ∧ ((rdTail k r).2 = some [] → rfTail k r = rdTail k r ∨ (k = 8 ∧ 16 < (rdTail k r).1.length)) := by
  unfold rfTail rdTail
  cases hp : hasParts k with
  | false => simp
  | true =>
    rw [if_pos rfl, if_pos rfl]
    have key : ∀ n r', (rfParts n r').2 = some [] → rfParts n r' = rdParts n r' := fun n r' h => Prod.ext (rfParts_eq n r' h) (rfParts_rd n r')
    by_cases h8 : k = 8
    · subst h8
      rw [show mostOf 8 = 16 from rfl]
      unfold rdCount
      by_cases c1 : (rdInt r).1 < 0 ∨ 16 < (rdInt r).1
      · rw [if_pos c1]
        refine ⟨fun h => (by rw [rfParts_none] at h; cases h), fun h => ?_⟩
        by_cases c2 : (rdInt r).1 < 0 ∨ 500 < (rdInt r).1
        · rw [if_pos c2] at h
          rw [rdParts_none] at h
          cases h
        · right
          refine ⟨rfl, ?_⟩
          rw [if_neg c2, rdParts_len]
          omega
      · rw [if_neg c1, if_neg (by omega)]
        exact ⟨key _ _, fun h => .inl (key _ _ (by rw [rfParts_rd]; exact h))⟩
    · rw [show mostOf k = 500 by unfold mostOf; rw [if_neg h8]]
      exact ⟨key _ _, fun h => .inl (key _ _ (by rw [rfParts_rd]; exact h))⟩
theorem multi_many {f : Fl} {ps : List Fl} (hk : f.kind = 8) (hl : 16 < ps.length) : rightD f ps = false := by
  cases h : rightD f ps with
  | false => rfl
  | true =>
    have hf := rightD_fits h
    unfold fitsB at hf
    rw [show isNode f.kind = false by rw [hk]; rfl] at hf
    simp only [Bool.false_eq_true, if_false, Bool.and_eq_true, kindB, hk, Int.reduceEq, if_true, decide_eq_true_eq] at hf
    omega
theorem deedRf_eq (b : List UInt8) : deedRf b = deedOf b := by
  obtain ⟨k, hk0⟩ : ∃ k : Int, k = ((rdByte (some b)).1.toNat : Int) := ⟨_, rfl⟩
  obtain ⟨F, hF⟩ : ∃ F, F = rdBody k (rdHead (rdByte (some b)).2).2 := ⟨_, rfl⟩
  have hk : F.1.kind = k := by rw [hF]; exact rdBody_kind _ _
  have e1 : rfAll b = (withHead (rdHead (rdByte (some b)).2).1 F.1 (rfTail k F.2).1.length, (rfTail k F.2).1, (rfTail k F.2).2) := by rw [hF, hk0]; rfl
  have e2 : rdAll b = (withHead (rdHead (rdByte (some b)).2).1 F.1 (rdTail k F.2).1.length, (rdTail k F.2).1, (rdTail k F.2).2) := by rw [hF, hk0]; rfl
  obtain ⟨h1, h2⟩ := tail_same k F.2
  by_cases c : (rfTail k F.2).2 = some []
  · have e : rfAll b = rdAll b := by rw [e1, e2, h1 c]
    unfold deedRf deedOf
    rw [e]
  · have n1 : deedRf b = none := by
      unfold deedRf
      rw [if_neg]
      rintro ⟨h, _⟩
      rw [e1] at h
      exact c h
    have n2 : deedOf b = none := by
      unfold deedOf
      rw [if_neg]
      rintro ⟨h, hr⟩
      rw [e2] at h hr
      rcases h2 h with e | ⟨e, hl⟩
      · rw [e] at c; exact c h
      · rw [multi_many (by show F.1.kind = 8; rw [hk, e]) hl] at hr
        cases hr
    rw [n1, n2]
end Go.Proofs.YtaeoafedfgbcaaaGreatDoor.DD

namespace Go.Proofs
open Go.Shelf
def Tryz.lays146_ren : Go.Shelf.Ren := ⟨fun | 146 => 98 | 221 => 105 | 268 => 107 | 138 => 108 | 143 => 109 | 195 => 111 | 197 => 112 | 218 => 113 | 219 => 110 | 260 => 118 | 217 => 114 | 225 => 115 | 224 => 116 | 267 => 117 | 266 => 119 | 314 => 120 | n => n, fun | 9 => 9 | 31 => 130 | 3 => 3 | 4 => 4 | 0 => 0 | 105 => 145 | 21 => 21 | 5 => 5 | 46 => 94 | 119 => 150 | 139 => 153 | 138 => 152 | 146 => 148 | 51 => 67 | n => n, fun | 1 => 1 | 3 => 2 | 4 => 3 | n => n⟩
theorem Tryz.lays146 : Go.Proofs.Lays.n146 Tryz.prog Tryz.lays146_ren := {
  mixed := by kernel_rfl
  f138 := Tryz.func108.trans (congrArg some (by kernel_rfl))
  f143 := Tryz.func109.trans (congrArg some (by kernel_rfl))
  f146 := Tryz.func98.trans (congrArg some (by kernel_rfl))
  f195 := Tryz.func111.trans (congrArg some (by kernel_rfl))
  f197 := Tryz.func112.trans (congrArg some (by kernel_rfl))
  f217 := Tryz.func114.trans (congrArg some (by kernel_rfl))
  f218 := Tryz.func113.trans (congrArg some (by kernel_rfl))
  f219 := Tryz.func110.trans (congrArg some (by kernel_rfl))
  f221 := Tryz.func105.trans (congrArg some (by kernel_rfl))
  f224 := Tryz.func116.trans (congrArg some (by kernel_rfl))
  f225 := Tryz.func115.trans (congrArg some (by kernel_rfl))
  f260 := Tryz.func118.trans (congrArg some (by kernel_rfl))
  f266 := Tryz.func119.trans (congrArg some (by kernel_rfl))
  f267 := Tryz.func117.trans (congrArg some (by kernel_rfl))
  f268 := Tryz.func107.trans (congrArg some (by kernel_rfl))
  f314 := Tryz.func120.trans (congrArg some (by kernel_rfl))
  t0 := Tryz.underlying0
  a0 := Tryz.isAgg0
  z0 := Tryz.sizeOf0
  v0 := Tryz.zeroValue0
  t3 := Tryz.underlying3
  a3 := Tryz.isAgg3
  z3 := Tryz.sizeOf3
  v3 := Tryz.zeroValue3
  t4 := Tryz.underlying4
  a4 := Tryz.isAgg4
  z4 := Tryz.sizeOf4
  v4 := Tryz.zeroValue4
  t5 := Tryz.underlying5
  a5 := Tryz.isAgg5
  z5 := Tryz.sizeOf5
  v5 := Tryz.zeroValue5
  t9 := Tryz.underlying9
  a9 := Tryz.isAgg9
  z9 := Tryz.sizeOf9
  v9 := Tryz.zeroValue9
  t21 := Tryz.underlying21
  a21 := Tryz.isAgg21
  z21 := Tryz.sizeOf21
  v21 := Tryz.zeroValue21
  t31 := Tryz.underlying130
  a31 := Tryz.isAgg130
  z31 := Tryz.sizeOf130
  v31 := Tryz.zeroValue130
  t46 := Tryz.underlying94
  a46 := Tryz.isAgg94
  z46 := Tryz.sizeOf94
  v46 := Tryz.zeroValue94
  t51 := Tryz.underlying67
  a51 := Tryz.isAgg67
  z51 := Tryz.sizeOf67
  v51 := Tryz.zeroValue67
  t105 := Tryz.underlying145
  a105 := Tryz.isAgg145
  z105 := Tryz.sizeOf145
  v105 := Tryz.zeroValue145
  t119 := Tryz.underlying150
  a119 := Tryz.isAgg150
  z119 := Tryz.sizeOf150
  t138 := Tryz.underlying152
  a138 := Tryz.isAgg152
  z138 := Tryz.sizeOf152
  v138 := Tryz.zeroValue152
  t139 := Tryz.underlying153
  a139 := Tryz.isAgg153
  z139 := Tryz.sizeOf153
  v139 := Tryz.zeroValue153
  t146 := Tryz.underlying148
  a146 := Tryz.isAgg148
  z146 := Tryz.sizeOf148
  v146 := Tryz.zeroValue148
  g1 := by kernel_rfl
  g3 := by kernel_rfl
  g4 := by kernel_rfl }
open Go.RowKit Go.Lib in
theorem Tryz.strings_Split (s sep : ByteArray) (m : Int) (w : World) (hs : s.size < 4294967281) (hm : w.cell? ⟨1, 0, none⟩ = some (.int .i64 m)) (h1 : 1 ≤ sep.size) :
    Calls Tryz.prog 98 #[.string s, .string sep] w fun e w' =>
      e = .returned (.slice (some ⟨w.heap.size, 0, none⟩) (Lib.countB s sep + 1) (Lib.countB s sep + 1)) ∧ w' = w.alloc (.cells ((Lib.splitB sep 0 (Lib.countB s sep) s).map Value.string).toArray 9) := Any.strings_Split Tryz.lays146 (by kernel_rfl) s sep m w hs hm h1
end Go.Proofs

namespace Go.Proofs.YtaeoafedfgbcaaaGreatDoor.PA
open Go.RowKit Go.Shelf

theorem splitB_splits (k : Nat) (t : List UInt8) (h : t.count 47 ≤ k) : Lib.splitB ⟨#[47]⟩ 0 k (mkS t) = (splits t).map mkS := by
  induction k generalizing t with
  | zero =>
    have : 47 ∉ t := List.count_eq_zero.1 (by omega)
    rw [splits_no t this]; rfl
  | succ k ih =>
    by_cases hm : 47 ∈ t
    · obtain ⟨a, b, rfl, ha⟩ := mem_parts t hm
      have hi : Lib.indexB (mkS (a ++ 47 :: b)) ⟨#[47]⟩ = a.length := by
        show Lib.index (mkS (a ++ 47 :: b)).data.toList [47] = _
        rw [mkS_list]; exact cut_hit a b ha
      rw [Lib.splitB_hit _ _ _ _ _ hi, splits_hit a b ha, mkS_extract, mkS_extract, mkS_size]
      have e1 : (List.take (a.length + 0) (a ++ 47 :: b)).drop 0 = a := by simp
      have e2 : (List.take (a ++ 47 :: b).length (a ++ 47 :: b)).drop (a.length + (ByteArray.mk #[47]).size) = b := by
        rw [List.take_length, show (ByteArray.mk #[47]).size = 1 from rfl, List.drop_append]
        simp
      rw [e1, e2, ih b (by rw [List.count_append, List.count_cons] at h; simp at h; omega)]
      rfl
    · have hi : Lib.indexB (mkS t) ⟨#[47]⟩ = -1 := by
        show Lib.index (mkS t).data.toList [47] = _
        rw [mkS_list]; exact cut_miss t hm
      rw [Lib.splitB_miss _ _ _ _ hi, splits_no t hm]; rfl
theorem splits_length (t : List UInt8) : (splits t).length = t.count 47 + 1 := by
  induction t with
  | nil => rfl
  | cons c t ih =>
    have hne := splits_ne t
    have hp : 0 < (splits t).length := List.length_pos_iff.2 hne
    unfold splits
    split
    · rename_i h; subst h; simp [ih]
    · rename_i h; simp [h]; omega
theorem countB_count (t : List UInt8) : Lib.countB (mkS t) ⟨#[47]⟩ = t.count 47 := by
  generalize hn : t.length = n
  induction n using Nat.strongRecOn generalizing t with
  | _ n ih =>
    by_cases hm : 47 ∈ t
    · obtain ⟨a, b, rfl, ha⟩ := mem_parts t hm
      have hi : Lib.indexB (mkS (a ++ 47 :: b)) ⟨#[47]⟩ = a.length := by
        show Lib.index (mkS (a ++ 47 :: b)).data.toList [47] = _
        rw [mkS_list]; exact cut_hit a b ha
      rw [Lib.countB_hit _ _ _ (by decide) hi, mkS_extract, mkS_size]
      have e2 : (List.take (a ++ 47 :: b).length (a ++ 47 :: b)).drop (a.length + (ByteArray.mk #[47]).size) = b := by
        rw [List.take_length, show (ByteArray.mk #[47]).size = 1 from rfl, List.drop_append]
        simp
      rw [e2, ih b.length (by rw [← hn]; simp; omega) b rfl, List.count_append, List.count_cons, List.count_eq_zero.2 ha]
      simp; omega
    · have hi : Lib.indexB (mkS t) ⟨#[47]⟩ = -1 := by
        show Lib.index (mkS t).data.toList [47] = _
        rw [mkS_list]; exact cut_miss t hm
      rw [Lib.countB_miss _ _ hi, List.count_eq_zero.2 hm]

theorem toList_test (p q : List UInt8) (b : Bool) (h : decide (p = q) = b) : ((mkS p).toList == q) = b := by
  rw [mkS_toList, ← h, Bool.eq_iff_iff]; simp
/- A row of texts in one block of memory. -/
def rowOf (l : List (List UInt8)) : Array Value := (l.map fun t => Value.string (mkS t)).toArray
theorem split_k (t : List UInt8) (ht : t.length ≤ 200) (w0 w : World) (h : Kept w0 w) :
    Calls Tryz.prog 98 #[.string (mkS t), .string ⟨#[47]⟩] w fun e w' => ∃ b, e = .returned (.slice (some ⟨b, 0, none⟩) (splits t).length (splits t).length) ∧ w'.heap[b]? = some (.cells (rowOf (splits t)) 9) ∧ w0.heap.size ≤ b ∧ Kept w0 w' := by
  obtain ⟨m, hm⟩ := h.laid.one
  refine (Tryz.strings_Split (mkS t) ⟨#[47]⟩ m w (by rw [mkS_size]; omega) hm (by decide)).mono ?_
  rintro e w' ⟨rfl, rfl⟩
  rw [countB_count, splitB_splits _ t (Nat.le_refl _), splits_length]
  refine ⟨w.heap.size, rfl, ?_, h.below.size, h.go (newBelow w _)⟩
  rw [World.alloc_heap_new, rowOf, List.map_map]; rfl
theorem glue_mem {l : List (List UInt8)} {x : List UInt8} (h : x ∈ l) : x.length + 1 ≤ (glue l).length := by
  induction l with
  | nil => cases h
  | cons a l ih =>
    rw [glue_cons]
    rcases List.mem_cons.1 h with rfl | h
    · simp
    · have := ih h
      simp; omega
theorem splits_mem {t x : List UInt8} (h : x ∈ splits t) : x.length ≤ t.length := by
  have := glue_mem h
  rw [glue_splits] at this
  simp at this; omega

theorem byteFacts (t : List UInt8) (i : Nat) (h : i < t.length) :
    (okByte (t[i]'h) = true ∧ ∃ c : Nat, (t[i]'h).toNat = c ∧ 33 ≤ c ∧ c ≤ 126 ∧ c ≠ 47) ∨ (okByte (t[i]'h) = false ∧ ∃ c : Nat, (t[i]'h).toNat = c ∧ (c < 33 ∨ (33 ≤ c ∧ 126 < c) ∨ c = 47)) := by
  have e47 : (t[i]'h = 47) ↔ (t[i]'h).toNat = 47 := by
    constructor
    · intro e; rw [e]; rfl
    · intro e; exact UInt8.toNat.inj e
  cases hk : okByte (t[i]'h) with
  | true =>
    simp only [okByte, Bool.and_eq_true, decide_eq_true_eq, ne_eq, e47] at hk
    exact .inl ⟨rfl, _, rfl, hk.1.1, hk.1.2, hk.2⟩
  | false =>
    simp only [okByte, Bool.and_eq_false_iff, decide_eq_false_iff_not, ne_eq, e47] at hk
    exact .inr ⟨rfl, _, rfl, by omega⟩

set_option maxRecDepth 100000 in
set_option maxHeartbeats 2000000 in
theorem refPart_any (t : List UInt8) (ht : t.length ≤ 1000) (b : Bool) (hb : isPart t = b) (w : World) :
    Calls Tryz.prog 99 #[.string (mkS t)] w fun e w' => e = .returned (.bool b) ∧ w' = w := by
  have hs := mkS_size t
  go_enter Tryz.func99, Tryz.ntmps99
  go_wp2
  go_loop [3] (fun i => ∃ pos : Nat, i = .int .i64 pos ∧ pos ≤ t.length ∧ ∀ j (hj : j < t.length), j < pos → okByte (t[j]'hj) = true) (fun i => t.length - (intOf i).toNat)
  case atStart => exact ⟨0, rfl, by omega, fun j _ h => by omega⟩
  case round =>
    obtain ⟨pos, rfl, hle, hok⟩ := hrel
    by_cases hp : pos < t.length
    · have hp' : pos < (mkS t).size := by rw [mkS_size]; exact hp
      have hg := mkS_get t pos hp hp'
      rcases byteFacts t pos hp with ⟨hk, c, hc, h1, h2, h3⟩ | ⟨hk, c, hc, h1⟩
      · have t1 : ¬ ((c : Int) < 33) := by omega
        have t2 : ¬ ((126 : Int) < c) := by omega
        have t3 : ((c : Int) == 47) = false := by simp; omega
        go_wp2
        refine ⟨⟨pos + 1, by simp, by omega, fun j hj hlt => ?_⟩, by simp [intOf]; omega⟩
        rcases Nat.lt_succ_iff_lt_or_eq.1 hlt with e | e
        · exact hok j hj e
        · subst e; exact hk
      · have hf : isPart t = false := by rw [isPart, all_false_at t pos hp hk]; rfl
        have hbf : b = false := by rw [← hb, hf]
        clear hb
        subst hbf
        rcases h1 with h1 | ⟨h1, h2⟩ | h1
        · have t1 : ((c : Int) < 33) := by omega
          go_wp2
          go_ret
          exact ⟨rfl, rfl⟩
        · have t1 : ¬ ((c : Int) < 33) := by omega
          have t2 : ((126 : Int) < c) := by omega
          go_wp2
          go_ret
          exact ⟨rfl, rfl⟩
        · subst h1
          go_wp2
          go_ret
          exact ⟨rfl, rfl⟩
    · have hall : t.all okByte = true := all_true_of_prefix t fun j hj => hok j hj (by omega)
      have ht2 := isPart_tests t hall
      rw [hb] at ht2
      clear hb
      go_wp2
      · rename_i e _
        rw [mkS_toList] at e
        subst e
        go_ret
        exact ⟨by first | rfl | (rw [ht2]; rfl), rfl⟩
      · rename_i e0 e _
        rw [mkS_toList] at e
        subst e
        go_ret
        exact ⟨by first | rfl | (rw [ht2]; rfl), rfl⟩
      · go_ret
        exact ⟨by first | rfl | (rw [ht2]; rfl), rfl⟩

/- The parts of a text, by the document's own answer. -/
def isRow (w : World) (v : Value) (l : List (List UInt8)) : Prop := ∃ b, v = .slice (some ⟨b, 0, none⟩) l.length l.length ∧ w.heap[b]? = some (.cells (rowOf l) 9)
theorem row_cell {w : World} {b : Nat} {l : List (List UInt8)} (h : w.heap[b]? = some (.cells (rowOf l) 9)) (i : Nat) (hi : i < l.length) : w.cell? ⟨b, i, none⟩ = some (.string (mkS (l[i]'hi))) := by
  simp [World.cell?, h, rowOf, hi]
set_option maxRecDepth 100000 in
set_option maxHeartbeats 2000000 in
theorem refParts_long (p : List UInt8) (hl : ¬ p.length ≤ 200) (w0 w : World) (hk : Kept w0 w) :
    Calls Tryz.prog 93 #[.string (mkS p)] w fun e w' => e = .returned (.tuple #[.slice none 0 0, .bool false]) ∧ Kept w0 w' := by
  have hs := mkS_size p
  have t1 : (200 : Int) < ((p.length : Nat) : Int) := by omega
  go_enter Tryz.func93, Tryz.ntmps93
  go_wp2
  go_ret2
  exact ⟨rfl, hk⟩
set_option maxRecDepth 100000 in
theorem refParts_empty (w0 w : World) (hk : Kept w0 w) :
    Calls Tryz.prog 93 #[.string (mkS [])] w fun e w' => e = .returned (.tuple #[.slice none 0 0, .bool false]) ∧ Kept w0 w' := by
  have hs : (mkS []).size = 0 := mkS_size []
  go_enter Tryz.func93, Tryz.ntmps93
  go_wp2
  go_ret2
  exact ⟨rfl, hk⟩
set_option maxRecDepth 100000 in
theorem refParts_other (p : List UInt8) (c : UInt8) (hh : p.head? = some c) (hl : p.length ≤ 200) (hc : c ≠ 47) (w0 w : World) (hk : Kept w0 w) :
    Calls Tryz.prog 93 #[.string (mkS p)] w fun e w' => e = .returned (.tuple #[.slice none 0 0, .bool false]) ∧ Kept w0 w' := by
  have hs := mkS_size p
  have h0 : 0 < p.length := by cases p <;> simp at hh ⊢
  have hg : (mkS p)[0]'(by rw [hs]; exact h0) = c := by rw [mkS_get p 0 h0]; cases p <;> simp at hh ⊢; exact hh
  have h47 : ((c.toNat : Int) != 47) = true := by
    simp
    intro e
    exact hc (UInt8.toNat.inj (by simp; omega))
  have t1 : ¬ (200 : Int) < ((p.length : Nat) : Int) := by omega
  have t2 : ((p.length : Int) == 0) = false := by simp; intro e; rw [e] at h0; simp at h0
  clear hh
  go_enter Tryz.func93, Tryz.ntmps93
  go_wp2
  go_ret2
  exact ⟨rfl, hk⟩
set_option maxRecDepth 100000 in
theorem refParts_root (p : List UInt8) (hp : p = [47]) (w0 w : World) (hk : Kept w0 w) :
    Calls Tryz.prog 93 #[.string (mkS p)] w fun e w' => e = .returned (.tuple #[.slice none 0 0, .bool true]) ∧ Kept w0 w' := by
  have hs := mkS_size p
  have h0 : 0 < p.length := by rw [hp]; decide
  have hg : (mkS p)[0]'(by rw [hs]; exact h0) = 47 := by rw [mkS_get p 0 h0]; subst hp; rfl
  have t1 : ¬ (200 : Int) < ((p.length : Nat) : Int) := by rw [hp]; decide
  have t2 : ((p.length : Int) == 0) = false := by rw [hp]; decide
  have t3 := toList_test p [47] true (by simp [hp])
  clear hp
  go_enter Tryz.func93, Tryz.ntmps93
  go_wp2
  go_ret2
  exact ⟨rfl, hk⟩
theorem slice_any (p t : List UInt8) (hp : p = 47 :: t) : (mkS p).extract 1 p.length = mkS t := by
  subst hp
  rw [mkS_extract]; simp
set_option maxRecDepth 100000 in
set_option maxHeartbeats 2000000 in
theorem refParts_row (p t : List UInt8) (hp : p = 47 :: t) (hl : p.length ≤ 200) (ht : t ≠ []) (w0 w : World) (hk : Kept w0 w) :
    Calls Tryz.prog 93 #[.string (mkS p)] w fun e w' => ((right p = true ∧ ∃ b, e = .returned (.tuple #[.slice (some ⟨b, 0, none⟩) (parts p).length (parts p).length, .bool true]) ∧ w'.heap[b]? = some (.cells (rowOf (parts p)) 9) ∧ w0.heap.size ≤ b) ∨ (right p = false ∧ e = .returned (.tuple #[.slice none 0 0, .bool false]))) ∧ Kept w0 w' := by
  have hs := mkS_size p
  have h0 : 0 < p.length := by rw [hp]; simp
  have hg : (mkS p)[0]'(by rw [hs]; exact h0) = 47 := by rw [mkS_get p 0 h0]; subst hp; rfl
  have t1 : ¬ (200 : Int) < ((p.length : Nat) : Int) := by omega
  have t2 : ((p.length : Int) == 0) = false := by rw [hp]; simp; omega
  have t3 := toList_test p [47] false (by rw [hp]; simp [ht])
  have hex := slice_any p t hp
  have hpp : parts p = splits t := by rw [hp]; simp [parts, tailParts, ht]
  have hrr : right p = (splits t).all isPart := by
    rw [right, hpp, decide_eq_true hl, hp]; simp
  have htl : t.length ≤ 200 := by rw [hp] at hl; simp at hl; omega
  rw [hrr, hpp]
  clear hp hpp hrr
  generalize hL : splits t = L
  have hLm : ∀ x ∈ L, x.length ≤ 1000 := fun x hx => by have := splits_mem (hL ▸ hx); omega
  have hLl : L.length ≤ 1000 := by
    have := splits_length t
    have h2 := List.count_le_length (a := (47 : UInt8)) (l := t)
    rw [hL] at this
    omega
  have hsp := split_k t htl w0 w hk
  rw [hL] at hsp
  clear hL
  go_enter Tryz.func93, Tryz.ntmps93
  go_wp2_with fail
  refine hsp.mono ?_
  rintro e w1 ⟨b, rfl, hb, hbs, hk1⟩
  clear hsp
  go_wp2
  go_loop [5] (fun i => ∃ pos : Nat, i = .int .i64 pos ∧ pos ≤ L.length ∧ ∀ j (hj : j < L.length), j < pos → isPart (L[j]'hj) = true) (fun i => L.length - (intOf i).toNat)
  case atStart => exact ⟨0, rfl, by omega, fun j _ h => by omega⟩
  case round =>
    obtain ⟨pos, rfl, hle, hok⟩ := hrel
    by_cases hpos : pos < L.length
    · have hc := row_cell hb pos hpos
      have hm := hLm _ (List.getElem_mem hpos)
      generalize hx : L[pos]'hpos = x at *
      cases hq : isPart x with
      | true =>
        go_wp2_with fail
        refine (refPart_any x hm true hq _).mono ?_
        rintro e w2 ⟨rfl, rfl⟩
        go_wp2
        refine ⟨⟨pos + 1, by simp, by omega, fun j hj hlt => ?_⟩, by simp [intOf]; omega⟩
        rcases Nat.lt_succ_iff_lt_or_eq.1 hlt with e | e
        · exact hok j hj e
        · subst e; rw [hx]; exact hq
      | false =>
        go_wp2_with fail
        refine (refPart_any x hm false hq _).mono ?_
        rintro e w2 ⟨rfl, rfl⟩
        have hfalse : L.all isPart = false := List.all_eq_false.2 ⟨x, by rw [← hx]; exact List.getElem_mem _, by simp [hq]⟩
        go_wp2
        go_ret2
        first
          | exact ⟨.inr ⟨hfalse, rfl⟩, hk1⟩
          | exact ⟨.inr ⟨rfl, rfl⟩, hk1⟩
          | exact ⟨.inr ⟨⟨x, by rw [← hx]; exact List.getElem_mem _, hq⟩, rfl⟩, hk1⟩
    · have htrue : ∀ x ∈ L, isPart x = true := fun x hx => by
        obtain ⟨j, hj, rfl⟩ := List.getElem_of_mem hx
        exact hok j hj (by omega)
      go_wp2
      go_ret2
      first
        | exact ⟨.inl ⟨htrue, b, rfl, hb, hbs⟩, hk1⟩
        | exact ⟨.inl ⟨List.all_eq_true.2 htrue, b, rfl, hb, hbs⟩, hk1⟩

theorem refParts_no (p : List UInt8) (hr : right p = false) (w0 w : World) (hk : Kept w0 w) :
    Calls Tryz.prog 93 #[.string (mkS p)] w fun e w' => e = .returned (.tuple #[.slice none 0 0, .bool false]) ∧ Kept w0 w' := by
  by_cases hl : p.length ≤ 200
  · cases p with
    | nil => exact refParts_empty w0 w hk
    | cons c t =>
      by_cases hc : c = 47
      · subst hc
        have ht : t ≠ [] := by rintro rfl; rw [right_root] at hr; cases hr
        refine (refParts_row _ t rfl hl ht w0 w hk).mono ?_
        rintro e w' ⟨⟨h, _⟩ | ⟨_, rfl⟩, hk'⟩
        · rw [hr] at h; cases h
        · exact ⟨rfl, hk'⟩
      · exact refParts_other _ c rfl hl hc w0 w hk
  · exact refParts_long p hl w0 w hk
theorem refParts_yes (p : List UInt8) (hr : right p = true) (hp : p ≠ [47]) (w0 w : World) (hk : Kept w0 w) :
    Calls Tryz.prog 93 #[.string (mkS p)] w fun e w' => ∃ b, e = .returned (.tuple #[.slice (some ⟨b, 0, none⟩) (parts p).length (parts p).length, .bool true]) ∧ w'.heap[b]? = some (.cells (rowOf (parts p)) 9) ∧ w0.heap.size ≤ b ∧ Kept w0 w' := by
  obtain ⟨t, rfl⟩ : ∃ t, p = 47 :: t := by
    cases p with
    | nil => simp [right] at hr
    | cons c t => simp [right] at hr; exact ⟨t, by rw [hr.2.1]⟩
  have ht : t ≠ [] := by rintro rfl; exact hp rfl
  refine (refParts_row _ t rfl (right_len hr) ht w0 w hk).mono ?_
  rintro e w' ⟨⟨_, b, rfl, hb, hbs⟩ | ⟨h, _⟩, hk'⟩
  · exact ⟨b, rfl, hb, hbs, hk'⟩
  · rw [hr] at h; cases h
theorem parts_ne {p : List UInt8} (hr : right p = true) (hp : p ≠ [47]) : parts p ≠ [] := by
  intro e
  have := right_eq hr
  rw [e] at this
  exact hp this

set_option maxRecDepth 100000 in
theorem refCheck_k (p : List UInt8) (v : Bool) (hv : right p = v) (w0 w : World) (hk : Kept w0 w) :
    Calls Tryz.prog 87 #[.string (mkS p)] w fun e w' => e = .returned (.bool v) ∧ Kept w0 w' := by
  cases v with
  | false =>
    have h := refParts_no p hv w0 w hk
    go_enter Tryz.func87, Tryz.ntmps87
    go_wp2_with fail
    refine h.mono ?_
    rintro e w1 ⟨rfl, hk1⟩
    go_wp2
    go_ret
    exact ⟨rfl, hk1⟩
  | true =>
    by_cases hp : p = [47]
    · have h := refParts_root p hp w0 w hk
      clear hp
      go_enter Tryz.func87, Tryz.ntmps87
      go_wp2_with fail
      refine h.mono ?_
      rintro e w1 ⟨rfl, hk1⟩
      go_wp2
      go_ret
      exact ⟨rfl, hk1⟩
    · have h := refParts_yes p hv hp w0 w hk
      go_enter Tryz.func87, Tryz.ntmps87
      go_wp2_with fail
      refine h.mono ?_
      rintro e w1 ⟨b, rfl, hb, hbs, hk1⟩
      go_wp2
      go_ret
      exact ⟨rfl, hk1⟩
theorem refCheck_any (p : List UInt8) (w : World) (h : Laid w) :
    Calls Tryz.prog 87 #[.string (mkS p)] w fun e w' => e = .returned (.bool (right p)) ∧ Below w.heap.size w w' := by
  refine (refCheck_k p _ rfl w w ⟨h, Below.refl _ _⟩).mono ?_
  rintro e w' ⟨rfl, hk⟩
  exact ⟨rfl, hk.below⟩
end Go.Proofs.YtaeoafedfgbcaaaGreatDoor.PA

namespace Go.Proofs.YtaeoafedfgbcaaaGreatDoor.DD
set_option linter.unusedSimpArgs false
set_option linter.unusedVariables false
open Go.RowKit
set_option linter.unusedVariables false
set_option linter.unusedSimpArgs false

theorem retb {a b : Bool} (h : a = b) : Ending.returned (.bool a) = .returned (.bool b) := by rw [h]
theorem len0 (n : Nat) : ((n : Int) == 0) = !decide (0 < n) := by
  rw [Bool.eq_iff_iff]; simp
theorem al1 (w : World) (o : Obj) : Below w.heap.size w (w.alloc o) := (Below.refl _ _).alloc (Nat.le_refl _) _
set_option maxRecDepth 100000 in
set_option maxHeartbeats 2000000 in
theorem rbare1 (zx se tu xi ti ow ve cv tmo er cr : Int) (p : ByteArray) (A1 A2 A3 : Option Addr) (n1 n2 n3 c1 c2 c3 : Nat) (w : World) :
    Calls Tryz.prog 68 #[.agg #[.int .i64 zx, .int .u8 1, .int .i64 se, .int .i64 tu, .int .i64 xi, .int .i64 ti, .string p, .slice A1 n1 c1, .int .i64 ow, .int .i64 ve, .int .i64 cv, .int .i64 tmo, .int .i64 er, .int .i64 cr, .slice A2 n2 c2, .slice A3 n3 c3]] w fun e w' => e = .returned (.bool (under [!p.toList.isEmpty, decide (0 < n1), ow != 0, ve != 0, cv != 0, tmo != 0, er != 0, (cr != 0) || decide (0 < n2), decide (0 < n3)] (allow 1))) ∧ Below w.heap.size w w' := by
  go_enter Tryz.func68, Tryz.ntmps68
  go_wp2
  all_goals (go_ret; exact ⟨retb (by simp_all [under, allow, len0]), al1 _ _⟩)
set_option maxRecDepth 100000 in
set_option maxHeartbeats 2000000 in
theorem rbare2 (zx se tu xi ti ow ve cv tmo er cr : Int) (p : ByteArray) (A1 A2 A3 : Option Addr) (n1 n2 n3 c1 c2 c3 : Nat) (w : World) :
    Calls Tryz.prog 68 #[.agg #[.int .i64 zx, .int .u8 2, .int .i64 se, .int .i64 tu, .int .i64 xi, .int .i64 ti, .string p, .slice A1 n1 c1, .int .i64 ow, .int .i64 ve, .int .i64 cv, .int .i64 tmo, .int .i64 er, .int .i64 cr, .slice A2 n2 c2, .slice A3 n3 c3]] w fun e w' => e = .returned (.bool (under [!p.toList.isEmpty, decide (0 < n1), ow != 0, ve != 0, cv != 0, tmo != 0, er != 0, (cr != 0) || decide (0 < n2), decide (0 < n3)] (allow 2))) ∧ Below w.heap.size w w' := by
  go_enter Tryz.func68, Tryz.ntmps68
  go_wp2
  all_goals (go_ret; exact ⟨retb (by simp_all [under, allow, len0]), al1 _ _⟩)
set_option maxRecDepth 100000 in
set_option maxHeartbeats 2000000 in
theorem rbare3 (zx se tu xi ti ow ve cv tmo er cr : Int) (p : ByteArray) (A1 A2 A3 : Option Addr) (n1 n2 n3 c1 c2 c3 : Nat) (w : World) :
    Calls Tryz.prog 68 #[.agg #[.int .i64 zx, .int .u8 3, .int .i64 se, .int .i64 tu, .int .i64 xi, .int .i64 ti, .string p, .slice A1 n1 c1, .int .i64 ow, .int .i64 ve, .int .i64 cv, .int .i64 tmo, .int .i64 er, .int .i64 cr, .slice A2 n2 c2, .slice A3 n3 c3]] w fun e w' => e = .returned (.bool (under [!p.toList.isEmpty, decide (0 < n1), ow != 0, ve != 0, cv != 0, tmo != 0, er != 0, (cr != 0) || decide (0 < n2), decide (0 < n3)] (allow 3))) ∧ Below w.heap.size w w' := by
  go_enter Tryz.func68, Tryz.ntmps68
  go_wp2
  all_goals (go_ret; exact ⟨retb (by simp_all [under, allow, len0]), al1 _ _⟩)
set_option maxRecDepth 100000 in
set_option maxHeartbeats 2000000 in
theorem rbare4 (zx se tu xi ti ow ve cv tmo er cr : Int) (p : ByteArray) (A1 A2 A3 : Option Addr) (n1 n2 n3 c1 c2 c3 : Nat) (w : World) :
    Calls Tryz.prog 68 #[.agg #[.int .i64 zx, .int .u8 4, .int .i64 se, .int .i64 tu, .int .i64 xi, .int .i64 ti, .string p, .slice A1 n1 c1, .int .i64 ow, .int .i64 ve, .int .i64 cv, .int .i64 tmo, .int .i64 er, .int .i64 cr, .slice A2 n2 c2, .slice A3 n3 c3]] w fun e w' => e = .returned (.bool (under [!p.toList.isEmpty, decide (0 < n1), ow != 0, ve != 0, cv != 0, tmo != 0, er != 0, (cr != 0) || decide (0 < n2), decide (0 < n3)] (allow 4))) ∧ Below w.heap.size w w' := by
  go_enter Tryz.func68, Tryz.ntmps68
  go_wp2
  all_goals (go_ret; exact ⟨retb (by simp_all [under, allow, len0]), al1 _ _⟩)
set_option maxRecDepth 100000 in
set_option maxHeartbeats 2000000 in
theorem rbare5 (zx se tu xi ti ow ve cv tmo er cr : Int) (p : ByteArray) (A1 A2 A3 : Option Addr) (n1 n2 n3 c1 c2 c3 : Nat) (w : World) :
    Calls Tryz.prog 68 #[.agg #[.int .i64 zx, .int .u8 5, .int .i64 se, .int .i64 tu, .int .i64 xi, .int .i64 ti, .string p, .slice A1 n1 c1, .int .i64 ow, .int .i64 ve, .int .i64 cv, .int .i64 tmo, .int .i64 er, .int .i64 cr, .slice A2 n2 c2, .slice A3 n3 c3]] w fun e w' => e = .returned (.bool (under [!p.toList.isEmpty, decide (0 < n1), ow != 0, ve != 0, cv != 0, tmo != 0, er != 0, (cr != 0) || decide (0 < n2), decide (0 < n3)] (allow 5))) ∧ Below w.heap.size w w' := by
  go_enter Tryz.func68, Tryz.ntmps68
  go_wp2
  all_goals (go_ret; exact ⟨retb (by simp_all [under, allow, len0]), al1 _ _⟩)
set_option maxRecDepth 100000 in
set_option maxHeartbeats 2000000 in
theorem rbare6 (zx se tu xi ti ow ve cv tmo er cr : Int) (p : ByteArray) (A1 A2 A3 : Option Addr) (n1 n2 n3 c1 c2 c3 : Nat) (w : World) :
    Calls Tryz.prog 68 #[.agg #[.int .i64 zx, .int .u8 6, .int .i64 se, .int .i64 tu, .int .i64 xi, .int .i64 ti, .string p, .slice A1 n1 c1, .int .i64 ow, .int .i64 ve, .int .i64 cv, .int .i64 tmo, .int .i64 er, .int .i64 cr, .slice A2 n2 c2, .slice A3 n3 c3]] w fun e w' => e = .returned (.bool (under [!p.toList.isEmpty, decide (0 < n1), ow != 0, ve != 0, cv != 0, tmo != 0, er != 0, (cr != 0) || decide (0 < n2), decide (0 < n3)] (allow 6))) ∧ Below w.heap.size w w' := by
  go_enter Tryz.func68, Tryz.ntmps68
  go_wp2
  all_goals (go_ret; exact ⟨retb (by simp_all [under, allow, len0]), al1 _ _⟩)
set_option maxRecDepth 100000 in
set_option maxHeartbeats 2000000 in
theorem rbare7 (zx se tu xi ti ow ve cv tmo er cr : Int) (p : ByteArray) (A1 A2 A3 : Option Addr) (n1 n2 n3 c1 c2 c3 : Nat) (w : World) :
    Calls Tryz.prog 68 #[.agg #[.int .i64 zx, .int .u8 7, .int .i64 se, .int .i64 tu, .int .i64 xi, .int .i64 ti, .string p, .slice A1 n1 c1, .int .i64 ow, .int .i64 ve, .int .i64 cv, .int .i64 tmo, .int .i64 er, .int .i64 cr, .slice A2 n2 c2, .slice A3 n3 c3]] w fun e w' => e = .returned (.bool (under [!p.toList.isEmpty, decide (0 < n1), ow != 0, ve != 0, cv != 0, tmo != 0, er != 0, (cr != 0) || decide (0 < n2), decide (0 < n3)] (allow 7))) ∧ Below w.heap.size w w' := by
  go_enter Tryz.func68, Tryz.ntmps68
  go_wp2
  all_goals (go_ret; exact ⟨retb (by simp_all [under, allow, len0]), al1 _ _⟩)
set_option maxRecDepth 100000 in
set_option maxHeartbeats 2000000 in
theorem rbare8 (zx se tu xi ti ow ve cv tmo er cr : Int) (p : ByteArray) (A1 A2 A3 : Option Addr) (n1 n2 n3 c1 c2 c3 : Nat) (w : World) :
    Calls Tryz.prog 68 #[.agg #[.int .i64 zx, .int .u8 8, .int .i64 se, .int .i64 tu, .int .i64 xi, .int .i64 ti, .string p, .slice A1 n1 c1, .int .i64 ow, .int .i64 ve, .int .i64 cv, .int .i64 tmo, .int .i64 er, .int .i64 cr, .slice A2 n2 c2, .slice A3 n3 c3]] w fun e w' => e = .returned (.bool (under [!p.toList.isEmpty, decide (0 < n1), ow != 0, ve != 0, cv != 0, tmo != 0, er != 0, (cr != 0) || decide (0 < n2), decide (0 < n3)] (allow 8))) ∧ Below w.heap.size w w' := by
  go_enter Tryz.func68, Tryz.ntmps68
  go_wp2
  all_goals (go_ret; exact ⟨retb (by simp_all [under, allow, len0]), al1 _ _⟩)
set_option maxRecDepth 100000 in
set_option maxHeartbeats 2000000 in
theorem rbare9 (zx se tu xi ti ow ve cv tmo er cr : Int) (p : ByteArray) (A1 A2 A3 : Option Addr) (n1 n2 n3 c1 c2 c3 : Nat) (w : World) :
    Calls Tryz.prog 68 #[.agg #[.int .i64 zx, .int .u8 9, .int .i64 se, .int .i64 tu, .int .i64 xi, .int .i64 ti, .string p, .slice A1 n1 c1, .int .i64 ow, .int .i64 ve, .int .i64 cv, .int .i64 tmo, .int .i64 er, .int .i64 cr, .slice A2 n2 c2, .slice A3 n3 c3]] w fun e w' => e = .returned (.bool (under [!p.toList.isEmpty, decide (0 < n1), ow != 0, ve != 0, cv != 0, tmo != 0, er != 0, (cr != 0) || decide (0 < n2), decide (0 < n3)] (allow 9))) ∧ Below w.heap.size w w' := by
  go_enter Tryz.func68, Tryz.ntmps68
  go_wp2
  all_goals (go_ret; exact ⟨retb (by simp_all [under, allow, len0]), al1 _ _⟩)
set_option maxRecDepth 100000 in
set_option maxHeartbeats 2000000 in
theorem rbareO (kd : Int) (k1 : (kd == 1) = false) (m1 : (kd != 1) = true) (k2 : (kd == 2) = false) (m2 : (kd != 2) = true) (k3 : (kd == 3) = false) (m3 : (kd != 3) = true) (k4 : (kd == 4) = false) (m4 : (kd != 4) = true) (k5 : (kd == 5) = false) (m5 : (kd != 5) = true) (k7 : (kd == 7) = false) (m7 : (kd != 7) = true) (k8 : (kd == 8) = false) (m8 : (kd != 8) = true) (k9 : (kd == 9) = false) (m9 : (kd != 9) = true) (zx se tu xi ti ow ve cv tmo er cr : Int) (p : ByteArray) (A1 A2 A3 : Option Addr) (n1 n2 n3 c1 c2 c3 : Nat) (w : World) :
    Calls Tryz.prog 68 #[.agg #[.int .i64 zx, .int .u8 kd, .int .i64 se, .int .i64 tu, .int .i64 xi, .int .i64 ti, .string p, .slice A1 n1 c1, .int .i64 ow, .int .i64 ve, .int .i64 cv, .int .i64 tmo, .int .i64 er, .int .i64 cr, .slice A2 n2 c2, .slice A3 n3 c3]] w fun e w' => e = .returned (.bool (under [!p.toList.isEmpty, decide (0 < n1), ow != 0, ve != 0, cv != 0, tmo != 0, er != 0, (cr != 0) || decide (0 < n2), decide (0 < n3)] [false, false, false, false, false, false, false, false, false])) ∧ Below w.heap.size w w' := by
  go_enter Tryz.func68, Tryz.ntmps68
  go_wp2
  all_goals (go_ret; exact ⟨retb (by simp_all [under, allow, len0]), al1 _ _⟩)
theorem neb (a b : Int) (h : a ≠ b) : (a == b) = false ∧ (a != b) = true := by simp [h]
theorem flags_eq (f : Fl) : flags f = [!(mkS f.path).toList.isEmpty, decide (0 < f.data.length), f.owner != 0, f.version != 0, f.cversion != 0, f.timeout != 0, f.err != 0, (f.cver != 0) || decide (0 < f.mems.length), decide (0 < f.np)] := by
  unfold flags
  simp only [path_flag, ne_flag]
theorem rbare_any (f : Fl) (A1 A2 A3 : Option Addr) (c1 c2 c3 : Nat) (w : World) :
    Calls Tryz.prog 68 #[.agg #[.int .i64 f.zxid, .int .u8 f.kind, .int .i64 f.session, .int .i64 f.turn, .int .i64 f.xid, .int .i64 f.time, .string (mkS f.path), .slice A1 f.data.length c1, .int .i64 f.owner, .int .i64 f.version, .int .i64 f.cversion, .int .i64 f.timeout, .int .i64 f.err, .int .i64 f.cver, .slice A2 f.mems.length c2, .slice A3 f.np c3]] w fun e w' => e = .returned (.bool (bareB f)) ∧ Below w.heap.size w w' := by
  unfold bareB
  rw [flags_eq]
  generalize f.kind = kd
  by_cases e1 : kd = 1
  · subst e1
    exact rbare1 _ _ _ _ _ _ _ _ _ _ _ _ _ _ _ _ _ _ _ _ _ w
  by_cases e2 : kd = 2
  · subst e2
    exact rbare2 _ _ _ _ _ _ _ _ _ _ _ _ _ _ _ _ _ _ _ _ _ w
  by_cases e3 : kd = 3
  · subst e3
    exact rbare3 _ _ _ _ _ _ _ _ _ _ _ _ _ _ _ _ _ _ _ _ _ w
  by_cases e4 : kd = 4
  · subst e4
    exact rbare4 _ _ _ _ _ _ _ _ _ _ _ _ _ _ _ _ _ _ _ _ _ w
  by_cases e5 : kd = 5
  · subst e5
    exact rbare5 _ _ _ _ _ _ _ _ _ _ _ _ _ _ _ _ _ _ _ _ _ w
  by_cases e6 : kd = 6
  · subst e6
    exact rbare6 _ _ _ _ _ _ _ _ _ _ _ _ _ _ _ _ _ _ _ _ _ w
  by_cases e7 : kd = 7
  · subst e7
    exact rbare7 _ _ _ _ _ _ _ _ _ _ _ _ _ _ _ _ _ _ _ _ _ w
  by_cases e8 : kd = 8
  · subst e8
    exact rbare8 _ _ _ _ _ _ _ _ _ _ _ _ _ _ _ _ _ _ _ _ _ w
  by_cases e9 : kd = 9
  · subst e9
    exact rbare9 _ _ _ _ _ _ _ _ _ _ _ _ _ _ _ _ _ _ _ _ _ w
  rw [show allow kd = [false, false, false, false, false, false, false, false, false] by simp [allow, e1, e2, e3, e4, e5, e7, e8, e9]]
  exact rbareO kd (neb _ _ e1).1 (neb _ _ e1).2 (neb _ _ e2).1 (neb _ _ e2).2 (neb _ _ e3).1 (neb _ _ e3).2 (neb _ _ e4).1 (neb _ _ e4).2 (neb _ _ e5).1 (neb _ _ e5).2 (neb _ _ e7).1 (neb _ _ e7).2 (neb _ _ e8).1 (neb _ _ e8).2 (neb _ _ e9).1 (neb _ _ e9).2 _ _ _ _ _ _ _ _ _ _ _ _ _ _ _ _ _ _ _ _ _ w
end Go.Proofs.YtaeoafedfgbcaaaGreatDoor.DD

namespace Go.Proofs.YtaeoafedfgbcaaaGreatDoor.DD
set_option linter.unusedVariables false
open Go.RowKit
set_option linter.unusedVariables false

theorem root_ne (p : List UInt8) (b : Bool) (h : decide (p = [47]) = b) : ((mkS p).toList != [47]) = !b := by
  rw [PA.mkS_toList, ← h]
  by_cases e : p = [47] <;> simp [e]
set_option maxRecDepth 100000 in
set_option maxHeartbeats 2000000 in
theorem rnode_core (zx kd se tu xi ti ow ve cv tmo er cr : Int) (p : List UInt8) (A1 A2 A3 : Option Addr) (n1 n2 n3 c1 c2 c3 : Nat) (w : World) (B R S : Bool) (hS : decide (p = [47]) = S)
    (hB : ∀ w', Calls Tryz.prog 68 #[.agg #[.int .i64 zx, .int .u8 kd, .int .i64 se, .int .i64 tu, .int .i64 xi, .int .i64 ti, .string (mkS p), .slice A1 n1 c1, .int .i64 ow, .int .i64 ve, .int .i64 cv, .int .i64 tmo, .int .i64 er, .int .i64 cr, .slice A2 n2 c2, .slice A3 n3 c3]] w' fun e w'' => e = .returned (.bool B) ∧ Below w'.heap.size w' w'')
    (hR : ∀ w', PA.Laid w' → Calls Tryz.prog 87 #[.string (mkS p)] w' fun e w'' => e = .returned (.bool R) ∧ Below w'.heap.size w' w'') (hL : PA.Laid w) :
    Calls Tryz.prog 69 #[.agg #[.int .i64 zx, .int .u8 kd, .int .i64 se, .int .i64 tu, .int .i64 xi, .int .i64 ti, .string (mkS p), .slice A1 n1 c1, .int .i64 ow, .int .i64 ve, .int .i64 cv, .int .i64 tmo, .int .i64 er, .int .i64 cr, .slice A2 n2 c2, .slice A3 n3 c3]] w fun e w' => e = .returned (.bool (B && (R && (decide (n1 ≤ 1000) && (decide (0 ≤ ow) && (decide (0 ≤ cv) && (decide (0 ≤ ve) && (decide (kd = 3) || ((decide (kd = 1) || decide (kd = 2)) && !S))))))))) ∧ Below w.heap.size w w' := by
  obtain ⟨w1, hw1⟩ : ∃ X, X = w.alloc (.cells #[.int .i64 zx, .int .u8 kd, .int .i64 se, .int .i64 tu, .int .i64 xi, .int .i64 ti, .string (mkS p), .slice A1 n1 c1, .int .i64 ow, .int .i64 ve, .int .i64 cv, .int .i64 tmo, .int .i64 er, .int .i64 cr, .slice A2 n2 c2, .slice A3 n3 c3] 41) := ⟨_, rfl⟩
  have hB1 : Below w.heap.size w w1 := by rw [hw1]; exact (Below.refl _ _).alloc (Nat.le_refl _) _
  have HC1 : Hid (w1.heap[w.heap.size]? = some (.cells #[.int .i64 zx, .int .u8 kd, .int .i64 se, .int .i64 tu, .int .i64 xi, .int .i64 ti, .string (mkS p), .slice A1 n1 c1, .int .i64 ow, .int .i64 ve, .int .i64 cv, .int .i64 tmo, .int .i64 er, .int .i64 cr, .slice A2 n2 c2, .slice A3 n3 c3] 41 (0, 0))) := by rw [hw1]; exact heap_alloc_new w _
  have HB1 : Hid (Below w.heap.size w w1) := hB1
  have hb := hB w1
  have HR : Hid _ := hR
  have HL : Hid (PA.Laid w) := hL
  have hs2 := PA.toList_test p [47] S hS
  rw [hw1] at hb
  clear hB1 hL hR hB hS
  go_enter Tryz.func69, Tryz.ntmps69
  go_wp2_with fail
  refine hb.mono ?_
  rintro e w2 ⟨rfl, hB2⟩
  rw [← hw1] at hB2
  have HB2 : Hid (Below w.heap.size w w2) := HB1.out.trans (hB2.mono HB1.out.size)
  have HC2 : Hid (w2.heap[w.heap.size]? = some (.cells #[.int .i64 zx, .int .u8 kd, .int .i64 se, .int .i64 tu, .int .i64 xi, .int .i64 ti, .string (mkS p), .slice A1 n1 c1, .int .i64 ow, .int .i64 ve, .int .i64 cv, .int .i64 tmo, .int .i64 er, .int .i64 cr, .slice A2 n2 c2, .slice A3 n3 c3] 41 (0, 0))) := by show _ = _; rw [hB2.block _ (heap_lt HC1.out)]; exact HC1.out
  clear hb hB2 hw1 HB1 HC1
  obtain ⟨z0, z1, z2, z3, z4, z5, z6, z7, z8, z9, z10, z11, z12, z13, z14, z15⟩ := cells16 HC2.out
  cases B with
  | false =>
    go_wp2
    go_ret
    exact ⟨rfl, HB2.out⟩
  | true =>
    have hr := HR.out w2 (HL.out.below HB2.out)
    clear HR
    go_wp2_with fail
    refine hr.mono ?_
    rintro e w3 ⟨rfl, hB3⟩
    have HB3 : Hid (Below w.heap.size w w3) := HB2.out.trans (hB3.mono HB2.out.size)
    have HC3 : Hid (w3.heap[w.heap.size]? = some (.cells #[.int .i64 zx, .int .u8 kd, .int .i64 se, .int .i64 tu, .int .i64 xi, .int .i64 ti, .string (mkS p), .slice A1 n1 c1, .int .i64 ow, .int .i64 ve, .int .i64 cv, .int .i64 tmo, .int .i64 er, .int .i64 cr, .slice A2 n2 c2, .slice A3 n3 c3] 41 (0, 0))) := by show _ = _; rw [hB3.block _ (heap_lt HC2.out)]; exact HC2.out
    clear hr hB3 HB2 HC2 z0 z1 z2 z3 z4 z5 z6 z7 z8 z9 z10 z11 z12 z13 z14 z15
    obtain ⟨z0, z1, z2, z3, z4, z5, z6, z7, z8, z9, z10, z11, z12, z13, z14, z15⟩ := cells16 HC3.out
    cases R with
    | false =>
      go_wp2
      go_ret
      exact ⟨rfl, HB3.out⟩
    | true =>
      by_cases k3 : kd = 3
      · subst k3
        go_wp2
        all_goals (go_ret; exact ⟨retb (by (try simp only [hs2]); (first | (simp_all; done) | (simp_all; omega))), HB3.out⟩)
      · by_cases k1 : kd = 1
        · subst k1
          go_wp2
          all_goals (go_ret; exact ⟨retb (by (try simp only [hs2]); (first | (simp_all; done) | (simp_all; omega))), HB3.out⟩)
        · by_cases k2 : kd = 2
          · subst k2
            go_wp2
            all_goals (go_ret; exact ⟨retb (by (try simp only [hs2]); (first | (simp_all; done) | (simp_all; omega))), HB3.out⟩)
          · have q1 := (neb _ _ k1).1
            have q2 := (neb _ _ k2).1
            have q3 := (neb _ _ k3).1
            go_wp2
            all_goals (go_ret; exact ⟨retb (by simp_all), HB3.out⟩)
theorem rnode_any (f : Fl) (A1 A2 A3 : Option Addr) (c1 c2 c3 : Nat) (w : World) (hL : PA.Laid w) :
    Calls Tryz.prog 69 #[.agg #[.int .i64 f.zxid, .int .u8 f.kind, .int .i64 f.session, .int .i64 f.turn, .int .i64 f.xid, .int .i64 f.time, .string (mkS f.path), .slice A1 f.data.length c1, .int .i64 f.owner, .int .i64 f.version, .int .i64 f.cversion, .int .i64 f.timeout, .int .i64 f.err, .int .i64 f.cver, .slice A2 f.mems.length c2, .slice A3 f.np c3]] w fun e w' => e = .returned (.bool (docNode f)) ∧ Below w.heap.size w w' := by
  refine (rnode_core f.zxid f.kind f.session f.turn f.xid f.time f.owner f.version f.cversion f.timeout f.err f.cver f.path A1 A2 A3 f.data.length f.mems.length f.np c1 c2 c3 w _ _ _ rfl (fun w' => rbare_any f A1 A2 A3 c1 c2 c3 w') (fun w' hl => PA.refCheck_any f.path w' hl) hL).mono ?_
  rintro e w' ⟨rfl, hb⟩
  refine ⟨retb ?_, hb⟩
  unfold docNode
  rw [show (!decide (f.path = [47])) = decide (f.path ≠ [47]) by by_cases e : f.path = [47] <;> simp [e]]
end Go.Proofs.YtaeoafedfgbcaaaGreatDoor.DD
