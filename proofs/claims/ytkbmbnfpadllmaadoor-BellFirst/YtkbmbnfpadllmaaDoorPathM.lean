/- Plain mathematics of paths: rows of bytes, their parts, and how paths are put together; no program in this text. -/
import Derived.Lib.IndexMore
import Derived.Lib.Split
import Derived.Test.YtkbmbnfpadllmaaDoorBase
namespace Go.Proofs.YtkbmbnfpadllmaaDoor.PA

theorem mkS_list (l : List UInt8) : (mkS l).data.toList = l := by simp [mkS]
theorem mkS_of (b : ByteArray) : ∃ l, b = mkS l := ⟨b.data.toList, by cases b; simp [mkS]⟩
theorem mkS_size (l : List UInt8) : (mkS l).size = l.length := by simp [mkS, ByteArray.size]
theorem mkS_inj {a b : List UInt8} (h : mkS a = mkS b) : a = b := by
  have := congrArg (fun x : ByteArray => x.data.toList) h
  simpa [mkS] using this
theorem mkS_eq (a b : List UInt8) : (mkS a = mkS b) = (a = b) := propext ⟨mkS_inj, fun h => by rw [h]⟩
theorem mkS_append (a b : List UInt8) : mkS a ++ mkS b = mkS (a ++ b) := by
  apply ByteArray.ext; simp [mkS]
theorem mkS_extract (l : List UInt8) (i j : Nat) : (mkS l).extract i j = mkS ((l.take j).drop i) := by
  apply ByteArray.ext
  simp [mkS, ByteArray.data_extract, List.extract_eq_take_drop, List.drop_take]

def okByte (c : UInt8) : Bool := decide (33 ≤ c.toNat) && decide (c.toNat ≤ 126) && decide (c ≠ 47)
def isPart (t : List UInt8) : Bool := t.all okByte && (decide (t ≠ []) && decide (t ≠ [46]) && decide (t ≠ [46, 46]))

def splits : List UInt8 → List (List UInt8)
  | [] => [[]]
  | c :: t => if c = 47 then [] :: splits t else (c :: (splits t).headD []) :: (splits t).tail
theorem splits_ne (t : List UInt8) : splits t ≠ [] := by
  cases t with
  | nil => simp [splits]
  | cons c t => unfold splits; split <;> simp
theorem splits_cons (t : List UInt8) : splits t = (splits t).headD [] :: (splits t).tail := by
  have := splits_ne t
  cases h : splits t with
  | nil => exact absurd h this
  | cons a r => rfl
theorem splits_no (t : List UInt8) (h : 47 ∉ t) : splits t = [t] := by
  induction t with
  | nil => rfl
  | cons c t ih =>
    simp only [List.mem_cons, not_or] at h
    unfold splits
    rw [if_neg (fun e => h.1 e.symm), ih h.2]
    rfl
theorem splits_hit (a b : List UInt8) (h : 47 ∉ a) : splits (a ++ 47 :: b) = a :: splits b := by
  induction a with
  | nil => simp [splits]
  | cons c a ih =>
    simp only [List.mem_cons, not_or] at h
    rw [List.cons_append, splits, if_neg (fun e => h.1 e.symm), ih h.2]
    rfl

def glue (l : List (List UInt8)) : List UInt8 := l.flatMap (fun t => 47 :: t)
theorem glue_nil : glue [] = [] := rfl
theorem glue_cons (a : List UInt8) (l : List (List UInt8)) : glue (a :: l) = 47 :: (a ++ glue l) := by simp [glue]
theorem glue_append (a b : List (List UInt8)) : glue (a ++ b) = glue a ++ glue b := by simp [glue]
theorem glue_one (a : List UInt8) : glue [a] = 47 :: a := by simp [glue]
theorem glue_eq_nil {l : List (List UInt8)} (h : glue l = []) : l = [] := by
  cases l with
  | nil => rfl
  | cons a l => simp [glue_cons] at h
theorem glue_splits (t : List UInt8) : glue (splits t) = 47 :: t := by
  induction t with
  | nil => rfl
  | cons c t ih =>
    unfold splits
    split
    · rename_i h
      subst h
      rw [glue_cons, ih]; rfl
    · rw [splits_cons t, glue_cons] at ih
      rw [glue_cons]
      simp only [List.cons.injEq, true_and, List.cons_append] at ih ⊢
      exact ih
def Clean (l : List (List UInt8)) : Prop := ∀ x ∈ l, 47 ∉ x
theorem splits_glue (a : List UInt8) (l : List (List UInt8)) (h : Clean (a :: l)) : splits (a ++ glue l) = a :: l := by
  induction l generalizing a with
  | nil => rw [glue_nil, List.append_nil]; exact splits_no a (h a (by simp))
  | cons b l ih =>
    rw [glue_cons, splits_hit a _ (h a (by simp)), ih b (fun x hx => h x (List.mem_cons_of_mem _ hx))]
theorem splits_clean (t : List UInt8) : Clean (splits t) := by
  induction t with
  | nil => intro x hx; simp [splits] at hx; subst hx; simp
  | cons c t ih =>
    unfold splits
    split
    · intro x hx
      simp only [List.mem_cons] at hx
      rcases hx with rfl | hx
      · simp
      · exact ih x hx
    · rename_i hc
      rw [splits_cons t] at ih
      intro x hx
      simp only [List.mem_cons] at hx
      rcases hx with rfl | hx
      · simp only [List.mem_cons, not_or]
        exact ⟨fun e => hc e.symm, ih _ (by simp)⟩
      · exact ih x (List.mem_cons_of_mem _ hx)

def tailParts (t : List UInt8) : List (List UInt8) := if t = [] then [] else splits t
def parts (p : List UInt8) : List (List UInt8) := tailParts p.tail
def pathOf (l : List (List UInt8)) : List UInt8 := if l = [] then [47] else glue l
def right (p : List UInt8) : Bool := decide (p.length ≤ 200) && (decide (p.head? = some 47) && (parts p).all isPart)

theorem isPart_clean {t : List UInt8} (h : isPart t = true) : 47 ∉ t := by
  simp only [isPart, Bool.and_eq_true, List.all_eq_true] at h
  intro hm
  have := h.1 47 hm
  simp [okByte] at this
theorem isPart_ne {t : List UInt8} (h : isPart t = true) : t ≠ [] := by
  rintro rfl; simp [isPart] at h
theorem all_clean {l : List (List UInt8)} (h : l.all isPart = true) : Clean l := fun x hx => isPart_clean (List.all_eq_true.1 h x hx)
theorem parts_pathOf {l : List (List UInt8)} (h : l.all isPart = true) : parts (pathOf l) = l := by
  cases l with
  | nil => rfl
  | cons a l =>
    have ha : isPart a = true := List.all_eq_true.1 h a (by simp)
    simp only [pathOf, if_neg (show a :: l ≠ [] by simp), glue_cons, parts, List.tail_cons, tailParts]
    rw [if_neg (by intro e; exact isPart_ne ha (by simpa using (List.append_eq_nil_iff.1 e).1))]
    exact splits_glue a l (all_clean h)
theorem pathOf_head (l : List (List UInt8)) : (pathOf l).head? = some 47 := by
  cases l with
  | nil => rfl
  | cons a l => simp [pathOf, glue_cons]
theorem right_pathOf {l : List (List UInt8)} (h : l.all isPart = true) : right (pathOf l) = decide ((pathOf l).length ≤ 200) := by
  simp [right, parts_pathOf h, h, pathOf_head]
theorem right_len {p : List UInt8} (h : right p = true) : p.length ≤ 200 := by
  simp [right] at h; exact h.1
theorem right_parts {p : List UInt8} (h : right p = true) : (parts p).all isPart = true := by
  simp only [right, Bool.and_eq_true] at h; exact h.2.2
theorem right_eq {p : List UInt8} (h : right p = true) : p = pathOf (parts p) := by
  simp only [right, Bool.and_eq_true, decide_eq_true_eq] at h
  obtain ⟨_, hh, _⟩ := h
  cases p with
  | nil => simp at hh
  | cons c t =>
    simp at hh
    subst hh
    cases t with
    | nil => rfl
    | cons d t =>
      have : parts (47 :: d :: t) = splits (d :: t) := rfl
      rw [this, pathOf, if_neg (splits_ne _), glue_splits]
theorem right_iff {p : List UInt8} : right p = true ↔ ∃ l, l.all isPart = true ∧ p = pathOf l ∧ (pathOf l).length ≤ 200 :=
  ⟨fun h => ⟨parts p, right_parts h, right_eq h, by rw [← right_eq h]; exact right_len h⟩, fun ⟨l, h1, h2, h3⟩ => by rw [h2, right_pathOf h1]; exact decide_eq_true h3⟩
theorem right_root : right [47] = true := by decide

/- What the program puts behind a path ahead of a part. -/
def belowS (p : List UInt8) : List UInt8 := if p = [47] then [47] else p ++ [47]
theorem pathOf_root {l : List (List UInt8)} (h : l.all isPart = true) (e : pathOf l = [47]) : l = [] := by
  have := congrArg parts e
  rw [parts_pathOf h] at this
  rw [this]; rfl
theorem belowS_pathOf {l : List (List UInt8)} (h : l.all isPart = true) : belowS (pathOf l) = glue l ++ [47] := by
  unfold belowS
  split
  · rename_i e
    rw [pathOf_root h e]; rfl
  · rename_i e
    have : l ≠ [] := by rintro rfl; exact e rfl
    rw [pathOf, if_neg this]
theorem below_part {l : List (List UInt8)} (h : l.all isPart = true) (n : List UInt8) : belowS (pathOf l) ++ n = pathOf (l ++ [n]) := by
  rw [belowS_pathOf h, pathOf, if_neg (by simp), glue_append, glue_one]
  simp

def lastS (p : List UInt8) : List UInt8 := if right p = true then (parts p).getLastD [] else []
def parentS (p : List UInt8) : List UInt8 := if lastS p = [] then [] else pathOf (parts p).dropLast
def joinS (p n : List UInt8) : List UInt8 := if right p = true ∧ isPart n = true ∧ right (pathOf (parts p ++ [n])) = true then pathOf (parts p ++ [n]) else []
def underS (a b : List UInt8) : Bool := right a && right b && (parts a).isPrefixOf (parts b)

theorem lastS_of {l : List (List UInt8)} {x : List UInt8} (h : (l ++ [x]).all isPart = true) (hl : (pathOf (l ++ [x])).length ≤ 200) : lastS (pathOf (l ++ [x])) = x := by
  rw [lastS, if_pos (right_iff.2 ⟨_, h, rfl, hl⟩), parts_pathOf h]; simp
theorem lastS_root : lastS [47] = [] := by decide
theorem lastS_not {p : List UInt8} (h : right p = false) : lastS p = [] := by simp [lastS, h]
theorem lastS_ne {p : List UInt8} (h : lastS p ≠ []) : ∃ l x, right p = true ∧ p = glue l ++ 47 :: x ∧ parts p = l ++ [x] ∧ (l ++ [x]).all isPart = true ∧ lastS p = x := by
  have hr : right p = true := by
    cases hq : right p with
    | true => rfl
    | false => exact absurd (lastS_not hq) h
  have hp := right_parts hr
  have he := right_eq hr
  rw [lastS, if_pos hr] at h ⊢
  rcases List.eq_nil_or_concat (parts p) with e | ⟨l, x, e⟩
  · rw [e] at h; exact absurd rfl h
  · simp only [List.concat_eq_append] at e
    rw [e] at hp he ⊢
    refine ⟨l, x, hr, ?_, rfl, hp, by simp⟩
    rw [pathOf, if_neg (by simp), glue_append, glue_one] at he
    exact he
/- What the program cuts off a path is what stands over it. -/
theorem head_cut {p : List UInt8} (h : lastS p ≠ []) : ∃ l, p.take (p.length - (lastS p).length - 1) = glue l ∧ parentS p = (if glue l = [] then [47] else glue l) ∧ (lastS p).length + 1 ≤ p.length := by
  obtain ⟨l, x, hr, hp, hq, ha, hx⟩ := lastS_ne h
  refine ⟨l, ?_, ?_, ?_⟩
  · rw [hx, hp]
    have : (glue l ++ 47 :: x).length - x.length - 1 = (glue l).length := by simp; omega
    rw [this, List.take_left]
  · rw [parentS, if_neg h, hq, List.dropLast_concat, pathOf]
    by_cases e : l = []
    · subst e; rfl
    · rw [if_neg e, if_neg (fun g => e (glue_eq_nil g))]
  · rw [hx, hp]; simp

theorem prefix_part {x y u v : List UInt8} (hx : 47 ∉ x) (hy : 47 ∉ y) (hv : v = [] ∨ ∃ r, v = 47 :: r) (h : x ++ 47 :: u <+: y ++ v) : x = y ∧ 47 :: u <+: v := by
  induction x generalizing y with
  | nil =>
    cases y with
    | nil => exact ⟨rfl, by simpa using h⟩
    | cons c y =>
      simp only [List.nil_append, List.cons_append, List.cons_prefix_cons] at h
      exact absurd (by rw [← h.1]; simp) hy
  | cons c x ih =>
    simp only [List.mem_cons, not_or] at hx
    cases y with
    | nil =>
      rcases hv with rfl | ⟨r, rfl⟩
      · simp at h
      · simp only [List.nil_append, List.cons_append, List.cons_prefix_cons] at h
        exact absurd h.1.symm hx.1
    | cons d y =>
      simp only [List.mem_cons, not_or] at hy
      simp only [List.cons_append, List.cons_prefix_cons] at h
      obtain ⟨e, f⟩ := ih hx.2 hy.2 h.2
      exact ⟨by rw [h.1, e], f⟩
theorem glue_shape (l : List (List UInt8)) : glue l = [] ∨ ∃ r, glue l = 47 :: r := by
  cases l with
  | nil => exact .inl rfl
  | cons a l => exact .inr ⟨_, glue_cons a l⟩
theorem glue_prefix {a b : List (List UInt8)} (ha : Clean a) (hb : Clean b) (h : glue a ++ [47] <+: glue b) : a <+: b := by
  induction a generalizing b with
  | nil => exact List.nil_prefix
  | cons x a ih =>
    cases b with
    | nil => rw [glue_cons, glue_nil] at h; simp at h
    | cons y b =>
      rw [glue_cons, glue_cons, List.cons_append, List.cons_prefix_cons] at h
      have h2 := h.2
      have : ∃ u, glue a ++ [47] = 47 :: u := by
        rcases glue_shape a with e | ⟨r, e⟩ <;> rw [e] <;> exact ⟨_, rfl⟩
      obtain ⟨u, hu⟩ := this
      rw [List.append_assoc, hu] at h2
      obtain ⟨rfl, h3⟩ := prefix_part (ha x (by simp)) (hb y (by simp)) (glue_shape b) h2
      rw [← hu] at h3
      exact List.cons_prefix_cons.2 ⟨rfl, ih (fun z hz => ha z (List.mem_cons_of_mem _ hz)) (fun z hz => hb z (List.mem_cons_of_mem _ hz)) h3⟩
/- The program's test for being under: the same text, or a text that goes on behind a slash. -/
theorem under_test {a b : List UInt8} (ha : right a = true) (hb : right b = true) : (decide (a = b) || (belowS a).isPrefixOf b) = (parts a).isPrefixOf (parts b) := by
  have pa := right_parts ha; have pb := right_parts hb
  have ea := right_eq ha; have eb := right_eq hb
  generalize parts a = la at pa ea ⊢
  generalize parts b = lb at pb eb ⊢
  subst ea; subst eb
  rw [Bool.eq_iff_iff]
  simp only [Bool.or_eq_true, decide_eq_true_eq, List.isPrefixOf_iff_prefix]
  rw [belowS_pathOf pa]
  constructor
  · rintro (h | h)
    · have := congrArg parts h
      rw [parts_pathOf pa, parts_pathOf pb] at this
      rw [this]; exact List.prefix_refl _
    · by_cases e : lb = []
      · subst e
        have h2 := h.length_le
        simp [pathOf] at h2
        rw [glue_eq_nil h2]; exact List.nil_prefix
      · rw [pathOf, if_neg e] at h
        exact glue_prefix (all_clean pa) (all_clean pb) h
  · rintro ⟨r, rfl⟩
    cases r with
    | nil => left; simp
    | cons x r =>
      right
      rw [pathOf, if_neg (by simp), glue_append, glue_cons]
      exact ⟨x ++ glue r, by simp⟩

/- How strings.Cut takes the first part off. -/
theorem cut_nil : Lib.cut [] [47] = ([], [], false) := by decide
theorem index_hit (t : List UInt8) : Lib.index (47 :: t) [47] = 0 := by simp [Lib.index]
theorem index_skip (c : UInt8) (t : List UInt8) (h : c ≠ 47) : Lib.index (c :: t) [47] = if Lib.index t [47] = -1 then -1 else Lib.index t [47] + 1 := by
  have : ([47] : List UInt8).isPrefixOf (c :: t) = false := by simp [List.isPrefixOf, Ne.symm h]
  rw [Lib.index, this]; simp
theorem cut_hit (a b : List UInt8) (h : 47 ∉ a) : Lib.index (a ++ 47 :: b) [47] = a.length := by
  induction a with
  | nil => simp [index_hit]
  | cons c a ih =>
    simp only [List.mem_cons, not_or] at h
    rw [List.cons_append, index_skip c _ (fun e => h.1 e.symm), ih h.2, if_neg (by omega)]
    simp
theorem cut_miss (a : List UInt8) (h : 47 ∉ a) : Lib.index a [47] = -1 := by
  induction a with
  | nil => simp [Lib.index]
  | cons c a ih =>
    simp only [List.mem_cons, not_or] at h
    rw [index_skip c _ (fun e => h.1 e.symm), ih h.2]; rfl
theorem mem_parts (t : List UInt8) (h : 47 ∈ t) : ∃ a b, t = a ++ 47 :: b ∧ 47 ∉ a := by
  induction t with
  | nil => simp at h
  | cons c t ih =>
    by_cases e : c = 47
    · subst e; exact ⟨[], t, rfl, by simp⟩
    · have : 47 ∈ t := by
        rcases List.mem_cons.1 h with h | h
        · exact absurd h.symm e
        · exact h
      obtain ⟨a, b, hb, ha⟩ := ih this
      exact ⟨c :: a, b, by rw [hb]; rfl, by simp only [List.mem_cons, not_or]; exact ⟨fun q => e q.symm, ha⟩⟩
theorem cut_splits (t : List UInt8) : ((Lib.cut t [47]).2.2 = true ∧ splits t = (Lib.cut t [47]).1 :: splits (Lib.cut t [47]).2.1 ∧ (Lib.cut t [47]).2.1.length < t.length) ∨ ((Lib.cut t [47]).2.2 = false ∧ splits t = [(Lib.cut t [47]).1] ∧ (Lib.cut t [47]).2.1 = []) := by
  by_cases h : 47 ∈ t
  · obtain ⟨a, b, rfl, ha⟩ := mem_parts t h
    left
    have hi := cut_hit a b ha
    have hc : Lib.cut (a ++ 47 :: b) [47] = (a, b, true) := by
      unfold Lib.cut
      rw [hi, if_pos (by omega)]
      simp [List.drop_append, List.drop_eq_nil_of_le]
    rw [hc]
    exact ⟨rfl, splits_hit a b ha, by simp; omega⟩
  · right
    have hc : Lib.cut t [47] = (t, [], false) := by
      unfold Lib.cut
      rw [cut_miss t h, if_neg (by omega)]
    rw [hc]
    exact ⟨rfl, splits_no t h, rfl⟩
end Go.Proofs.YtkbmbnfpadllmaaDoor.PA
