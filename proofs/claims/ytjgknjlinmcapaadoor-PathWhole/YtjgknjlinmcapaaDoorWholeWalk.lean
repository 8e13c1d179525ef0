/- The walk of the stage's theorem: a right path is put together again of what stands over it and its last part, and going up from it one comes to the root. -/
import Derived.Test.YtjgknjlinmcapaaDoorWalksC
namespace Go.Proofs.YtjgknjlinmcapaaDoor
open Go.RowKit Go.Shelf

/- What one meets on the way up: the path of the first m parts. -/
def upTo (p : List UInt8) (m : Nat) : List UInt8 := pathOf ((parts p).take m)
theorem take_all {l : List (List UInt8)} (h : l.all isPart = true) (m : Nat) : (l.take m).all isPart = true := by
  rw [List.all_eq_true] at *
  exact fun x hx => h x (List.mem_of_mem_take hx)
theorem pathOf_prefix (l r : List (List UInt8)) (h : l ≠ []) : pathOf l <+: pathOf (l ++ r) := by
  rw [pathOf, if_neg h, pathOf, if_neg (by simp [h]), glue_append]
  exact List.prefix_append _ _
theorem upTo_full {p : List UInt8} (h : right p = true) : upTo p (parts p).length = p := by
  rw [upTo, List.take_length, ← right_eq h]
theorem upTo_zero (p : List UInt8) : upTo p 0 = [47] := rfl
theorem glue_len (l : List (List UInt8)) : l.length ≤ (glue l).length := by
  induction l with
  | nil => simp
  | cons a l ih => rw [glue_cons]; simp; omega
theorem parts_few {p : List UInt8} (h : right p = true) : (parts p).length ≤ 200 := by
  have h1 := right_len h
  by_cases e : parts p = []
  · rw [e]; simp
  · have h2 := right_eq h
    rw [pathOf, if_neg e] at h2
    have := glue_len (parts p)
    rw [h2] at h1
    omega
structure Step (p q : List UInt8) (m : Nat) : Prop where
  right : right q = true
  ne : q ≠ [47]
  parent : parentS q = upTo p (m - 1)
  join : joinS (parentS q) (lastS q) = q
  under : underS q p = true
  clean : 47 ∉ lastS q
  pre : q.isPrefixOf p = true
  llen : (lastS q).length ≤ 200
  self : q = p ∨ (q ≠ p ∧ underS p q = false)
theorem step_at {p : List UInt8} (h : right p = true) {m : Nat} (h0 : 0 < m) (hm : m ≤ (parts p).length) : Step p (upTo p m) m := by
  have hall := right_parts h
  have he := right_eq h
  have hlen := right_len h
  have ha := take_all hall m
  have hne : (parts p).take m ≠ [] := by
    intro e
    have := congrArg List.length e
    rw [List.length_take, List.length_nil] at this
    omega
  have hpre : upTo p m <+: p := by
    have := pathOf_prefix ((parts p).take m) ((parts p).drop m) hne
    rw [List.take_append_drop, ← he] at this
    exact this
  have hl : (upTo p m).length ≤ 200 := Nat.le_trans hpre.length_le hlen
  have hr : YtjgknjlinmcapaaDoor.right (upTo p m) = true := right_iff.2 ⟨_, ha, rfl, hl⟩
  have hpu : parts (upTo p m) = (parts p).take m := parts_pathOf ha
  obtain ⟨l, x, hlx⟩ : ∃ l x, (parts p).take m = l ++ [x] := by
    rcases List.eq_nil_or_concat ((parts p).take m) with e | ⟨l, x, e⟩
    · exact absurd e hne
    · exact ⟨l, x, by simpa using e⟩
  have hll : l = (parts p).take (m - 1) := by
    have h2 := congrArg List.length hlx
    rw [List.length_take, List.length_append, List.length_singleton] at h2
    have h3 : ((parts p).take m).take (m - 1) = (l ++ [x]).take (m - 1) := by rw [hlx]
    have h4 : l.length = m - 1 := by omega
    have h5 : min (m - 1) m = m - 1 := by omega
    rw [List.take_take, h5, ← h4, List.take_left] at h3
    rw [← h4]
    exact h3.symm
  have hal : (l ++ [x]).all isPart = true := by rw [← hlx]; exact ha
  have hlast : lastS (upTo p m) = x := by
    rw [upTo, hlx]; exact lastS_of hal (by rw [← hlx]; exact hl)
  have hx : isPart x = true := List.all_eq_true.1 hal x (by simp)
  have hpar : parentS (upTo p m) = pathOf l := by
    rw [parentS, if_neg (by rw [hlast]; exact isPart_ne hx), hpu, hlx, List.dropLast_concat]
  have hala : l.all isPart = true := by rw [List.all_append] at hal; simp at hal; simpa using hal.1
  have hparts : parts (pathOf l) = l := parts_pathOf hala
  have hplen : (pathOf l).length ≤ 200 := by
    rw [hll]
    by_cases e : (parts p).take (m - 1) = []
    · rw [e]; simp [pathOf]
    · have := pathOf_prefix ((parts p).take (m - 1)) ((parts p).drop (m - 1)) e
      rw [List.take_append_drop, ← he] at this
      exact Nat.le_trans this.length_le hlen
  refine ⟨hr, ?_, ?_, ?_, ?_, ?_, ?_, lastS_len, ?_⟩
  · intro e
    have := pathOf_root ha e
    exact hne this
  · rw [hpar, hll, upTo]
  · rw [hpar, hlast, joinS, if_pos, hparts, ← hlx]
    · rfl
    · rw [hparts, ← hlx]
      exact ⟨right_iff.2 ⟨_, hala, rfl, hplen⟩, hx, hr⟩
  · simp only [underS, hr, h, hpu, Bool.true_and, List.isPrefixOf_iff_prefix]
    exact List.take_prefix _ _
  · rw [hlast]; exact isPart_clean hx
  · rw [List.isPrefixOf_iff_prefix]; exact hpre
  · by_cases e : upTo p m = p
    · exact .inl e
    · refine .inr ⟨e, ?_⟩
      rw [← Bool.not_eq_true]
      intro g
      simp only [underS, hr, h, hpu, Bool.true_and, List.isPrefixOf_iff_prefix] at g
      have hg := g.length_le
      rw [List.length_take] at hg
      have : m = (parts p).length := by omega
      rw [this, upTo_full h] at e
      exact e rfl
theorem count_glue {l : List (List UInt8)} (h : Clean l) : (glue l).count 47 = l.length := by
  induction l with
  | nil => rfl
  | cons a l ih =>
    rw [glue_cons, List.count_cons, List.count_append, ih (fun x hx => h x (List.mem_cons_of_mem _ hx)), List.count_eq_zero_of_not_mem (h a (by simp))]
    simp
theorem count_parts {p : List UInt8} (h : right p = true) (hp : p ≠ [47]) : p.count 47 = (parts p).length := by
  have he := right_eq h
  have hne : parts p ≠ [] := by
    intro e
    rw [e] at he
    exact hp he
  rw [pathOf, if_neg hne] at he
  have := count_glue (all_clean (right_parts h))
  rw [← he] at this
  exact this
theorem index_clean (t : List UInt8) (h : 47 ∉ t) : Lib.indexByte t 47 = -1 := by
  induction t with
  | nil => rfl
  | cons c t ih =>
    simp only [List.mem_cons, not_or] at h
    rw [Lib.indexByte, ih h.2]
    have : (c == 47) = false := by simp [Ne.symm h.1]
    rw [this]; rfl
theorem contains_k (t : List UInt8) (h : 47 ∉ t) (w : World) :
    Calls Tryd.prog 23 #[.string (mkS t), .string ⟨#[47]⟩] w fun e w' => e = .returned (.bool false) ∧ w' = w := by
  refine (Tryd.strings_Contains_one (mkS t) 47 w).mono ?_
  rintro e w' ⟨rfl, rfl⟩
  rw [mkS_list, index_clean t h]
  exact ⟨rfl, rfl⟩
theorem count_k (t : List UInt8) (c : Nat) (h : t.count 47 = c) (w : World) :
    Calls Tryd.prog 25 #[.string (mkS t), .string ⟨#[47]⟩] w fun e w' => e = .returned (.int .i64 c) ∧ w' = w := by
  refine (Tryd.strings_Count_one (mkS t) 47 w).mono ?_
  rintro e w' ⟨rfl, rfl⟩
  rw [mkS_list, Lib.countByte, h]
  exact ⟨rfl, rfl⟩

def measN : Value → Nat
  | .int _ k => 1000 - k.toNat
  | _ => 0
set_option maxRecDepth 100000 in
set_option maxHeartbeats 4000000 in
theorem whole_any (p : List UInt8) (w0 w : World) (hT : Tab w0) (hk : Kept w0 w) :
    Calls Tryd.prog 6 #[.string (mkS p)] w fun e w' => e = .returned (.bool true) ∧ Kept w0 w' := by
  cases hr : right p with
  | false =>
    have hl := lastS_not hr
    have hpa : parentS p = [] := by rw [parentS, if_pos hl]
    have hu1 : underS p p = false := by simp [underS, hr]
    have hu2 : underS [47] p = false := by simp [underS, hr]
    have z := mkS_toList []
    go_enter Tryd.func6, Tryd.ntmps6
    go_wp2_with fail
    refine (awake_k w0 _ hT hk).mono ?_
    rintro e w1 ⟨rfl, hk1⟩
    go_wp2_with fail
    refine (check_k p false hr w0 _ hk1).mono ?_
    rintro e w2 ⟨rfl, hk2⟩
    go_wp2_with fail
    refine (parent_k p w0 _ hk2).mono ?_
    rintro e w3 ⟨rfl, hk3⟩
    rw [hpa]
    go_wp2_with fail
    refine (base_k p w0 _ hk3).mono ?_
    rintro e w4 ⟨rfl, hk4⟩
    rw [hl]
    go_wp2_with fail
    refine (under_k p p w0 _ hk4).mono ?_
    rintro e w5 ⟨rfl, hk5⟩
    rw [hu1]
    go_wp2_with fail
    refine (under_k [47] p w0 _ hk5).mono ?_
    rintro e w6 ⟨rfl, hk6⟩
    rw [hu2]
    go_wp2
    go_ret
    exact ⟨rfl, hk6⟩
  | true =>
    have hfew := parts_few hr
    have hfull := upTo_full hr
    go_enter Tryd.func6, Tryd.ntmps6
    go_wp2_with fail
    refine (awake_k w0 _ hT hk).mono ?_
    rintro e w1 ⟨rfl, hk1⟩
    go_wp2_with fail
    refine (check_k p true hr w0 _ hk1).mono ?_
    rintro e w2 ⟨rfl, hk2⟩
    go_wp2_with fail
    go_loopw [3, 4] (fun n q wr => ∃ m, m ≤ (parts p).length ∧ n = .int .i64 (((parts p).length - m : Nat) : Int) ∧ q = .string (mkS (upTo p m)) ∧ Kept w0 wr) (fun n _ _ => measN n)
    case atStart => exact ⟨(parts p).length, Nat.le_refl _, by simp, by rw [hfull], hk2⟩
    case round =>
      obtain ⟨m, hm, rfl, rfl, hks⟩ := hrel
      by_cases hm0 : m = 0
      · subst hm0
        rw [upTo_zero]
        have z := mkS_toList [47]
        clear hfull
        by_cases hp : p = [47]
        · subst hp
          go_wp2_with fail
          refine (count_k [47] 1 (by decide) _).mono ?_
          rintro e w3 ⟨rfl, rfl⟩
          go_wp2
          go_ret
          exact ⟨rfl, hks⟩
        · have hc := count_parts hr hp
          go_wp2_with fail
          refine (count_k p _ hc _).mono ?_
          rintro e w3 ⟨rfl, rfl⟩
          go_wp2
          go_ret
          exact ⟨rfl, hks⟩
      · have St := step_at hr (Nat.pos_of_ne_zero hm0) hm
        have t1 : ¬ (200 : Int) < (((parts p).length - m : Nat) : Int) := by omega
        generalize upTo p m = q at St
        have q0 := toList_test q [47] false (by simp [St.ne])
        clear hfull
        rcases St.self with hqp | ⟨hqp, hun⟩
        · subst hqp
          go_wp2_with fail
          refine (check_k q true St.right w0 _ hks).mono ?_
          rintro e w3 ⟨rfl, hk3⟩
          go_wp2_with fail
          refine (parent_k q w0 _ hk3).mono ?_
          rintro e w4 ⟨rfl, hk4⟩
          go_wp2_with fail
          refine (base_k q w0 _ hk4).mono ?_
          rintro e w5 ⟨rfl, hk5⟩
          go_wp2_with fail
          refine (join_k _ _ (Nat.le_trans St.llen (by decide)) w0 _ hk5).mono ?_
          rintro e w6 ⟨rfl, hk6⟩
          rw [St.join]
          go_wp2_with fail
          refine (under_k q q w0 _ hk6).mono ?_
          rintro e w7 ⟨rfl, hk7⟩
          rw [St.under]
          go_wp2_with fail
          refine (base_k q w0 _ hk7).mono ?_
          rintro e w8 ⟨rfl, hk8⟩
          go_wp2_with fail
          refine (contains_k _ St.clean _).mono ?_
          rintro e w9 ⟨rfl, rfl⟩
          go_wp2_with fail
          refine (hasPrefix_any q q true St.pre _).mono ?_
          rintro e w10 ⟨rfl, rfl⟩
          go_wp2_with fail
          refine (parent_k q w0 _ hk8).mono ?_
          rintro e w11 ⟨rfl, hk11⟩
          rw [St.parent]
          go_wp2
          go_roundw
          case rel => exact ⟨m - 1, by omega, by congr 1; omega, rfl, hk11⟩
          case measure => simp only [measN]; omega
        · have q1 : ¬ (mkS q).toList = (mkS p).toList := by rw [mkS_toList, mkS_toList]; exact hqp
          go_wp2_with fail
          refine (check_k q true St.right w0 _ hks).mono ?_
          rintro e w3 ⟨rfl, hk3⟩
          go_wp2_with fail
          refine (parent_k q w0 _ hk3).mono ?_
          rintro e w4 ⟨rfl, hk4⟩
          go_wp2_with fail
          refine (base_k q w0 _ hk4).mono ?_
          rintro e w5 ⟨rfl, hk5⟩
          go_wp2_with fail
          refine (join_k _ _ (Nat.le_trans St.llen (by decide)) w0 _ hk5).mono ?_
          rintro e w6 ⟨rfl, hk6⟩
          rw [St.join]
          go_wp2_with fail
          refine (under_k q p w0 _ hk6).mono ?_
          rintro e w7 ⟨rfl, hk7⟩
          rw [St.under]
          go_wp2_with fail
          refine (under_k p q w0 _ hk7).mono ?_
          rintro e w7b ⟨rfl, hk7b⟩
          rw [hun]
          go_wp2_with fail
          refine (base_k q w0 _ hk7b).mono ?_
          rintro e w8 ⟨rfl, hk8⟩
          go_wp2_with fail
          refine (contains_k _ St.clean _).mono ?_
          rintro e w9 ⟨rfl, rfl⟩
          go_wp2_with fail
          refine (hasPrefix_any p q true St.pre _).mono ?_
          rintro e w10 ⟨rfl, rfl⟩
          go_wp2_with fail
          refine (parent_k q w0 _ hk8).mono ?_
          rintro e w11 ⟨rfl, hk11⟩
          rw [St.parent]
          go_wp2
          go_roundw
          case rel => exact ⟨m - 1, by omega, by congr 1; omega, rfl, hk11⟩
          case measure => simp only [measN]; omega
end Go.Proofs.YtjgknjlinmcapaaDoor
