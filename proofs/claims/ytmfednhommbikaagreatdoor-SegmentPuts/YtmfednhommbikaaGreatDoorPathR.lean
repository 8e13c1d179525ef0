/- The walks of the document's own answers (package beadleref02): what is a part, the parts of a text, whether a text is a path. -/
import Derived.Test.YtmfednhommbikaaGreatDoorPathW
import Derived.Test.YtmfednhommbikaaGreatDoorShelfS
namespace Go.Proofs.YtmfednhommbikaaGreatDoor.PA
open Go.RowKit Go.Shelf

theorem splitB_splits (k : Nat) (t : List UInt8) (h : t.count 47 ≤ k) : Lib.splitB ⟨#[47]⟩ 0 k (mkS t) = (splits t).map mkS := by
  induction k generalizing t with
  | zero =>
    have : 47 ∉ t := List.count_eq_zero.1 (by omega)
    rw [splits_no t this]; rfl
  | succ k ih =>
    by_cases hm : 47 ∈ t
    · obtain ⟨a, b, rfl, ha⟩ := mem_parts t hm
      have hi : Lib.indexB (mkS (a ++ 47 :: b)) ⟨#[47]⟩ = a.length := by
        show Lib.index (mkS (a ++ 47 :: b)).data.toList [47] = _
        rw [mkS_list]; exact cut_hit a b ha
      rw [Lib.splitB_hit _ _ _ _ _ hi, splits_hit a b ha, mkS_extract, mkS_extract, mkS_size]
      have e1 : (List.take (a.length + 0) (a ++ 47 :: b)).drop 0 = a := by simp
      have e2 : (List.take (a ++ 47 :: b).length (a ++ 47 :: b)).drop (a.length + (ByteArray.mk #[47]).size) = b := by
        rw [List.take_length, show (ByteArray.mk #[47]).size = 1 from rfl, List.drop_append]
        simp
      rw [e1, e2, ih b (by rw [List.count_append, List.count_cons] at h; simp at h; omega)]
      rfl
    · have hi : Lib.indexB (mkS t) ⟨#[47]⟩ = -1 := by
        show Lib.index (mkS t).data.toList [47] = _
        rw [mkS_list]; exact cut_miss t hm
      rw [Lib.splitB_miss _ _ _ _ hi, splits_no t hm]; rfl
theorem splits_length (t : List UInt8) : (splits t).length = t.count 47 + 1 := by
  induction t with
  | nil => rfl
  | cons c t ih =>
    have hne := splits_ne t
    have hp : 0 < (splits t).length := List.length_pos_iff.2 hne
    unfold splits
    split
    · rename_i h; subst h; simp [ih]
    · rename_i h; simp [h]; omega
theorem countB_count (t : List UInt8) : Lib.countB (mkS t) ⟨#[47]⟩ = t.count 47 := by
  generalize hn : t.length = n
  induction n using Nat.strongRecOn generalizing t with
  | _ n ih =>
    by_cases hm : 47 ∈ t
    · obtain ⟨a, b, rfl, ha⟩ := mem_parts t hm
      have hi : Lib.indexB (mkS (a ++ 47 :: b)) ⟨#[47]⟩ = a.length := by
        show Lib.index (mkS (a ++ 47 :: b)).data.toList [47] = _
        rw [mkS_list]; exact cut_hit a b ha
      rw [Lib.countB_hit _ _ _ (by decide) hi, mkS_extract, mkS_size]
      have e2 : (List.take (a ++ 47 :: b).length (a ++ 47 :: b)).drop (a.length + (ByteArray.mk #[47]).size) = b := by
        rw [List.take_length, show (ByteArray.mk #[47]).size = 1 from rfl, List.drop_append]
        simp
      rw [e2, ih b.length (by rw [← hn]; simp; omega) b rfl, List.count_append, List.count_cons, List.count_eq_zero.2 ha]
      simp; omega
    · have hi : Lib.indexB (mkS t) ⟨#[47]⟩ = -1 := by
        show Lib.index (mkS t).data.toList [47] = _
        rw [mkS_list]; exact cut_miss t hm
      rw [Lib.countB_miss _ _ hi, List.count_eq_zero.2 hm]

theorem toList_test (p q : List UInt8) (b : Bool) (h : decide (p = q) = b) : ((mkS p).toList == q) = b := by
  rw [mkS_toList, ← h, Bool.eq_iff_iff]; simp
/- A row of texts in one block of memory. -/
def rowOf (l : List (List UInt8)) : Array Value := (l.map fun t => Value.string (mkS t)).toArray
theorem split_k (t : List UInt8) (ht : t.length ≤ 200) (w0 w : World) (h : Kept w0 w) :
    Calls Tryz.prog 113 #[.string (mkS t), .string ⟨#[47]⟩] w fun e w' => ∃ b, e = .returned (.slice (some ⟨b, 0, none⟩) (splits t).length (splits t).length) ∧ w'.heap[b]? = some (.cells (rowOf (splits t)) 9) ∧ w0.heap.size ≤ b ∧ Kept w0 w' := by
  obtain ⟨m, hm⟩ := h.laid.one
  refine (Tryz.strings_Split (mkS t) ⟨#[47]⟩ m w (by rw [mkS_size]; omega) hm (by decide)).mono ?_
  rintro e w' ⟨rfl, rfl⟩
  rw [countB_count, splitB_splits _ t (Nat.le_refl _), splits_length]
  refine ⟨w.heap.size, rfl, ?_, h.below.size, h.go (newBelow w _)⟩
  rw [World.alloc_heap_new, rowOf, List.map_map]; rfl
theorem glue_mem {l : List (List UInt8)} {x : List UInt8} (h : x ∈ l) : x.length + 1 ≤ (glue l).length := by
  induction l with
  | nil => cases h
  | cons a l ih =>
    rw [glue_cons]
    rcases List.mem_cons.1 h with rfl | h
    · simp
    · have := ih h
      simp; omega
theorem splits_mem {t x : List UInt8} (h : x ∈ splits t) : x.length ≤ t.length := by
  have := glue_mem h
  rw [glue_splits] at this
  simp at this; omega

theorem byteFacts (t : List UInt8) (i : Nat) (h : i < t.length) :
    (okByte (t[i]'h) = true ∧ ∃ c : Nat, (t[i]'h).toNat = c ∧ 33 ≤ c ∧ c ≤ 126 ∧ c ≠ 47) ∨ (okByte (t[i]'h) = false ∧ ∃ c : Nat, (t[i]'h).toNat = c ∧ (c < 33 ∨ (33 ≤ c ∧ 126 < c) ∨ c = 47)) := by
  have e47 : (t[i]'h = 47) ↔ (t[i]'h).toNat = 47 := by
    constructor
    · intro e; rw [e]; rfl
    · intro e; exact UInt8.toNat.inj e
  cases hk : okByte (t[i]'h) with
  | true =>
    simp only [okByte, Bool.and_eq_true, decide_eq_true_eq, ne_eq, e47] at hk
    exact .inl ⟨rfl, _, rfl, hk.1.1, hk.1.2, hk.2⟩
  | false =>
    simp only [okByte, Bool.and_eq_false_iff, decide_eq_false_iff_not, ne_eq, e47] at hk
    exact .inr ⟨rfl, _, rfl, by omega⟩

set_option maxRecDepth 100000 in
set_option maxHeartbeats 2000000 in
theorem refPart_any (t : List UInt8) (ht : t.length ≤ 1000) (b : Bool) (hb : isPart t = b) (w : World) :
    Calls Tryz.prog 114 #[.string (mkS t)] w fun e w' => e = .returned (.bool b) ∧ w' = w := by
  have hs := mkS_size t
  go_enter Tryz.func114, Tryz.ntmps114
  go_wp2
  go_loop [3] (fun i => ∃ pos : Nat, i = .int .i64 pos ∧ pos ≤ t.length ∧ ∀ j (hj : j < t.length), j < pos → okByte (t[j]'hj) = true) (fun i => t.length - (intOf i).toNat)
  case atStart => exact ⟨0, rfl, by omega, fun j _ h => by omega⟩
  case round =>
    obtain ⟨pos, rfl, hle, hok⟩ := hrel
    by_cases hp : pos < t.length
    · have hp' : pos < (mkS t).size := by rw [mkS_size]; exact hp
      have hg := mkS_get t pos hp hp'
      rcases byteFacts t pos hp with ⟨hk, c, hc, h1, h2, h3⟩ | ⟨hk, c, hc, h1⟩
      · have t1 : ¬ ((c : Int) < 33) := by omega
        have t2 : ¬ ((126 : Int) < c) := by omega
        have t3 : ((c : Int) == 47) = false := by simp; omega
        go_wp2
        refine ⟨⟨pos + 1, by simp, by omega, fun j hj hlt => ?_⟩, by simp [intOf]; omega⟩
        rcases Nat.lt_succ_iff_lt_or_eq.1 hlt with e | e
        · exact hok j hj e
        · subst e; exact hk
      · have hf : isPart t = false := by rw [isPart, all_false_at t pos hp hk]; rfl
        have hbf : b = false := by rw [← hb, hf]
        clear hb
        subst hbf
        rcases h1 with h1 | ⟨h1, h2⟩ | h1
        · have t1 : ((c : Int) < 33) := by omega
          go_wp2
          go_ret
          exact ⟨rfl, rfl⟩
        · have t1 : ¬ ((c : Int) < 33) := by omega
          have t2 : ((126 : Int) < c) := by omega
          go_wp2
          go_ret
          exact ⟨rfl, rfl⟩
        · subst h1
          go_wp2
          go_ret
          exact ⟨rfl, rfl⟩
    · have hall : t.all okByte = true := all_true_of_prefix t fun j hj => hok j hj (by omega)
      have ht2 := isPart_tests t hall
      rw [hb] at ht2
      clear hb
      go_wp2
      · rename_i e _
        rw [mkS_toList] at e
        subst e
        go_ret
        exact ⟨by first | rfl | (rw [ht2]; rfl), rfl⟩
      · rename_i e0 e _
        rw [mkS_toList] at e
        subst e
        go_ret
        exact ⟨by first | rfl | (rw [ht2]; rfl), rfl⟩
      · go_ret
        exact ⟨by first | rfl | (rw [ht2]; rfl), rfl⟩

/- The parts of a text, by the document's own answer. -/
def isRow (w : World) (v : Value) (l : List (List UInt8)) : Prop := ∃ b, v = .slice (some ⟨b, 0, none⟩) l.length l.length ∧ w.heap[b]? = some (.cells (rowOf l) 9)
theorem row_cell {w : World} {b : Nat} {l : List (List UInt8)} (h : w.heap[b]? = some (.cells (rowOf l) 9)) (i : Nat) (hi : i < l.length) : w.cell? ⟨b, i, none⟩ = some (.string (mkS (l[i]'hi))) := by
  simp [World.cell?, h, rowOf, hi]
set_option maxRecDepth 100000 in
set_option maxHeartbeats 2000000 in
theorem refParts_long (p : List UInt8) (hl : ¬ p.length ≤ 200) (w0 w : World) (hk : Kept w0 w) :
    Calls Tryz.prog 107 #[.string (mkS p)] w fun e w' => e = .returned (.tuple #[.slice none 0 0, .bool false]) ∧ Kept w0 w' := by
  have hs := mkS_size p
  have t1 : (200 : Int) < ((p.length : Nat) : Int) := by omega
  go_enter Tryz.func107, Tryz.ntmps107
  go_wp2
  go_ret2
  exact ⟨rfl, hk⟩
set_option maxRecDepth 100000 in
theorem refParts_empty (w0 w : World) (hk : Kept w0 w) :
    Calls Tryz.prog 107 #[.string (mkS [])] w fun e w' => e = .returned (.tuple #[.slice none 0 0, .bool false]) ∧ Kept w0 w' := by
  have hs : (mkS []).size = 0 := mkS_size []
  go_enter Tryz.func107, Tryz.ntmps107
  go_wp2
  go_ret2
  exact ⟨rfl, hk⟩
set_option maxRecDepth 100000 in
theorem refParts_other (p : List UInt8) (c : UInt8) (hh : p.head? = some c) (hl : p.length ≤ 200) (hc : c ≠ 47) (w0 w : World) (hk : Kept w0 w) :
    Calls Tryz.prog 107 #[.string (mkS p)] w fun e w' => e = .returned (.tuple #[.slice none 0 0, .bool false]) ∧ Kept w0 w' := by
  have hs := mkS_size p
  have h0 : 0 < p.length := by cases p <;> simp at hh ⊢
  have hg : (mkS p)[0]'(by rw [hs]; exact h0) = c := by rw [mkS_get p 0 h0]; cases p <;> simp at hh ⊢; exact hh
  have h47 : ((c.toNat : Int) != 47) = true := by
    simp
    intro e
    exact hc (UInt8.toNat.inj (by simp; omega))
  have t1 : ¬ (200 : Int) < ((p.length : Nat) : Int) := by omega
  have t2 : ((p.length : Int) == 0) = false := by simp; intro e; rw [e] at h0; simp at h0
  clear hh
  go_enter Tryz.func107, Tryz.ntmps107
  go_wp2
  go_ret2
  exact ⟨rfl, hk⟩
set_option maxRecDepth 100000 in
theorem refParts_root (p : List UInt8) (hp : p = [47]) (w0 w : World) (hk : Kept w0 w) :
    Calls Tryz.prog 107 #[.string (mkS p)] w fun e w' => e = .returned (.tuple #[.slice none 0 0, .bool true]) ∧ Kept w0 w' := by
  have hs := mkS_size p
  have h0 : 0 < p.length := by rw [hp]; decide
  have hg : (mkS p)[0]'(by rw [hs]; exact h0) = 47 := by rw [mkS_get p 0 h0]; subst hp; rfl
  have t1 : ¬ (200 : Int) < ((p.length : Nat) : Int) := by rw [hp]; decide
  have t2 : ((p.length : Int) == 0) = false := by rw [hp]; decide
  have t3 := toList_test p [47] true (by simp [hp])
  clear hp
  go_enter Tryz.func107, Tryz.ntmps107
  go_wp2
  go_ret2
  exact ⟨rfl, hk⟩
theorem slice_any (p t : List UInt8) (hp : p = 47 :: t) : (mkS p).extract 1 p.length = mkS t := by
  subst hp
  rw [mkS_extract]; simp
set_option maxRecDepth 100000 in
set_option maxHeartbeats 2000000 in
theorem refParts_row (p t : List UInt8) (hp : p = 47 :: t) (hl : p.length ≤ 200) (ht : t ≠ []) (w0 w : World) (hk : Kept w0 w) :
    Calls Tryz.prog 107 #[.string (mkS p)] w fun e w' => ((right p = true ∧ ∃ b, e = .returned (.tuple #[.slice (some ⟨b, 0, none⟩) (parts p).length (parts p).length, .bool true]) ∧ w'.heap[b]? = some (.cells (rowOf (parts p)) 9) ∧ w0.heap.size ≤ b) ∨ (right p = false ∧ e = .returned (.tuple #[.slice none 0 0, .bool false]))) ∧ Kept w0 w' := by
  have hs := mkS_size p
  have h0 : 0 < p.length := by rw [hp]; simp
  have hg : (mkS p)[0]'(by rw [hs]; exact h0) = 47 := by rw [mkS_get p 0 h0]; subst hp; rfl
  have t1 : ¬ (200 : Int) < ((p.length : Nat) : Int) := by omega
  have t2 : ((p.length : Int) == 0) = false := by rw [hp]; simp; omega
  have t3 := toList_test p [47] false (by rw [hp]; simp [ht])
  have hex := slice_any p t hp
  have hpp : parts p = splits t := by rw [hp]; simp [parts, tailParts, ht]
  have hrr : right p = (splits t).all isPart := by
    rw [right, hpp, decide_eq_true hl, hp]; simp
  have htl : t.length ≤ 200 := by rw [hp] at hl; simp at hl; omega
  rw [hrr, hpp]
  clear hp hpp hrr
  generalize hL : splits t = L
  have hLm : ∀ x ∈ L, x.length ≤ 1000 := fun x hx => by have := splits_mem (hL ▸ hx); omega
  have hLl : L.length ≤ 1000 := by
    have := splits_length t
    have h2 := List.count_le_length (a := (47 : UInt8)) (l := t)
    rw [hL] at this
    omega
  have hsp := split_k t htl w0 w hk
  rw [hL] at hsp
  clear hL
  go_enter Tryz.func107, Tryz.ntmps107
  go_wp2_with fail
  refine hsp.mono ?_
  rintro e w1 ⟨b, rfl, hb, hbs, hk1⟩
  clear hsp
  go_wp2
  go_loop [5] (fun i => ∃ pos : Nat, i = .int .i64 pos ∧ pos ≤ L.length ∧ ∀ j (hj : j < L.length), j < pos → isPart (L[j]'hj) = true) (fun i => L.length - (intOf i).toNat)
  case atStart => exact ⟨0, rfl, by omega, fun j _ h => by omega⟩
  case round =>
    obtain ⟨pos, rfl, hle, hok⟩ := hrel
    by_cases hpos : pos < L.length
    · have hc := row_cell hb pos hpos
      have hm := hLm _ (List.getElem_mem hpos)
      generalize hx : L[pos]'hpos = x at *
      cases hq : isPart x with
      | true =>
        go_wp2_with fail
        refine (refPart_any x hm true hq _).mono ?_
        rintro e w2 ⟨rfl, rfl⟩
        go_wp2
        refine ⟨⟨pos + 1, by simp, by omega, fun j hj hlt => ?_⟩, by simp [intOf]; omega⟩
        rcases Nat.lt_succ_iff_lt_or_eq.1 hlt with e | e
        · exact hok j hj e
        · subst e; rw [hx]; exact hq
      | false =>
        go_wp2_with fail
        refine (refPart_any x hm false hq _).mono ?_
        rintro e w2 ⟨rfl, rfl⟩
        have hfalse : L.all isPart = false := List.all_eq_false.2 ⟨x, by rw [← hx]; exact List.getElem_mem _, by simp [hq]⟩
        go_wp2
        go_ret2
        first
          | exact ⟨.inr ⟨hfalse, rfl⟩, hk1⟩
          | exact ⟨.inr ⟨rfl, rfl⟩, hk1⟩
          | exact ⟨.inr ⟨⟨x, by rw [← hx]; exact List.getElem_mem _, hq⟩, rfl⟩, hk1⟩
    · have htrue : ∀ x ∈ L, isPart x = true := fun x hx => by
        obtain ⟨j, hj, rfl⟩ := List.getElem_of_mem hx
        exact hok j hj (by omega)
      go_wp2
      go_ret2
      first
        | exact ⟨.inl ⟨htrue, b, rfl, hb, hbs⟩, hk1⟩
        | exact ⟨.inl ⟨List.all_eq_true.2 htrue, b, rfl, hb, hbs⟩, hk1⟩

theorem refParts_no (p : List UInt8) (hr : right p = false) (w0 w : World) (hk : Kept w0 w) :
    Calls Tryz.prog 107 #[.string (mkS p)] w fun e w' => e = .returned (.tuple #[.slice none 0 0, .bool false]) ∧ Kept w0 w' := by
  by_cases hl : p.length ≤ 200
  · cases p with
    | nil => exact refParts_empty w0 w hk
    | cons c t =>
      by_cases hc : c = 47
      · subst hc
        have ht : t ≠ [] := by rintro rfl; rw [right_root] at hr; cases hr
        refine (refParts_row _ t rfl hl ht w0 w hk).mono ?_
        rintro e w' ⟨⟨h, _⟩ | ⟨_, rfl⟩, hk'⟩
        · rw [hr] at h; cases h
        · exact ⟨rfl, hk'⟩
      · exact refParts_other _ c rfl hl hc w0 w hk
  · exact refParts_long p hl w0 w hk
theorem refParts_yes (p : List UInt8) (hr : right p = true) (hp : p ≠ [47]) (w0 w : World) (hk : Kept w0 w) :
    Calls Tryz.prog 107 #[.string (mkS p)] w fun e w' => ∃ b, e = .returned (.tuple #[.slice (some ⟨b, 0, none⟩) (parts p).length (parts p).length, .bool true]) ∧ w'.heap[b]? = some (.cells (rowOf (parts p)) 9) ∧ w0.heap.size ≤ b ∧ Kept w0 w' := by
  obtain ⟨t, rfl⟩ : ∃ t, p = 47 :: t := by
    cases p with
    | nil => simp [right] at hr
    | cons c t => simp [right] at hr; exact ⟨t, by rw [hr.2.1]⟩
  have ht : t ≠ [] := by rintro rfl; exact hp rfl
  refine (refParts_row _ t rfl (right_len hr) ht w0 w hk).mono ?_
  rintro e w' ⟨⟨_, b, rfl, hb, hbs⟩ | ⟨h, _⟩, hk'⟩
  · exact ⟨b, rfl, hb, hbs, hk'⟩
  · rw [hr] at h; cases h
theorem parts_ne {p : List UInt8} (hr : right p = true) (hp : p ≠ [47]) : parts p ≠ [] := by
  intro e
  have := right_eq hr
  rw [e] at this
  exact hp this

set_option maxRecDepth 100000 in
theorem refCheck_k (p : List UInt8) (v : Bool) (hv : right p = v) (w0 w : World) (hk : Kept w0 w) :
    Calls Tryz.prog 96 #[.string (mkS p)] w fun e w' => e = .returned (.bool v) ∧ Kept w0 w' := by
  cases v with
  | false =>
    have h := refParts_no p hv w0 w hk
    go_enter Tryz.func96, Tryz.ntmps96
    go_wp2_with fail
    refine h.mono ?_
    rintro e w1 ⟨rfl, hk1⟩
    go_wp2
    go_ret
    exact ⟨rfl, hk1⟩
  | true =>
    by_cases hp : p = [47]
    · have h := refParts_root p hp w0 w hk
      clear hp
      go_enter Tryz.func96, Tryz.ntmps96
      go_wp2_with fail
      refine h.mono ?_
      rintro e w1 ⟨rfl, hk1⟩
      go_wp2
      go_ret
      exact ⟨rfl, hk1⟩
    · have h := refParts_yes p hv hp w0 w hk
      go_enter Tryz.func96, Tryz.ntmps96
      go_wp2_with fail
      refine h.mono ?_
      rintro e w1 ⟨b, rfl, hb, hbs, hk1⟩
      go_wp2
      go_ret
      exact ⟨rfl, hk1⟩
theorem refCheck_any (p : List UInt8) (w : World) (h : Laid w) :
    Calls Tryz.prog 96 #[.string (mkS p)] w fun e w' => e = .returned (.bool (right p)) ∧ Below w.heap.size w w' := by
  refine (refCheck_k p _ rfl w w ⟨h, Below.refl _ _⟩).mono ?_
  rintro e w' ⟨rfl, hk⟩
  exact ⟨rfl, hk.below⟩
end Go.Proofs.YtmfednhommbikaaGreatDoor.PA
