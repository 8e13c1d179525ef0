/- The walks of a reader. -/
import Derived.Laws.BitsAllLaws
import Derived.Test.YtbcfeeahlhoggaaDoorWalksD
namespace Go.Proofs.YtbcfeeahlhoggaaDoor
open Go.RowKit

theorem digits_any {w : World} {x : Value} {l : List UInt8} (hx : Bs w x l) (hl : l.length ≤ 140737488355328) :
    Calls Tryd.prog 53 #[x] w fun e w' => e = .returned (.tuple #[.int .u64 (((dec 0 l).getD (0, 0)).1 : Nat), .int .i64 (((dec 0 l).getD (0, 0)).2 : Nat)]) ∧ w' = w := by
  rcases hx with ⟨rfl, rfl⟩ | ⟨ad, c, rfl, rfl⟩ | ⟨_, b, o, c, rfl, h1, h2, h3⟩
  · go_enter Tryd.func53, Tryd.ntmps53
    go_wp2_with fail
    refine wp_loop_rounds 1 ?_
    rw [rounds_succ]
    go_wp2
    go_ret2
    exact ⟨rfl, rfl⟩
  · go_enter Tryd.func53, Tryd.ntmps53
    go_wp2_with fail
    refine wp_loop_rounds 1 ?_
    rw [rounds_succ]
    go_wp2
    go_ret2
    exact ⟨rfl, rfl⟩
  · exact digits_row h1 hl h3

/- A reader at block g: what is left of it (l), whether it is good, and the block that its bytes lie in. -/
def RdAt (w : World) (g T : Nat) (fl : Bool) (q : Option Nat) (l : List UInt8) : Prop :=
  ∃ v, w.heap[g]? = some (.cells #[v, .bool fl] T (0, 0)) ∧ Bs w v l ∧ (∀ k, bk v = some k → q = some k) ∧ q ≠ some g ∧ l.length ≤ 140737488355328
theorem RdAt.lt {w : World} {g T : Nat} {fl : Bool} {q : Option Nat} {l : List UInt8} (h : RdAt w g T fl q l) : g < w.heap.size := by
  obtain ⟨v, h1, _⟩ := h; exact heap_lt h1
theorem RdAt.keep {S : Nat → Prop} {w w' : World} {g T : Nat} {fl : Bool} {q : Option Nat} {l : List UInt8} (h : RdAt w g T fl q l) (hc : Chg S w w') (hg : ¬ S g) (hq : ∀ k, q = some k → ¬ S k) : RdAt w' g T fl q l := by
  have hl := h.lt
  obtain ⟨v, h1, h2, h3, h4, h5⟩ := h
  exact ⟨v, by rw [hc.block g hl hg]; exact h1, h2.keep hc (fun k hk => hq k (h3 k hk)), h3, h4, h5⟩
/- A reader of the program: r is what is left of a good one. -/
abbrev Rdr (w : World) (g : Nat) (q : Option Nat) (r : Rd) : Prop := RdAt w g 85 r.isSome q (r.getD [])
abbrev One (g : Nat) : Nat → Prop := fun k => k = g

theorem good_any {w : World} {g : Nat} {q : Option Nat} {r : Rd} (h : Rdr w g q r) :
    Calls Tryd.prog 52 #[.pointer (some ⟨g, 0, none⟩)] w fun e w' => e = .returned (.bool r.isSome) ∧ w' = w := by
  obtain ⟨v, h1, _⟩ := h
  have hc := cell_at h1 1
  rw [show #[v, Value.bool r.isSome][1]? = some (.bool r.isSome) from rfl] at hc
  clear h1
  go_enter Tryd.func52, Tryd.ntmps52
  go_wp2
  go_ret
  exact ⟨rfl, rfl⟩
theorem good_nil (w : World) : Calls Tryd.prog 52 #[.pointer none] w fun e w' => e = .returned (.bool false) ∧ w' = w := by
  go_enter Tryd.func52, Tryd.ntmps52
  go_wp2
  go_ret
  exact ⟨rfl, rfl⟩
theorem whole_any {w : World} {g : Nat} {q : Option Nat} {r : Rd} (h : Rdr w g q r) :
    Calls Tryd.prog 38 #[.pointer (some ⟨g, 0, none⟩)] w fun e w' => e = .returned (.bool (decide (r = some []))) ∧ w' = w := by
  have HH : Hid (Rdr w g q r) := h
  obtain ⟨v, h1, h2, _⟩ := h
  have hc := cell_at h1 0
  rw [show #[v, Value.bool r.isSome][0]? = some v from rfl] at hc
  obtain ⟨A, C, rfl⟩ := bs_form h2
  clear h1 h2
  cases r with
  | none =>
    go_enter Tryd.func38, Tryd.ntmps38
    go_wp2_with fail
    refine (good_any HH.out).mono ?_
    rintro e w1 ⟨rfl, rfl⟩
    go_wp2
    go_ret
    exact ⟨rfl, rfl⟩
  | some l =>
    go_enter Tryd.func38, Tryd.ntmps38
    go_wp2_with fail
    refine (good_any HH.out).mono ?_
    rintro e w1 ⟨rfl, rfl⟩
    go_wp2
    go_ret
    refine ⟨?_, rfl⟩
    cases l with
    | nil => rfl
    | cons x t => 
      simp
      omega
theorem whole_nil (w : World) : Calls Tryd.prog 38 #[.pointer none] w fun e w' => e = .returned (.bool false) ∧ w' = w := by
  go_enter Tryd.func38, Tryd.ntmps38
  go_wp2_with fail
  refine (good_nil _).mono ?_
  rintro e w1 ⟨rfl, rfl⟩
  go_wp2
  go_ret
  exact ⟨rfl, rfl⟩
/- A reader whose cells are laid anew. -/
theorem RdAt.turn2 {w : World} {g T : Nat} {fl : Bool} {q : Option Nat} {l : List UInt8} (h : RdAt w g T fl q l) (v' : Value) (fl' : Bool) (l' : List UInt8) (hb : Bs w v' l') (hq : ∀ k, bk v' = some k → q = some k) (hl : l'.length ≤ 140737488355328) :
    RdAt ((w.setCell ⟨g, 0, none⟩ v').setCell ⟨g, 1, none⟩ (.bool fl')) g T fl' q l' ∧ Chg (One g) w ((w.setCell ⟨g, 0, none⟩ v').setCell ⟨g, 1, none⟩ (.bool fl')) := by
  obtain ⟨v, h1, h2, h3, h4, h5⟩ := h
  have hc : Chg (One g) w ((w.setCell ⟨g, 0, none⟩ v').setCell ⟨g, 1, none⟩ (.bool fl')) := (Chg.setCell (S := One g) w ⟨g, 0, none⟩ v' rfl).trans (Chg.setCell (S := One g) _ ⟨g, 1, none⟩ _ rfl)
  refine ⟨⟨v', ?_, hb.keep hc (fun k hk e => h4 (by rw [hq k hk, e])), hq, h4, hl⟩, hc⟩
  rw [heap_set (heap_set h1 0 v') 1]
  rfl
theorem RdAt.turn1 {w : World} {g T : Nat} {fl : Bool} {q : Option Nat} {l : List UInt8} (h : RdAt w g T fl q l) (v' : Value) (l' : List UInt8) (hb : Bs w v' l') (hq : ∀ k, bk v' = some k → q = some k) (hl : l'.length ≤ 140737488355328) :
    RdAt (w.setCell ⟨g, 0, none⟩ v') g T fl q l' ∧ Chg (One g) w (w.setCell ⟨g, 0, none⟩ v') := by
  obtain ⟨v, h1, h2, h3, h4, h5⟩ := h
  have hc : Chg (One g) w (w.setCell ⟨g, 0, none⟩ v') := Chg.setCell w ⟨g, 0, none⟩ v' rfl
  refine ⟨⟨v', ?_, hb.keep hc (fun k hk e => h4 (by rw [hq k hk, e])), hq, h4, hl⟩, hc⟩
  rw [heap_set h1 0 v']
  rfl
theorem fail_any {w : World} {g : Nat} {q : Option Nat} {r : Rd} (h : Rdr w g q r) :
    Calls Tryd.prog 54 #[.pointer (some ⟨g, 0, none⟩)] w fun e w' => e = .returned (.tuple #[]) ∧ Rdr w' g q none ∧ Chg (One g) w w' := by
  have HH : Hid (Rdr w g q r) := h
  obtain ⟨v, h1, _⟩ := h
  have hc0 := cell_at h1 0
  have hc1 := cell_at h1 1
  have hf0 := frozen_at h1 0
  have hf1 := frozen_at h1 1
  rw [show #[v, Value.bool r.isSome][0]? = some v from rfl] at hc0
  rw [show #[v, Value.bool r.isSome][1]? = some (.bool r.isSome) from rfl] at hc1
  clear h1
  go_enter Tryd.func54, Tryd.ntmps54
  go_wp2
  go_end0
  have := HH.out.turn2 (.slice none 0 0) false [] (Bs.nil w) (fun k hk => absurd hk (bk_zero _ _ _)) (by simp)
  exact ⟨rfl, this.1, this.2⟩
theorem newReader_any {w : World} {x : Value} {l : List UInt8} (hx : Bs w x l) (hl : l.length ≤ 140737488355328) :
    Calls Tryd.prog 33 #[x] w fun e w' => ∃ g q, e = .returned (.pointer (some ⟨g, 0, none⟩)) ∧ Rdr w' g q (some l) ∧ Below w.heap.size w w' ∧ w.heap.size ≤ g ∧ (∀ k, q = some k → w.heap.size ≤ k ∧ k < w'.heap.size) := by
  go_enter Tryd.func33, Tryd.ntmps33
  go_wp2_with fail
  refine (clone_any hx hl).mono ?_
  rintro e w1 ⟨v, rfl, hv⟩
  obtain ⟨A, C, rfl⟩ := bs_form hv.bs
  go_wp2
  go_ret
  refine ⟨w1.heap.size, bk (.slice A l.length C), rfl, ⟨_, heap_alloc_new w1 _, hv.bs.alloc _, fun k hk => hk, fun e => ?_, hl⟩, hv.below.alloc hv.below.size _, hv.below.size, fun k hk => ⟨(hv.at k hk).1, by have := (hv.at k hk).2; simp; omega⟩⟩
  have := (hv.at _ e).2
  omega
end Go.Proofs.YtbcfeeahlhoggaaDoor
