/- The walks of what is written to: a row of bytes behind a pointer, and a writer. -/
import Derived.Test.YtbcfeeahlhoggaaDoorBase
namespace Go.Proofs.YtbcfeeahlhoggaaDoor
open Go.RowKit

/- The bytes l, in a row of one's own behind the pointer to block g (of type T, with the cells tl behind it). -/
def RowAt (w : World) (base g T : Nat) (tl : List Value) (q : Option Nat) (l : List UInt8) : Prop :=
  ∃ v, w.heap[g]? = some (.cells (v :: tl).toArray T (0, 0)) ∧ w.ownsRow base 5 1 v l.length (bv l) ∧ blk v = q ∧ q ≠ some g ∧ base ≤ w.heap.size
/- What a putting call leaves: only block g and the row's own block have turned; the row lies where it lay, or in a new block. -/
structure Put (g : Nat) (q : Option Nat) (w w' : World) (q' : Option Nat) : Prop where
  chg : Chg (fun k => k = g ∨ q = some k) w w'
  lies : q' = q ∨ ∃ k, q' = some k ∧ w.heap.size ≤ k
theorem Put.refl (g : Nat) (q : Option Nat) (w : World) : Put g q w w q := ⟨Chg.refl _ _, .inl rfl⟩
theorem Put.trans {g : Nat} {q q' q'' : Option Nat} {a b c : World} (h : Put g q a b q') (k : Put g q' b c q'') : Put g q a c q'' := by
  refine ⟨h.chg.trans' k.chg ?_, ?_⟩
  · rintro i hi (rfl | e)
    · exact .inl rfl
    · rcases h.lies with rfl | ⟨m, hm, hle⟩
      · exact .inr e
      · rw [hm] at e; cases e; omega
  · rcases k.lies with rfl | ⟨m, hm, hle⟩
    · exact h.lies
    · exact .inr ⟨m, hm, Nat.le_trans h.chg.size hle⟩
theorem heap_lt {w : World} {g : Nat} {o : Obj} (h : w.heap[g]? = some o) : g < w.heap.size := (Array.getElem?_eq_some_iff.1 h).1
theorem RowAt.lt {w : World} {base g T : Nat} {tl : List Value} {q : Option Nat} {l : List UInt8} (h : RowAt w base g T tl q l) : g < w.heap.size := by
  obtain ⟨v, h1, _⟩ := h; exact heap_lt h1
theorem RowAt.qlt {w : World} {base g T : Nat} {tl : List Value} {q : Option Nat} {l : List UInt8} (h : RowAt w base g T tl q l) : ∀ k, q = some k → base ≤ k ∧ k < w.heap.size := by
  obtain ⟨v, _, h2, rfl, _⟩ := h; exact fun k hk => h2.lt k hk
theorem RowAt.keep {S : Nat → Prop} {w w' : World} {base g T : Nat} {tl : List Value} {q : Option Nat} {l : List UInt8} (h : RowAt w base g T tl q l) (hc : Chg S w w') (hg : ¬ S g) (hq : ∀ k, q = some k → ¬ S k) : RowAt w' base g T tl q l := by
  have hl := h.lt
  have hql := h.qlt
  obtain ⟨v, h1, h2, h3, h4, h5⟩ := h
  refine ⟨v, by rw [hc.block g hl hg]; exact h1, ?_, h3, h4, Nat.le_trans h5 hc.size⟩
  refine ⟨h2.1, ?_⟩
  rcases h2.2 with h | ⟨b, cap, cur, hv, hb, hb2, hr⟩
  · exact .inl h
  · have hbq : q = some b := by rw [← h3, hv]; rfl
    exact .inr ⟨b, cap, cur, hv, hb, by rw [hc.block b (hql b hbq).2 (hq b hbq)]; exact hb2, hr⟩
theorem cell_at {w : World} {g T : Nat} {cs : Array Value} {fr : Nat × Nat} (h : w.heap[g]? = some (.cells cs T fr)) (i : Nat) : w.cell? ⟨g, i, none⟩ = cs[i]? := by
  simp [World.cell?, h]
theorem frozen_at {w : World} {g T : Nat} {cs : Array Value} (h : w.heap[g]? = some (.cells cs T (0, 0))) (i : Nat) : w.frozen? ⟨g, i, none⟩ = false := by
  simp [World.frozen?, h]
theorem heap_set {w : World} {g T : Nat} {cs : Array Value} {fr : Nat × Nat} (h : w.heap[g]? = some (.cells cs T fr)) (i : Nat) (v : Value) : (w.setCell ⟨g, i, none⟩ v).heap[g]? = some (.cells (cs.setIfInBounds i v) T fr) := by
  simp [World.setCell, Array.getElem?_modify, h]
/- A row whose slice is turned to v', which is its own. -/
theorem RowAt.turn {w w1 : World} {base g T : Nat} {tl : List Value} {v v' : Value} {l' : List UInt8} (h1 : w.heap[g]? = some (.cells (v :: tl).toArray T (0, 0))) (hb : base ≤ w.heap.size) (hne : blk v ≠ some g)
    (hg : w.grownBy w1 (blk v)) {n : Nat} (ho : w1.ownsRow base 5 1 v' n (bv l')) (hat : blk v' = blk v ∨ blk v' = some w.heap.size) :
    RowAt (w1.setCell ⟨g, 0, none⟩ v') base g T tl (blk v') l' ∧ Put g (blk v) w (w1.setCell ⟨g, 0, none⟩ v') (blk v') := by
  have hn : n = l'.length := by have := ho.1; rw [bv_len] at this; omega
  subst hn
  have hlt := heap_lt h1
  have h1' : w1.heap[g]? = some (.cells (v :: tl).toArray T (0, 0)) := by rw [hg.block g hlt (fun e => hne e.symm)]; exact h1
  have hne' : blk v' ≠ some g := by
    rcases hat with e | e <;> rw [e]
    · exact hne
    · simp; omega
  have hs := heap_set h1' 0 v'
  have hch : Chg (fun k => k = g) w1 (w1.setCell ⟨g, 0, none⟩ v') := Chg.setCell w1 ⟨g, 0, none⟩ v' rfl
  refine ⟨⟨v', by rw [hs]; simp, ?_, rfl, hne', Nat.le_trans hb (Nat.le_trans hg.size hch.size)⟩, ⟨?_, ?_⟩⟩
  · refine ⟨ho.1, ?_⟩
    rcases ho.2 with h | ⟨b, cap, cur, rfl, hb, hb2, hr⟩
    · exact .inl h
    · refine .inr ⟨b, cap, cur, rfl, hb, ?_, hr⟩
      rw [hch.block b (heap_lt hb2) (fun e => hne' (by subst e; rfl))]; exact hb2
  · refine ((Chg.of_grown hg).weak (fun k _ e => .inr e)).trans' hch ?_
    intro i _ e; exact .inl e
  · rcases hat with e | e
    · exact .inl e
    · exact .inr ⟨_, e, Nat.le_refl _⟩

theorem put_any {w : World} {base g T : Nat} {tl : List Value} {q : Option Nat} {l : List UInt8} (h : RowAt w base g T tl q l) {x : Value} {news : List UInt8} (hx : Bs w x news) (hn : l.length + news.length ≤ 140737488355328) :
    Calls Tryd.prog 42 #[.pointer (some ⟨g, 0, none⟩), x] w fun e w' => e = .returned (.tuple #[]) ∧ ∃ q', RowAt w' base g T tl q' (l ++ news) ∧ Put g q w w' q' := by
  obtain ⟨v, h1, h2, rfl, hne, hb⟩ := h
  have hc := cell_at h1 0
  rw [show (v :: tl).toArray[0]? = some v from rfl] at hc
  have H1 : Hid (w.heap[g]? = some (.cells (v :: tl).toArray T (0, 0))) := h1
  have HX : Hid (Bs w x news) := hx
  clear h1 hx
  go_enter Tryd.func42, Tryd.ntmps42
  go_wp2_with (at_builtin; refine wpList_app rfl (.tmp 8) (.tmp 9) rfl v x rfl rfl h2 HX.out hb hn ?_; intro A C w1 ho hg hat _; (have hf1 : w1.frozen? ⟨g, 0, none⟩ = false := frozen_at ((hg.block g (heap_lt H1.out) (fun e => hne e.symm)).trans H1.out) 0); (have hc1 : w1.cell? ⟨g, 0, none⟩ = some v := by rw [cell_at ((hg.block g (heap_lt H1.out) (fun e => hne e.symm)).trans H1.out) 0]; rfl))
  go_end0
  have := RowAt.turn H1.out hb hne hg ho hat
  exact ⟨rfl, _, this.1, this.2⟩
end Go.Proofs.YtbcfeeahlhoggaaDoor
