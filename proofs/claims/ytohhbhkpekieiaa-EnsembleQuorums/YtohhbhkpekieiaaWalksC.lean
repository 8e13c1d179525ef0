/- The walks of a writer's texts, of what a writer tells, and of the copy of a row of bytes. -/
import Derived.Lib.LazyBuf
import Derived.Test.YtohhbhkpekieiaaWalksB
namespace Go.Proofs.Ytohhbhkpekieiaa
open Go.RowKit

theorem mkS_size (l : List UInt8) : (mkS l).size = l.length := by simp [mkS, ByteArray.size]
theorem Bs_row (w : World) (l : List UInt8) (c : Nat) (fr : Nat × Nat) (hc : l.length ≤ c) : Bs (w.drew.alloc (.cells (bytesRow (mkS l) c) 5 fr)) (.slice (some ⟨w.heap.size, 0, none⟩) l.length c) l := by
  refine Bs_new w.drew l _ fr c hc (fun j hj => ?_)
  unfold bytesRow mkS
  rw [Array.getElem?_append_left (by simpa using hj)]
  simp [hj]
/- A row of bytes of one's own, new since w. -/
structure New (w w' : World) (v : Value) (l : List UInt8) : Prop where
  owns : w'.ownsRow w.heap.size 5 1 v l.length (bv l)
  below : Below w.heap.size w w'
theorem New.bs {w w' : World} {v : Value} {l : List UInt8} (h : New w w' v l) : Bs w' v l := Bs.of_owns h.owns
theorem New.own {w w' : World} {v : Value} {l : List UInt8} (h : New w w' v l) : ∀ k, blk v = some k → w.heap.size ≤ k ∧ k < w'.heap.size := fun k hk => h.owns.lt k hk
theorem New.at {w w' : World} {v : Value} {l : List UInt8} (h : New w w' v l) : ∀ k, bk v = some k → w.heap.size ≤ k ∧ k < w'.heap.size := fun k hk => h.owns.lt k (bk_blk hk)
theorem owns_empty (w : World) : (w.alloc (.cells #[] 5)).ownsRow w.heap.size 5 1 (.slice (some ⟨w.heap.size, 0, none⟩) 0 0) 0 (bv []) :=
  ⟨rfl, .inr ⟨w.heap.size, 0, #[], rfl, Nat.le_refl _, heap_alloc_new w _, Nat.le_refl _, by decide, rfl, rfl⟩⟩
theorem clone_any {w : World} {x : Value} {l : List UInt8} (hx : Bs w x l) (hl : l.length ≤ 140737488355328) :
    Calls Try.prog 62 #[x] w fun e w' => ∃ v, e = .returned v ∧ New w w' v l := by
  have HX : Hid (Bs w x l) := hx
  have hnil : ∀ w (A : Option Addr) (n c : Nat), (binOp .eql 45 (.slice A n c) (.slice none 0 0)).run Try.prog w = .ok (.bool A.isNone) w := fun w A n c => Go.run_eql_slice_nil w 45 5 A n c Try.underlying45
  have hsome : (∃ ad c, x = .slice (some ad) l.length c) ∨ (x = .slice none 0 0 ∧ l = []) := by
    rcases hx with h | ⟨ad, c, rfl, rfl⟩ | ⟨_, b, o, c, rfl, _⟩
    · exact .inr h
    · exact .inl ⟨ad, c, rfl⟩
    · exact .inl ⟨_, c, rfl⟩
  clear hx
  rcases hsome with ⟨ad, c, rfl⟩ | ⟨rfl, rfl⟩
  · go_enter Try.func62, Try.ntmps62
    go_wp2_with (at_builtin; refine wpList_app rfl (.tmp 5) (.tmp 6) rfl (.slice (some ⟨w.heap.size, 0, none⟩) 0 0) (.slice (some ad) l.length c) rfl rfl (owns_empty w) (HX.out.alloc _) (by simp) (by simp; omega) ?_; intro A C w1 ho hg hat _)
    go_ret
    refine ⟨_, rfl, ?_, ((Below.refl _ _).alloc (Nat.le_refl _) _).grown hg (by simp) (fun k hk => by simp [blk, Value.ownBlock] at hk; omega)⟩
    simpa using ho
  · go_enter Try.func62, Try.ntmps62
    go_wp2
    go_ret
    exact ⟨_, rfl, World.ownsRow_nil _ _ _ _, Below.refl _ _⟩
theorem wDone_any {w : World} {base g : Nat} {q : Option Nat} {l : List UInt8} (h : WrAt w base g q l) (hl : l.length ≤ 140737488355328) :
    Calls Try.prog 43 #[.pointer (some ⟨g, 0, none⟩)] w fun e w' => ∃ v, e = .returned v ∧ New w w' v l := by
  have HH : Hid (WrAt w base g q l) := h
  obtain ⟨v, h1, h2, _⟩ := h
  have hc := cell_at h1 0
  rw [show (v :: [Value.bool true]).toArray[0]? = some v from rfl] at hc
  have hbs := Bs.of_owns h2
  obtain ⟨A, C, rfl⟩ := owns_form h2
  clear h1 h2
  go_enter Try.func43, Try.ntmps43
  go_wp2_with fail
  refine (there_any HH.out).mono ?_
  rintro e w1 ⟨rfl, rfl⟩
  go_wp2_with fail
  refine (clone_any hbs hl).mono ?_
  rintro e w2 ⟨v, rfl, hv⟩
  go_wp2
  go_ret
  exact ⟨v, rfl, hv⟩
theorem wDone_nil (w : World) : Calls Try.prog 43 #[.pointer none] w fun e w' => e = .returned (.slice none 0 0) ∧ w' = w := by
  go_enter Try.func43, Try.ntmps43
  go_wp2_with fail
  refine (there_nil _).mono ?_
  rintro e w1 ⟨rfl, rfl⟩
  go_wp2
  go_ret
  exact ⟨rfl, rfl⟩
end Go.Proofs.Ytohhbhkpekieiaa
