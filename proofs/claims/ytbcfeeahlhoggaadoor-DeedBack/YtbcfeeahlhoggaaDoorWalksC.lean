/- The walks of a writer's texts, of what a writer tells, and of the copy of a row of bytes. -/
import Derived.Lib.LazyBuf
import Derived.Test.YtbcfeeahlhoggaaDoorWalksB
namespace Go.Proofs.YtbcfeeahlhoggaaDoor
open Go.RowKit

theorem mkS_size (l : List UInt8) : (mkS l).size = l.length := by simp [mkS, ByteArray.size]
theorem Bs_row (w : World) (l : List UInt8) (c : Nat) (fr : Nat × Nat) (hc : l.length ≤ c) : Bs (w.drew.alloc (.cells (bytesRow (mkS l) c) 5 fr)) (.slice (some ⟨w.heap.size, 0, none⟩) l.length c) l := by
  refine Bs_new w.drew l _ fr c hc (fun j hj => ?_)
  unfold bytesRow mkS
  rw [Array.getElem?_append_left (by simpa using hj)]
  simp [hj]
theorem wText_any {w : World} {base g : Nat} {q : Option Nat} {l : List UInt8} (h : WrAt w base g q l) (b : List UInt8) (hb : b.length < 4611686018427387904) (hn : l.length + (textB b).length ≤ 140737488355328) :
    Calls Tryd.prog 44 #[.pointer (some ⟨g, 0, none⟩), .string (mkS b)] w fun e w' => e = .returned (.tuple #[]) ∧ ∃ q', WrAt w' base g q' (l ++ textB b) ∧ Put g q w w' q' := by
  have HH : Hid (WrAt w base g q l) := h
  have HN : Hid (l.length + (textB b).length ≤ 140737488355328) := hn
  have hsz := mkS_size b
  have HT : Hid ((textB b).length = (numB b.length).length + b.length) := by simp [textB, Hid]
  have hcv : ∀ w, (convert 9 28 (.string (mkS b))).run Tryd.prog w = _ := fun w => run_bytes_of_string w 9 28 5 (mkS b) Tryd.underlying9 Tryd.underlying28 Tryd.underlying5
  clear h hn
  go_enter Tryd.func44, Tryd.ntmps44
  go_wp2_with fail
  refine (there_any HH.out).mono ?_
  rintro e w1 ⟨rfl, rfl⟩
  go_wp2_with fail
  refine (number_any HH.out (b.length : Int) (by omega) (by omega) (by have := HN.out; have := HT.out; omega)).mono ?_
  rintro e w2 ⟨rfl, q2, hr2, hp2⟩
  go_wp2_with fail
  refine (put_any (news := b) (hr2.keep (Chg.trans (Chg.alloc Non w2 _) (Chg.drew Non _)) id (fun _ _ => id)) ?_ (by simp; have := HN.out; have := HT.out; omega)).mono ?_
  · have := (Bs_row w2 b (grownCap w2 b.length 0 5) ((bytesRow (mkS b) (grownCap w2 b.length 0 5)).size, (bytesRow (mkS b) (grownCap w2 b.length 0 5)).size + 1) (grownCap_ge _ _ _ _))
    exact this
  rintro e w3 ⟨rfl, q3, hr3, hp3⟩
  go_wp2
  go_end0
  refine ⟨rfl, q3, ?_, hp2.trans (Put.trans ⟨Chg.trans (Chg.alloc _ w2 _) (Chg.drew _ _), .inl rfl⟩ hp3)⟩
  rw [List.append_assoc] at hr3
  exact hr3

/- A row of bytes of one's own, new since w. -/
structure New (w w' : World) (v : Value) (l : List UInt8) : Prop where
  owns : w'.ownsRow w.heap.size 5 1 v l.length (bv l)
  below : Below w.heap.size w w'
theorem New.bs {w w' : World} {v : Value} {l : List UInt8} (h : New w w' v l) : Bs w' v l := Bs.of_owns h.owns
theorem New.own {w w' : World} {v : Value} {l : List UInt8} (h : New w w' v l) : ∀ k, blk v = some k → w.heap.size ≤ k ∧ k < w'.heap.size := fun k hk => h.owns.lt k hk
theorem New.at {w w' : World} {v : Value} {l : List UInt8} (h : New w w' v l) : ∀ k, bk v = some k → w.heap.size ≤ k ∧ k < w'.heap.size := fun k hk => h.owns.lt k (bk_blk hk)
theorem owns_empty (w : World) : (w.alloc (.cells #[] 5)).ownsRow w.heap.size 5 1 (.slice (some ⟨w.heap.size, 0, none⟩) 0 0) 0 (bv []) :=
  ⟨rfl, .inr ⟨w.heap.size, 0, #[], rfl, Nat.le_refl _, heap_alloc_new w _, Nat.le_refl _, by decide, rfl, rfl⟩⟩
theorem clone_any {w : World} {x : Value} {l : List UInt8} (hx : Bs w x l) (hl : l.length ≤ 140737488355328) :
    Calls Tryd.prog 48 #[x] w fun e w' => ∃ v, e = .returned v ∧ New w w' v l := by
  have HX : Hid (Bs w x l) := hx
  have hnil : ∀ w (A : Option Addr) (n c : Nat), (binOp .eql 28 (.slice A n c) (.slice none 0 0)).run Tryd.prog w = .ok (.bool A.isNone) w := fun w A n c => Go.run_eql_slice_nil w 28 5 A n c Tryd.underlying28
  have hsome : (∃ ad c, x = .slice (some ad) l.length c) ∨ (x = .slice none 0 0 ∧ l = []) := by
    rcases hx with h | ⟨ad, c, rfl, rfl⟩ | ⟨_, b, o, c, rfl, _⟩
    · exact .inr h
    · exact .inl ⟨ad, c, rfl⟩
    · exact .inl ⟨_, c, rfl⟩
  clear hx
  rcases hsome with ⟨ad, c, rfl⟩ | ⟨rfl, rfl⟩
  · go_enter Tryd.func48, Tryd.ntmps48
    go_wp2_with (at_builtin; refine wpList_app rfl (.tmp 5) (.tmp 6) rfl (.slice (some ⟨w.heap.size, 0, none⟩) 0 0) (.slice (some ad) l.length c) rfl rfl (owns_empty w) (HX.out.alloc _) (by simp) (by simp; omega) ?_; intro A C w1 ho hg hat _)
    go_ret
    refine ⟨_, rfl, ?_, ((Below.refl _ _).alloc (Nat.le_refl _) _).grown hg (by simp) (fun k hk => by simp [blk, Value.ownBlock] at hk; omega)⟩
    simpa using ho
  · go_enter Tryd.func48, Tryd.ntmps48
    go_wp2
    go_ret
    exact ⟨_, rfl, World.ownsRow_nil _ _ _ _, Below.refl _ _⟩
theorem wDone_any {w : World} {base g : Nat} {q : Option Nat} {l : List UInt8} (h : WrAt w base g q l) (hl : l.length ≤ 140737488355328) :
    Calls Tryd.prog 31 #[.pointer (some ⟨g, 0, none⟩)] w fun e w' => ∃ v, e = .returned v ∧ New w w' v l := by
  have HH : Hid (WrAt w base g q l) := h
  obtain ⟨v, h1, h2, _⟩ := h
  have hc := cell_at h1 0
  rw [show (v :: [Value.bool true]).toArray[0]? = some v from rfl] at hc
  have hbs := Bs.of_owns h2
  obtain ⟨A, C, rfl⟩ := owns_form h2
  clear h1 h2
  go_enter Tryd.func31, Tryd.ntmps31
  go_wp2_with fail
  refine (there_any HH.out).mono ?_
  rintro e w1 ⟨rfl, rfl⟩
  go_wp2_with fail
  refine (clone_any hbs hl).mono ?_
  rintro e w2 ⟨v, rfl, hv⟩
  go_wp2
  go_ret
  exact ⟨v, rfl, hv⟩
theorem wDone_nil (w : World) : Calls Tryd.prog 31 #[.pointer none] w fun e w' => e = .returned (.slice none 0 0) ∧ w' = w := by
  go_enter Tryd.func31, Tryd.ntmps31
  go_wp2_with fail
  refine (there_nil _).mono ?_
  rintro e w1 ⟨rfl, rfl⟩
  go_wp2
  go_ret
  exact ⟨rfl, rfl⟩
end Go.Proofs.YtbcfeeahlhoggaaDoor
