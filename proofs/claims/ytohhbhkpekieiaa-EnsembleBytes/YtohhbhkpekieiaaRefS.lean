/- The walks of the document's own reader: texts and bytes. -/
import Derived.Test.YtohhbhkpekieiaaRefR
namespace Go.Proofs.Ytohhbhkpekieiaa
open Go.RowKit

theorem rfNew_any {w : World} {x : Value} {l : List UInt8} (hx : Bs w x l) (hl : l.length ≤ 140737488355328) :
    Calls Try.prog 53 #[x] w fun e w' => ∃ g q, e = .returned (.pointer (some ⟨g, 0, none⟩)) ∧ Rdf w' g q (some l) ∧ Below w.heap.size w w' ∧ w.heap.size ≤ g ∧ (∀ k, q = some k → w.heap.size ≤ k ∧ k < w'.heap.size) := by
  have HX : Hid (Bs w x l) := hx
  obtain ⟨A, C, rfl⟩ := bs_form hx
  clear hx
  go_enter Try.func53, Try.ntmps53
  go_wp2_with (at_builtin; refine wpList_app rfl (.tmp 3) (.tmp 4) rfl (.slice (some ⟨w.heap.size, 0, none⟩) 0 0) (.slice A l.length C) rfl rfl (owns_empty w) (HX.out.alloc _) (by simp) (by simp; omega) ?_; intro A1 C1 w1 ho hg hat _; (have HO : Hid (w1.ownsRow w.heap.size 5 1 (.slice A1 l.length C1) l.length (bv l)) := by simpa [Hid] using ho); (have HB : Hid (Below w.heap.size w w1) := ((Below.refl _ _).alloc (Nat.le_refl _) _).grown hg (by simp) (fun k hk => by simp [blk, Value.ownBlock] at hk; omega)); clear ho hg hat)
  go_ret
  refine ⟨w1.heap.size, bk (.slice A1 l.length C1), rfl, ⟨_, heap_alloc_new w1 _, (Bs.of_owns HO.out).alloc _, fun k hk => hk, fun e => ?_, hl⟩, HB.out.alloc HB.out.size _, HB.out.size, fun k hk => ?_⟩
  · have := (HO.out.lt _ (bk_blk e)).2
    omega
  · have := HO.out.lt k (bk_blk hk)
    exact ⟨this.1, by simp; omega⟩
end Go.Proofs.Ytohhbhkpekieiaa
