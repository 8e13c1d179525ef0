/- A row of NetSent's gets one element more. -/
import Derived.Test.YtjclegiohhbkpaaNtT0
namespace Go.Proofs.Ytjclegiohhbkpaa
open Go.RowKit Go.MapKept

theorem app_step {w W2 w3 : World} {n h : Nat} {p : List Pk} {V : Vs} {T : Nat → Prop} (s : Sn w W2 n h p V T) {k : Nat} (hk : k < 16) (hN : (V k).2.length ≤ 1000) {A6 : Option Addr} {C6 : Nat} {b : List UInt8} (hB : Below W2.heap.size W2 w3)
    (ho : w3.ownsRow 0 5 1 (.slice A6 b.length C6) b.length (bv b)) (hnew : ∀ g, blk (.slice A6 b.length C6) = some g → T g ∨ W2.heap.size ≤ g) :
    ∃ A8 C8 w8, (Builtin.append_ #[42, 42] 42 #[(V k).1, .slice (some ⟨w3.heap.size, 0, none⟩) 1 1]).run Try.prog (w3.alloc (.cells #[.slice A6 b.length C6] 27)) = .ok (.slice A8 ((V k).2.length + 1) C8) w8 ∧
      (w3.cell? ⟨h, k, none⟩ = some (V k).1 ∧ (w3.alloc (.cells #[.slice A6 b.length C6] 27)).cell? ⟨h, k, none⟩ = some (V k).1 ∧ w8.cell? ⟨h, k, none⟩ = some (V k).1 ∧ w8.frozen? ⟨h, k, none⟩ = false) ∧
      Hid (∃ T', Sn w (w8.setCell ⟨h, k, none⟩ (.slice A8 ((V k).2.length + 1) C8)) n h p (updV V k (.slice A8 ((V k).2.length + 1) C8, (V k).2 ++ [(b, .slice A6 b.length C6)])) T') := by
  have s3 := s.more hB
  obtain ⟨A8, C8, w8, hrun, hR, hc, hbl⟩ := (s3.rows k hk).app ho hN
  have hfin := s3.put hk hc hR hbl (fun x hx g hg => by
    rcases List.mem_append.1 hx with hx | hx
    · exact .inl (s3.te k hk x hx g hg)
    · simp at hx; subst hx
      rcases hnew g hg with e | e
      · exact .inl (.inl e)
      · obtain ⟨cur, q, _⟩ := owns_blockT ho hg
        exact .inl (.inr ⟨e, heap_lt q⟩))
  have hbx : w8.heap[h]? = w3.heap[h]? := by
    obtain ⟨cs, q, _⟩ := s3.box
    refine hc.block h (heap_lt q) (fun e => ?_)
    obtain ⟨cur, q', _⟩ := owns_blockT (s3.rows k hk).row e
    rw [q] at q'; cases q'
  have hal := (s3.below (below1 w3 (.cells #[.slice A6 b.length C6] 27))).cell k hk
  refine ⟨A8, C8, w8, hrun, ⟨s3.cell k hk, hal, ?_, ?_⟩, hfin⟩
  · rw [World.cell?_of_block hbx]; exact s3.cell k hk
  · obtain ⟨cs, q, _⟩ := s3.box
    rw [← hbx] at q
    exact frozen_at q k
end Go.Proofs.Ytjclegiohhbkpaa
