/- The document's link by the blocks that are its own. -/
import Derived.Test.YtnonboegnbnepaaLkRs
import Derived.Test.YtnonboegnbnepaaLkRm1
import Derived.Test.YtnonboegnbnepaaLkRm0
namespace Go.Proofs.Ytnonboegnbnepaa
set_option linter.unusedVariables false
open Go.RowKit
set_option linter.unusedVariables false

theorem rtake_any {w : World} {n : Nat} {s : St} {T : Nat → Prop} (h : Lx true w n s T) (p : Pkt) {A : Option Addr} {C : Nat} (hx : Bs w (.slice A p.load.length C) p.load) (hT : ∀ g, bk (.slice A p.load.length C) = some g → T g)
    (hf : i64 p.fr) (hl : p.load.length ≤ 140737488355328) (ha : s.acked < 4611686018427387904) (hg : s.got < 4611686018427387904) :
    Calls Try.prog 18 #[.pointer (some ⟨n, 0, none⟩), pkV p A C] w fun e w' => TakeEndT w n (takeR s p) T e w' := by
  by_cases h0 : p.fr < 1
  · exact rtake_lo h p hx hT hf hl ha hg h0
  by_cases h1 : p.fr < s.peer
  · exact rtake_lo2 h p hx hT hf hl ha hg h0 h1
  by_cases h2 : s.peer < p.fr
  · by_cases hk : 0 < s.peer
    · exact rtake_met1 h p hx hT hf hl ha hg h0 h1 h2 hk
    · exact rtake_met0 h p hx hT hf hl ha hg h0 h1 h2 hk
  · exact rtake_same h p hx hT hf hl ha hg h0 h1 h2
theorem rsend_lo {w : World} {n : Nat} {s : St} {O : Nat → Prop} (h : Lo true w n s O) {x : Value} {b : List UInt8} (hx : Bs w x b) :
    Calls Try.prog 13 #[.pointer (some ⟨n, 0, none⟩), x] w fun e w' => e = .returned (.int .i64 (sendE s b)) ∧ Lo true w' n (sendS s b) (fun g => O g ∨ Nw w w' g) ∧ Chg O w w' := by
  refine (rsend_any h.1 hx).mono ?_
  rintro e w' ⟨rfl, hl, hk⟩
  exact ⟨rfl, h.of_next hl hk⟩
theorem rreset_lo {w : World} {n : Nat} {s : St} {O : Nat → Prop} (h : Lo true w n s O) (inc : Int) :
    Calls Try.prog 22 #[.pointer (some ⟨n, 0, none⟩), .int .i64 inc] w fun e w' => e = .returned (.tuple #[]) ∧ Lo true w' n (resetS s inc) (fun g => O g ∨ Nw w w' g) ∧ Chg O w w' := by
  refine (rreset_any h.1 inc).mono ?_
  rintro e w' ⟨rfl, hl, hk⟩
  exact ⟨rfl, h.of_next hl hk⟩
theorem rtake_lo' {w : World} {n : Nat} {s : St} {O : Nat → Prop} (h : Lo true w n s O) (p : Pkt) {A : Option Addr} {C : Nat} (hx : Bs w (.slice A p.load.length C) p.load) (hT : ∀ g, bk (.slice A p.load.length C) = some g → ¬ O g)
    (hf : i64 p.fr) (hl : p.load.length ≤ 140737488355328) (ha : s.acked < 4611686018427387904) (hg : s.got < 4611686018427387904) :
    Calls Try.prog 18 #[.pointer (some ⟨n, 0, none⟩), pkV p A C] w fun e w' => ∃ A' C', e = .returned (tkV (takeR s p) A' C') ∧ w'.ownsRow w.heap.size 5 1 (.slice A' (takeR s p).load.length C') (takeR s p).load.length (bv (takeR s p).load) ∧
      Lo true w' n (takeR s p).st (fun g => O g ∨ (Nw w w' g ∧ blk (.slice A' (takeR s p).load.length C') ≠ some g)) ∧ Chg O w w' := by
  refine (rtake_any h.1 p hx (fun g hg => ⟨hx.lt hg, hT g hg⟩) hf hl ha hg).mono ?_
  rintro e w' ⟨A', C', rfl, ho, hn, hl, hk⟩
  have h2 := h.of_next (hl.fewer fun g hg => .inl hg) hk
  refine ⟨A', C', rfl, ho, ⟨hl.fewer fun g hg => ?_, .inl h.2.1, fun g hg => ?_⟩, h2.2⟩
  · by_cases e : blk (.slice A' (takeR s p).load.length C') = some g
    · exact .inr e
    · refine .inl ⟨?_, fun q => hg.2 (.inl q)⟩
      rcases Nat.lt_or_ge g w.heap.size with q | q
      · exact q
      · exact absurd (.inr ⟨⟨q, hg.1⟩, e⟩) hg.2
  · rcases hg with hg | hg
    · exact hk.lt_of (h.2.2 g hg)
    · exact hg.1.2
end Go.Proofs.Ytnonboegnbnepaa
