/- What a packet that comes in gives. -/
import Derived.Test.YtpmbkncakbcmbaaDkLift
import Derived.Test.YtpmbkncakbcmbaaLkF
import Derived.Deep.Slices
import Derived.Deep.Strs
import Derived.Lib.SmallJoins
namespace Go.Proofs.Ytpmbkncakbcmbaa
open Go.ChangeShapes Go.WideShapes Go.ChangeAt Go.RowKit

theorem trod_five {P : Program} {H : Type} {enc : TypeId × Value → H} {w : World} {base : Nat} {spare : Nat → Bool} {held : Bool} {t : TypeId} {f0 f1 f2 f3 f4 : Field} {fuel : Nat} {cs : List Value} {x : DataW H × List MemPlace} (ht : P.underlying t = some (.struct #[f0, f1, f2, f3, f4])) (h : DataW.trod enc P w base spare held fuel t cs = some x) :
    ∃ y0 y1 y2 y3 y4 n, DataW.trod enc P w base spare held n f0.type ((cs.drop f0.offset).take (P.cellsOf f0.type)) = some y0 ∧ DataW.trod enc P w base spare held n f1.type ((cs.drop f1.offset).take (P.cellsOf f1.type)) = some y1 ∧
      DataW.trod enc P w base spare held n f2.type ((cs.drop f2.offset).take (P.cellsOf f2.type)) = some y2 ∧ DataW.trod enc P w base spare held n f3.type ((cs.drop f3.offset).take (P.cellsOf f3.type)) = some y3 ∧ DataW.trod enc P w base spare held n f4.type ((cs.drop f4.offset).take (P.cellsOf f4.type)) = some y4 ∧ x.1 = .agg [y0.1, y1.1, y2.1, y3.1, y4.1] := by
  obtain ⟨xs, n, _, rfl, hl, hlen, hf⟩ := DataW.trod_struct ht h
  match xs, hlen with
  | [y0, y1, y2, y3, y4], _ => exact ⟨y0, y1, y2, y3, y4, n, by simpa using hf 0 f0 rfl, by simpa using hf 1 f1 rfl, by simpa using hf 2 f2 rfl, by simpa using hf 3 f3 rfl, by simpa using hf 4 f4 rfl, by simp⟩
theorem pkt_cells : Try.prog.cellsOf 32 = 5 := by kernel_rfl
theorem k3 : Try.prog.cellsOf 3 = 1 := by kernel_rfl
theorem kb : Try.prog.cellsOf 30 = 1 := by kernel_rfl
def Pkt.ok (p : Pkt) : Prop := i64 p.fr ∧ i64 p.to ∧ i64 p.seq ∧ i64 p.ack
set_option maxRecDepth 100000 in
theorem pkt_read {H : Type} {enc : TypeId × Value → H} {W : World} {fuel : Nat} {cs : List Value} {x : DataW H × List MemPlace} (hf : DataW.trod enc Try.prog W 0 (fun _ => true) true fuel 32 cs = some x) (hl : cs.length = 5) :
    ∃ (p : Pkt) (A : Option Addr) (C : Nat) (y0 y1 y2 y3 y4 : DataW H), cs = [.int .i64 p.fr, .int .i64 p.to, .int .i64 p.seq, .int .i64 p.ack, .slice A p.load.length C] ∧ p.ok ∧ Bs W (.slice A p.load.length C) p.load ∧ x.1 = .agg [y0, y1, y2, y3, y4] ∧ ((∀ y ∈ DataW.weights Try.prog 30 y4, y ≤ reachBytes) → p.load.length ≤ 140737488351232) := by
  obtain ⟨y0, y1, y2, y3, y4, n', t0, t1, t2, t3, t4, hx⟩ := trod_five Try.underlying32 hf
  match cs, hl with
  | [v0, v1, v2, v3, v4], _ =>
  obtain ⟨a0, h0, _, w0⟩ := DataW.trod_int Try.underlying3 t0
  obtain ⟨a1, h1, _, w1⟩ := DataW.trod_int Try.underlying3 t1
  obtain ⟨a2, h2, _, w2⟩ := DataW.trod_int Try.underlying3 t2
  obtain ⟨a3, h3, _, w3⟩ := DataW.trod_int Try.underlying3 t3
  obtain ⟨lb, A, C, h4, hB, hS, _⟩ := bytes_read t4
  have e0 : v0 = .int .i64 a0 := by have := h0; revert this; simp [k3]
  have e1 : v1 = .int .i64 a1 := by have := h1; revert this; simp [k3]
  have e2 : v2 = .int .i64 a2 := by have := h2; revert this; simp [k3]
  have e3 : v3 = .int .i64 a3 := by have := h3; revert this; simp [k3]
  have e4 : v4 = .slice A lb.length C := by have := h4; revert this; simp [kb]
  subst e0 e1 e2 e3 e4
  exact ⟨⟨a0, a1, a2, a3, lb⟩, A, C, _, _, _, _, _, rfl, ⟨wf_i64 w0, wf_i64 w1, wf_i64 w2, wf_i64 w3⟩, hB, hx, hS⟩
theorem pkt_in {H : Type} {enc : TypeId × Value → H} {W : World} {base : Nat} {v : Value} {d : DataW H} {p : List MemPlace}
    (hv : Value.okWide Try.prog W .any base 32 v) (h : DataW.Trod enc Try.prog W 0 (fun _ => true) true 32 v d p) :
    ∃ (q : Pkt) (A : Option Addr) (C : Nat), v = pkV q A C ∧ q.ok ∧ Bs W (.slice A q.load.length C) q.load := by
  obtain ⟨cs, rfl, hsz⟩ := okWide_struct Try.underlying32 hv
  obtain ⟨fuel, hf⟩ := h
  obtain ⟨q, A, C, y0, y1, y2, y3, y4, hcs, h1, h2, _⟩ := pkt_read hf (by rw [pkt_cells] at hsz; simpa [Value.cells] using hsz)
  refine ⟨q, A, C, ?_, h1, h2⟩
  unfold pkV
  congr 1
  apply Array.toList_inj.1
  simpa [Value.cells] using hcs
end Go.Proofs.Ytpmbkncakbcmbaa
