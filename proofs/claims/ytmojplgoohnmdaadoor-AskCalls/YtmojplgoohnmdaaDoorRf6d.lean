/- What serves the walks of the document's body of a call. -/
import Derived.Test.YtmojplgoohnmdaaDoorRefW
import Derived.Test.YtmojplgoohnmdaaDoorRf6b
import Derived.Test.YtmojplgoohnmdaaDoorAkA
namespace Go.Proofs.YtmojplgoohnmdaaDoor.AK
set_option linter.unusedSimpArgs false
set_option linter.unusedVariables false
open Go.RowKit
set_option linter.unusedVariables false
set_option linter.unusedSimpArgs false

theorem WrF.below {w w' : World} {base g : Nat} {q : Option Nat} {l : List UInt8} (h : WrF w base g q l) (hb : Below w.heap.size w w') : WrF w' base g q l := RowAt.keep h (Chg.of_below hb) (fun e => e) (fun _ _ e => e)
theorem putF_below {w w' : World} {base g : Nat} {q q' : Option Nat} {l : List UInt8} (h : WrF w base g q l) (hg : base ≤ g) (hp : Put g q w w' q') : Below base w w' := by
  obtain ⟨v, _, _, _, _, hb⟩ := h
  exact hp.chg.below (fun k e => by
    rcases e with e | e
    · omega
    · have := (RowAt.qlt ⟨v, by assumption, by assumption, by assumption, by assumption, hb⟩ k e).1; omega) hb
theorem WrF.base' {w : World} {base g : Nat} {q : Option Nat} {l : List UInt8} (h : WrF w base g q l) : base ≤ w.heap.size := by obtain ⟨v, _, _, _, _, hb⟩ := h; exact hb
/- The state of a body that is put: the writer, the blocks of the parameter and of what its kind has. -/
structure PB (f : Qf) (A1 : Option Addr) (c1 : Nat) (A2 : Option Addr) (c2 : Nat) (A3 : Option Addr) (c3 : Nat) (BB : Array Value) (w0 : World) (base g p ph : Nat) (q0 : Option Nat) (w : World) (q : Option Nat) (l : List UInt8) : Prop where
  wr : WrF w base g q l
  put : Put g q0 w0 w q
  own : Own w p (.cells #[.int .u8 f.kind, .int .i64 f.xid, .int .i64 f.session, .int .i64 f.turn, .string (mkS f.path), .slice A1 f.data.length c1, .int .i64 f.flags, .int .i64 f.version, .bool f.watch, .int .u8 f.sort, .int .i64 f.last, .int .i64 f.timeout, .int .i64 f.frm, .slice A2 f.mems.length c2, .slice A3 f.np c3] 29 (0, 0)) g q
  hh : Own w ph (.cells BB 114 (0, 0)) g q
  hg : base ≤ g
  rest : QRest w base f A1 c1 A2 c2
theorem PB.step {f : Qf} {A1 A2 A3 : Option Addr} {c1 c2 c3 : Nat} {BB : Array Value} {w0 w w' : World} {base g p ph : Nat} {q0 q q' : Option Nat} {l l' : List UInt8} (h : PB f A1 c1 A2 c2 A3 c3 BB w0 base g p ph q0 w q l) (hW : WrF w' base g q' l') (hP : Put g q w w' q') : PB f A1 c1 A2 c2 A3 c3 BB w0 base g p ph q0 w' q' l' :=
  ⟨hW, h.put.trans hP, h.own.put hP, h.hh.put hP, h.hg, h.rest.below (putF_below h.wr h.hg hP)⟩
theorem PB.below {f : Qf} {A1 A2 A3 : Option Addr} {c1 c2 c3 : Nat} {BB : Array Value} {w0 w w' : World} {base g p ph : Nat} {q0 q : Option Nat} {l : List UInt8} (h : PB f A1 c1 A2 c2 A3 c3 BB w0 base g p ph q0 w q l) (hB : Below w.heap.size w w') : PB f A1 c1 A2 c2 A3 c3 BB w0 base g p ph q0 w' q l :=
  h.step (WrF.below h.wr hB) (Put.below hB)
theorem PB.start {f : Qf} {A1 A2 A3 : Option Addr} {c1 c2 c3 : Nat} {BB : Array Value} {w w1 w2 w3 : World} {base g : Nat} {q : Option Nat} {l : List UInt8} (h : WrF w base g q l) (hg : base ≤ g) (hr : QRest w base f A1 c1 A2 c2) (hw1 : w1 = w.alloc (.cells #[.int .u8 f.kind, .int .i64 f.xid, .int .i64 f.session, .int .i64 f.turn, .string (mkS f.path), .slice A1 f.data.length c1, .int .i64 f.flags, .int .i64 f.version, .bool f.watch, .int .u8 f.sort, .int .i64 f.last, .int .i64 f.timeout, .int .i64 f.frm, .slice A2 f.mems.length c2, .slice A3 f.np c3] 29)) (hB2 : Below w1.heap.size w1 w2) (hw3 : w3 = w2.alloc (.cells BB 114)) :
    PB f A1 c1 A2 c2 A3 c3 BB w base g w.heap.size w2.heap.size q w3 q l := by
  have hB1 : Below w.heap.size w w1 := by rw [hw1]; exact (Below.refl _ _).alloc (Nat.le_refl _) _
  have hB3 : Below w2.heap.size w2 w3 := by rw [hw3]; exact (Below.refl _ _).alloc (Nat.le_refl _) _
  have hc1 : w1.heap[w.heap.size]? = some (.cells #[.int .u8 f.kind, .int .i64 f.xid, .int .i64 f.session, .int .i64 f.turn, .string (mkS f.path), .slice A1 f.data.length c1, .int .i64 f.flags, .int .i64 f.version, .bool f.watch, .int .u8 f.sort, .int .i64 f.last, .int .i64 f.timeout, .int .i64 f.frm, .slice A2 f.mems.length c2, .slice A3 f.np c3] 29 (0, 0)) := by rw [hw1]; exact heap_alloc_new w _
  have hc2 : w2.heap[w.heap.size]? = some (.cells #[.int .u8 f.kind, .int .i64 f.xid, .int .i64 f.session, .int .i64 f.turn, .string (mkS f.path), .slice A1 f.data.length c1, .int .i64 f.flags, .int .i64 f.version, .bool f.watch, .int .u8 f.sort, .int .i64 f.last, .int .i64 f.timeout, .int .i64 f.frm, .slice A2 f.mems.length c2, .slice A3 f.np c3] 29 (0, 0)) := by rw [hB2.block _ (heap_lt hc1)]; exact hc1
  have hc3 : w3.heap[w.heap.size]? = some (.cells #[.int .u8 f.kind, .int .i64 f.xid, .int .i64 f.session, .int .i64 f.turn, .string (mkS f.path), .slice A1 f.data.length c1, .int .i64 f.flags, .int .i64 f.version, .bool f.watch, .int .u8 f.sort, .int .i64 f.last, .int .i64 f.timeout, .int .i64 f.frm, .slice A2 f.mems.length c2, .slice A3 f.np c3] 29 (0, 0)) := by rw [hB3.block _ (heap_lt hc2)]; exact hc2
  have hB02 := hB1.trans (hB2.mono hB1.size)
  have hB03 := hB02.trans (hB3.mono hB02.size)
  have hgl := RowAt.lt h
  have hql := RowAt.qlt h
  have hs := hB02.size
  refine ⟨WrF.below h hB03, Put.below hB03, ⟨hc3, by omega, fun e => by have := (hql _ e).2; omega⟩, ⟨by rw [hw3]; exact heap_alloc_new w2 _, by omega, fun e => by have := (hql _ e).2; omega⟩, hg, hr.below (hB03.mono (WrF.base' h))⟩
end Go.Proofs.YtmojplgoohnmdaaDoor.AK
