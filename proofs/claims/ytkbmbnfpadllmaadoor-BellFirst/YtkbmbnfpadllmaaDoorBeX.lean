/- A step of a tower's life as it comes in. -/
import Derived.Test.YtkbmbnfpadllmaaDoorDdIn
namespace Go.Proofs.YtkbmbnfpadllmaaDoor.We
set_option linter.unusedVariables false
/- The cells of a step. -/
abbrev doV (op cn so : Int) (pp : ByteArray) (f : Fl) (A1 A2 A3 : Option Addr) (c1 c2 c3 : Nat) (la : Int) (np : ByteArray) (N1 : Option Addr) (nl n1 : Nat) (s0 s1 s2 s3 s4 s5 s6 s7 s8 s9 : Int) (th : Bool) : Array Value := #[.int .i64 op, .int .i64 cn, .int .u8 so, .string pp, .int .i64 f.zxid, .int .u8 f.kind, .int .i64 f.session, .int .i64 f.turn, .int .i64 f.xid, .int .i64 f.time, .string (mkS f.path), .slice A1 f.data.length c1, .int .i64 f.owner, .int .i64 f.version, .int .i64 f.cversion, .int .i64 f.timeout, .int .i64 f.err, .int .i64 f.cver, .slice A2 f.mems.length c2, .slice A3 f.np c3, .int .i64 la, .string np, .slice N1 nl n1, .int .i64 s0, .int .i64 s1, .int .i64 s2, .int .i64 s3, .int .i64 s4, .int .i64 s5, .int .i64 s6, .int .i64 s7, .int .i64 s8, .int .i64 s9, .bool th]
end Go.Proofs.YtkbmbnfpadllmaaDoor.We
namespace Go.Proofs.YtkbmbnfpadllmaaDoor.DD
set_option linter.unusedVariables false
open Go.ChangeShapes Go.WideShapes Go.ChangeAt Go.RowKit
set_option linter.unusedVariables false

theorem list34 {cs : List Value} (h : cs.length = 34) : ∃ v0 v1 v2 v3 v4 v5 v6 v7 v8 v9 v10 v11 v12 v13 v14 v15 v16 v17 v18 v19 v20 v21 v22 v23 v24 v25 v26 v27 v28 v29 v30 v31 v32 v33, cs = [v0, v1, v2, v3, v4, v5, v6, v7, v8, v9, v10, v11, v12, v13, v14, v15, v16, v17, v18, v19, v20, v21, v22, v23, v24, v25, v26, v27, v28, v29, v30, v31, v32, v33] := by
  match cs, h with
  | v0 :: v1 :: v2 :: v3 :: v4 :: v5 :: v6 :: v7 :: v8 :: v9 :: v10 :: v11 :: v12 :: v13 :: v14 :: v15 :: v16 :: v17 :: v18 :: v19 :: v20 :: v21 :: v22 :: v23 :: v24 :: v25 :: v26 :: v27 :: v28 :: v29 :: v30 :: v31 :: v32 :: v33 :: [], _ => exact ⟨v0, v1, v2, v3, v4, v5, v6, v7, v8, v9, v10, v11, v12, v13, v14, v15, v16, v17, v18, v19, v20, v21, v22, v23, v24, v25, v26, v27, v28, v29, v30, v31, v32, v33, rfl⟩
theorem do_cells : Tryd.prog.cellsOf 38 = 34 := by kernel_rfl
theorem node_cells : Tryd.prog.cellsOf 36 = 12 := by kernel_rfl
theorem stat_cells : Tryd.prog.cellsOf 34 = 10 := by kernel_rfl
set_option maxRecDepth 100000 in
set_option maxHeartbeats 2000000 in
theorem stat_read {H : Type} {enc : TypeId × Value → H} {W : World} {fuel : Nat} {v0 v1 v2 v3 v4 v5 v6 v7 v8 v9 : Value} {x : DataW H × List MemPlace}
    (hf : DataW.trod enc Tryd.prog W 0 (fun _ => true) true fuel 34 [v0, v1, v2, v3, v4, v5, v6, v7, v8, v9] = some x) :
    ∃ s0 s1 s2 s3 s4 s5 s6 s7 s8 s9 : Int, v0 = .int .i64 s0 ∧ v1 = .int .i64 s1 ∧ v2 = .int .i64 s2 ∧ v3 = .int .i64 s3 ∧ v4 = .int .i64 s4 ∧ v5 = .int .i64 s5 ∧ v6 = .int .i64 s6 ∧ v7 = .int .i64 s7 ∧ v8 = .int .i64 s8 ∧ v9 = .int .i64 s9 ∧ I64 s0 ∧ I64 s1 ∧ I64 s2 := by
  obtain ⟨xs, n, _, hx, hl, hlen, hfs⟩ := DataW.trod_struct Tryd.underlying34 hf
  have hget : ∀ i (h : i < 10), xs[i]? = some (xs[i]'(by rw [hlen]; exact h)) := fun i h => List.getElem?_eq_getElem _
  obtain ⟨z0, hz0, -, w0⟩ := DataW.trod_int Tryd.underlying23 ((hfs 0 _ rfl).trans (hget 0 (by decide)))
  have e0 : v0 = .int .i64 z0 := by simpa [show Tryd.prog.cellsOf 23 = 1 by kernel_rfl] using hz0
  obtain ⟨z1, hz1, -, w1⟩ := DataW.trod_int Tryd.underlying23 ((hfs 1 _ rfl).trans (hget 1 (by decide)))
  have e1 : v1 = .int .i64 z1 := by simpa [show Tryd.prog.cellsOf 23 = 1 by kernel_rfl] using hz1
  obtain ⟨z2, hz2, -, w2⟩ := DataW.trod_int Tryd.underlying23 ((hfs 2 _ rfl).trans (hget 2 (by decide)))
  have e2 : v2 = .int .i64 z2 := by simpa [show Tryd.prog.cellsOf 23 = 1 by kernel_rfl] using hz2
  obtain ⟨z3, hz3, -, w3⟩ := DataW.trod_int Tryd.underlying2 ((hfs 3 _ rfl).trans (hget 3 (by decide)))
  have e3 : v3 = .int .i64 z3 := by simpa [show Tryd.prog.cellsOf 2 = 1 by kernel_rfl] using hz3
  obtain ⟨z4, hz4, -, w4⟩ := DataW.trod_int Tryd.underlying2 ((hfs 4 _ rfl).trans (hget 4 (by decide)))
  have e4 : v4 = .int .i64 z4 := by simpa [show Tryd.prog.cellsOf 2 = 1 by kernel_rfl] using hz4
  obtain ⟨z5, hz5, -, w5⟩ := DataW.trod_int Tryd.underlying3 ((hfs 5 _ rfl).trans (hget 5 (by decide)))
  have e5 : v5 = .int .i64 z5 := by simpa [show Tryd.prog.cellsOf 3 = 1 by kernel_rfl] using hz5
  obtain ⟨z6, hz6, -, w6⟩ := DataW.trod_int Tryd.underlying3 ((hfs 6 _ rfl).trans (hget 6 (by decide)))
  have e6 : v6 = .int .i64 z6 := by simpa [show Tryd.prog.cellsOf 3 = 1 by kernel_rfl] using hz6
  obtain ⟨z7, hz7, -, w7⟩ := DataW.trod_int Tryd.underlying2 ((hfs 7 _ rfl).trans (hget 7 (by decide)))
  have e7 : v7 = .int .i64 z7 := by simpa [show Tryd.prog.cellsOf 2 = 1 by kernel_rfl] using hz7
  obtain ⟨z8, hz8, -, w8⟩ := DataW.trod_int Tryd.underlying3 ((hfs 8 _ rfl).trans (hget 8 (by decide)))
  have e8 : v8 = .int .i64 z8 := by simpa [show Tryd.prog.cellsOf 3 = 1 by kernel_rfl] using hz8
  obtain ⟨z9, hz9, -, w9⟩ := DataW.trod_int Tryd.underlying3 ((hfs 9 _ rfl).trans (hget 9 (by decide)))
  have e9 : v9 = .int .i64 z9 := by simpa [show Tryd.prog.cellsOf 3 = 1 by kernel_rfl] using hz9
  exact ⟨z0, z1, z2, z3, z4, z5, z6, z7, z8, z9, e0, e1, e2, e3, e4, e5, e6, e7, e8, e9, wf_i64 w0, wf_i64 w1, wf_i64 w2⟩
set_option maxRecDepth 100000 in
set_option maxHeartbeats 2000000 in
theorem node_read {H : Type} {enc : TypeId × Value → H} {W : World} {fuel : Nat} {u0 u1 v0 v1 v2 v3 v4 v5 v6 v7 v8 v9 : Value} {x : DataW H × List MemPlace}
    (hf : DataW.trod enc Tryd.prog W 0 (fun _ => true) true fuel 36 [u0, u1, v0, v1, v2, v3, v4, v5, v6, v7, v8, v9] = some x) :
    ∃ (np : ByteArray) (N1 : Option Addr) (nl n1 : Nat) (s0 s1 s2 s3 s4 s5 s6 s7 s8 s9 : Int), u0 = .string np ∧ u1 = .slice N1 nl n1 ∧ v0 = .int .i64 s0 ∧ v1 = .int .i64 s1 ∧ v2 = .int .i64 s2 ∧ v3 = .int .i64 s3 ∧ v4 = .int .i64 s4 ∧ v5 = .int .i64 s5 ∧ v6 = .int .i64 s6 ∧ v7 = .int .i64 s7 ∧ v8 = .int .i64 s8 ∧ v9 = .int .i64 s9 ∧ I64 s0 ∧ I64 s1 ∧ I64 s2 := by
  obtain ⟨xs, n, _, hx, hl, hlen, hfs⟩ := DataW.trod_struct Tryd.underlying36 hf
  have hget : ∀ i (h : i < 3), xs[i]? = some (xs[i]'(by rw [hlen]; exact h)) := fun i h => List.getElem?_eq_getElem _
  obtain ⟨s, hz0, -, -⟩ := DataW.trod_string Tryd.underlying9 ((hfs 0 _ rfl).trans (hget 0 (by decide)))
  have e0 : u0 = .string s := by simpa [show Tryd.prog.cellsOf 9 = 1 by kernel_rfl] using hz0
  obtain ⟨ld, A1, c1, hz1, hbs, -, -⟩ := bytes_read ((hfs 1 _ rfl).trans (hget 1 (by decide)))
  have e1 : u1 = .slice A1 ld.length c1 := by simpa [show Tryd.prog.cellsOf 25 = 1 by kernel_rfl] using hz1
  have t2 := (hfs 2 _ rfl).trans (hget 2 (by decide))
  have t2' : DataW.trod enc Tryd.prog W 0 (fun _ => true) true n 34 [v0, v1, v2, v3, v4, v5, v6, v7, v8, v9] = some (xs[2]'(by rw [hlen]; decide)) := by
    simpa [stat_cells] using t2
  obtain ⟨z0, z1, z2, z3, z4, z5, z6, z7, z8, z9, f0, f1, f2, f3, f4, f5, f6, f7, f8, f9, g0, g1, g2⟩ := stat_read t2'
  exact ⟨s, A1, ld.length, c1, z0, z1, z2, z3, z4, z5, z6, z7, z8, z9, e0, e1, f0, f1, f2, f3, f4, f5, f6, f7, f8, f9, g0, g1, g2⟩
/- A step as it comes in. -/
structure Dst where
  op : Int
  cn : Int
  so : Int
  p : List UInt8
  f : Fl
  ps : List Fl
  A1 : Option Addr
  A2 : Option Addr
  A3 : Option Addr
  c1 : Nat
  c2 : Nat
  c3 : Nat
  la : Int
  np : ByteArray
  N1 : Option Addr
  nl : Nat
  n1 : Nat
  s0 : Int
  s1 : Int
  s2 : Int
  s3 : Int
  s4 : Int
  s5 : Int
  s6 : Int
  s7 : Int
  s8 : Int
  s9 : Int
  th : Bool
abbrev Dst.cells (d : Dst) : Array Value := We.doV d.op d.cn d.so (mkS d.p) d.f d.A1 d.A2 d.A3 d.c1 d.c2 d.c3 d.la d.np d.N1 d.nl d.n1 d.s0 d.s1 d.s2 d.s3 d.s4 d.s5 d.s6 d.s7 d.s8 d.s9 d.th
structure Dst.Ok (d : Dst) (W : World) : Prop where
  val : DVal W d.f d.ps d.A1 d.c1 d.A2 d.c2 d.A3 d.c3
  fit : DedFit d.f d.ps
  np : d.f.np ≤ 9223372036854775807
  op : I64 d.op
  cn : I64 d.cn
  so : 0 ≤ d.so ∧ d.so < 256
  la : I64 d.la
  s0 : I64 d.s0
  s1 : I64 d.s1
  s2 : I64 d.s2
set_option maxRecDepth 100000 in
set_option maxHeartbeats 2000000 in
theorem do_in {H : Type} {enc : TypeId × Value → H} {W : World} {fuel : Nat} {cs : List Value} {x : DataW H × List MemPlace}
    (hf : DataW.trod enc Tryd.prog W 0 (fun _ => true) true fuel 38 cs = some x) : ∃ d : Dst, cs = d.cells.toList ∧ d.Ok W := by
  obtain ⟨xs, n, _, hx, hl, hlen, hfs⟩ := DataW.trod_struct Tryd.underlying38 hf
  rw [do_cells] at hl
  obtain ⟨v0, v1, v2, v3, v4, v5, v6, v7, v8, v9, v10, v11, v12, v13, v14, v15, v16, v17, v18, v19, v20, v21, v22, v23, v24, v25, v26, v27, v28, v29, v30, v31, v32, v33, rfl⟩ := list34 hl
  have hget : ∀ i (h : i < 8), xs[i]? = some (xs[i]'(by rw [hlen]; exact h)) := fun i h => List.getElem?_eq_getElem _
  obtain ⟨z0, hz0, -, w0⟩ := DataW.trod_int Tryd.underlying3 ((hfs 0 _ rfl).trans (hget 0 (by decide)))
  have e0 : v0 = .int .i64 z0 := by simpa [show Tryd.prog.cellsOf 3 = 1 by kernel_rfl] using hz0
  obtain ⟨z1, hz1, -, w1⟩ := DataW.trod_int Tryd.underlying3 ((hfs 1 _ rfl).trans (hget 1 (by decide)))
  have e1 : v1 = .int .i64 z1 := by simpa [show Tryd.prog.cellsOf 3 = 1 by kernel_rfl] using hz1
  obtain ⟨z2, hz2, -, w2⟩ := DataW.trod_int Tryd.underlying22 ((hfs 2 _ rfl).trans (hget 2 (by decide)))
  have e2 : v2 = .int .u8 z2 := by simpa [show Tryd.prog.cellsOf 22 = 1 by kernel_rfl] using hz2
  obtain ⟨s3, hz3, -, -⟩ := DataW.trod_string Tryd.underlying9 ((hfs 3 _ rfl).trans (hget 3 (by decide)))
  have e3 : v3 = .string s3 := by simpa [show Tryd.prog.cellsOf 9 = 1 by kernel_rfl] using hz3
  obtain ⟨p3, rfl⟩ := PA.mkS_of s3
  have t4 := (hfs 4 _ rfl).trans (hget 4 (by decide))
  have t4' : DataW.trod enc Tryd.prog W 0 (fun _ => true) true n 32 [v4, v5, v6, v7, v8, v9, v10, v11, v12, v13, v14, v15, v16, v17, v18, v19] = some (xs[4]'(by rw [hlen]; decide)) := by
    simpa [deed_cells] using t4
  obtain ⟨f, ps, A1, A2, A3, c1, c2, c3, hcs, V, F, NPs⟩ := deed_in t4'
  simp only [List.cons.injEq, and_true] at hcs
  obtain ⟨d0, d1, d2, d3, d4, d5, d6, d7, d8, d9, d10, d11, d12, d13, d14, d15⟩ := hcs
  obtain ⟨z5, hz5, -, w5⟩ := DataW.trod_int Tryd.underlying23 ((hfs 5 _ rfl).trans (hget 5 (by decide)))
  have e5 : v20 = .int .i64 z5 := by simpa [show Tryd.prog.cellsOf 23 = 1 by kernel_rfl] using hz5
  have t6 := (hfs 6 _ rfl).trans (hget 6 (by decide))
  have t6' : DataW.trod enc Tryd.prog W 0 (fun _ => true) true n 36 [v21, v22, v23, v24, v25, v26, v27, v28, v29, v30, v31, v32] = some (xs[6]'(by rw [hlen]; decide)) := by
    simpa [node_cells] using t6
  obtain ⟨np, N1, nl, n1, s0, s1, s2, s3, s4, s5, s6, s7, s8, s9, g0, g1, h0, h1, h2, h3, h4, h5, h6, h7, h8, h9, k0, k1, k2⟩ := node_read t6'
  obtain ⟨th, hz7, -⟩ := DataW.trod_bool Tryd.underlying4 ((hfs 7 _ rfl).trans (hget 7 (by decide)))
  have e7 : v33 = .bool th := by simpa [show Tryd.prog.cellsOf 4 = 1 by kernel_rfl] using hz7
  subst e0 e1 e2 e3 d0 d1 d2 d3 d4 d5 d6 d7 d8 d9 d10 d11 d12 d13 d14 d15 e5 g0 g1 h0 h1 h2 h3 h4 h5 h6 h7 h8 h9 e7
  exact ⟨⟨z0, z1, z2, p3, f, ps, A1, A2, A3, c1, c2, c3, z5, np, N1, nl, n1, s0, s1, s2, s3, s4, s5, s6, s7, s8, s9, th⟩, rfl, V, F, NPs, wf_i64 w0, wf_i64 w1, wf_u8 w2, wf_i64 w5, k0, k1, k2⟩
end Go.Proofs.YtkbmbnfpadllmaaDoor.DD
