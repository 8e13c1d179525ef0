/- The region of Scan that appends a deed: it draws its order; all orders come to one end. -/
import Derived.Test.YtaeoafedfgbcaaaGreatDoorSgBa
import Derived.Test.YtaeoafedfgbcaaaGreatDoorDdJa
namespace Go.Proofs.YtaeoafedfgbcaaaGreatDoor.DD
set_option linter.unusedVariables false
open Go.RowKit Go.Shelf
attribute [local go_sem] Oper.semAt_some
set_option linter.unusedVariables false

theorem wpListIn_run_append {F : Fence} {n : Nat} {P : Program} {w w' : World} {ops : Array Oper} {rest : List Oper} {o : Oper} {a : Act} {Q : Exit → Act → World → Prop} (hg : o.guard = none) (s x : Operand) (t : TypeId) (hop : o.op = Op.call { callee := Callee.builtin Builtin.append, args := #[s, x], argTypes := #[t, t] }) {v u v' : Value} (hs : a.eval s = v) (hx : a.eval x = u)
    (hrun : (Builtin.append_ #[t, t] o.type #[v, u]).run P w = .ok v' w') (h : wpListIn F n P ops Q rest (a.put o.dst v') w') : wpListIn F n P ops Q (o :: rest) a w := by
  refine wpListIn_plain hg fun K hK => ?_
  unfold Oper.wpIn
  refine ⟨?_, ?_⟩
  · simp [Oper.about, hop, resolve, Target.leads, Sem.run_pure]
  · rw [Oper.semAt_plain F _ _ (by rw [hop]; intro c hc; cases hc)]
    simp [execOp, hop, resolve, invoke, builtin, hs, hx, hrun, Result.andThen]
    exact hK _ _ h

theorem there_set {w : World} {g o n N : Nat} (h : w.there g o n) (hN : ¬ N = g) (v : Value) : (w.setCell ⟨N, 0, none⟩ v).there g o n := by
  intro j hj
  have e : (w.setCell ⟨N, 0, none⟩ v).heap[g]? = w.heap[g]? := Below.heap_setCell w ⟨N, 0, none⟩ v g (fun e => hN e.symm)
  rw [World.cell?_of_block (a := ⟨g, o + j, none⟩) e, World.frozen?_of_block (a := ⟨g, o + j, none⟩) e]
  exact h j hj
theorem opIn_load {F : Fence} {n : Nat} {P : Program} {ops : Array Oper} {o : Oper} {a : Act} {w : World} {K : Act → World → Prop} {Q : Exit → Act → World → Prop} {E : Prop} (hg : o.guard = none) (ty : TypeId) (x : Operand) (ho : o.op = .load ty x) (b off : Nat) (hx : a.eval x = .pointer (some ⟨b, off, none⟩)) (cs : List Value) (d : TypeDesc) (hc : w.rangeAt b off cs) (hu : P.underlying ty = some d) (hd : d.isRow = true) (hi : (P.info? ty).map (·.size) = some cs.length)
    (h : K (a.put o.dst (.agg cs.toArray)) w) : if Region.wanted o (yielded ops a.tmps) = true then Oper.wpIn F n P o a w K Q else E := by
  rw [if_pos (by simp [Region.wanted, hg])]
  unfold Oper.wpIn
  refine ⟨?_, ?_⟩
  · simp [Oper.about, ho]
  · rw [Oper.semAt_plain F _ _ (by rw [ho]; intro c hc; cases hc)]
    unfold execOp
    simp only [ho, hx, Instr.loadAt, Instr.sureAddr, Sem.run_bind, Sem.run_pure, Result.andThen_ok, run_loadVar_mid w b off ty cs d hc hu hd hi]
    exact h
theorem opIn_append {F : Fence} {n : Nat} {P : Program} {ops : Array Oper} {o : Oper} {a : Act} {w w' : World} {K : Act → World → Prop} {Q : Exit → Act → World → Prop} {E : Prop} (hg : o.guard = none) (s x : Operand) (t : TypeId) (hop : o.op = Op.call { callee := Callee.builtin Builtin.append, args := #[s, x], argTypes := #[t, t] }) {v u v' : Value} (hs : a.eval s = v) (hx : a.eval x = u) (hrun : (Builtin.append_ #[t, t] o.type #[v, u]).run P w = .ok v' w')
    (h : K (a.put o.dst v') w') : if Region.wanted o (yielded ops a.tmps) = true then Oper.wpIn F n P o a w K Q else E := by
  rw [if_pos (by simp [Region.wanted, hg])]
  unfold Oper.wpIn
  refine ⟨?_, ?_⟩
  · simp [Oper.about, hop, resolve, Target.leads, Sem.run_pure]
  · rw [Oper.semAt_plain F _ _ (by rw [hop]; intro c hc; cases hc)]
    simp [execOp, hop, resolve, invoke, builtin, hs, hx, hrun, Result.andThen]
    exact h
theorem opIn_store {F : Fence} {n : Nat} {P : Program} {ops : Array Oper} {o : Oper} {a : Act} {w : World} {K : Act → World → Prop} {Q : Exit → Act → World → Prop} {E : Prop} (hg : o.guard = none) (ty : TypeId) (x y : Operand) (ho : o.op = .store ty x y) (b off : Nat) (cells : Array Value) (hx : a.eval x = .pointer (some ⟨b, off, none⟩)) (hy : a.eval y = .agg cells) (ht : w.there b off cells.size) (hi : (P.info? ty).map (·.size) = some cells.size) (h1 : cells.all (·.oneCell') = true) {w6 : World} (h6 : w6 = w.setCells b off cells.toList)
    (h : K (a.put o.dst undef) w6) : if Region.wanted o (yielded ops a.tmps) = true then Oper.wpIn F n P o a w K Q else E := by
  rw [if_pos (by simp [Region.wanted, hg])]
  unfold Oper.wpIn
  refine ⟨?_, ?_⟩
  · simp [Oper.about, ho]
  · rw [Oper.semAt_plain F _ _ (by rw [ho]; intro c hc; cases hc)]
    unfold execOp
    simp only [ho, hx, hy, Instr.storeAt, Instr.sureAddr, Sem.run_bind, Sem.run_pure, Result.andThen_ok, run_storeVar_mid w b off ty cells ht hi h1]
    rw [← h6]
    exact h

set_option maxRecDepth 100000 in
set_option maxHeartbeats 8000000 in
theorem reg9 {L m N pd g cap k Cd : Nat} {Ad : Option Addr} {w2 w5 : World} {K : Act → World → Prop} {Q : Exit → Act → World → Prop} {f : Fl} {A1 A2 A3 : Option Addr} {c1 c2 c3 : Nat} {x0 x1 x2 x3 x4 x6 x7 x8 x9 x10 x12 x13 x14 x15 x16 x17 x18 x19 x20 x21 x22 x23 x24 x25 x26 x27 x28 x29 x30 x31 x32 x33 x34 x35 x36 x37 x38 x39 x40 x41 x42 x43 x44 x45 : Value}
    (hbd : w2.cell? ⟨N, 0, none⟩ = some (.slice Ad k Cd)) (hNl : N < w2.heap.size) (hd : w2.heap[pd]? = some (.cells #[.int .i64 f.zxid, .int .u8 f.kind, .int .i64 f.session, .int .i64 f.turn, .int .i64 f.xid, .int .i64 f.time, .string (mkS f.path), .slice A1 f.data.length c1, .int .i64 f.owner, .int .i64 f.version, .int .i64 f.cversion, .int .i64 f.timeout, .int .i64 f.err, .int .i64 f.cver, .slice A2 f.mems.length c2, .slice A3 f.np c3] 41 (0, 0)))
    (hap : (Builtin.append_ #[24, 24] 24 #[.slice Ad k Cd, .slice (some ⟨w2.drew.heap.size, 0, none⟩) 1 1]).run Tryz.prog (w2.drew.alloc (.cells #[.int .i64 0, .int .u8 0, .int .i64 0, .int .i64 0, .int .i64 0, .int .i64 0, .string ⟨#[]⟩, .slice none 0 0, .int .i64 0, .int .i64 0, .int .i64 0, .int .i64 0, .int .i64 0, .int .i64 0, .slice none 0 0, .slice none 0 0] 41)) = .ok (.slice (some ⟨g, 0, none⟩) (k + 1) cap) w5)
    (ht : w5.there g (k * 16) 16) (hb5 : Boxed w5 N 24 (.slice Ad k Cd)) (hgN : ¬ N = g)
    {w7 : World} (h7 : w7 = (w5.setCells g (k * 16) #[.int .i64 f.zxid, .int .u8 f.kind, .int .i64 f.session, .int .i64 f.turn, .int .i64 f.xid, .int .i64 f.time, .string (mkS f.path), .slice A1 f.data.length c1, .int .i64 f.owner, .int .i64 f.version, .int .i64 f.cversion, .int .i64 f.timeout, .int .i64 f.err, .int .i64 f.cver, .slice A2 f.mems.length c2, .slice A3 f.np c3].toList).setCell ⟨N, 0, none⟩ (.slice (some ⟨g, 0, none⟩) (k + 1) cap))
    (hK : K { tmps := #[x0, x1, x2, x3, x4, .pointer (some ⟨N, 0, none⟩), x6, x7, x8, x9, x10, .pointer (some ⟨pd, 0, none⟩), x12, x13, x14, x15, x16, x17, x18, x19, x20, x21, x22, x23, x24, x25, x26, x27, x28, x29, .slice Ad k Cd, .agg #[.int .i64 f.zxid, .int .u8 f.kind, .int .i64 f.session, .int .i64 f.turn, .int .i64 f.xid, .int .i64 f.time, .string (mkS f.path), .slice A1 f.data.length c1, .int .i64 f.owner, .int .i64 f.version, .int .i64 f.cversion, .int .i64 f.timeout, .int .i64 f.err, .int .i64 f.cver, .slice A2 f.mems.length c2, .slice A3 f.np c3], .int .i64 k, .slice (some ⟨w2.heap.size, 0, none⟩) 1 1, .slice (some ⟨g, 0, none⟩) (k + 1) cap, .pointer (some ⟨g, k * 16, none⟩), x36, x37, x38, x39, x40, x41, x42, x43, x44, x45], defers := [] } w7) :
    Code.wpIn (Fence.wide.inRound L) m Tryz.prog (Code.region 9 #[{ dst := some 30, op := Op.load 24 (Operand.tmp 5), type := 24, pos := "segment.go:31", after := #[], guard := none }, { dst := some 31, op := Op.load 41 (Operand.tmp 11), type := 41, pos := "segment.go:31", after := #[], guard := none }, { dst := some 32, op := Op.call { callee := Callee.builtin Builtin.len, args := #[Operand.tmp 30], argTypes := #[24] }, type := 3, pos := "segment.go:31", after := #[{ on := 0, ground := Ground.data }], guard := none }, { dst := some 33, op := Op.buildSlice 24 1 #[(0, Operand.const (Value.agg #[Value.int IntKind.i64 0, Value.int IntKind.u8 0, Value.int IntKind.i64 0, Value.int IntKind.i64 0, Value.int IntKind.i64 0, Value.int IntKind.i64 0, Value.string { data := #[] }, Value.slice none 0 0, Value.int IntKind.i64 0, Value.int IntKind.i64 0, Value.int IntKind.i64 0, Value.int IntKind.i64 0, Value.int IntKind.i64 0, Value.int IntKind.i64 0, Value.slice none 0 0, Value.slice none 0 0]))], type := 24, pos := "segment.go:31", after := #[], guard := none }, { dst := some 34, op := Op.call { callee := Callee.builtin Builtin.append, args := #[Operand.tmp 30, Operand.tmp 33], argTypes := #[24, 24] }, type := 24, pos := "segment.go:31", after := #[{ on := 0, ground := Ground.data }, { on := 3, ground := Ground.data }, { on := 0, ground := Ground.phase }, { on := 1, ground := Ground.phase }, { on := 2, ground := Ground.phase }, { on := 3, ground := Ground.phase }], guard := none }, { dst := some 35, op := Op.indexAddr 24 (Operand.tmp 34) (Operand.tmp 32), type := 0, pos := "segment.go:31", after := #[{ on := 4, ground := Ground.data }, { on := 2, ground := Ground.data }, { on := 0, ground := Ground.phase }, { on := 1, ground := Ground.phase }, { on := 2, ground := Ground.phase }, { on := 3, ground := Ground.phase }, { on := 4, ground := Ground.phase }, { on := 7, ground := Ground.gcOnly Departure.appendInPlace }], guard := none }, { dst := none, op := Op.store 41 (Operand.tmp 35) (Operand.tmp 31), type := 0, pos := "segment.go:31", after := #[{ on := 5, ground := Ground.data }, { on := 1, ground := Ground.data }, { on := 4, ground := Ground.chain }, { on := 0, ground := Ground.phase }, { on := 1, ground := Ground.phase }, { on := 2, ground := Ground.phase }, { on := 3, ground := Ground.phase }, { on := 4, ground := Ground.phase }, { on := 7, ground := Ground.gcOnly Departure.appendInPlace }], guard := none }, { dst := none, op := Op.store 24 (Operand.tmp 5) (Operand.tmp 34), type := 0, pos := "segment.go:31", after := #[{ on := 4, ground := Ground.data }, { on := 4, ground := Ground.chain }, { on := 6, ground := Ground.textOnly Departure.appendInPlace }, { on := 0, ground := Ground.phase }, { on := 1, ground := Ground.phase }, { on := 2, ground := Ground.phase }, { on := 3, ground := Ground.phase }, { on := 4, ground := Ground.phase }, { on := 5, ground := Ground.textOnly Departure.appendInPlace }, { on := 6, ground := Ground.textOnly Departure.appendInPlace }], guard := none }] true) (Exit.then K Q) { tmps := #[x0, x1, x2, x3, x4, .pointer (some ⟨N, 0, none⟩), x6, x7, x8, x9, x10, .pointer (some ⟨pd, 0, none⟩), x12, x13, x14, x15, x16, x17, x18, x19, x20, x21, x22, x23, x24, x25, x26, x27, x28, x29, x30, x31, x32, x33, x34, x35, x36, x37, x38, x39, x40, x41, x42, x43, x44, x45], defers := [] } w2 := by
  have hmx : Tryz.prog.follows .mixedOrders = true := by kernel_rfl
  subst h7
  have hpl := heap_lt hd
  have hd4 : (w2.drew.alloc (.cells #[.int .i64 0, .int .u8 0, .int .i64 0, .int .i64 0, .int .i64 0, .int .i64 0, .string ⟨#[]⟩, .slice none 0 0, .int .i64 0, .int .i64 0, .int .i64 0, .int .i64 0, .int .i64 0, .int .i64 0, .slice none 0 0, .slice none 0 0] 41)).heap[pd]? = some (.cells #[.int .i64 f.zxid, .int .u8 f.kind, .int .i64 f.session, .int .i64 f.turn, .int .i64 f.xid, .int .i64 f.time, .string (mkS f.path), .slice A1 f.data.length c1, .int .i64 f.owner, .int .i64 f.version, .int .i64 f.cversion, .int .i64 f.timeout, .int .i64 f.err, .int .i64 f.cver, .slice A2 f.mems.length c2, .slice A3 f.np c3] 41 (0, 0)) := (Below.heap_alloc w2.drew _ pd hpl).trans hd
  have hb4 : (w2.drew.alloc (.cells #[.int .i64 0, .int .u8 0, .int .i64 0, .int .i64 0, .int .i64 0, .int .i64 0, .string ⟨#[]⟩, .slice none 0 0, .int .i64 0, .int .i64 0, .int .i64 0, .int .i64 0, .int .i64 0, .int .i64 0, .slice none 0 0, .slice none 0 0] 41)).cell? ⟨N, 0, none⟩ = some (.slice Ad k Cd) := (World.cell?_of_block (a := ⟨N, 0, none⟩) (Below.heap_alloc w2.drew _ N hNl)).trans hbd
  have HR3 : Hid (w2.drew.rangeAt pd 0 #[.int .i64 f.zxid, .int .u8 f.kind, .int .i64 f.session, .int .i64 f.turn, .int .i64 f.xid, .int .i64 f.time, .string (mkS f.path), .slice A1 f.data.length c1, .int .i64 f.owner, .int .i64 f.version, .int .i64 f.cversion, .int .i64 f.timeout, .int .i64 f.err, .int .i64 f.cver, .slice A2 f.mems.length c2, .slice A3 f.np c3].toList) := range16 (w := w2.drew) hd
  have HR4 : Hid ((w2.drew.alloc (.cells #[.int .i64 0, .int .u8 0, .int .i64 0, .int .i64 0, .int .i64 0, .int .i64 0, .string ⟨#[]⟩, .slice none 0 0, .int .i64 0, .int .i64 0, .int .i64 0, .int .i64 0, .int .i64 0, .int .i64 0, .slice none 0 0, .slice none 0 0] 41)).rangeAt pd 0 #[.int .i64 f.zxid, .int .u8 f.kind, .int .i64 f.session, .int .i64 f.turn, .int .i64 f.xid, .int .i64 f.time, .string (mkS f.path), .slice A1 f.data.length c1, .int .i64 f.owner, .int .i64 f.version, .int .i64 f.cversion, .int .i64 f.timeout, .int .i64 f.err, .int .i64 f.cver, .slice A2 f.mems.length c2, .slice A3 f.np c3].toList) := range16 hd4
  have HAP : Hid _ := hap
  have HT : Hid _ := ht
  have HB5 : Hid _ := hb5
  have HK : Hid _ := hK
  have hne2 : ¬ pd = w2.heap.size := by omega
  have hne3 : ¬ N = w2.heap.size := by omega
  clear hd hd4 hap ht hb5 hK
  refine wpIn_region_any hmx ?_
  change wpAnyIn _ _ _ _ _ _ _ _ _ (World.drew _)
  apply cut_any
  case f =>
    intro key
    all_goals (first | (refine wpAnyIn_ready (rs := [0, 1, 3]) (by decide +kernel) (by simp) ?_; refine (AllReadyIn.cons rfl (fun K0 hK0 => ?_) (AllReadyIn.cons rfl (fun K0 hK0 => ?_) (AllReadyIn.cons rfl (fun K0 hK0 => ?_) AllReadyIn.nil)))))
    all_goals (first | (refine opIn_load rfl 41 (.tmp 11) rfl pd 0 rfl _ _ HR3.out Tryz.underlying41 rfl infoDs ?_; go_simp; refine hK0 _ _ ?_; clear hK0 K0) | (refine opIn_load rfl 41 (.tmp 11) rfl pd 0 rfl _ _ HR4.out Tryz.underlying41 rfl infoDs ?_; go_simp; refine hK0 _ _ ?_; clear hK0 K0) | (go_simp; first | (refine hK0 _ _ ?_; clear hK0 K0) | (gi_wp2; first | (refine hK0 _ _ ?_; clear hK0 K0) | skip)))
    all_goals (first | (refine wpAnyIn_ready (rs := [1, 2, 3]) (by decide +kernel) (by simp) ?_; refine (AllReadyIn.cons rfl (fun K0 hK0 => ?_) (AllReadyIn.cons rfl (fun K0 hK0 => ?_) (AllReadyIn.cons rfl (fun K0 hK0 => ?_) AllReadyIn.nil)))) | (refine wpAnyIn_ready (rs := [0, 3]) (by decide +kernel) (by simp) ?_; refine (AllReadyIn.cons rfl (fun K0 hK0 => ?_) (AllReadyIn.cons rfl (fun K0 hK0 => ?_) AllReadyIn.nil))) | (refine wpAnyIn_ready (rs := [0, 1]) (by decide +kernel) (by simp) ?_; refine (AllReadyIn.cons rfl (fun K0 hK0 => ?_) (AllReadyIn.cons rfl (fun K0 hK0 => ?_) AllReadyIn.nil))))
    all_goals (first | (refine opIn_load rfl 41 (.tmp 11) rfl pd 0 rfl _ _ HR3.out Tryz.underlying41 rfl infoDs ?_; go_simp; refine hK0 _ _ ?_; clear hK0 K0) | (refine opIn_load rfl 41 (.tmp 11) rfl pd 0 rfl _ _ HR4.out Tryz.underlying41 rfl infoDs ?_; go_simp; refine hK0 _ _ ?_; clear hK0 K0) | (go_simp; first | (refine hK0 _ _ ?_; clear hK0 K0) | (gi_wp2; first | (refine hK0 _ _ ?_; clear hK0 K0) | skip)))
    all_goals (first | (refine wpAnyIn_ready (rs := [2, 3]) (by decide +kernel) (by simp) ?_; refine (AllReadyIn.cons rfl (fun K0 hK0 => ?_) (AllReadyIn.cons rfl (fun K0 hK0 => ?_) AllReadyIn.nil))) | (refine wpAnyIn_ready (rs := [1, 3]) (by decide +kernel) (by simp) ?_; refine (AllReadyIn.cons rfl (fun K0 hK0 => ?_) (AllReadyIn.cons rfl (fun K0 hK0 => ?_) AllReadyIn.nil))) | (refine wpAnyIn_ready (rs := [1, 2]) (by decide +kernel) (by simp) ?_; refine (AllReadyIn.cons rfl (fun K0 hK0 => ?_) (AllReadyIn.cons rfl (fun K0 hK0 => ?_) AllReadyIn.nil))) | (refine wpAnyIn_ready (rs := [0]) (by decide +kernel) (by simp) ?_; refine (AllReadyIn.cons rfl (fun K0 hK0 => ?_) AllReadyIn.nil)))
    all_goals (first | (refine opIn_load rfl 41 (.tmp 11) rfl pd 0 rfl _ _ HR3.out Tryz.underlying41 rfl infoDs ?_; go_simp; refine hK0 _ _ ?_; clear hK0 K0) | (refine opIn_load rfl 41 (.tmp 11) rfl pd 0 rfl _ _ HR4.out Tryz.underlying41 rfl infoDs ?_; go_simp; refine hK0 _ _ ?_; clear hK0 K0) | (go_simp; first | (refine hK0 _ _ ?_; clear hK0 K0) | (gi_wp2; first | (refine hK0 _ _ ?_; clear hK0 K0) | skip)))
    all_goals (first | (refine wpAnyIn_ready (rs := [3]) (by decide +kernel) (by simp) ?_; refine (AllReadyIn.cons rfl (fun K0 hK0 => ?_) AllReadyIn.nil)) | (refine wpAnyIn_ready (rs := [2]) (by decide +kernel) (by simp) ?_; refine (AllReadyIn.cons rfl (fun K0 hK0 => ?_) AllReadyIn.nil)) | (refine wpAnyIn_ready (rs := [1]) (by decide +kernel) (by simp) ?_; refine (AllReadyIn.cons rfl (fun K0 hK0 => ?_) AllReadyIn.nil)))
    all_goals (first | (refine opIn_load rfl 41 (.tmp 11) rfl pd 0 rfl _ _ HR3.out Tryz.underlying41 rfl infoDs ?_; go_simp; refine hK0 _ _ ?_; clear hK0 K0) | (refine opIn_load rfl 41 (.tmp 11) rfl pd 0 rfl _ _ HR4.out Tryz.underlying41 rfl infoDs ?_; go_simp; refine hK0 _ _ ?_; clear hK0 K0) | (go_simp; first | (refine hK0 _ _ ?_; clear hK0 K0) | (gi_wp2; first | (refine hK0 _ _ ?_; clear hK0 K0) | skip)))
    all_goals exact key.out
  case k =>
    clear hb4 hbd
    have e1 : (k : Int) < ((k + 1 : Nat) : Int) := by omega
    refine wpAnyIn_ready (rs := [4]) (by decide +kernel) (by simp) ?_
    refine (AllReadyIn.cons rfl (fun K0 hK0 => ?_) AllReadyIn.nil)
    refine opIn_append rfl (.tmp 30) (.tmp 33) 24 rfl rfl rfl HAP.out ?_
    go_simp
    refine hK0 _ _ ?_
    clear hK0 K0
    have hon : (#[.int .i64 f.zxid, .int .u8 f.kind, .int .i64 f.session, .int .i64 f.turn, .int .i64 f.xid, .int .i64 f.time, .string (mkS f.path), .slice A1 f.data.length c1, .int .i64 f.owner, .int .i64 f.version, .int .i64 f.cversion, .int .i64 f.timeout, .int .i64 f.err, .int .i64 f.cver, .slice A2 f.mems.length c2, .slice A3 f.np c3] : Array Value).all (·.oneCell') = true := all_oneCell_toArray (ev2_one ⟨(f, []), A1, c1, A2, c2, A3, c3⟩)
    have HT2 : Hid ((w5.setCell ⟨N, 0, none⟩ (.slice (some ⟨g, 0, none⟩) (k + 1) cap)).there g (k * 16) 16) := there_set HT.out hgN _
    have HON : Hid _ := hon
    clear hon
    have q5a := Boxed.cell HB5.out
    have q5b := Boxed.frozen HB5.out
    have hgN' : ¬ g = N := fun e => hgN e.symm
    obtain ⟨w6, hw6⟩ : ∃ X, X = w5.setCells g (k * 16) #[.int .i64 f.zxid, .int .u8 f.kind, .int .i64 f.session, .int .i64 f.turn, .int .i64 f.xid, .int .i64 f.time, .string (mkS f.path), .slice A1 f.data.length c1, .int .i64 f.owner, .int .i64 f.version, .int .i64 f.cversion, .int .i64 f.timeout, .int .i64 f.err, .int .i64 f.cver, .slice A2 f.mems.length c2, .slice A3 f.np c3].toList := ⟨_, rfl⟩
    obtain ⟨w6b, hw6b⟩ : ∃ X, X = (w5.setCell ⟨N, 0, none⟩ (.slice (some ⟨g, 0, none⟩) (k + 1) cap)).setCells g (k * 16) #[.int .i64 f.zxid, .int .u8 f.kind, .int .i64 f.session, .int .i64 f.turn, .int .i64 f.xid, .int .i64 f.time, .string (mkS f.path), .slice A1 f.data.length c1, .int .i64 f.owner, .int .i64 f.version, .int .i64 f.cversion, .int .i64 f.timeout, .int .i64 f.err, .int .i64 f.cver, .slice A2 f.mems.length c2, .slice A3 f.np c3].toList := ⟨_, rfl⟩
    have e6 : w6.heap[N]? = w5.heap[N]? := by rw [hw6]; exact (setCells_chg (fun i => i = g) g rfl _ w5 _).block N (Boxed.lt HB5.out) hgN
    have q6a : w6.cell? ⟨N, 0, none⟩ = some (.slice Ad k Cd) := (World.cell?_of_block (a := ⟨N, 0, none⟩) e6).trans q5a
    have q6b : w6.frozen? ⟨N, 0, none⟩ = false := (World.frozen?_of_block (a := ⟨N, 0, none⟩) e6).trans q5b
    have H6 : Hid _ := hw6
    have H6b : Hid _ := hw6b
    have HK6 : Hid _ := HK.out
    rw [← hw6] at HK6
    clear hw6 hw6b e6
    refine wpAnyIn_ready (rs := [5, 7]) (by decide +kernel) (by simp) ?_
    refine (AllReadyIn.cons rfl (fun K0 hK0 => ?_) (AllReadyIn.cons rfl (fun K0 hK0 => ?_) AllReadyIn.nil))
    · (go_simp; first | (refine hK0 _ _ ?_; clear hK0 K0) | (gi_wp2; first | (refine hK0 _ _ ?_; clear hK0 K0) | skip))
      refine wpAnyIn_ready (rs := [6, 7]) (by decide +kernel) (by simp) ?_
      refine (AllReadyIn.cons rfl (fun K0 hK0 => ?_) (AllReadyIn.cons rfl (fun K0 hK0 => ?_) AllReadyIn.nil))
      · (refine opIn_store rfl 41 (.tmp 35) (.tmp 31) rfl g (k * 16) #[.int .i64 f.zxid, .int .u8 f.kind, .int .i64 f.session, .int .i64 f.turn, .int .i64 f.xid, .int .i64 f.time, .string (mkS f.path), .slice A1 f.data.length c1, .int .i64 f.owner, .int .i64 f.version, .int .i64 f.cversion, .int .i64 f.timeout, .int .i64 f.err, .int .i64 f.cver, .slice A2 f.mems.length c2, .slice A3 f.np c3] rfl rfl HT.out infoDs HON.out H6.out ?_; go_simp; refine hK0 _ _ ?_; clear hK0 K0)
        refine wpAnyIn_ready (rs := [7]) (by decide +kernel) (by simp) ?_
        refine (AllReadyIn.cons rfl (fun K0 hK0 => ?_) AllReadyIn.nil)
        (go_simp; first | (refine hK0 _ _ ?_; clear hK0 K0) | (gi_wp2; first | (refine hK0 _ _ ?_; clear hK0 K0) | skip))
        refine wpAnyIn_done (by decide +kernel) ?_ _
        exact HK6.out
      · (go_simp; first | (refine hK0 _ _ ?_; clear hK0 K0) | (gi_wp2; first | (refine hK0 _ _ ?_; clear hK0 K0) | skip))
        refine wpAnyIn_ready (rs := [6]) (by decide +kernel) (by simp) ?_
        refine (AllReadyIn.cons rfl (fun K0 hK0 => ?_) AllReadyIn.nil)
        (refine opIn_store rfl 41 (.tmp 35) (.tmp 31) rfl g (k * 16) #[.int .i64 f.zxid, .int .u8 f.kind, .int .i64 f.session, .int .i64 f.turn, .int .i64 f.xid, .int .i64 f.time, .string (mkS f.path), .slice A1 f.data.length c1, .int .i64 f.owner, .int .i64 f.version, .int .i64 f.cversion, .int .i64 f.timeout, .int .i64 f.err, .int .i64 f.cver, .slice A2 f.mems.length c2, .slice A3 f.np c3] rfl rfl HT2.out infoDs HON.out H6b.out ?_; go_simp; refine hK0 _ _ ?_; clear hK0 K0)
        refine wpAnyIn_done (by decide +kernel) ?_ _
        exact at_then (by rw [H6b.out, H6.out]; exact set_setCells w5 ⟨N, 0, none⟩ _ g hgN _ _ _) HK6.out
    · (go_simp; first | (refine hK0 _ _ ?_; clear hK0 K0) | (gi_wp2; first | (refine hK0 _ _ ?_; clear hK0 K0) | skip))
      refine wpAnyIn_ready (rs := [5]) (by decide +kernel) (by simp) ?_
      refine (AllReadyIn.cons rfl (fun K0 hK0 => ?_) AllReadyIn.nil)
      (go_simp; first | (refine hK0 _ _ ?_; clear hK0 K0) | (gi_wp2; first | (refine hK0 _ _ ?_; clear hK0 K0) | skip))
      refine wpAnyIn_ready (rs := [6]) (by decide +kernel) (by simp) ?_
      refine (AllReadyIn.cons rfl (fun K0 hK0 => ?_) AllReadyIn.nil)
      (refine opIn_store rfl 41 (.tmp 35) (.tmp 31) rfl g (k * 16) #[.int .i64 f.zxid, .int .u8 f.kind, .int .i64 f.session, .int .i64 f.turn, .int .i64 f.xid, .int .i64 f.time, .string (mkS f.path), .slice A1 f.data.length c1, .int .i64 f.owner, .int .i64 f.version, .int .i64 f.cversion, .int .i64 f.timeout, .int .i64 f.err, .int .i64 f.cver, .slice A2 f.mems.length c2, .slice A3 f.np c3] rfl rfl HT2.out infoDs HON.out H6b.out ?_; go_simp; refine hK0 _ _ ?_; clear hK0 K0)
      refine wpAnyIn_done (by decide +kernel) ?_ _
      exact at_then (by rw [H6b.out, H6.out]; exact set_setCells w5 ⟨N, 0, none⟩ _ g hgN _ _ _) HK6.out
end Go.Proofs.YtaeoafedfgbcaaaGreatDoor.DD
