/- The walk of LinkOrders. -/
import Derived.Test.YtnonboegnbnepaaLkNs
import Derived.Lib.QuietBelow
import Derived.BigQuiet
import Derived.Deep.RegionWith
namespace Go.Proofs.Ytnonboegnbnepaa
set_option linter.unusedVariables false
open Go.RowKit Go.Sort
set_option linter.unusedVariables false

/- Numbers that came in. -/
theorem wpList_appr {w w' : World} {ops : Array Oper} {rest : List Oper} {o : Oper} {a : Act} {Q : Exit → Act → World → Prop} (T : TypeId) (hgd : o.guard = none) (s x : Operand) (ho : o.op = .call { callee := .builtin .append, args := #[s, x], argTypes := #[T, T] })
    (vs vx v' : Value) (hs : a.eval s = vs) (hx : a.eval x = vx) (hrun : (Builtin.append_ #[T, T] o.type #[vs, vx]).run Try.prog w = .ok v' w') (h : wpList Try.prog ops Q rest (a.put o.dst v') w') : wpList Try.prog ops Q (o :: rest) a w := by
  refine wpList_plain hgd fun K hK => ?_
  unfold Oper.wp execOp
  simp only [ho, resolve, invoke, builtin, Sem.run_bind, Sem.run_pure, Result.andThen_ok, List.map_toArray, List.map_cons, List.map_nil, hs, hx, hrun]
  exact hK _ _ h
theorem i64_and1 (n : Int) : bits .and .i64 n 1 = n % 2 := by
  have h1 : (BitVec.ofInt 64 1).toNat = 2 ^ 1 - 1 := by decide
  have key : (BitVec.ofInt 64 n &&& BitVec.ofInt 64 1).toNat = (n % ((2 ^ 64 : Nat) : Int)).toNat % 2 ^ 1 := by
    rw [BitVec.toNat_and, BitVec.toNat_ofInt, h1, Nat.and_two_pow_sub_one_eq_mod]
  show IntKind.i64.wrap ((BitVec.ofInt 64 n &&& BitVec.ofInt 64 1).toNat : Nat) = n % 2
  rw [key, IntKind.wrap_i64]
  omega
/- How far both are: the loads have three bytes, and there are few. -/
def Mth (i j : Int) (n : Nat) (X Y : Sd) : Prop := Both i j X Y ∧ X.sent.length + X.outs.length + Y.sent.length + Y.outs.length ≤ n ∧ (∀ x ∈ X.sent, x.length = 3) ∧ ∀ x ∈ Y.sent, x.length = 3
theorem Mth.swap {i j : Int} {n : Nat} {X Y : Sd} (h : Mth i j n X Y) : Mth j i n Y X := ⟨h.1.swap, by have := h.2.1; omega, h.2.2.2, h.2.2.1⟩
abbrev pins (h0 h1 sb : Nat) : Fs := [(sb, .cells #[.pointer (some ⟨h0, 0, none⟩), .pointer (some ⟨h1, 0, none⟩)] 57)]
/- The loop's state, and the same seen from the side whose turn it is. -/
def Rel (w W : World) (h0 h1 a b sb n : Nat) : Prop := ∃ X Y, PW w W h0 h1 a b 0 0 (pins h0 h1 sb) X Y [] ∧ Mth 4 2 n X Y
structure View (w W : World) (h0 h1 a b sb n e f hm ho am ao : Nat) (i j : Int) (M O : Sd) : Prop where
  ef : (e = 0 ∧ f = 1) ∨ (e = 1 ∧ f = 0)
  pw : PW w W hm ho am ao 0 0 (pins h0 h1 sb) M O []
  mth : Mth i j n M O
  ij : 1 ≤ i ∧ 1 ≤ j ∧ i < 10 ∧ j < 10
  pe : (pins h0 h1 sb) = [(sb, .cells #[.pointer (some ⟨if e = 0 then hm else ho, 0, none⟩), .pointer (some ⟨if e = 0 then ho else hm, 0, none⟩)] 57)]
  back : ∀ W' n' M' O' H', PW w W' hm ho am ao 0 0 (pins h0 h1 sb) M' O' H' → Mth i j n' M' O' → Rel w W' h0 h1 a b sb n'
theorem Rel.view {w W : World} {h0 h1 a b sb n : Nat} (h : Rel w W h0 h1 a b sb n) (e : Nat) (he : e = 0 ∨ e = 1) : ∃ f hm ho am ao i j M O, View w W h0 h1 a b sb n e f hm ho am ao i j M O := by
  obtain ⟨X, Y, h1', h2⟩ := h
  rcases he with rfl | rfl
  · exact ⟨1, h0, h1, a, b, 4, 2, X, Y, .inl ⟨rfl, rfl⟩, h1', h2, by omega, rfl, fun W' n' M' O' H' q1 q2 => ⟨M', O', q1.fewH (fun x hx => by cases hx), q2⟩⟩
  · exact ⟨0, h1, h0, b, a, 2, 4, Y, X, .inr ⟨rfl, rfl⟩, h1'.swap, h2.swap, by omega, rfl, fun W' n' M' O' H' q1 q2 => ⟨O', M', q1.swap.fewH (fun x hx => by cases hx), q2.swap⟩⟩
theorem View.cells {w W W' : World} {h0 h1 a b sb n e f hm ho am ao : Nat} {i j : Int} {M O M' O' : Sd} {H : Hs} (v : View w W h0 h1 a b sb n e f hm ho am ao i j M O) (m : PW w W' hm ho am ao 0 0 (pins h0 h1 sb) M' O' H) : W'.cell? ⟨sb, e, none⟩ = some (.pointer (some ⟨hm, 0, none⟩)) ∧ W'.cell? ⟨sb, f, none⟩ = some (.pointer (some ⟨ho, 0, none⟩)) := by
  have hp := v.pe
  have hx := m.pinned (g := sb) (o := .cells #[.pointer (some ⟨if e = 0 then hm else ho, 0, none⟩), .pointer (some ⟨if e = 0 then ho else hm, 0, none⟩)] 57) (by rw [hp]; exact .head _)
  rcases v.ef with ⟨rfl, rfl⟩ | ⟨rfl, rfl⟩
  · exact ⟨cell_at hx 0, cell_at hx 1⟩
  · exact ⟨cell_at hx 1, cell_at hx 0⟩
abbrev sideB (a : Nat) (k : Int) : Obj := .cells #[.pointer (some ⟨a, 0, none⟩), .int .i64 k, .slice none 0 0, .slice none 0 0, .slice none 0 0] 60
theorem Sm.start {W : World} {col : Nat → Nat} {c h a : Nat} {k : Int} {s : St} (hl : Lo false W a s (fun g => g < W.heap.size ∧ col g = c)) (hb : W.heap[h]? = some (sideB a k)) (hc : col h = c + 1) : Sy W col c h a k ⟨s, [], [], []⟩ :=
  ⟨.slice none 0 0, .slice none 0 0, .slice none 0 0, [], [], [], hl, hb, hc, Ro.nil _ _, fun g e => (by cases e), Ro.nil _ _, fun g e => (by cases e), World.ownsRow_nil _ _ _ _, fun g e => (by cases e), fun x hx => (by cases hx), fun x hx => (by cases hx), fun x hx => (by cases hx), rfl, rfl, rfl⟩
theorem PW.start {w w2 w4 : World} {a b : Nat} {s t : St} {k k' : Int} (h2 : Lo false w2 a s (Nw w w2)) (b2 : Below w.heap.size w w2) (h4 : Lo false w4 b t (Nw (w2.alloc (sideB a k)) w4)) (b4 : Below (w2.alloc (sideB a k)).heap.size (w2.alloc (sideB a k)) w4) :
    PW w (w4.alloc (sideB b k')) w2.heap.size w4.heap.size a b k k' [] ⟨s, [], [], []⟩ ⟨t, [], [], []⟩ [] := by
  have s2 := b2.size
  have s4 := b4.size
  have e3 : (w2.alloc (sideB a k)).heap.size = w2.heap.size + 1 := by simp
  have e5 : (w4.alloc (sideB b k')).heap.size = w4.heap.size + 1 := by simp
  obtain ⟨col, hcol⟩ : ∃ col : Nat → Nat, col = fun g => if w.heap.size ≤ g ∧ g < w2.heap.size then 1 else if g = w2.heap.size then 2 else if w2.heap.size < g ∧ g < w4.heap.size then 6 else if g = w4.heap.size then 7 else 0 := ⟨_, rfl⟩
  have c1 : ∀ g, col g = 1 ↔ w.heap.size ≤ g ∧ g < w2.heap.size := fun g => by rw [hcol]; dsimp only; split <;> (try split) <;> (try split) <;> (try split) <;> omega
  have c6 : ∀ g, col g = 6 ↔ w2.heap.size < g ∧ g < w4.heap.size := fun g => by rw [hcol]; dsimp only; split <;> (try split) <;> (try split) <;> (try split) <;> omega
  have bb : Below w2.heap.size w2 (w4.alloc (sideB b k')) := ((below1 w2 (sideB a k)).trans (b4.mono (by simp))).alloc (by omega) _
  refine ⟨col, 1, 6, Sm.start ?_ ?_ ?_, Sm.start ?_ (heap_alloc_new w4 _) ?_, ⟨by omega, by omega, by omega⟩, fun g hg => ?_, b2.trans (bb.mono s2), fun x hx => (by cases hx), fun x hx => (by cases hx)⟩
  · refine (h2.below bb).more (fun g hg => ⟨by have := hg.2; omega, (c1 g).2 hg⟩) (fun g hg => hg.1)
  · rw [Below.heap_alloc w4 _ _ (by omega), b4.block _ (by simp)]; exact heap_alloc_new w2 _
  · rw [hcol]; simp
  · refine (h4.below (below1 _ _)).more (fun g hg => ⟨by have := hg.2; omega, (c6 g).2 ⟨by have := hg.1; omega, hg.2⟩⟩) (fun g hg => hg.1)
  · rw [hcol]; dsimp only
    rw [if_neg (by omega), if_neg (by omega), if_neg (by omega), if_pos rfl]
  · rw [hcol]; dsimp only
    rw [if_neg (by omega), if_neg (by omega), if_neg (by omega), if_neg (by omega)]
theorem step_appP {w : World} {ops : Array Oper} {o : Oper} {a : Act} {K : Act → World → Prop} {Q : Exit → Act → World → Prop} {E : Prop} (hgd : o.guard = none) (s x : Operand)
    (ho : o.op = Op.call { callee := Callee.builtin Builtin.append, args := #[s, x], argTypes := #[58, 58] })
    (vs vx v' : Value) (w' : World) (hs : a.eval s = vs) (hx : a.eval x = vx) (hrun : (Builtin.append_ #[58, 58] o.type #[vs, vx]).run Try.prog w = .ok v' w') (h : K (a.put o.dst v') w') :
    if Region.wanted o (yielded ops a.tmps) = true then Oper.wp Try.prog o a w K Q else E := by
  have hw : Region.wanted o (yielded ops a.tmps) = true := by simp [Region.wanted, hgd]
  rw [if_pos hw]
  unfold Oper.wp execOp
  simp only [ho, resolve, invoke, builtin, Sem.run_bind, Sem.run_pure, Result.andThen_ok, List.map_toArray, List.map_cons, List.map_nil, hs, hx, hrun]
  exact h
/- A packet let out, with what stays as it is. -/
theorem pw_outB {w W : World} {h h' a a' : Nat} {k k' : Int} {F : Fs} {X Y : Sd} {H : Hs} (m : PW w W h h' a a' k k' F X Y H) (ha : X.s.acked < 4611686018427387904) {p : Pkt} (hp : p = outP X.s) :
    Calls Try.prog 24 #[.pointer (some ⟨a, 0, none⟩)] W fun e W' => ∃ A C, e = .returned (.agg #[.int .i64 p.fr, .int .i64 p.to, .int .i64 p.seq, .int .i64 p.ack, .slice A p.load.length C]) ∧ Below W.heap.size W W' ∧ Hid (PW w W' h h' a a' k k' F X Y ((.slice A p.load.length C, p.load) :: H)) := by
  subst hp
  have m0 := m
  obtain ⟨col, c, d, m⟩ := m
  obtain ⟨vs, vt, vo, Ls, Lt, Lp, q⟩ := id m.me
  refine (out_lo q.lk ha).mono ?_
  rintro e W' ⟨A, C, rfl, ho, hB⟩
  exact ⟨A, C, rfl, hB, m0.lay hB (Bs.of_owns ho) (fun g hg => by obtain ⟨_, _, z⟩ := owns_blockT ho (bk_blk hg); exact z)⟩
/- A packet let out, and laid at the end of the row of all. -/
theorem pw_outR {w W : World} {h h' a a' : Nat} {k k' : Int} {F : Fs} {X Y : Sd} {H : Hs} (m : PW w W h h' a a' k k' F X Y H) (ha : X.s.acked < 4611686018427387904) {p : Pkt} (hp : p = outP X.s) (hL : X.outs.length ≤ 1000) {A3 : Option Addr} {C3 n : Nat} (hc : W.cell? ⟨h, 4, none⟩ = some (.slice A3 n C3)) (hn : n = X.outs.length) :
    Calls Try.prog 24 #[.pointer (some ⟨a, 0, none⟩)] W fun e W' => ∃ A C A8 C8 w8, e = .returned (.agg #[.int .i64 p.fr, .int .i64 p.to, .int .i64 p.seq, .int .i64 p.ack, .slice A p.load.length C]) ∧ W'.cell? ⟨h, 0, none⟩ = some (.pointer (some ⟨a, 0, none⟩)) ∧
      (W'.cell? ⟨h, 4, none⟩ = some (.slice A3 n C3) ∧ (W'.alloc (.cells #[.int .i64 p.fr, .int .i64 p.to, .int .i64 p.seq, .int .i64 p.ack, .slice A p.load.length C] 32)).cell? ⟨h, 4, none⟩ = some (.slice A3 n C3) ∧ w8.cell? ⟨h, 4, none⟩ = some (.slice A3 n C3) ∧ w8.frozen? ⟨h, 4, none⟩ = false) ∧
      (Builtin.append_ #[58, 58] 58 #[.slice A3 n C3, .slice (some ⟨W'.heap.size, 0, none⟩) 1 1]).run Try.prog (W'.alloc (.cells #[.int .i64 p.fr, .int .i64 p.to, .int .i64 p.seq, .int .i64 p.ack, .slice A p.load.length C] 32)) = .ok (.slice A8 (n + 1) C8) w8 ∧
      Hid (PW w (w8.setCell ⟨h, 4, none⟩ (.slice A8 (n + 1) C8)) h h' a a' k k' F ⟨X.s, X.sent, X.told, X.outs ++ [p]⟩ Y []) := by
  refine (pw_outB m ha hp).mono ?_
  rintro e W' ⟨A, C, rfl, hB, q⟩
  have hc' : W'.cell? ⟨h, 4, none⟩ = some (.slice A3 n C3) := by rw [World.cell?_of_block (hB.block _ (World.block_lt_of_cell? W _ hc))]; exact hc
  obtain ⟨A1, C1, A8, C8, w8, ⟨k1, k2, k3, k4⟩, hrun, hF⟩ := pw_outs q.out (p := p) (.head _) hL
  obtain ⟨_, _, _, _, _, _, m0, _⟩ := q.out.cells
  rw [hc', ← hn] at k1
  injection k1 with k1
  injection k1 with e1 e2 e3
  subst e1 e3
  rw [← hn] at k2 k3 hrun hF
  exact ⟨A, C, A8, C8, w8, rfl, m0, ⟨hc', k2, k3, k4⟩, hrun, hF.out.fewH (fun x hx => by cases hx)⟩
theorem pw_takeC {w W : World} {h h' a a' : Nat} {k k' : Int} {F : Fs} {X Y : Sd} {H : Hs} (m : PW w W h h' a a' k k' F X Y H) {p : Pkt} {A : Option Addr} {C : Nat} (hm : (.slice A p.load.length C, p.load) ∈ H) (hf : i64 p.fr) (hl : p.load.length ≤ 140737488355328) (ha : X.s.acked < 4611686018427387904) (hg : X.s.got < 4611686018427387904) :
    Calls Try.prog 17 #[.pointer (some ⟨a, 0, none⟩), pkV p A C] W fun e W' => ∃ A' C', e = .returned (tkV (takeR X.s p) A' C') ∧ Hid (W'.heap[h]? = W.heap[h]? ∧ W'.heap[h']? = W.heap[h']? ∧ ∀ g n D, W.cell? ⟨h', 4, none⟩ = some (.slice (some ⟨g, 0, none⟩) n D) → W'.heap[g]? = W.heap[g]?) ∧ Hid (PW w W' h h' a a' k k' F ⟨(takeR X.s p).st, X.sent, X.told, X.outs⟩ Y ((.slice A' (takeR X.s p).load.length C', (takeR X.s p).load) :: H)) := by
  obtain ⟨col, c, d, m⟩ := m
  obtain ⟨vs, vt, vo, Ls, Lt, Lp, q⟩ := id m.me
  have hc1 := m.ne.2.1
  refine (take_lo' q.lk p (m.held _ hm).1 (fun g hg' e => by have := (m.held _ hm).2 g hg'; have := e.2; omega) hf hl ha hg).mono ?_
  rintro e W' ⟨A', C', rfl, ho, hl', hc⟩
  have hn := m.link (v := .slice A' (takeR X.s p).load.length C') hl' hc
  have hne := m.ne.1
  have hkp : Hid (W'.heap[h]? = W.heap[h]? ∧ W'.heap[h']? = W.heap[h']? ∧ ∀ g n D, W.cell? ⟨h', 4, none⟩ = some (.slice (some ⟨g, 0, none⟩) n D) → W'.heap[g]? = W.heap[g]?) := by
    obtain ⟨us, ut, uo, Us, Ut, Up, r⟩ := id m.ot
    refine ⟨hc.block h (heap_lt q.box) (fun e => by have := q.ch; have := e.2; omega), hc.block h' (heap_lt r.box) (fun e => by have := r.ch; have := e.2; omega), fun g n D hg => ?_⟩
    have hv : uo = .slice (some ⟨g, 0, none⟩) n D := by
      have := cell_at r.box 4
      rw [hg] at this
      simpa using this.symm
    subst hv
    obtain ⟨_, z, _⟩ := owns_block5 r.ro (k := g) rfl
    exact hc.block g (heap_lt z) (fun e => by have := r.co g rfl; have := e.2; omega)
  refine ⟨A', C', rfl, hkp, _, c, d, hn.me, hn.ot, hn.ne, hn.low, hn.bel, fun x hx => ?_, hn.fx⟩
  rcases List.mem_cons.1 hx with rfl | hx
  · refine ⟨Bs.of_owns ho, fun g hg' => ?_⟩
    obtain ⟨_, _, z⟩ := owns_blockT ho (bk_blk hg')
    exact colN_res z (bk_blk hg')
  · exact hn.held x hx
/- A packet taken, and what was told laid at the end of the row. -/
theorem pw_took {w W : World} {h h' a a' : Nat} {k k' : Int} {F : Fs} {X Y : Sd} {H : Hs} (m : PW w W h h' a a' k k' F X Y H) {p : Pkt} {A : Option Addr} {C : Nat} (hm : (.slice A p.load.length C, p.load) ∈ H) (hf : i64 p.fr) (hl : p.load.length ≤ 140737488355328) (ha : X.s.acked < 4611686018427387904) (hg : X.s.got < 4611686018427387904) (hb : (takeR X.s p).broke = false) (hL : X.told.length ≤ 1000) :
    Calls Try.prog 17 #[.pointer (some ⟨a, 0, none⟩), .agg #[.int .i64 p.fr, .int .i64 p.to, .int .i64 p.seq, .int .i64 p.ack, .slice A p.load.length C]] W fun e W' => ∃ A' C' L' ok, e = .returned (.tuple #[.slice A' L' C', .bool ok, .bool false]) ∧ Hid (W'.heap[h]? = W.heap[h]? ∧ W'.heap[h']? = W.heap[h']? ∧ ∀ g n D, W.cell? ⟨h', 4, none⟩ = some (.slice (some ⟨g, 0, none⟩) n D) → W'.heap[g]? = W.heap[g]?) ∧
      (ok = false → Hid (PW w W' h h' a a' k k' F (tookS X p) Y [])) ∧
      (ok = true → ∃ A1 C1 A8 C8 w8 n, (W'.cell? ⟨h, 3, none⟩ = some (.slice A1 n C1) ∧ (W'.alloc (.cells #[.slice A' L' C'] 30)).cell? ⟨h, 3, none⟩ = some (.slice A1 n C1) ∧ w8.cell? ⟨h, 3, none⟩ = some (.slice A1 n C1) ∧ w8.frozen? ⟨h, 3, none⟩ = false) ∧
        (Builtin.append_ #[47, 47] 47 #[.slice A1 n C1, .slice (some ⟨W'.heap.size, 0, none⟩) 1 1]).run Try.prog (W'.alloc (.cells #[.slice A' L' C'] 30)) = .ok (.slice A8 (n + 1) C8) w8 ∧
        Hid (PW w (w8.setCell ⟨h, 3, none⟩ (.slice A8 (n + 1) C8)) h h' a a' k k' F (tookS X p) Y [])) := by
  refine (pw_takeC m hm hf hl ha hg).mono ?_
  rintro e W' ⟨A', C', rfl, hkp, q⟩
  refine ⟨A', C', (takeR X.s p).load.length, (takeR X.s p).ok, by rw [tkV, hb], hkp, fun e => ?_, fun e => ?_⟩
  · unfold tookS; rw [e]; exact q.out.fewH (fun x hx => by cases hx)
  · obtain ⟨A1, C1, A8, C8, w8, ⟨k1, k2, k3, k4⟩, hrun, hF⟩ := pw_told q.out (b := (takeR X.s p).load) (.head _) hL
    refine ⟨A1, C1, A8, C8, w8, _, ⟨k1, k2, k3, k4⟩, hrun, ?_⟩
    unfold tookS; rw [e]; exact hF.out.fewH (fun x hx => by cases hx)
theorem PkOk.three {i j : Int} {X : Sd} {p : Pkt} (h : PkOk i j X p) (hx : ∀ x ∈ X.sent, x.length = 3) : p.load.length ≤ 3 := by
  obtain ⟨_, _, _, _, e⟩ := h
  rcases e with ⟨_, e⟩ | ⟨_, _, e⟩
  · rw [e]; decide
  · exact Nat.le_of_eq (hx _ (List.mem_of_getElem? e))
theorem took_keeps {W W' : World} {h h' g5 n D3 am i C5 L : Nat} {A5 : Option Addr} {x0 x1 x2 x3 : Value} (hk : Hid (W'.heap[h]? = W.heap[h]? ∧ W'.heap[h']? = W.heap[h']? ∧ ∀ g n D, W.cell? ⟨h', 4, none⟩ = some (.slice (some ⟨g, 0, none⟩) n D) → W'.heap[g]? = W.heap[g]?))
    (hs : W.cell? ⟨h', 4, none⟩ = some (.slice (some ⟨g5, 0, none⟩) n D3) ∧ W.cell? ⟨h, 0, none⟩ = some (.pointer (some ⟨am, 0, none⟩)) ∧ W.cell? ⟨g5, i * 5, none⟩ = some x0 ∧ W.cell? ⟨g5, i * 5 + 1, none⟩ = some x1 ∧ W.cell? ⟨g5, i * 5 + 2, none⟩ = some x2 ∧ W.cell? ⟨g5, i * 5 + 3, none⟩ = some x3 ∧ W.cell? ⟨g5, i * 5 + 4, none⟩ = some (.slice A5 L C5)) :
    W'.cell? ⟨h', 4, none⟩ = some (.slice (some ⟨g5, 0, none⟩) n D3) ∧ W'.cell? ⟨h, 0, none⟩ = some (.pointer (some ⟨am, 0, none⟩)) ∧ W'.cell? ⟨g5, i * 5, none⟩ = some x0 ∧ W'.cell? ⟨g5, i * 5 + 1, none⟩ = some x1 ∧ W'.cell? ⟨g5, i * 5 + 2, none⟩ = some x2 ∧ W'.cell? ⟨g5, i * 5 + 3, none⟩ = some x3 ∧ W'.cell? ⟨g5, i * 5 + 4, none⟩ = some (.slice A5 L C5) := by
  obtain ⟨k1, k2, k3⟩ := hk
  obtain ⟨s0, s1, s2, s3, s4, s5, s6⟩ := hs
  have k3 := k3 g5 n D3 s0
  have c1 : ∀ i v, W.cell? ⟨h, i, none⟩ = some v → W'.cell? ⟨h, i, none⟩ = some v := fun i v hv => by rw [World.cell?_of_block k1]; exact hv
  have c2 : ∀ i v, W.cell? ⟨h', i, none⟩ = some v → W'.cell? ⟨h', i, none⟩ = some v := fun i v hv => by rw [World.cell?_of_block k2]; exact hv
  have c3 : ∀ i v, W.cell? ⟨g5, i, none⟩ = some v → W'.cell? ⟨g5, i, none⟩ = some v := fun i v hv => by rw [World.cell?_of_block k3]; exact hv
  exact ⟨c2 _ _ s0, c1 _ _ s1, c3 _ _ s2, c3 _ _ s3, c3 _ _ s4, c3 _ _ s5, c3 _ _ s6⟩
/- The second loop: each is handed what the other one lets out. -/
def Rel2 (w W : World) (h0 h1 a b sb n i : Nat) : Prop := ∃ X Y, PW w W h0 h1 a b 0 0 (pins h0 h1 sb) X Y [] ∧ Fin n i X Y ∧ (∀ x ∈ X.sent, x.length = 3) ∧ ∀ x ∈ Y.sent, x.length = 3
theorem Rel.turn {w W : World} {h0 h1 a b sb n : Nat} (h : Rel w W h0 h1 a b sb n) : Rel2 w W h0 h1 a b sb n 0 := by
  obtain ⟨X, Y, q1, q2, q3, q4⟩ := h
  exact ⟨X, Y, q1, ⟨q2, ⟨by omega, by omega⟩, fun q => by omega, fun q => by omega, fun q => by omega, fun q => by omega⟩, q4⟩
structure View2 (w W : World) (h0 h1 a b sb n i e f hm ho am ao : Nat) (ci cj : Int) (M O : Sd) : Prop where
  ef : (e = 0 ∧ f = 1) ∨ (e = 1 ∧ f = 0)
  pw : PW w W hm ho am ao 0 0 (pins h0 h1 sb) M O []
  both : Both ci cj M O
  ij : 1 ≤ ci ∧ 1 ≤ cj ∧ ci < 10 ∧ cj < 10
  few : M.sent.length ≤ n ∧ O.sent.length ≤ n
  th : ∀ x ∈ O.sent, x.length = 3
  pe : (pins h0 h1 sb) = [(sb, .cells #[.pointer (some ⟨if e = 0 then hm else ho, 0, none⟩), .pointer (some ⟨if e = 0 then ho else hm, 0, none⟩)] 57)]
  back : ∀ W', PW w W' hm ho am ao 0 0 (pins h0 h1 sb) (tookS M (outP O.s)) O [] → Rel2 w W' h0 h1 a b sb n (i + 1)
theorem Rel2.view {w W : World} {h0 h1 a b sb n i : Nat} (h : Rel2 w W h0 h1 a b sb n i) : ∃ e f hm ho am ao ci cj M O, e = i % 2 ∧ View2 w W h0 h1 a b sb n i e f hm ho am ao ci cj M O := by
  obtain ⟨X, Y, h1', h2, h3, h4⟩ := h
  have hc : i % 2 = 0 ∨ i % 2 = 1 := by omega
  rcases hc with hc | hc
  · exact ⟨0, 1, h0, h1, a, b, 4, 2, X, Y, hc.symm, .inl ⟨rfl, rfl⟩, h1', h2.both, by omega, h2.few, h4, rfl, fun W' q1 => ⟨_, _, q1, h2.even hc, h3, h4⟩⟩
  · exact ⟨1, 0, h1, h0, b, a, 2, 4, Y, X, hc.symm, .inr ⟨rfl, rfl⟩, h1'.swap, h2.both.swap, by omega, ⟨h2.few.2, h2.few.1⟩, h3, rfl, fun W' q1 => ⟨_, _, q1.swap, h2.odd hc, h3, h4⟩⟩
theorem View2.cells {w W W' : World} {h0 h1 a b sb n i e f hm ho am ao : Nat} {ci cj : Int} {M O M' O' : Sd} {H : Hs} (v : View2 w W h0 h1 a b sb n i e f hm ho am ao ci cj M O) (m : PW w W' hm ho am ao 0 0 (pins h0 h1 sb) M' O' H) : W'.cell? ⟨sb, e, none⟩ = some (.pointer (some ⟨hm, 0, none⟩)) ∧ W'.cell? ⟨sb, f, none⟩ = some (.pointer (some ⟨ho, 0, none⟩)) := by
  have hp := v.pe
  have hx := m.pinned (g := sb) (o := .cells #[.pointer (some ⟨if e = 0 then hm else ho, 0, none⟩), .pointer (some ⟨if e = 0 then ho else hm, 0, none⟩)] 57) (by rw [hp]; exact .head _)
  rcases v.ef with ⟨rfl, rfl⟩ | ⟨rfl, rfl⟩
  · exact ⟨cell_at hx 0, cell_at hx 1⟩
  · exact ⟨cell_at hx 1, cell_at hx 0⟩
/- The other one lets out, and this one takes it. -/
theorem View2.turn {w W : World} {h0 h1 a b sb n i e f hm ho am ao : Nat} {ci cj : Int} {M O : Sd} (v : View2 w W h0 h1 a b sb n i e f hm ho am ao ci cj M O) (hn : n ≤ 300) {W0 : World} (h0' : Below W.heap.size W W0) :
    Calls Try.prog 24 #[.pointer (some ⟨ao, 0, none⟩)] W0 fun e W1 => ∃ p A, e = .returned p ∧ Below W0.heap.size W0 W1 ∧ Hid (∀ W2, W2 = W1 → Calls Try.prog 17 #[.pointer (some ⟨am, 0, none⟩), p] W2 fun e W' => ∃ A' C' L' ok, e = .returned (.tuple #[.slice A' L' C', .bool ok, .bool A]) ∧ Hid (W'.heap[hm]? = W2.heap[hm]? ∧ W'.heap[ho]? = W2.heap[ho]?) ∧
      (ok = false → Hid (Rel2 w W' h0 h1 a b sb n (i + 1))) ∧
      (ok = true → ∃ A1 C1 A8 C8 w8 n1, (W'.cell? ⟨hm, 3, none⟩ = some (.slice A1 n1 C1) ∧ (W'.alloc (.cells #[.slice A' L' C'] 30)).cell? ⟨hm, 3, none⟩ = some (.slice A1 n1 C1) ∧ w8.cell? ⟨hm, 3, none⟩ = some (.slice A1 n1 C1) ∧ w8.frozen? ⟨hm, 3, none⟩ = false) ∧
        (Builtin.append_ #[47, 47] 47 #[.slice A1 n1 C1, .slice (some ⟨W'.heap.size, 0, none⟩) 1 1]).run Try.prog (W'.alloc (.cells #[.slice A' L' C'] 30)) = .ok (.slice A8 (n1 + 1) C8) w8 ∧
        Hid (Rel2 w (w8.setCell ⟨hm, 3, none⟩ (.slice A8 (n1 + 1) C8)) h0 h1 a b sb n (i + 1)))) := by
  have hO := v.both.2.ack0
  have hM := v.both.1.ack0
  have f1 := v.few.1
  have f2 := v.few.2
  have hT := congrArg List.length v.both.1.told
  rw [List.length_take] at hT
  have hG := v.both.1.got
  refine (pw_outB (v.pw.below h0').swap (by omega) rfl).mono ?_
  rintro e W1 ⟨A, C, rfl, hB, q⟩
  refine ⟨_, false, rfl, hB, fun W2 hW2 => ?_⟩
  subst hW2
  have hpo := out_ok v.both.2 v.ij.1
  have hbk := both_take v.both.swap v.ij.2.1 v.ij.1 hpo
  refine (pw_took q.out.swap (p := outP O.s) (A := A) (C := C) (.head _) (by unfold i64; rw [hpo.1]; have := v.ij; omega) (by have := hpo.three v.th; omega) (by omega) (by omega) hbk.1 (by omega)).mono ?_
  rintro e W' ⟨A', C', L', ok, rfl, hk, hno, hyes⟩
  refine ⟨A', C', L', ok, rfl, ⟨hk.out.1, hk.out.2.1⟩, fun e => v.back _ (hno e).out, fun e => ?_⟩
  obtain ⟨A1, C1, A8, C8, w8, n1, x1, x2, x3⟩ := hyes e
  exact ⟨A1, C1, A8, C8, w8, n1, x1, x2, v.back _ x3.out⟩
theorem keeps2 {W W' : World} {h h' i i' : Nat} {u v : Value} (hB : Below W.heap.size W W') (hs : W.cell? ⟨h, i, none⟩ = some u ∧ W.cell? ⟨h', i', none⟩ = some v) : W'.cell? ⟨h, i, none⟩ = some u ∧ W'.cell? ⟨h', i', none⟩ = some v := by
  obtain ⟨s0, s1⟩ := hs
  refine ⟨?_, ?_⟩
  · rw [World.cell?_of_block (hB.block _ (World.block_lt_of_cell? W _ s0))]; exact s0
  · rw [World.cell?_of_block (hB.block _ (World.block_lt_of_cell? W _ s1))]; exact s1
theorem keeps3 {W W' : World} {h h' i i' : Nat} {u v : Value} (hk : Hid (W'.heap[h]? = W.heap[h]? ∧ W'.heap[h']? = W.heap[h']?)) (hs : W.cell? ⟨h, i, none⟩ = some u ∧ W.cell? ⟨h', i', none⟩ = some v) : W'.cell? ⟨h, i, none⟩ = some u ∧ W'.cell? ⟨h', i', none⟩ = some v := by
  obtain ⟨k1, k2⟩ := hk
  obtain ⟨s0, s1⟩ := hs
  refine ⟨?_, ?_⟩
  · rw [World.cell?_of_block k1]; exact s0
  · rw [World.cell?_of_block k2]; exact s1
theorem Rel2.fin {w W : World} {h0 h1 a b sb n : Nat} (h : Rel2 w W h0 h1 a b sb n (4 * n + 8)) (hn : n ≤ 300) : ∃ (A1 A2 A3 A4 : Option Addr) (C1 C2 C3 C4 p q : Nat), Hid (∀ U, Below W.heap.size W U → U.cell? ⟨sb, 0, none⟩ = some (.pointer (some ⟨h0, 0, none⟩)) ∧ U.cell? ⟨sb, 1, none⟩ = some (.pointer (some ⟨h1, 0, none⟩)) ∧ U.cell? ⟨h0, 0, none⟩ = some (.pointer (some ⟨a, 0, none⟩)) ∧ U.cell? ⟨h0, 2, none⟩ = some (.slice A1 p C1) ∧ U.cell? ⟨h0, 3, none⟩ = some (.slice A2 q C2) ∧ U.cell? ⟨h1, 0, none⟩ = some (.pointer (some ⟨b, 0, none⟩)) ∧ U.cell? ⟨h1, 2, none⟩ = some (.slice A3 q C3) ∧ U.cell? ⟨h1, 3, none⟩ = some (.slice A4 p C4)) ∧
      Hid (∀ U, Below W.heap.size W U → Calls Try.prog 28 #[.slice A2 q C2, .slice A3 q C3] U fun e w' => e = .returned (.bool true) ∧ Below U.heap.size U w') ∧
      Hid (∀ U, Below W.heap.size W U → Calls Try.prog 28 #[.slice A4 p C4, .slice A1 p C1] U fun e w' => e = .returned (.bool true) ∧ Below U.heap.size U w') ∧
      Hid (∀ U, Below W.heap.size W U → Calls Try.prog 26 #[.pointer (some ⟨a, 0, none⟩)] U fun e w' => e = .returned (.int .i64 0) ∧ w' = U) ∧
      Hid (∀ U, Below W.heap.size W U → Calls Try.prog 26 #[.pointer (some ⟨b, 0, none⟩)] U fun e w' => e = .returned (.int .i64 0) ∧ w' = U) ∧ Hid (Below w.heap.size w W) := by
  obtain ⟨X, Y, m, hf, t1, t2⟩ := h
  obtain ⟨e1, e2, e3, e4⟩ := hf.end
  have hfew := hf.few
  obtain ⟨vs, vt, z2, z3, r2, r3⟩ := m.rows
  obtain ⟨us, ut, y2, y3, s2, s3⟩ := m.swap.rows
  obtain ⟨_, _, _, _, _, _, m0, _⟩ := m.cells
  obtain ⟨_, _, _, _, _, _, n0, _⟩ := m.swap.cells
  have hx := m.pinned (g := sb) (.head _)
  rw [e1] at r3
  rw [e2] at s3
  obtain ⟨A1, C1, f1⟩ := r2.form
  obtain ⟨A2, C2, f2⟩ := r3.form
  obtain ⟨A3, C3, f3⟩ := s2.form
  obtain ⟨A4, C4, f4⟩ := s3.form
  subst f1 f2 f3 f4
  refine ⟨A1, A2, A3, A4, C1, C2, C3, C4, X.sent.length, Y.sent.length, fun U hU => ?_, fun U hU => ?_, fun U hU => ?_, fun U hU => ?_, fun U hU => ?_, m.bel⟩
  · have hk : ∀ {g i : Nat} {u : Value}, W.cell? ⟨g, i, none⟩ = some u → U.cell? ⟨g, i, none⟩ = some u := fun hu => by rw [World.cell?_of_block (hU.block _ (World.block_lt_of_cell? W _ hu))]; exact hu
    exact ⟨hk (cell_at hx 0), hk (cell_at hx 1), hk m0, hk z2, hk z3, hk n0, hk y2, hk y3⟩
  · exact begins_yes (r3.below hU) (s2.below hU) (by rw [List.take_length]) (fun x hx => by have := t2 x hx; omega) (by omega)
  · exact begins_yes (s3.below hU) (r2.below hU) (by rw [List.take_length]) (fun x hx => by have := t1 x hx; omega) (by omega)
  · have := pw_wait (m.below hU); rw [e3] at this; exact this
  · have := pw_wait (m.below hU).swap; rw [e4] at this; exact this
set_option maxRecDepth 100000 in
set_option maxHeartbeats 40000000 in
theorem orders_short {w : World} {A : Option Addr} {C : Nat} {l : List Int} (h : Ns w (.slice A l.length C) l) (hl : l.length ≤ 300) :
    Calls Try.prog 5 #[.slice A l.length C] w fun e w' => e = .returned (.bool true) ∧ Below w.heap.size w w' := by
  have HD : Hid (Ns w (.slice A l.length C) l) := h
  clear h
  obtain ⟨K, hK⟩ : ∃ K, K = l.length := ⟨_, rfl⟩
  have HK : Hid (K = l.length) := hK
  rw [← hK] at hl ⊢
  clear hK
  go_enter Try.func5, Try.ntmps5
  go_wp2_with fail
  refine (awake_any _).mono ?_
  rintro e w1 ⟨rfl, hb⟩
  have HB1 : Hid (Below w.heap.size w w1) := hb
  clear hb
  go_wp2_with fail
  refine (new_lo 4 w1 (by decide)).mono ?_
  rintro e w2 ⟨a, rfl, h2, b2⟩
  have H2 : Hid (Lo false w2 a (news 4) (Nw w1 w2) ∧ Below w1.heap.size w1 w2) := ⟨h2, b2⟩
  clear h2 b2
  go_wp2_with fail
  refine (new_lo 2 (w2.alloc (sideB a 0)) (by decide)).mono ?_
  rintro e w4 ⟨b, rfl, h4, b4⟩
  have hP := PW.start (k' := 0) H2.out.1 H2.out.2 h4 b4
  obtain ⟨h0, hh0⟩ : ∃ h0, h0 = w2.heap.size := ⟨_, rfl⟩
  obtain ⟨h1, hh1⟩ : ∃ h1, h1 = w4.heap.size := ⟨_, rfl⟩
  obtain ⟨w5, hw5⟩ : ∃ w5, w5 = w4.alloc (sideB b 0) := ⟨_, rfl⟩
  rw [← hh0, ← hh1, ← hw5] at hP
  obtain ⟨w6, hw6⟩ : ∃ w6, w6 = w5.alloc (.cells #[.pointer (some ⟨h0, 0, none⟩), .pointer (some ⟨h1, 0, none⟩)] 57) := ⟨_, rfl⟩
  obtain ⟨sb, hsb⟩ : ∃ sb, sb = w5.heap.size := ⟨_, rfl⟩
  have HR6 : Hid (Rel w1 w6 h0 h1 a b sb 0) := by
    refine ⟨⟨news 4, [], [], []⟩, ⟨news 2, [], [], []⟩, ?_, ⟨⟨rfl, .inl rfl, fun _ => ⟨rfl, rfl⟩, ⟨by decide, by decide⟩, rfl, rfl, rfl, by decide, by decide, fun p hp => (by cases hp)⟩, ⟨rfl, .inl rfl, fun _ => ⟨rfl, rfl⟩, ⟨by decide, by decide⟩, rfl, rfl, rfl, by decide, by decide, fun p hp => (by cases hp)⟩⟩, by simp, fun x hx => (by cases hx), fun x hx => (by cases hx)⟩
    rw [hw6, hsb]; exact hP.pin _
  have HZ0 : Hid (w4.heap.size + 1 = sb) := by unfold Hid; rw [hsb, hw5]; simp
  simp only [sideB] at hw5
  clear hP h4 b4 H2 hsb
  go_wp2_with fail
  rw [HZ0.out, ← hh1, ← hh0, ← hw5, ← hw6]
  clear HZ0 hh1 hh0 hw5 hw6
  go_loopw [4] (fun i wr => ∃ (j : Nat), j ≤ K ∧ i = .int .i64 j ∧ Hid (Rel w1 wr h0 h1 a b sb j)) (fun i _ => K - (intOf i).toNat)
  case atStart => exact ⟨0, Nat.zero_le _, rfl, HR6⟩
  case round =>
    obtain ⟨j, hj, rfl, HR⟩ := hrel
    by_cases hlt : j < K
    · have hj' : j < l.length := by have := HK.out; omega
      obtain ⟨x, hx⟩ : ∃ x : Int, x = l[j]'hj' := ⟨_, rfl⟩
      have HXR : Hid (i64 x) := by rw [hx]; obtain ⟨_, _, _, h2, _⟩ := HD.out; exact h2 _ (List.getElem_mem hj')
      obtain ⟨g, o, hA, a0⟩ : ∃ g o, A = some ⟨g, o, none⟩ ∧ w.cell? ⟨g, o + j, none⟩ = some (.int .i64 x) := by
        obtain ⟨A', C', e, _, h3⟩ := HD.out
        injection e with e
        subst e
        rw [hx]; exact h3 j hj'
      have HC : Hid (∀ (W : World), Below w1.heap.size w1 W → W.cell? ⟨g, o + j, none⟩ = some (.int .i64 x)) := by
        intro W hW
        have hb : Below w.heap.size w W := HB1.out.trans (hW.mono HB1.out.size)
        rw [World.cell?_of_block (hb.block g (World.block_lt_of_cell? w _ a0))]; exact a0
      subst hA
      obtain ⟨e, he, hbit⟩ : ∃ e : Nat, (e = 0 ∨ e = 1) ∧ bits .and .i64 x 1 = (e : Int) := ⟨(x % 2).toNat, by omega, by rw [i64_and1]; omega⟩
      obtain ⟨f, hm, ho, am, ao, ci, cj, M, O, vw⟩ := HR.out.view e he
      have HV : Hid (View w1 wr h0 h1 a b sb j e f hm ho am ao ci cj M O) := vw
      have hef : (1 : Int) - (e : Int) = (f : Int) := by rcases vw.ef with q | q <;> omega
      have he2 : e < 2 := by omega
      have hf2 : f < 2 := by rcases vw.ef with q | q <;> omega
      have c0 := HC.out wr vw.pw.bel
      obtain ⟨s0, s1⟩ := vw.cells vw.pw
      clear hx a0 HR6 HR vw he
      obtain ⟨k, hk3, ek⟩ : ∃ k : Nat, k < 3000 ∧ (x / 2) % 3000 = k := ⟨((x / 2) % 3000).toNat, by omega, by omega⟩
      have hpk := pick_any (x / 2) 3000 (by have := HXR.out; unfold i64 at this; omega) (by omega) (by omega) wr
      rw [ek] at hpk
      go_wp2_with fail
      refine hpk.mono ?_
      rintro e' w7 ⟨rfl, rfl⟩
      clear hpk ek s0 s1 hbit hef
      have hcs : k % 3 = 0 ∨ k % 3 = 1 ∨ k % 3 = 2 := by omega
      obtain ⟨A1, C1, A2, C2, A3, C3, m0, _, m2, m3, m4, mf⟩ := HV.out.pw.cells
      obtain ⟨B1, D1, B2, D2, B3, D3, n0, _, n2, n3, n4, nf⟩ := HV.out.pw.swap.cells
      have hml : hm < w7.heap.size := World.block_lt_of_cell? w7 _ m0
      have hol : ho < w7.heap.size := World.block_lt_of_cell? w7 _ n0
      rcases hcs with hc3 | hc3 | hc3
      · have hmd : (k : Int) % 3 = 0 := by omega
        have hmt : ((k : Int)).tmod 3 = 0 := by rw [Int.tmod_eq_emod_of_nonneg (by omega)]; omega
        clear hc3
        obtain ⟨bb, hbb, hbl⟩ : ∃ bb : List UInt8, (bv bb).toArray = #[.int .u8 ((j : Int) % 256), .int .u8 ((j : Int) / 256), .int .u8 ((k : Int) % 256)] ∧ bb.length = 3 := by
          refine ⟨[UInt8.ofNat (j % 256), UInt8.ofNat (j / 256), UInt8.ofNat (k % 256)], ?_, rfl⟩
          have h1 : (j / 256) % 256 = j / 256 := by omega
          simp [bv, UInt8.toNat_ofNat', h1]
        have hB := below1 w7 (.cells #[.int .u8 ((j : Int) % 256), .int .u8 ((j : Int) / 256), .int .u8 ((k : Int) % 256)] 5)
        have hly := HV.out.pw.lay hB (litB w7 bb hbb hbl) (fun g hg => by have := bk_blk hg; cases this; exact Nat.le_refl _)
        have hE : sendE M.s bb = 0 := by
          have q := HV.out.mth
          have w3' := congrArg List.length q.1.1.loads
          simp only [List.length_drop] at w3'
          have := q.2.1
          unfold sendE
          rw [if_neg (by omega), if_neg (by omega), if_neg (by omega)]
        have hsd := pw_send hly (.head _)
        rw [hE] at hsd
        have HMs : Hid (Mth ci cj (j + 1) ⟨sendS M.s bb, M.sent ++ [bb], M.told, M.outs⟩ O) := by
          obtain ⟨q1, q2, q3, q4⟩ := HV.out.mth
          refine ⟨both_send q1 hE, by simp only [List.length_append, List.length_cons, List.length_nil]; omega, fun x hx => ?_, q4⟩
          rcases List.mem_append.1 hx with hx | hx
          · exact q3 x hx
          · simp at hx; rw [hx]; exact hbl
        have HBL : Hid (bb.length = 3) := hbl
        clear hE hly hB hbb
        go_wp2_with fail
        refine hsd.mono ?_
        rintro e' w8 ⟨rfl, HS8⟩
        clear hsd
        have hps := pw_sent HS8.out (A6 := some ⟨w7.heap.size, 0, none⟩) (C6 := 3) (b := bb) (by rw [hbl]; exact .head _) (by have := HV.out.mth.2.1; show M.sent.length ≤ _; omega)
        rw [hbl] at hps
        obtain ⟨P1, Q1, P8, Q8, w9, ⟨k1, k2, k3, k4⟩, hrun, HF9⟩ := hps
        have k0 : w8.cell? ⟨hm, 2, none⟩ = some (.slice P1 M.sent.length Q1) := k1
        have hml8 : hm < w8.heap.size := World.block_lt_of_cell? w8 _ k0
        clear m0 m2 m3 m4 mf n0 n2 n3 n4 nf hbl
        go_wp2_with (first
          | (at_builtin; refine wpList_appr 47 rfl (.tmp 123) (.tmp 125) rfl _ _ _ (by simp [Act.eval]) (by simp [Act.eval]) hrun ?_)
          | fail)
        obtain ⟨M', O', HPV, HMV⟩ : ∃ M' O', Hid (PW w1 (w9.setCell ⟨hm, 2, none⟩ (.slice P8 (M.sent.length + 1) Q8)) hm ho am ao 0 0 (pins h0 h1 sb) M' O' []) ∧ Hid (Mth ci cj (j + 1) M' O') := ⟨_, _, HF9.out.fewH (fun x hx => by cases hx), HMs⟩
        clear HF9 HMs HS8 k0 k1 k2 k3 k4 hml8 hrun hml hol hmd hmt HBL
        as_aux_lemma =>
        obtain ⟨V, hV⟩ : ∃ V, V = w9.setCell ⟨hm, 2, none⟩ (.slice P8 (M.sent.length + 1) Q8) := ⟨_, rfl⟩
        rw [← hV]
        rw [← hV] at HPV
        clear hV
        obtain ⟨vs, vt, z2, z3, r2, r3⟩ := HPV.out.rows
        obtain ⟨us, ut, y2, y3, t2, t3⟩ := HPV.out.swap.rows
        obtain ⟨A1, C1, A2, C2, A3, C3, m0, _, _, _, _, _⟩ := HPV.out.cells
        obtain ⟨P1, Q1, e1⟩ := r2.form
        subst e1
        have HRR : Hid (∀ U, Below V.heap.size V U → Rr U vt M'.told ∧ Rr U us O'.sent ∧ Rr U ut O'.told ∧ Rr U (.slice P1 M'.sent.length Q1) M'.sent) := fun U hU => ⟨r3.below hU, t2.below hU, t3.below hU, r2.below hU⟩
        obtain ⟨L1, hL1⟩ : ∃ L1, L1 = M'.sent.length := ⟨_, rfl⟩
        rw [← hL1] at z2
        have HCC : Hid (∀ U, Below V.heap.size V U → U.cell? ⟨hm, 0, none⟩ = some (.pointer (some ⟨am, 0, none⟩)) ∧ U.cell? ⟨hm, 2, none⟩ = some (.slice P1 L1 Q1) ∧ U.cell? ⟨hm, 3, none⟩ = some vt ∧ U.cell? ⟨ho, 2, none⟩ = some us ∧ U.cell? ⟨ho, 3, none⟩ = some ut) := by
          intro U hU
          have hk : ∀ {g i : Nat} {u : Value}, V.cell? ⟨g, i, none⟩ = some u → U.cell? ⟨g, i, none⟩ = some u := fun hu => by rw [World.cell?_of_block (hU.block _ (World.block_lt_of_cell? V _ hu))]; exact hu
          exact ⟨hk m0, hk z2, hk z3, hk y2, hk y3⟩
        have HMM : Hid (M'.told = O'.sent.take M'.told.length ∧ O'.told = M'.sent.take O'.told.length ∧ (∀ x ∈ M'.sent, x.length ≤ 1048576) ∧ (∀ x ∈ O'.sent, x.length ≤ 1048576) ∧ M'.told.length ≤ 1000000 ∧ O'.told.length ≤ 1000000 ∧ M'.s.loads.length ≤ L1 ∧ L1 ≤ 1000) := by
          obtain ⟨q1, q2, q3, q4⟩ := HMV.out
          have w1' := congrArg List.length q1.1.told
          have w2' := congrArg List.length q1.2.told
          have w3' := congrArg List.length q1.1.loads
          simp only [List.length_take, List.length_drop] at w1' w2' w3'
          exact ⟨q1.1.told, q1.2.told, fun x hx => by have := q3 x hx; omega, fun x hx => by have := q4 x hx; omega, by omega, by omega, by omega, by omega⟩
        have HBQ : Hid (∀ U, Below V.heap.size V U → Calls Try.prog 28 #[vt, us] U fun e w' => e = .returned (.bool true) ∧ Below U.heap.size U w') := fun U hU => begins_yes (HRR.out U hU).1 (HRR.out U hU).2.1 HMM.out.1 HMM.out.2.2.2.1 HMM.out.2.2.2.2.1
        have HB2 : Hid (∀ U, Below V.heap.size V U → Calls Try.prog 28 #[ut, .slice P1 L1 Q1] U fun e w' => e = .returned (.bool true) ∧ Below U.heap.size U w') := fun U hU => by
          rw [hL1]; exact begins_yes (HRR.out U hU).2.2.1 (HRR.out U hU).2.2.2 HMM.out.2.1 HMM.out.2.2.1 HMM.out.2.2.2.2.2.1
        have HWT : Hid (∀ U, Below V.heap.size V U → Calls Try.prog 26 #[.pointer (some ⟨am, 0, none⟩)] U fun e w' => e = .returned (.int .i64 M'.s.loads.length) ∧ w' = U) := fun U hU => pw_wait (HPV.out.below hU)
        obtain ⟨G1, hG1⟩ : ∃ G1, G1 = M'.s.loads.length := ⟨_, rfl⟩
        rw [← hG1] at HWT
        have hgl : ¬ (L1 : Int) < (G1 : Int) := by have := HMM.out.2.2.2.2.2.2; omega
        have hgl2 : ¬ L1 < G1 := by omega
        obtain ⟨s0, s1, s2, s3, s4⟩ := HCC.out V (Below.refl _ _)
        have s0 := fun d os => cell_regrown s0 d os
        have s1 := fun d os => cell_regrown s1 d os
        have s2 := fun d os => cell_regrown s2 d os
        have s3 := fun d os => cell_regrown s3 d os
        have s4 := fun d os => cell_regrown s4 d os
        have bQ := fun d os => Calls.regrown_of (HBQ.out (grow (redrawn V d) os) (below_regrown V d os))
        have bR := fun d os => Calls.regrown_of (HB2.out (grow (redrawn V d) os) (below_regrown V d os))
        have wQ := fun d os => Calls.regrown_of ((HWT.out (grow (redrawn V d) os) (below_regrown V d os)).mono fun e w' h => ⟨h.1, by rw [h.2]; exact Below.refl _ _⟩)
        clear r2 r3 t2 t3 z2 z3 y2 y3 m0 hL1 hG1
        go_wp2_with fail
        refine wp_region_quiet_below (by kernel_rfl) (by kernel_rfl) ?_
        repeat (go_big_quiet_step (first
          | (go_at_call_of 28 vt; exact bQ _ _)
          | (go_at_call 28; exact bR _ _)
          | (go_at_call 26; exact wQ _ _)))
        refine wpQuiet_nil ?_
        intro _ hw'
        obtain ⟨⟨dq, osq⟩, hw''⟩ := hw'
        subst hw''
        have HF : Hid (Rel w1 (grow (redrawn V dq) osq) h0 h1 a b sb (j + 1)) := HV.out.back _ _ _ _ _ (HPV.out.below (below_regrown V dq osq)) HMV.out
        clear s0 s1 s2 s3 s4 bQ bR wQ
        go_wp2_with fail
        go_roundw
        case rel => exact ⟨j + 1, by omega, by go_num, HF⟩
        case measure => simp [intOf]; omega
      · have hmd : (k : Int) % 3 = 1 := by omega
        have hmt : ((k : Int)).tmod 3 = 1 := by rw [Int.tmod_eq_emod_of_nonneg (by omega)]; omega
        clear hc3
        obtain ⟨p, hp⟩ : ∃ p, p = outP M.s := ⟨_, rfl⟩
        obtain ⟨n, hn⟩ : ∃ n, n = M.outs.length := ⟨_, rfl⟩
        have HMs : Hid (Mth ci cj (j + 1) ⟨M.s, M.sent, M.told, M.outs ++ [p]⟩ O) := by
          obtain ⟨q1, q2, q3, q4⟩ := HV.out.mth
          refine ⟨by rw [hp]; exact both_out q1 HV.out.ij.2.1, by simp only [List.length_append, List.length_cons, List.length_nil]; omega, q3, q4⟩
        rw [← hn] at m4
        have hout := pw_outR (HV.out.pw.below (Below.refl _ _).drew) (by have := HV.out.mth.1.1.ack0; have := HV.out.mth.2.1; omega) hp (by have := HV.out.mth.2.1; omega) (A3 := A3) (C3 := C3) (n := n) m4 hn
        have c4' : w7.drew.cell? ⟨hm, 4, none⟩ = some (.slice A3 n C3) := m4
        have c0' : w7.drew.cell? ⟨hm, 0, none⟩ = some (.pointer (some ⟨am, 0, none⟩)) := m0
        clear n0 n2 n3 n4 nf m2 m3 hp hn m4 m0
        go_wp2_with fail
        go_region_law (first
          | (go_simp; go_at_call 24; refine hout.mono ?_; rintro e' w8 ⟨A, C, A8, C8, w9, rfl, k0, ⟨k1, k2, k3, k4⟩, hrun, HF9⟩)
          | (refine step_appP rfl (.tmp 135) (.tmp 141) rfl _ _ _ _ (by simp [Act.eval]) (by simp [Act.eval]) hrun ?_))
        all_goals
          obtain ⟨M', O', HPV, HMV⟩ : ∃ M' O', Hid (PW w1 (w9.setCell ⟨hm, 4, none⟩ (.slice A8 (n + 1) C8)) hm ho am ao 0 0 (pins h0 h1 sb) M' O' []) ∧ Hid (Mth ci cj (j + 1) M' O') := ⟨_, _, HF9, HMs⟩
          clear HF9 HMs k0 k1 k2 k3 k4 hrun hml hol hmd hmt mf c4' c0' hout
          as_aux_lemma =>
          obtain ⟨V, hV⟩ : ∃ V, V = w9.setCell ⟨hm, 4, none⟩ (.slice A8 (n + 1) C8) := ⟨_, rfl⟩
          rw [← hV]
          rw [← hV] at HPV
          clear hV
          obtain ⟨vs, vt, z2, z3, r2, r3⟩ := HPV.out.rows
          obtain ⟨us, ut, y2, y3, t2, t3⟩ := HPV.out.swap.rows
          obtain ⟨A1, C1, A2, C2, A3, C3, m0, _, _, _, _, _⟩ := HPV.out.cells
          obtain ⟨P1, Q1, e1⟩ := r2.form
          subst e1
          have HRR : Hid (∀ U, Below V.heap.size V U → Rr U vt M'.told ∧ Rr U us O'.sent ∧ Rr U ut O'.told ∧ Rr U (.slice P1 M'.sent.length Q1) M'.sent) := fun U hU => ⟨r3.below hU, t2.below hU, t3.below hU, r2.below hU⟩
          obtain ⟨L1, hL1⟩ : ∃ L1, L1 = M'.sent.length := ⟨_, rfl⟩
          rw [← hL1] at z2
          have HCC : Hid (∀ U, Below V.heap.size V U → U.cell? ⟨hm, 0, none⟩ = some (.pointer (some ⟨am, 0, none⟩)) ∧ U.cell? ⟨hm, 2, none⟩ = some (.slice P1 L1 Q1) ∧ U.cell? ⟨hm, 3, none⟩ = some vt ∧ U.cell? ⟨ho, 2, none⟩ = some us ∧ U.cell? ⟨ho, 3, none⟩ = some ut) := by
            intro U hU
            have hk : ∀ {g i : Nat} {u : Value}, V.cell? ⟨g, i, none⟩ = some u → U.cell? ⟨g, i, none⟩ = some u := fun hu => by rw [World.cell?_of_block (hU.block _ (World.block_lt_of_cell? V _ hu))]; exact hu
            exact ⟨hk m0, hk z2, hk z3, hk y2, hk y3⟩
          have HMM : Hid (M'.told = O'.sent.take M'.told.length ∧ O'.told = M'.sent.take O'.told.length ∧ (∀ x ∈ M'.sent, x.length ≤ 1048576) ∧ (∀ x ∈ O'.sent, x.length ≤ 1048576) ∧ M'.told.length ≤ 1000000 ∧ O'.told.length ≤ 1000000 ∧ M'.s.loads.length ≤ L1 ∧ L1 ≤ 1000) := by
            obtain ⟨q1, q2, q3, q4⟩ := HMV.out
            have w1' := congrArg List.length q1.1.told
            have w2' := congrArg List.length q1.2.told
            have w3' := congrArg List.length q1.1.loads
            simp only [List.length_take, List.length_drop] at w1' w2' w3'
            exact ⟨q1.1.told, q1.2.told, fun x hx => by have := q3 x hx; omega, fun x hx => by have := q4 x hx; omega, by omega, by omega, by omega, by omega⟩
          have HBQ : Hid (∀ U, Below V.heap.size V U → Calls Try.prog 28 #[vt, us] U fun e w' => e = .returned (.bool true) ∧ Below U.heap.size U w') := fun U hU => begins_yes (HRR.out U hU).1 (HRR.out U hU).2.1 HMM.out.1 HMM.out.2.2.2.1 HMM.out.2.2.2.2.1
          have HB2 : Hid (∀ U, Below V.heap.size V U → Calls Try.prog 28 #[ut, .slice P1 L1 Q1] U fun e w' => e = .returned (.bool true) ∧ Below U.heap.size U w') := fun U hU => by
            rw [hL1]; exact begins_yes (HRR.out U hU).2.2.1 (HRR.out U hU).2.2.2 HMM.out.2.1 HMM.out.2.2.1 HMM.out.2.2.2.2.2.1
          have HWT : Hid (∀ U, Below V.heap.size V U → Calls Try.prog 26 #[.pointer (some ⟨am, 0, none⟩)] U fun e w' => e = .returned (.int .i64 M'.s.loads.length) ∧ w' = U) := fun U hU => pw_wait (HPV.out.below hU)
          obtain ⟨G1, hG1⟩ : ∃ G1, G1 = M'.s.loads.length := ⟨_, rfl⟩
          rw [← hG1] at HWT
          have hgl : ¬ (L1 : Int) < (G1 : Int) := by have := HMM.out.2.2.2.2.2.2; omega
          have hgl2 : ¬ L1 < G1 := by omega
          obtain ⟨s0, s1, s2, s3, s4⟩ := HCC.out V (Below.refl _ _)
          have s0 := fun d os => cell_regrown s0 d os
          have s1 := fun d os => cell_regrown s1 d os
          have s2 := fun d os => cell_regrown s2 d os
          have s3 := fun d os => cell_regrown s3 d os
          have s4 := fun d os => cell_regrown s4 d os
          have bQ := fun d os => Calls.regrown_of (HBQ.out (grow (redrawn V d) os) (below_regrown V d os))
          have bR := fun d os => Calls.regrown_of (HB2.out (grow (redrawn V d) os) (below_regrown V d os))
          have wQ := fun d os => Calls.regrown_of ((HWT.out (grow (redrawn V d) os) (below_regrown V d os)).mono fun e w' h => ⟨h.1, by rw [h.2]; exact Below.refl _ _⟩)
          clear r2 r3 t2 t3 z2 z3 y2 y3 m0 hL1 hG1
          go_wp2_with fail
          refine wp_region_quiet_below (by kernel_rfl) (by kernel_rfl) ?_
          repeat (go_big_quiet_step (first
            | (go_at_call_of 28 vt; exact bQ _ _)
            | (go_at_call 28; exact bR _ _)
            | (go_at_call 26; exact wQ _ _)))
          refine wpQuiet_nil ?_
          intro _ hw'
          obtain ⟨⟨dq, osq⟩, hw''⟩ := hw'
          subst hw''
          have HF : Hid (Rel w1 (grow (redrawn V dq) osq) h0 h1 a b sb (j + 1)) := HV.out.back _ _ _ _ _ (HPV.out.below (below_regrown V dq osq)) HMV.out
          clear s0 s1 s2 s3 s4 bQ bR wQ
          go_wp2_with fail
          go_roundw
          case rel => exact ⟨j + 1, by omega, by go_num, HF⟩
          case measure => simp [intOf]; omega
      · have hmd : (k : Int) % 3 = 2 := by omega
        have hmt : ((k : Int)).tmod 3 = 2 := by rw [Int.tmod_eq_emod_of_nonneg (by omega)]; omega
        clear hc3
        obtain ⟨n, hn⟩ : ∃ n, n = O.outs.length := ⟨_, rfl⟩
        rw [← hn] at n4
        by_cases hn0 : n = 0
        · subst hn0
          clear m0 m2 m3 m4 mf n0 n2 n3 nf hn
          go_wp2_with fail
          obtain ⟨M', O', HPV, HMV⟩ : ∃ M' O', Hid (PW w1 w7 hm ho am ao 0 0 (pins h0 h1 sb) M' O' []) ∧ Hid (Mth ci cj (j + 1) M' O') := ⟨M, O, HV.out.pw, HV.out.mth.1, by have := HV.out.mth.2.1; omega, HV.out.mth.2.2⟩
          clear n4 hml hol hmd hmt
          as_aux_lemma =>
          obtain ⟨V, hV⟩ : ∃ V, V = w7 := ⟨_, rfl⟩
          rw [← hV]
          rw [← hV] at HPV
          clear hV
          obtain ⟨vs, vt, z2, z3, r2, r3⟩ := HPV.out.rows
          obtain ⟨us, ut, y2, y3, t2, t3⟩ := HPV.out.swap.rows
          obtain ⟨A1, C1, A2, C2, A3, C3, m0, _, _, _, _, _⟩ := HPV.out.cells
          obtain ⟨P1, Q1, e1⟩ := r2.form
          subst e1
          have HRR : Hid (∀ U, Below V.heap.size V U → Rr U vt M'.told ∧ Rr U us O'.sent ∧ Rr U ut O'.told ∧ Rr U (.slice P1 M'.sent.length Q1) M'.sent) := fun U hU => ⟨r3.below hU, t2.below hU, t3.below hU, r2.below hU⟩
          obtain ⟨L1, hL1⟩ : ∃ L1, L1 = M'.sent.length := ⟨_, rfl⟩
          rw [← hL1] at z2
          have HCC : Hid (∀ U, Below V.heap.size V U → U.cell? ⟨hm, 0, none⟩ = some (.pointer (some ⟨am, 0, none⟩)) ∧ U.cell? ⟨hm, 2, none⟩ = some (.slice P1 L1 Q1) ∧ U.cell? ⟨hm, 3, none⟩ = some vt ∧ U.cell? ⟨ho, 2, none⟩ = some us ∧ U.cell? ⟨ho, 3, none⟩ = some ut) := by
            intro U hU
            have hk : ∀ {g i : Nat} {u : Value}, V.cell? ⟨g, i, none⟩ = some u → U.cell? ⟨g, i, none⟩ = some u := fun hu => by rw [World.cell?_of_block (hU.block _ (World.block_lt_of_cell? V _ hu))]; exact hu
            exact ⟨hk m0, hk z2, hk z3, hk y2, hk y3⟩
          have HMM : Hid (M'.told = O'.sent.take M'.told.length ∧ O'.told = M'.sent.take O'.told.length ∧ (∀ x ∈ M'.sent, x.length ≤ 1048576) ∧ (∀ x ∈ O'.sent, x.length ≤ 1048576) ∧ M'.told.length ≤ 1000000 ∧ O'.told.length ≤ 1000000 ∧ M'.s.loads.length ≤ L1 ∧ L1 ≤ 1000) := by
            obtain ⟨q1, q2, q3, q4⟩ := HMV.out
            have w1' := congrArg List.length q1.1.told
            have w2' := congrArg List.length q1.2.told
            have w3' := congrArg List.length q1.1.loads
            simp only [List.length_take, List.length_drop] at w1' w2' w3'
            exact ⟨q1.1.told, q1.2.told, fun x hx => by have := q3 x hx; omega, fun x hx => by have := q4 x hx; omega, by omega, by omega, by omega, by omega⟩
          have HBQ : Hid (∀ U, Below V.heap.size V U → Calls Try.prog 28 #[vt, us] U fun e w' => e = .returned (.bool true) ∧ Below U.heap.size U w') := fun U hU => begins_yes (HRR.out U hU).1 (HRR.out U hU).2.1 HMM.out.1 HMM.out.2.2.2.1 HMM.out.2.2.2.2.1
          have HB2 : Hid (∀ U, Below V.heap.size V U → Calls Try.prog 28 #[ut, .slice P1 L1 Q1] U fun e w' => e = .returned (.bool true) ∧ Below U.heap.size U w') := fun U hU => by
            rw [hL1]; exact begins_yes (HRR.out U hU).2.2.1 (HRR.out U hU).2.2.2 HMM.out.2.1 HMM.out.2.2.1 HMM.out.2.2.2.2.2.1
          have HWT : Hid (∀ U, Below V.heap.size V U → Calls Try.prog 26 #[.pointer (some ⟨am, 0, none⟩)] U fun e w' => e = .returned (.int .i64 M'.s.loads.length) ∧ w' = U) := fun U hU => pw_wait (HPV.out.below hU)
          obtain ⟨G1, hG1⟩ : ∃ G1, G1 = M'.s.loads.length := ⟨_, rfl⟩
          rw [← hG1] at HWT
          have hgl : ¬ (L1 : Int) < (G1 : Int) := by have := HMM.out.2.2.2.2.2.2; omega
          have hgl2 : ¬ L1 < G1 := by omega
          obtain ⟨s0, s1, s2, s3, s4⟩ := HCC.out V (Below.refl _ _)
          have s0 := fun d os => cell_regrown s0 d os
          have s1 := fun d os => cell_regrown s1 d os
          have s2 := fun d os => cell_regrown s2 d os
          have s3 := fun d os => cell_regrown s3 d os
          have s4 := fun d os => cell_regrown s4 d os
          have bQ := fun d os => Calls.regrown_of (HBQ.out (grow (redrawn V d) os) (below_regrown V d os))
          have bR := fun d os => Calls.regrown_of (HB2.out (grow (redrawn V d) os) (below_regrown V d os))
          have wQ := fun d os => Calls.regrown_of ((HWT.out (grow (redrawn V d) os) (below_regrown V d os)).mono fun e w' h => ⟨h.1, by rw [h.2]; exact Below.refl _ _⟩)
          clear r2 r3 t2 t3 z2 z3 y2 y3 m0 hL1 hG1
          go_wp2_with fail
          refine wp_region_quiet_below (by kernel_rfl) (by kernel_rfl) ?_
          repeat (go_big_quiet_step (first
            | (go_at_call_of 28 vt; exact bQ _ _)
            | (go_at_call 28; exact bR _ _)
            | (go_at_call 26; exact wQ _ _)))
          refine wpQuiet_nil ?_
          intro _ hw'
          obtain ⟨⟨dq, osq⟩, hw''⟩ := hw'
          subst hw''
          have HF : Hid (Rel w1 (grow (redrawn V dq) osq) h0 h1 a b sb (j + 1)) := HV.out.back _ _ _ _ _ (HPV.out.below (below_regrown V dq osq)) HMV.out
          clear s0 s1 s2 s3 s4 bQ bR wQ
          go_wp2_with fail
          go_roundw
          case rel => exact ⟨j + 1, by omega, by go_num, HF⟩
          case measure => simp [intOf]; omega
        · obtain ⟨i, hi⟩ : ∃ i, i = k / 3 % n := ⟨_, rfl⟩
          have hin : i < n := by rw [hi]; exact Nat.mod_lt _ (by omega)
          have hdv : ((k : Int)).tdiv 3 = ((k / 3 : Nat) : Int) := by rw [Int.tdiv_eq_ediv_of_nonneg (by omega)]; omega
          have hdv2 : (k : Int) / 3 = ((k / 3 : Nat) : Int) := by omega
          obtain ⟨q, hq⟩ : ∃ q, q = k / 3 := ⟨_, rfl⟩
          rw [← hq] at hi hdv hdv2
          have hwr : IntKind.i64.wrap (q : Int) = (q : Int) := by rw [IntKind.wrap_i64]; omega
          have hmo : ((q : Int)).tmod (n : Int) = (i : Int) := by rw [Int.tmod_eq_emod_of_nonneg (by omega), hi]; rfl
          have hmo2 : (q : Int) % (n : Int) = (i : Int) := by rw [hi]; rfl
          have hio : i < O.outs.length := by omega
          obtain ⟨g5, A5, C5, hB3, p0, p1, p2, p3, p4, hpw⟩ := (HV.out.pw.below (Below.refl _ _).drew).swap.outAt (A3 := B3) (C3 := D3) (n := n) n4 i hio
          obtain ⟨p, hp⟩ : ∃ p, p = O.outs[i]'hio := ⟨_, rfl⟩
          rw [← hp] at p0 p1 p2 p3 p4 hpw
          have hpo : PkOk cj ci O p := HV.out.mth.1.2.outs p (by rw [hp]; exact List.getElem_mem hio)
          obtain ⟨bk1, bk2, _⟩ := both_take HV.out.mth.1.swap HV.out.ij.2.1 HV.out.ij.1 hpo
          have hp3 := hpo.three HV.out.mth.2.2.2
          have htk := pw_took hpw.swap (p := p) (A := A5) (C := C5) (.head _) (by unfold i64; rw [hpo.1]; have := HV.out.ij; omega) (by omega) (by have := HV.out.mth.1.1.ack0; have := HV.out.mth.2.1; omega) (by have := HV.out.mth.1.1.got; have := congrArg List.length HV.out.mth.1.1.told; rw [List.length_take] at this; have := HV.out.mth.2.1; omega) bk1 (by have := congrArg List.length HV.out.mth.1.1.told; rw [List.length_take] at this; have := HV.out.mth.2.1; omega)
          have HMs : Hid (Mth ci cj (j + 1) (tookS M p) O) := ⟨bk2.swap, by have := HV.out.mth.2.1; show M.sent.length + M.outs.length + _ + _ ≤ _; omega, HV.out.mth.2.2.1, HV.out.mth.2.2.2⟩
          subst hB3
          have HST : Hid (w7.drew.cell? ⟨ho, 4, none⟩ = some (.slice (some ⟨g5, 0, none⟩) n D3) ∧ w7.drew.cell? ⟨hm, 0, none⟩ = some (.pointer (some ⟨am, 0, none⟩)) ∧ w7.drew.cell? ⟨g5, i * 5, none⟩ = some (.int .i64 p.fr) ∧ w7.drew.cell? ⟨g5, i * 5 + 1, none⟩ = some (.int .i64 p.to) ∧ w7.drew.cell? ⟨g5, i * 5 + 2, none⟩ = some (.int .i64 p.seq) ∧ w7.drew.cell? ⟨g5, i * 5 + 3, none⟩ = some (.int .i64 p.ack) ∧ w7.drew.cell? ⟨g5, i * 5 + 4, none⟩ = some (.slice A5 p.load.length C5)) := ⟨n4, m0, p0, p1, p2, p3, p4⟩
          have hS0 := HST.out
          have hpos : 0 < n := by omega
          clear m2 m3 m4 mf n0 n2 n3 nf hn bk1 bk2 hp3 hpo hp hpw hi hq hio m0 p0 p1 p2 p3 p4
          go_wp2_with fail
          go_region_held3 (fun w' => w'.cell? ⟨ho, 4, none⟩ = some (.slice (some ⟨g5, 0, none⟩) n D3) ∧ w'.cell? ⟨hm, 0, none⟩ = some (.pointer (some ⟨am, 0, none⟩)) ∧ w'.cell? ⟨g5, i * 5, none⟩ = some (.int .i64 p.fr) ∧ w'.cell? ⟨g5, i * 5 + 1, none⟩ = some (.int .i64 p.to) ∧ w'.cell? ⟨g5, i * 5 + 2, none⟩ = some (.int .i64 p.seq) ∧ w'.cell? ⟨g5, i * 5 + 3, none⟩ = some (.int .i64 p.ack) ∧ w'.cell? ⟨g5, i * 5 + 4, none⟩ = some (.slice A5 p.load.length C5))
            (first | exact hS0 | exact hS1 | go_keep)
            (first
              | (go_at_call 17; refine htk.mono ?_; rintro e' w8 ⟨A', C', L', ok, rfl, hkp, hno, hyes⟩
                 have hS1 : w8.cell? ⟨ho, 4, none⟩ = some (.slice (some ⟨g5, 0, none⟩) n D3) ∧ w8.cell? ⟨hm, 0, none⟩ = some (.pointer (some ⟨am, 0, none⟩)) ∧ w8.cell? ⟨g5, i * 5, none⟩ = some (.int .i64 p.fr) ∧ w8.cell? ⟨g5, i * 5 + 1, none⟩ = some (.int .i64 p.to) ∧ w8.cell? ⟨g5, i * 5 + 2, none⟩ = some (.int .i64 p.seq) ∧ w8.cell? ⟨g5, i * 5 + 3, none⟩ = some (.int .i64 p.ack) ∧ w8.cell? ⟨g5, i * 5 + 4, none⟩ = some (.slice A5 p.load.length C5) := took_keeps hkp HST.out
                 clear htk))
          clear hS0 hS1 HST hkp hpos hin hdv hdv2 hwr hmo hmo2 hmd hmt n4 hml hol
          cases ok with
          | false =>
            have HPX := hno rfl
            clear hno hyes
            go_wp2_with fail
            obtain ⟨M', O', HPV, HMV⟩ : ∃ M' O', Hid (PW w1 w8 hm ho am ao 0 0 (pins h0 h1 sb) M' O' []) ∧ Hid (Mth ci cj (j + 1) M' O') := ⟨_, _, HPX, HMs⟩
            clear HPX HMs
            as_aux_lemma =>
            obtain ⟨V, hV⟩ : ∃ V, V = w8 := ⟨_, rfl⟩
            rw [← hV]
            rw [← hV] at HPV
            clear hV
            obtain ⟨vs, vt, z2, z3, r2, r3⟩ := HPV.out.rows
            obtain ⟨us, ut, y2, y3, t2, t3⟩ := HPV.out.swap.rows
            obtain ⟨A1, C1, A2, C2, A3, C3, m0, _, _, _, _, _⟩ := HPV.out.cells
            obtain ⟨P1, Q1, e1⟩ := r2.form
            subst e1
            have HRR : Hid (∀ U, Below V.heap.size V U → Rr U vt M'.told ∧ Rr U us O'.sent ∧ Rr U ut O'.told ∧ Rr U (.slice P1 M'.sent.length Q1) M'.sent) := fun U hU => ⟨r3.below hU, t2.below hU, t3.below hU, r2.below hU⟩
            obtain ⟨L1, hL1⟩ : ∃ L1, L1 = M'.sent.length := ⟨_, rfl⟩
            rw [← hL1] at z2
            have HCC : Hid (∀ U, Below V.heap.size V U → U.cell? ⟨hm, 0, none⟩ = some (.pointer (some ⟨am, 0, none⟩)) ∧ U.cell? ⟨hm, 2, none⟩ = some (.slice P1 L1 Q1) ∧ U.cell? ⟨hm, 3, none⟩ = some vt ∧ U.cell? ⟨ho, 2, none⟩ = some us ∧ U.cell? ⟨ho, 3, none⟩ = some ut) := by
              intro U hU
              have hk : ∀ {g i : Nat} {u : Value}, V.cell? ⟨g, i, none⟩ = some u → U.cell? ⟨g, i, none⟩ = some u := fun hu => by rw [World.cell?_of_block (hU.block _ (World.block_lt_of_cell? V _ hu))]; exact hu
              exact ⟨hk m0, hk z2, hk z3, hk y2, hk y3⟩
            have HMM : Hid (M'.told = O'.sent.take M'.told.length ∧ O'.told = M'.sent.take O'.told.length ∧ (∀ x ∈ M'.sent, x.length ≤ 1048576) ∧ (∀ x ∈ O'.sent, x.length ≤ 1048576) ∧ M'.told.length ≤ 1000000 ∧ O'.told.length ≤ 1000000 ∧ M'.s.loads.length ≤ L1 ∧ L1 ≤ 1000) := by
              obtain ⟨q1, q2, q3, q4⟩ := HMV.out
              have w1' := congrArg List.length q1.1.told
              have w2' := congrArg List.length q1.2.told
              have w3' := congrArg List.length q1.1.loads
              simp only [List.length_take, List.length_drop] at w1' w2' w3'
              exact ⟨q1.1.told, q1.2.told, fun x hx => by have := q3 x hx; omega, fun x hx => by have := q4 x hx; omega, by omega, by omega, by omega, by omega⟩
            have HBQ : Hid (∀ U, Below V.heap.size V U → Calls Try.prog 28 #[vt, us] U fun e w' => e = .returned (.bool true) ∧ Below U.heap.size U w') := fun U hU => begins_yes (HRR.out U hU).1 (HRR.out U hU).2.1 HMM.out.1 HMM.out.2.2.2.1 HMM.out.2.2.2.2.1
            have HB2 : Hid (∀ U, Below V.heap.size V U → Calls Try.prog 28 #[ut, .slice P1 L1 Q1] U fun e w' => e = .returned (.bool true) ∧ Below U.heap.size U w') := fun U hU => by
              rw [hL1]; exact begins_yes (HRR.out U hU).2.2.1 (HRR.out U hU).2.2.2 HMM.out.2.1 HMM.out.2.2.1 HMM.out.2.2.2.2.2.1
            have HWT : Hid (∀ U, Below V.heap.size V U → Calls Try.prog 26 #[.pointer (some ⟨am, 0, none⟩)] U fun e w' => e = .returned (.int .i64 M'.s.loads.length) ∧ w' = U) := fun U hU => pw_wait (HPV.out.below hU)
            obtain ⟨G1, hG1⟩ : ∃ G1, G1 = M'.s.loads.length := ⟨_, rfl⟩
            rw [← hG1] at HWT
            have hgl : ¬ (L1 : Int) < (G1 : Int) := by have := HMM.out.2.2.2.2.2.2; omega
            have hgl2 : ¬ L1 < G1 := by omega
            obtain ⟨s0, s1, s2, s3, s4⟩ := HCC.out V (Below.refl _ _)
            have s0 := fun d os => cell_regrown s0 d os
            have s1 := fun d os => cell_regrown s1 d os
            have s2 := fun d os => cell_regrown s2 d os
            have s3 := fun d os => cell_regrown s3 d os
            have s4 := fun d os => cell_regrown s4 d os
            have bQ := fun d os => Calls.regrown_of (HBQ.out (grow (redrawn V d) os) (below_regrown V d os))
            have bR := fun d os => Calls.regrown_of (HB2.out (grow (redrawn V d) os) (below_regrown V d os))
            have wQ := fun d os => Calls.regrown_of ((HWT.out (grow (redrawn V d) os) (below_regrown V d os)).mono fun e w' h => ⟨h.1, by rw [h.2]; exact Below.refl _ _⟩)
            clear r2 r3 t2 t3 z2 z3 y2 y3 m0 hL1 hG1
            go_wp2_with fail
            refine wp_region_quiet_below (by kernel_rfl) (by kernel_rfl) ?_
            repeat (go_big_quiet_step (first
              | (go_at_call_of 28 vt; exact bQ _ _)
              | (go_at_call 28; exact bR _ _)
              | (go_at_call 26; exact wQ _ _)))
            refine wpQuiet_nil ?_
            intro _ hw'
            obtain ⟨⟨dq, osq⟩, hw''⟩ := hw'
            subst hw''
            have HF : Hid (Rel w1 (grow (redrawn V dq) osq) h0 h1 a b sb (j + 1)) := HV.out.back _ _ _ _ _ (HPV.out.below (below_regrown V dq osq)) HMV.out
            clear s0 s1 s2 s3 s4 bQ bR wQ
            go_wp2_with fail
            go_roundw
            case rel => exact ⟨j + 1, by omega, by go_num, HF⟩
            case measure => simp [intOf]; omega
          | true =>
            obtain ⟨P1, Q1, P8, Q8, w9, n9, ⟨k1, k2, k3, k4⟩, hrun, HF9⟩ := hyes rfl
            clear hno hyes
            have hml8 : hm < w8.heap.size := World.block_lt_of_cell? w8 _ k1
            go_wp2_with (first
              | (at_builtin; refine wpList_appr 47 rfl (.tmp 96) (.tmp 98) rfl _ _ _ (by simp [Act.eval]) (by simp [Act.eval]) hrun ?_)
              | fail)
            obtain ⟨M', O', HPV, HMV⟩ : ∃ M' O', Hid (PW w1 (w9.setCell ⟨hm, 3, none⟩ (.slice P8 (n9 + 1) Q8)) hm ho am ao 0 0 (pins h0 h1 sb) M' O' []) ∧ Hid (Mth ci cj (j + 1) M' O') := ⟨_, _, HF9, HMs⟩
            clear HF9 HMs k1 k2 k3 k4 hrun hml8
            as_aux_lemma =>
            obtain ⟨V, hV⟩ : ∃ V, V = w9.setCell ⟨hm, 3, none⟩ (.slice P8 (n9 + 1) Q8) := ⟨_, rfl⟩
            rw [← hV]
            rw [← hV] at HPV
            clear hV
            obtain ⟨vs, vt, z2, z3, r2, r3⟩ := HPV.out.rows
            obtain ⟨us, ut, y2, y3, t2, t3⟩ := HPV.out.swap.rows
            obtain ⟨A1, C1, A2, C2, A3, C3, m0, _, _, _, _, _⟩ := HPV.out.cells
            obtain ⟨P1, Q1, e1⟩ := r2.form
            subst e1
            have HRR : Hid (∀ U, Below V.heap.size V U → Rr U vt M'.told ∧ Rr U us O'.sent ∧ Rr U ut O'.told ∧ Rr U (.slice P1 M'.sent.length Q1) M'.sent) := fun U hU => ⟨r3.below hU, t2.below hU, t3.below hU, r2.below hU⟩
            obtain ⟨L1, hL1⟩ : ∃ L1, L1 = M'.sent.length := ⟨_, rfl⟩
            rw [← hL1] at z2
            have HCC : Hid (∀ U, Below V.heap.size V U → U.cell? ⟨hm, 0, none⟩ = some (.pointer (some ⟨am, 0, none⟩)) ∧ U.cell? ⟨hm, 2, none⟩ = some (.slice P1 L1 Q1) ∧ U.cell? ⟨hm, 3, none⟩ = some vt ∧ U.cell? ⟨ho, 2, none⟩ = some us ∧ U.cell? ⟨ho, 3, none⟩ = some ut) := by
              intro U hU
              have hk : ∀ {g i : Nat} {u : Value}, V.cell? ⟨g, i, none⟩ = some u → U.cell? ⟨g, i, none⟩ = some u := fun hu => by rw [World.cell?_of_block (hU.block _ (World.block_lt_of_cell? V _ hu))]; exact hu
              exact ⟨hk m0, hk z2, hk z3, hk y2, hk y3⟩
            have HMM : Hid (M'.told = O'.sent.take M'.told.length ∧ O'.told = M'.sent.take O'.told.length ∧ (∀ x ∈ M'.sent, x.length ≤ 1048576) ∧ (∀ x ∈ O'.sent, x.length ≤ 1048576) ∧ M'.told.length ≤ 1000000 ∧ O'.told.length ≤ 1000000 ∧ M'.s.loads.length ≤ L1 ∧ L1 ≤ 1000) := by
              obtain ⟨q1, q2, q3, q4⟩ := HMV.out
              have w1' := congrArg List.length q1.1.told
              have w2' := congrArg List.length q1.2.told
              have w3' := congrArg List.length q1.1.loads
              simp only [List.length_take, List.length_drop] at w1' w2' w3'
              exact ⟨q1.1.told, q1.2.told, fun x hx => by have := q3 x hx; omega, fun x hx => by have := q4 x hx; omega, by omega, by omega, by omega, by omega⟩
            have HBQ : Hid (∀ U, Below V.heap.size V U → Calls Try.prog 28 #[vt, us] U fun e w' => e = .returned (.bool true) ∧ Below U.heap.size U w') := fun U hU => begins_yes (HRR.out U hU).1 (HRR.out U hU).2.1 HMM.out.1 HMM.out.2.2.2.1 HMM.out.2.2.2.2.1
            have HB2 : Hid (∀ U, Below V.heap.size V U → Calls Try.prog 28 #[ut, .slice P1 L1 Q1] U fun e w' => e = .returned (.bool true) ∧ Below U.heap.size U w') := fun U hU => by
              rw [hL1]; exact begins_yes (HRR.out U hU).2.2.1 (HRR.out U hU).2.2.2 HMM.out.2.1 HMM.out.2.2.1 HMM.out.2.2.2.2.2.1
            have HWT : Hid (∀ U, Below V.heap.size V U → Calls Try.prog 26 #[.pointer (some ⟨am, 0, none⟩)] U fun e w' => e = .returned (.int .i64 M'.s.loads.length) ∧ w' = U) := fun U hU => pw_wait (HPV.out.below hU)
            obtain ⟨G1, hG1⟩ : ∃ G1, G1 = M'.s.loads.length := ⟨_, rfl⟩
            rw [← hG1] at HWT
            have hgl : ¬ (L1 : Int) < (G1 : Int) := by have := HMM.out.2.2.2.2.2.2; omega
            have hgl2 : ¬ L1 < G1 := by omega
            obtain ⟨s0, s1, s2, s3, s4⟩ := HCC.out V (Below.refl _ _)
            have s0 := fun d os => cell_regrown s0 d os
            have s1 := fun d os => cell_regrown s1 d os
            have s2 := fun d os => cell_regrown s2 d os
            have s3 := fun d os => cell_regrown s3 d os
            have s4 := fun d os => cell_regrown s4 d os
            have bQ := fun d os => Calls.regrown_of (HBQ.out (grow (redrawn V d) os) (below_regrown V d os))
            have bR := fun d os => Calls.regrown_of (HB2.out (grow (redrawn V d) os) (below_regrown V d os))
            have wQ := fun d os => Calls.regrown_of ((HWT.out (grow (redrawn V d) os) (below_regrown V d os)).mono fun e w' h => ⟨h.1, by rw [h.2]; exact Below.refl _ _⟩)
            clear r2 r3 t2 t3 z2 z3 y2 y3 m0 hL1 hG1
            go_wp2_with fail
            refine wp_region_quiet_below (by kernel_rfl) (by kernel_rfl) ?_
            repeat (go_big_quiet_step (first
              | (go_at_call_of 28 vt; exact bQ _ _)
              | (go_at_call 28; exact bR _ _)
              | (go_at_call 26; exact wQ _ _)))
            refine wpQuiet_nil ?_
            intro _ hw'
            obtain ⟨⟨dq, osq⟩, hw''⟩ := hw'
            subst hw''
            have HF : Hid (Rel w1 (grow (redrawn V dq) osq) h0 h1 a b sb (j + 1)) := HV.out.back _ _ _ _ _ (HPV.out.below (below_regrown V dq osq)) HMV.out
            clear s0 s1 s2 s3 s4 bQ bR wQ
            go_wp2_with fail
            go_roundw
            case rel => exact ⟨j + 1, by omega, by go_num, HF⟩
            case measure => simp [intOf]; omega
    · have hjK : K = j := by omega
      subst hjK
      have HR2 : Hid (Rel2 w1 wr h0 h1 a b sb K 0) := HR.out.turn
      clear HR HR6 hlt
      go_wp2_with fail
      go_loopw [12] (fun i wr => ∃ (m : Nat), m ≤ 4 * K + 8 ∧ i = .int .i64 m ∧ Hid (Rel2 w1 wr h0 h1 a b sb K m)) (fun i _ => 4 * K + 8 - (intOf i).toNat)
      case atStart => exact ⟨0, Nat.zero_le _, rfl, HR2⟩
      case round =>
        obtain ⟨m, hm8, rfl, HR⟩ := hrel
        by_cases hlt : m < 4 * K + 8
        · obtain ⟨e, f, hm, ho, am, ao, ci, cj, M, O, he, vw⟩ := HR.out.view
          have hbit : bits .and .i64 (m : Int) 1 = (e : Int) := by rw [i64_and1]; omega
          have HV : Hid (View2 w1 wr h0 h1 a b sb K m e f hm ho am ao ci cj M O) := vw
          have hef : (1 : Int) - (e : Int) = (f : Int) := by rcases vw.ef with q | q <;> omega
          have he2 : e < 2 := by omega
          have hf2 : f < 2 := by rcases vw.ef with q | q <;> omega
          have he3 : (0 : Int) ≤ (e : Int) := by omega
          have he4 : (e : Int) < 2 := by omega
          have hf3 : (0 : Int) ≤ (f : Int) := by omega
          have hf4 : (f : Int) < 2 := by omega
          have hwf : IntKind.i64.wrap ((1 : Int) - (e : Int)) = (f : Int) := by rw [IntKind.wrap_i64]; omega
          have hwe : IntKind.i64.wrap (e : Int) = (e : Int) := by rw [IntKind.wrap_i64]; omega
          have hwf2 : IntKind.i64.wrap (f : Int) = (f : Int) := by rw [IntKind.wrap_i64]; omega
          obtain ⟨s0, s1⟩ := vw.cells vw.pw
          obtain ⟨_, _, _, _, _, _, m0, _⟩ := vw.pw.cells
          obtain ⟨_, _, _, _, _, _, n0, _⟩ := vw.pw.swap.cells
          have hS0 : wr.drew.cell? ⟨sb, e, none⟩ = some (.pointer (some ⟨hm, 0, none⟩)) ∧ wr.drew.cell? ⟨sb, f, none⟩ = some (.pointer (some ⟨ho, 0, none⟩)) := ⟨s0, s1⟩
          have HMN : Hid (wr.drew.drew.cell? ⟨hm, 0, none⟩ = some (.pointer (some ⟨am, 0, none⟩)) ∧ wr.drew.drew.cell? ⟨ho, 0, none⟩ = some (.pointer (some ⟨ao, 0, none⟩))) := ⟨m0, n0⟩
          clear vw HR he HR2 s0 s1 m0 n0
          go_wp2_with fail
          go_region_held3 (fun w' => w'.cell? ⟨sb, e, none⟩ = some (.pointer (some ⟨hm, 0, none⟩)) ∧ w'.cell? ⟨sb, f, none⟩ = some (.pointer (some ⟨ho, 0, none⟩)))
            (first | exact hS0 | go_keep)
            (fail)
          clear hS0 hbit hef he2 hf2 he3 he4 hf3 hf4 hwf hwe hwf2
          have hS0 := HMN.out
          have hou := HV.out.turn (by omega) (W0 := wr.drew.drew) (Below.refl _ _).drew.drew
          go_wp2_with fail
          go_region_held3 (fun w' => w'.cell? ⟨hm, 0, none⟩ = some (.pointer (some ⟨am, 0, none⟩)) ∧ w'.cell? ⟨ho, 0, none⟩ = some (.pointer (some ⟨ao, 0, none⟩)))
            (first | exact hS0 | exact hS1 | exact hS2 | go_keep)
            (first
              | (go_at_call 24; refine hou.mono ?_; rintro e' w8 ⟨p, A, rfl, hB8, HT⟩
                 have hS1 : w8.cell? ⟨hm, 0, none⟩ = some (.pointer (some ⟨am, 0, none⟩)) ∧ w8.cell? ⟨ho, 0, none⟩ = some (.pointer (some ⟨ao, 0, none⟩)) := keeps2 hB8 HMN.out
                 have htk := HT.out w8 rfl
                 clear hou)
              | (go_at_call 17; refine htk.mono ?_; rintro e' w9 ⟨A', C', L', ok, rfl, hkp, hno, hyes⟩
                 have hS2 : w9.cell? ⟨hm, 0, none⟩ = some (.pointer (some ⟨am, 0, none⟩)) ∧ w9.cell? ⟨ho, 0, none⟩ = some (.pointer (some ⟨ao, 0, none⟩)) := keeps3 hkp hS1
                 clear htk))
          clear hS0 hS1 hS2 HMN hkp hB8 HT
          cases ok with
          | false =>
            have HPX := hno rfl
            clear hno hyes
            go_wp2_with fail
            go_roundw
            case rel => exact ⟨m + 1, by omega, by go_num, HPX⟩
            case measure => simp [intOf]; omega
          | true =>
            obtain ⟨P1, Q1, P8, Q8, u9, n9, ⟨k1, k2, k3, k4⟩, hrun, HF9⟩ := hyes rfl
            clear hno hyes
            have hml8 : hm < w9.heap.size := World.block_lt_of_cell? w9 _ k1
            go_wp2_with (first
              | (at_builtin; refine wpList_appr 47 rfl (.tmp 218) (.tmp 220) rfl _ _ _ (by simp [Act.eval]) (by simp [Act.eval]) hrun ?_)
              | fail)
            go_roundw
            case rel => exact ⟨m + 1, by omega, by go_num, HF9⟩
            case measure => simp [intOf]; omega
        · have hmK : m = 4 * K + 8 := by omega
          have HR4 : Hid (Rel2 w1 wr h0 h1 a b sb K (4 * K + 8)) := by rw [← hmK]; exact HR
          clear hmK
          obtain ⟨A1, A2, A3, A4, C1, C2, C3, C4, p, q, HC, HBa, HBb, HWa, HWb, HBW⟩ := HR4.out.fin hl
          obtain ⟨s0, s1, s2, s3, s4, s5, s6, s7⟩ := HC.out wr (Below.refl _ _)
          have s0 := fun d os => cell_regrown s0 d os
          have s1 := fun d os => cell_regrown s1 d os
          have s2 := fun d os => cell_regrown s2 d os
          have s3 := fun d os => cell_regrown s3 d os
          have s4 := fun d os => cell_regrown s4 d os
          have s5 := fun d os => cell_regrown s5 d os
          have s6 := fun d os => cell_regrown s6 d os
          have s7 := fun d os => cell_regrown s7 d os
          have bQ := fun d os => Calls.regrown_of (HBa.out (grow (redrawn wr d) os) (below_regrown wr d os))
          have bR := fun d os => Calls.regrown_of (HBb.out (grow (redrawn wr d) os) (below_regrown wr d os))
          have wQ := fun d os => Calls.regrown_of ((HWa.out (grow (redrawn wr d) os) (below_regrown wr d os)).mono fun e w' h => ⟨h.1, by rw [h.2]; exact Below.refl _ _⟩)
          have wR := fun d os => Calls.regrown_of ((HWb.out (grow (redrawn wr d) os) (below_regrown wr d os)).mono fun e w' h => ⟨h.1, by rw [h.2]; exact Below.refl _ _⟩)
          clear HR2 HR HR4
          go_wp2_with fail
          simp only [List.append_eq, List.cons_append, List.nil_append]
          clear HD HK
          as_aux_lemma =>
          refine wp_region_quiet_below (by kernel_rfl) (by kernel_rfl) ?_
          repeat (go_big_quiet_step (first
            | (go_at_call_of 28 A2; exact bQ _ _)
            | (go_at_call 28; exact bR _ _)
            | (go_at_call_of 26 a; exact wQ _ _)
            | (go_at_call 26; exact wR _ _)))
          refine wpQuiet_nil ?_
          intro _ hw'
          obtain ⟨⟨dq, osq⟩, hw''⟩ := hw'
          subst hw''
          have HFB : Hid (Below w.heap.size w (grow (redrawn wr dq) osq)) := HB1.out.trans ((HBW.out.trans ((below_regrown wr dq osq).mono HBW.out.size)).mono HB1.out.size)
          clear s0 s1 s2 s3 s4 s5 s6 s7 bQ bR wQ wR
          go_wp2_with fail
          go_ret
          exact ⟨rfl, HFB.out⟩
theorem orders_any {w : World} {A : Option Addr} {C len : Nat} {l : List Int} (hN : len = l.length) (h : Ns w (.slice A l.length C) l) :
    Calls Try.prog 5 #[.slice A len C] w fun e w' => e = .returned (.bool true) ∧ Below w.heap.size w w' := by
  subst hN
  by_cases hl : l.length ≤ 300
  · exact orders_short h hl
  · exact orders_long (by omega)
end Go.Proofs.Ytnonboegnbnepaa
