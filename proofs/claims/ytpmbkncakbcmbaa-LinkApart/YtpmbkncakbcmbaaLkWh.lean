/- What the walks of LinkOrders and LinkApart share. -/
import Derived.Test.YtpmbkncakbcmbaaLkNs
import Derived.Lib.QuietBelow
import Derived.BigQuiet
import Derived.Deep.RegionWith
namespace Go.Proofs.Ytpmbkncakbcmbaa
set_option linter.unusedVariables false
open Go.RowKit Go.Sort
set_option linter.unusedVariables false

/- Numbers that came in. -/
theorem wpList_appr {w w' : World} {ops : Array Oper} {rest : List Oper} {o : Oper} {a : Act} {Q : Exit → Act → World → Prop} (T : TypeId) (hgd : o.guard = none) (s x : Operand) (ho : o.op = .call { callee := .builtin .append, args := #[s, x], argTypes := #[T, T] })
    (vs vx v' : Value) (hs : a.eval s = vs) (hx : a.eval x = vx) (hrun : (Builtin.append_ #[T, T] o.type #[vs, vx]).run Try.prog w = .ok v' w') (h : wpList Try.prog ops Q rest (a.put o.dst v') w') : wpList Try.prog ops Q (o :: rest) a w := by
  refine wpList_plain hgd fun K hK => ?_
  unfold Oper.wp execOp
  simp only [ho, resolve, invoke, builtin, Sem.run_bind, Sem.run_pure, Result.andThen_ok, List.map_toArray, List.map_cons, List.map_nil, hs, hx, hrun]
  exact hK _ _ h
theorem i64_and1 (n : Int) : bits .and .i64 n 1 = n % 2 := by
  have h1 : (BitVec.ofInt 64 1).toNat = 2 ^ 1 - 1 := by decide
  have key : (BitVec.ofInt 64 n &&& BitVec.ofInt 64 1).toNat = (n % ((2 ^ 64 : Nat) : Int)).toNat % 2 ^ 1 := by
    rw [BitVec.toNat_and, BitVec.toNat_ofInt, h1, Nat.and_two_pow_sub_one_eq_mod]
  show IntKind.i64.wrap ((BitVec.ofInt 64 n &&& BitVec.ofInt 64 1).toNat : Nat) = n % 2
  rw [key, IntKind.wrap_i64]
  omega
/- How far both are: the loads have three bytes, and there are few. -/
def Mth (i j : Int) (n : Nat) (X Y : Sd) : Prop := Both i j X Y ∧ X.sent.length + X.outs.length + Y.sent.length + Y.outs.length ≤ n ∧ (∀ x ∈ X.sent, x.length = 3) ∧ ∀ x ∈ Y.sent, x.length = 3
theorem Mth.swap {i j : Int} {n : Nat} {X Y : Sd} (h : Mth i j n X Y) : Mth j i n Y X := ⟨h.1.swap, by have := h.2.1; omega, h.2.2.2, h.2.2.1⟩
abbrev pins (h0 h1 sb : Nat) : Fs := [(sb, .cells #[.pointer (some ⟨h0, 0, none⟩), .pointer (some ⟨h1, 0, none⟩)] 57)]
/- The loop's state, and the same seen from the side whose turn it is. -/
def Rel (w W : World) (h0 h1 a b sb n : Nat) : Prop := ∃ X Y, PW w W h0 h1 a b 0 0 (pins h0 h1 sb) X Y [] ∧ Mth 4 2 n X Y
structure View (w W : World) (h0 h1 a b sb n e f hm ho am ao : Nat) (i j : Int) (M O : Sd) : Prop where
  ef : (e = 0 ∧ f = 1) ∨ (e = 1 ∧ f = 0)
  pw : PW w W hm ho am ao 0 0 (pins h0 h1 sb) M O []
  mth : Mth i j n M O
  ij : 1 ≤ i ∧ 1 ≤ j ∧ i < 10 ∧ j < 10
  pe : (pins h0 h1 sb) = [(sb, .cells #[.pointer (some ⟨if e = 0 then hm else ho, 0, none⟩), .pointer (some ⟨if e = 0 then ho else hm, 0, none⟩)] 57)]
  back : ∀ W' n' M' O' H', PW w W' hm ho am ao 0 0 (pins h0 h1 sb) M' O' H' → Mth i j n' M' O' → Rel w W' h0 h1 a b sb n'
theorem Rel.view {w W : World} {h0 h1 a b sb n : Nat} (h : Rel w W h0 h1 a b sb n) (e : Nat) (he : e = 0 ∨ e = 1) : ∃ f hm ho am ao i j M O, View w W h0 h1 a b sb n e f hm ho am ao i j M O := by
  obtain ⟨X, Y, h1', h2⟩ := h
  rcases he with rfl | rfl
  · exact ⟨1, h0, h1, a, b, 4, 2, X, Y, .inl ⟨rfl, rfl⟩, h1', h2, by omega, rfl, fun W' n' M' O' H' q1 q2 => ⟨M', O', q1.fewH (fun x hx => by cases hx), q2⟩⟩
  · exact ⟨0, h1, h0, b, a, 2, 4, Y, X, .inr ⟨rfl, rfl⟩, h1'.swap, h2.swap, by omega, rfl, fun W' n' M' O' H' q1 q2 => ⟨O', M', q1.swap.fewH (fun x hx => by cases hx), q2.swap⟩⟩
theorem View.cells {w W W' : World} {h0 h1 a b sb n e f hm ho am ao : Nat} {i j : Int} {M O M' O' : Sd} {H : Hs} (v : View w W h0 h1 a b sb n e f hm ho am ao i j M O) (m : PW w W' hm ho am ao 0 0 (pins h0 h1 sb) M' O' H) : W'.cell? ⟨sb, e, none⟩ = some (.pointer (some ⟨hm, 0, none⟩)) ∧ W'.cell? ⟨sb, f, none⟩ = some (.pointer (some ⟨ho, 0, none⟩)) := by
  have hp := v.pe
  have hx := m.pinned (g := sb) (o := .cells #[.pointer (some ⟨if e = 0 then hm else ho, 0, none⟩), .pointer (some ⟨if e = 0 then ho else hm, 0, none⟩)] 57) (by rw [hp]; exact .head _)
  rcases v.ef with ⟨rfl, rfl⟩ | ⟨rfl, rfl⟩
  · exact ⟨cell_at hx 0, cell_at hx 1⟩
  · exact ⟨cell_at hx 1, cell_at hx 0⟩
abbrev sideB (a : Nat) (k : Int) : Obj := .cells #[.pointer (some ⟨a, 0, none⟩), .int .i64 k, .slice none 0 0, .slice none 0 0, .slice none 0 0] 60
theorem Sm.start {W : World} {col : Nat → Nat} {c h a : Nat} {k : Int} {s : St} (hl : Lo false W a s (fun g => g < W.heap.size ∧ col g = c)) (hb : W.heap[h]? = some (sideB a k)) (hc : col h = c + 1) : Sy W col c h a k ⟨s, [], [], []⟩ :=
  ⟨.slice none 0 0, .slice none 0 0, .slice none 0 0, [], [], [], hl, hb, hc, Ro.nil _ _, fun g e => (by cases e), Ro.nil _ _, fun g e => (by cases e), World.ownsRow_nil _ _ _ _, fun g e => (by cases e), fun x hx => (by cases hx), fun x hx => (by cases hx), fun x hx => (by cases hx), rfl, rfl, rfl⟩
theorem PW.start {w w2 w4 : World} {a b : Nat} {s t : St} {k k' : Int} (h2 : Lo false w2 a s (Nw w w2)) (b2 : Below w.heap.size w w2) (h4 : Lo false w4 b t (Nw (w2.alloc (sideB a k)) w4)) (b4 : Below (w2.alloc (sideB a k)).heap.size (w2.alloc (sideB a k)) w4) :
    PW w (w4.alloc (sideB b k')) w2.heap.size w4.heap.size a b k k' [] ⟨s, [], [], []⟩ ⟨t, [], [], []⟩ [] := by
  have s2 := b2.size
  have s4 := b4.size
  have e3 : (w2.alloc (sideB a k)).heap.size = w2.heap.size + 1 := by simp
  have e5 : (w4.alloc (sideB b k')).heap.size = w4.heap.size + 1 := by simp
  obtain ⟨col, hcol⟩ : ∃ col : Nat → Nat, col = fun g => if w.heap.size ≤ g ∧ g < w2.heap.size then 1 else if g = w2.heap.size then 2 else if w2.heap.size < g ∧ g < w4.heap.size then 6 else if g = w4.heap.size then 7 else 0 := ⟨_, rfl⟩
  have c1 : ∀ g, col g = 1 ↔ w.heap.size ≤ g ∧ g < w2.heap.size := fun g => by rw [hcol]; dsimp only; split <;> (try split) <;> (try split) <;> (try split) <;> omega
  have c6 : ∀ g, col g = 6 ↔ w2.heap.size < g ∧ g < w4.heap.size := fun g => by rw [hcol]; dsimp only; split <;> (try split) <;> (try split) <;> (try split) <;> omega
  have bb : Below w2.heap.size w2 (w4.alloc (sideB b k')) := ((below1 w2 (sideB a k)).trans (b4.mono (by simp))).alloc (by omega) _
  refine ⟨col, 1, 6, Sm.start ?_ ?_ ?_, Sm.start ?_ (heap_alloc_new w4 _) ?_, ⟨by omega, by omega, by omega⟩, fun g hg => ?_, b2.trans (bb.mono s2), fun x hx => (by cases hx), fun x hx => (by cases hx)⟩
  · refine (h2.below bb).more (fun g hg => ⟨by have := hg.2; omega, (c1 g).2 hg⟩) (fun g hg => hg.1)
  · rw [Below.heap_alloc w4 _ _ (by omega), b4.block _ (by simp)]; exact heap_alloc_new w2 _
  · rw [hcol]; simp
  · refine (h4.below (below1 _ _)).more (fun g hg => ⟨by have := hg.2; omega, (c6 g).2 ⟨by have := hg.1; omega, hg.2⟩⟩) (fun g hg => hg.1)
  · rw [hcol]; dsimp only
    rw [if_neg (by omega), if_neg (by omega), if_neg (by omega), if_pos rfl]
  · rw [hcol]; dsimp only
    rw [if_neg (by omega), if_neg (by omega), if_neg (by omega), if_neg (by omega)]
theorem step_appP {w : World} {ops : Array Oper} {o : Oper} {a : Act} {K : Act → World → Prop} {Q : Exit → Act → World → Prop} {E : Prop} (hgd : o.guard = none) (s x : Operand)
    (ho : o.op = Op.call { callee := Callee.builtin Builtin.append, args := #[s, x], argTypes := #[58, 58] })
    (vs vx v' : Value) (w' : World) (hs : a.eval s = vs) (hx : a.eval x = vx) (hrun : (Builtin.append_ #[58, 58] o.type #[vs, vx]).run Try.prog w = .ok v' w') (h : K (a.put o.dst v') w') :
    if Region.wanted o (yielded ops a.tmps) = true then Oper.wp Try.prog o a w K Q else E := by
  have hw : Region.wanted o (yielded ops a.tmps) = true := by simp [Region.wanted, hgd]
  rw [if_pos hw]
  unfold Oper.wp execOp
  simp only [ho, resolve, invoke, builtin, Sem.run_bind, Sem.run_pure, Result.andThen_ok, List.map_toArray, List.map_cons, List.map_nil, hs, hx, hrun]
  exact h
/- A packet let out, with what stays as it is. -/
theorem pw_outB {w W : World} {h h' a a' : Nat} {k k' : Int} {F : Fs} {X Y : Sd} {H : Hs} (m : PW w W h h' a a' k k' F X Y H) (ha : X.s.acked < 4611686018427387904) {p : Pkt} (hp : p = outP X.s) :
    Calls Try.prog 24 #[.pointer (some ⟨a, 0, none⟩)] W fun e W' => ∃ A C, e = .returned (.agg #[.int .i64 p.fr, .int .i64 p.to, .int .i64 p.seq, .int .i64 p.ack, .slice A p.load.length C]) ∧ Below W.heap.size W W' ∧ Hid (PW w W' h h' a a' k k' F X Y ((.slice A p.load.length C, p.load) :: H)) := by
  subst hp
  have m0 := m
  obtain ⟨col, c, d, m⟩ := m
  obtain ⟨vs, vt, vo, Ls, Lt, Lp, q⟩ := id m.me
  refine (out_lo q.lk ha).mono ?_
  rintro e W' ⟨A, C, rfl, ho, hB⟩
  exact ⟨A, C, rfl, hB, m0.lay hB (Bs.of_owns ho) (fun g hg => by obtain ⟨_, _, z⟩ := owns_blockT ho (bk_blk hg); exact z)⟩
/- A packet let out, and laid at the end of the row of all. -/
theorem pw_outR {w W : World} {h h' a a' : Nat} {k k' : Int} {F : Fs} {X Y : Sd} {H : Hs} (m : PW w W h h' a a' k k' F X Y H) (ha : X.s.acked < 4611686018427387904) {p : Pkt} (hp : p = outP X.s) (hL : X.outs.length ≤ 1000) {A3 : Option Addr} {C3 n : Nat} (hc : W.cell? ⟨h, 4, none⟩ = some (.slice A3 n C3)) (hn : n = X.outs.length) :
    Calls Try.prog 24 #[.pointer (some ⟨a, 0, none⟩)] W fun e W' => ∃ A C A8 C8 w8, e = .returned (.agg #[.int .i64 p.fr, .int .i64 p.to, .int .i64 p.seq, .int .i64 p.ack, .slice A p.load.length C]) ∧ W'.cell? ⟨h, 0, none⟩ = some (.pointer (some ⟨a, 0, none⟩)) ∧
      (W'.cell? ⟨h, 4, none⟩ = some (.slice A3 n C3) ∧ (W'.alloc (.cells #[.int .i64 p.fr, .int .i64 p.to, .int .i64 p.seq, .int .i64 p.ack, .slice A p.load.length C] 32)).cell? ⟨h, 4, none⟩ = some (.slice A3 n C3) ∧ w8.cell? ⟨h, 4, none⟩ = some (.slice A3 n C3) ∧ w8.frozen? ⟨h, 4, none⟩ = false) ∧
      (Builtin.append_ #[58, 58] 58 #[.slice A3 n C3, .slice (some ⟨W'.heap.size, 0, none⟩) 1 1]).run Try.prog (W'.alloc (.cells #[.int .i64 p.fr, .int .i64 p.to, .int .i64 p.seq, .int .i64 p.ack, .slice A p.load.length C] 32)) = .ok (.slice A8 (n + 1) C8) w8 ∧
      Hid (PW w (w8.setCell ⟨h, 4, none⟩ (.slice A8 (n + 1) C8)) h h' a a' k k' F ⟨X.s, X.sent, X.told, X.outs ++ [p]⟩ Y []) := by
  refine (pw_outB m ha hp).mono ?_
  rintro e W' ⟨A, C, rfl, hB, q⟩
  have hc' : W'.cell? ⟨h, 4, none⟩ = some (.slice A3 n C3) := by rw [World.cell?_of_block (hB.block _ (World.block_lt_of_cell? W _ hc))]; exact hc
  obtain ⟨A1, C1, A8, C8, w8, ⟨k1, k2, k3, k4⟩, hrun, hF⟩ := pw_outs q.out (p := p) (.head _) hL
  obtain ⟨_, _, _, _, _, _, m0, _⟩ := q.out.cells
  rw [hc', ← hn] at k1
  injection k1 with k1
  injection k1 with e1 e2 e3
  subst e1 e3
  rw [← hn] at k2 k3 hrun hF
  exact ⟨A, C, A8, C8, w8, rfl, m0, ⟨hc', k2, k3, k4⟩, hrun, hF.out.fewH (fun x hx => by cases hx)⟩
theorem pw_takeC {w W : World} {h h' a a' : Nat} {k k' : Int} {F : Fs} {X Y : Sd} {H : Hs} (m : PW w W h h' a a' k k' F X Y H) {p : Pkt} {A : Option Addr} {C : Nat} (hm : (.slice A p.load.length C, p.load) ∈ H) (hf : i64 p.fr) (hl : p.load.length ≤ 140737488355328) (ha : X.s.acked < 4611686018427387904) (hg : X.s.got < 4611686018427387904) :
    Calls Try.prog 17 #[.pointer (some ⟨a, 0, none⟩), pkV p A C] W fun e W' => ∃ A' C', e = .returned (tkV (takeR X.s p) A' C') ∧ Hid (W'.heap[h]? = W.heap[h]? ∧ W'.heap[h']? = W.heap[h']? ∧ ∀ g n D, W.cell? ⟨h', 4, none⟩ = some (.slice (some ⟨g, 0, none⟩) n D) → W'.heap[g]? = W.heap[g]?) ∧ Hid (PW w W' h h' a a' k k' F ⟨(takeR X.s p).st, X.sent, X.told, X.outs⟩ Y ((.slice A' (takeR X.s p).load.length C', (takeR X.s p).load) :: H)) := by
  obtain ⟨col, c, d, m⟩ := m
  obtain ⟨vs, vt, vo, Ls, Lt, Lp, q⟩ := id m.me
  have hc1 := m.ne.2.1
  refine (take_lo' q.lk p (m.held _ hm).1 (fun g hg' e => by have := (m.held _ hm).2 g hg'; have := e.2; omega) hf hl ha hg).mono ?_
  rintro e W' ⟨A', C', rfl, ho, hl', hc⟩
  have hn := m.link (v := .slice A' (takeR X.s p).load.length C') hl' hc
  have hne := m.ne.1
  have hkp : Hid (W'.heap[h]? = W.heap[h]? ∧ W'.heap[h']? = W.heap[h']? ∧ ∀ g n D, W.cell? ⟨h', 4, none⟩ = some (.slice (some ⟨g, 0, none⟩) n D) → W'.heap[g]? = W.heap[g]?) := by
    obtain ⟨us, ut, uo, Us, Ut, Up, r⟩ := id m.ot
    refine ⟨hc.block h (heap_lt q.box) (fun e => by have := q.ch; have := e.2; omega), hc.block h' (heap_lt r.box) (fun e => by have := r.ch; have := e.2; omega), fun g n D hg => ?_⟩
    have hv : uo = .slice (some ⟨g, 0, none⟩) n D := by
      have := cell_at r.box 4
      rw [hg] at this
      simpa using this.symm
    subst hv
    obtain ⟨_, z, _⟩ := owns_block5 r.ro (k := g) rfl
    exact hc.block g (heap_lt z) (fun e => by have := r.co g rfl; have := e.2; omega)
  refine ⟨A', C', rfl, hkp, _, c, d, hn.me, hn.ot, hn.ne, hn.low, hn.bel, fun x hx => ?_, hn.fx⟩
  rcases List.mem_cons.1 hx with rfl | hx
  · refine ⟨Bs.of_owns ho, fun g hg' => ?_⟩
    obtain ⟨_, _, z⟩ := owns_blockT ho (bk_blk hg')
    exact colN_res z (bk_blk hg')
  · exact hn.held x hx
/- A packet taken, and what was told laid at the end of the row. -/
theorem pw_took {w W : World} {h h' a a' : Nat} {k k' : Int} {F : Fs} {X Y : Sd} {H : Hs} (m : PW w W h h' a a' k k' F X Y H) {p : Pkt} {A : Option Addr} {C : Nat} (hm : (.slice A p.load.length C, p.load) ∈ H) (hf : i64 p.fr) (hl : p.load.length ≤ 140737488355328) (ha : X.s.acked < 4611686018427387904) (hg : X.s.got < 4611686018427387904) (hb : (takeR X.s p).broke = false) (hL : X.told.length ≤ 1000) :
    Calls Try.prog 17 #[.pointer (some ⟨a, 0, none⟩), .agg #[.int .i64 p.fr, .int .i64 p.to, .int .i64 p.seq, .int .i64 p.ack, .slice A p.load.length C]] W fun e W' => ∃ A' C' L' ok, e = .returned (.tuple #[.slice A' L' C', .bool ok, .bool false]) ∧ Hid (W'.heap[h]? = W.heap[h]? ∧ W'.heap[h']? = W.heap[h']? ∧ ∀ g n D, W.cell? ⟨h', 4, none⟩ = some (.slice (some ⟨g, 0, none⟩) n D) → W'.heap[g]? = W.heap[g]?) ∧
      (ok = false → Hid (PW w W' h h' a a' k k' F (tookS X p) Y [])) ∧
      (ok = true → ∃ A1 C1 A8 C8 w8 n, (W'.cell? ⟨h, 3, none⟩ = some (.slice A1 n C1) ∧ (W'.alloc (.cells #[.slice A' L' C'] 30)).cell? ⟨h, 3, none⟩ = some (.slice A1 n C1) ∧ w8.cell? ⟨h, 3, none⟩ = some (.slice A1 n C1) ∧ w8.frozen? ⟨h, 3, none⟩ = false) ∧
        (Builtin.append_ #[47, 47] 47 #[.slice A1 n C1, .slice (some ⟨W'.heap.size, 0, none⟩) 1 1]).run Try.prog (W'.alloc (.cells #[.slice A' L' C'] 30)) = .ok (.slice A8 (n + 1) C8) w8 ∧
        Hid (PW w (w8.setCell ⟨h, 3, none⟩ (.slice A8 (n + 1) C8)) h h' a a' k k' F (tookS X p) Y [])) := by
  refine (pw_takeC m hm hf hl ha hg).mono ?_
  rintro e W' ⟨A', C', rfl, hkp, q⟩
  refine ⟨A', C', (takeR X.s p).load.length, (takeR X.s p).ok, by rw [tkV, hb], hkp, fun e => ?_, fun e => ?_⟩
  · unfold tookS; rw [e]; exact q.out.fewH (fun x hx => by cases hx)
  · obtain ⟨A1, C1, A8, C8, w8, ⟨k1, k2, k3, k4⟩, hrun, hF⟩ := pw_told q.out (b := (takeR X.s p).load) (.head _) hL
    refine ⟨A1, C1, A8, C8, w8, _, ⟨k1, k2, k3, k4⟩, hrun, ?_⟩
    unfold tookS; rw [e]; exact hF.out.fewH (fun x hx => by cases hx)
theorem PkOk.three {i j : Int} {X : Sd} {p : Pkt} (h : PkOk i j X p) (hx : ∀ x ∈ X.sent, x.length = 3) : p.load.length ≤ 3 := by
  obtain ⟨_, _, _, _, e⟩ := h
  rcases e with ⟨_, e⟩ | ⟨_, _, e⟩
  · rw [e]; decide
  · exact Nat.le_of_eq (hx _ (List.mem_of_getElem? e))
theorem took_keeps {W W' : World} {h h' g5 n D3 am i C5 L : Nat} {A5 : Option Addr} {x0 x1 x2 x3 : Value} (hk : Hid (W'.heap[h]? = W.heap[h]? ∧ W'.heap[h']? = W.heap[h']? ∧ ∀ g n D, W.cell? ⟨h', 4, none⟩ = some (.slice (some ⟨g, 0, none⟩) n D) → W'.heap[g]? = W.heap[g]?))
    (hs : W.cell? ⟨h', 4, none⟩ = some (.slice (some ⟨g5, 0, none⟩) n D3) ∧ W.cell? ⟨h, 0, none⟩ = some (.pointer (some ⟨am, 0, none⟩)) ∧ W.cell? ⟨g5, i * 5, none⟩ = some x0 ∧ W.cell? ⟨g5, i * 5 + 1, none⟩ = some x1 ∧ W.cell? ⟨g5, i * 5 + 2, none⟩ = some x2 ∧ W.cell? ⟨g5, i * 5 + 3, none⟩ = some x3 ∧ W.cell? ⟨g5, i * 5 + 4, none⟩ = some (.slice A5 L C5)) :
    W'.cell? ⟨h', 4, none⟩ = some (.slice (some ⟨g5, 0, none⟩) n D3) ∧ W'.cell? ⟨h, 0, none⟩ = some (.pointer (some ⟨am, 0, none⟩)) ∧ W'.cell? ⟨g5, i * 5, none⟩ = some x0 ∧ W'.cell? ⟨g5, i * 5 + 1, none⟩ = some x1 ∧ W'.cell? ⟨g5, i * 5 + 2, none⟩ = some x2 ∧ W'.cell? ⟨g5, i * 5 + 3, none⟩ = some x3 ∧ W'.cell? ⟨g5, i * 5 + 4, none⟩ = some (.slice A5 L C5) := by
  obtain ⟨k1, k2, k3⟩ := hk
  obtain ⟨s0, s1, s2, s3, s4, s5, s6⟩ := hs
  have k3 := k3 g5 n D3 s0
  have c1 : ∀ i v, W.cell? ⟨h, i, none⟩ = some v → W'.cell? ⟨h, i, none⟩ = some v := fun i v hv => by rw [World.cell?_of_block k1]; exact hv
  have c2 : ∀ i v, W.cell? ⟨h', i, none⟩ = some v → W'.cell? ⟨h', i, none⟩ = some v := fun i v hv => by rw [World.cell?_of_block k2]; exact hv
  have c3 : ∀ i v, W.cell? ⟨g5, i, none⟩ = some v → W'.cell? ⟨g5, i, none⟩ = some v := fun i v hv => by rw [World.cell?_of_block k3]; exact hv
  exact ⟨c2 _ _ s0, c1 _ _ s1, c3 _ _ s2, c3 _ _ s3, c3 _ _ s4, c3 _ _ s5, c3 _ _ s6⟩
/- The second loop: each is handed what the other one lets out. -/
def Rel2 (w W : World) (h0 h1 a b sb n i : Nat) : Prop := ∃ X Y, PW w W h0 h1 a b 0 0 (pins h0 h1 sb) X Y [] ∧ Fin n i X Y ∧ (∀ x ∈ X.sent, x.length = 3) ∧ ∀ x ∈ Y.sent, x.length = 3
theorem Rel.turn {w W : World} {h0 h1 a b sb n : Nat} (h : Rel w W h0 h1 a b sb n) : Rel2 w W h0 h1 a b sb n 0 := by
  obtain ⟨X, Y, q1, q2, q3, q4⟩ := h
  exact ⟨X, Y, q1, ⟨q2, ⟨by omega, by omega⟩, fun q => by omega, fun q => by omega, fun q => by omega, fun q => by omega⟩, q4⟩
structure View2 (w W : World) (h0 h1 a b sb n i e f hm ho am ao : Nat) (ci cj : Int) (M O : Sd) : Prop where
  ef : (e = 0 ∧ f = 1) ∨ (e = 1 ∧ f = 0)
  pw : PW w W hm ho am ao 0 0 (pins h0 h1 sb) M O []
  both : Both ci cj M O
  ij : 1 ≤ ci ∧ 1 ≤ cj ∧ ci < 10 ∧ cj < 10
  few : M.sent.length ≤ n ∧ O.sent.length ≤ n
  th : ∀ x ∈ O.sent, x.length = 3
  pe : (pins h0 h1 sb) = [(sb, .cells #[.pointer (some ⟨if e = 0 then hm else ho, 0, none⟩), .pointer (some ⟨if e = 0 then ho else hm, 0, none⟩)] 57)]
  back : ∀ W', PW w W' hm ho am ao 0 0 (pins h0 h1 sb) (tookS M (outP O.s)) O [] → Rel2 w W' h0 h1 a b sb n (i + 1)
theorem Rel2.view {w W : World} {h0 h1 a b sb n i : Nat} (h : Rel2 w W h0 h1 a b sb n i) : ∃ e f hm ho am ao ci cj M O, e = i % 2 ∧ View2 w W h0 h1 a b sb n i e f hm ho am ao ci cj M O := by
  obtain ⟨X, Y, h1', h2, h3, h4⟩ := h
  have hc : i % 2 = 0 ∨ i % 2 = 1 := by omega
  rcases hc with hc | hc
  · exact ⟨0, 1, h0, h1, a, b, 4, 2, X, Y, hc.symm, .inl ⟨rfl, rfl⟩, h1', h2.both, by omega, h2.few, h4, rfl, fun W' q1 => ⟨_, _, q1, h2.even hc, h3, h4⟩⟩
  · exact ⟨1, 0, h1, h0, b, a, 2, 4, Y, X, hc.symm, .inr ⟨rfl, rfl⟩, h1'.swap, h2.both.swap, by omega, ⟨h2.few.2, h2.few.1⟩, h3, rfl, fun W' q1 => ⟨_, _, q1.swap, h2.odd hc, h3, h4⟩⟩
theorem View2.cells {w W W' : World} {h0 h1 a b sb n i e f hm ho am ao : Nat} {ci cj : Int} {M O M' O' : Sd} {H : Hs} (v : View2 w W h0 h1 a b sb n i e f hm ho am ao ci cj M O) (m : PW w W' hm ho am ao 0 0 (pins h0 h1 sb) M' O' H) : W'.cell? ⟨sb, e, none⟩ = some (.pointer (some ⟨hm, 0, none⟩)) ∧ W'.cell? ⟨sb, f, none⟩ = some (.pointer (some ⟨ho, 0, none⟩)) := by
  have hp := v.pe
  have hx := m.pinned (g := sb) (o := .cells #[.pointer (some ⟨if e = 0 then hm else ho, 0, none⟩), .pointer (some ⟨if e = 0 then ho else hm, 0, none⟩)] 57) (by rw [hp]; exact .head _)
  rcases v.ef with ⟨rfl, rfl⟩ | ⟨rfl, rfl⟩
  · exact ⟨cell_at hx 0, cell_at hx 1⟩
  · exact ⟨cell_at hx 1, cell_at hx 0⟩
/- The other one lets out, and this one takes it. -/
theorem View2.turn {w W : World} {h0 h1 a b sb n i e f hm ho am ao : Nat} {ci cj : Int} {M O : Sd} (v : View2 w W h0 h1 a b sb n i e f hm ho am ao ci cj M O) (hn : n ≤ 300) {W0 : World} (h0' : Below W.heap.size W W0) :
    Calls Try.prog 24 #[.pointer (some ⟨ao, 0, none⟩)] W0 fun e W1 => ∃ p A, e = .returned p ∧ Below W0.heap.size W0 W1 ∧ Hid (∀ W2, W2 = W1 → Calls Try.prog 17 #[.pointer (some ⟨am, 0, none⟩), p] W2 fun e W' => ∃ A' C' L' ok, e = .returned (.tuple #[.slice A' L' C', .bool ok, .bool A]) ∧ Hid (W'.heap[hm]? = W2.heap[hm]? ∧ W'.heap[ho]? = W2.heap[ho]?) ∧
      (ok = false → Hid (Rel2 w W' h0 h1 a b sb n (i + 1))) ∧
      (ok = true → ∃ A1 C1 A8 C8 w8 n1, (W'.cell? ⟨hm, 3, none⟩ = some (.slice A1 n1 C1) ∧ (W'.alloc (.cells #[.slice A' L' C'] 30)).cell? ⟨hm, 3, none⟩ = some (.slice A1 n1 C1) ∧ w8.cell? ⟨hm, 3, none⟩ = some (.slice A1 n1 C1) ∧ w8.frozen? ⟨hm, 3, none⟩ = false) ∧
        (Builtin.append_ #[47, 47] 47 #[.slice A1 n1 C1, .slice (some ⟨W'.heap.size, 0, none⟩) 1 1]).run Try.prog (W'.alloc (.cells #[.slice A' L' C'] 30)) = .ok (.slice A8 (n1 + 1) C8) w8 ∧
        Hid (Rel2 w (w8.setCell ⟨hm, 3, none⟩ (.slice A8 (n1 + 1) C8)) h0 h1 a b sb n (i + 1)))) := by
  have hO := v.both.2.ack0
  have hM := v.both.1.ack0
  have f1 := v.few.1
  have f2 := v.few.2
  have hT := congrArg List.length v.both.1.told
  rw [List.length_take] at hT
  have hG := v.both.1.got
  refine (pw_outB (v.pw.below h0').swap (by omega) rfl).mono ?_
  rintro e W1 ⟨A, C, rfl, hB, q⟩
  refine ⟨_, false, rfl, hB, fun W2 hW2 => ?_⟩
  subst hW2
  have hpo := out_ok v.both.2 v.ij.1
  have hbk := both_take v.both.swap v.ij.2.1 v.ij.1 hpo
  refine (pw_took q.out.swap (p := outP O.s) (A := A) (C := C) (.head _) (by unfold i64; rw [hpo.1]; have := v.ij; omega) (by have := hpo.three v.th; omega) (by omega) (by omega) hbk.1 (by omega)).mono ?_
  rintro e W' ⟨A', C', L', ok, rfl, hk, hno, hyes⟩
  refine ⟨A', C', L', ok, rfl, ⟨hk.out.1, hk.out.2.1⟩, fun e => v.back _ (hno e).out, fun e => ?_⟩
  obtain ⟨A1, C1, A8, C8, w8, n1, x1, x2, x3⟩ := hyes e
  exact ⟨A1, C1, A8, C8, w8, n1, x1, x2, v.back _ x3.out⟩
theorem keeps2 {W W' : World} {h h' i i' : Nat} {u v : Value} (hB : Below W.heap.size W W') (hs : W.cell? ⟨h, i, none⟩ = some u ∧ W.cell? ⟨h', i', none⟩ = some v) : W'.cell? ⟨h, i, none⟩ = some u ∧ W'.cell? ⟨h', i', none⟩ = some v := by
  obtain ⟨s0, s1⟩ := hs
  refine ⟨?_, ?_⟩
  · rw [World.cell?_of_block (hB.block _ (World.block_lt_of_cell? W _ s0))]; exact s0
  · rw [World.cell?_of_block (hB.block _ (World.block_lt_of_cell? W _ s1))]; exact s1
theorem keeps3 {W W' : World} {h h' i i' : Nat} {u v : Value} (hk : Hid (W'.heap[h]? = W.heap[h]? ∧ W'.heap[h']? = W.heap[h']?)) (hs : W.cell? ⟨h, i, none⟩ = some u ∧ W.cell? ⟨h', i', none⟩ = some v) : W'.cell? ⟨h, i, none⟩ = some u ∧ W'.cell? ⟨h', i', none⟩ = some v := by
  obtain ⟨k1, k2⟩ := hk
  obtain ⟨s0, s1⟩ := hs
  refine ⟨?_, ?_⟩
  · rw [World.cell?_of_block k1]; exact s0
  · rw [World.cell?_of_block k2]; exact s1
theorem Rel2.fin {w W : World} {h0 h1 a b sb n : Nat} (h : Rel2 w W h0 h1 a b sb n (4 * n + 8)) (hn : n ≤ 300) : ∃ (A1 A2 A3 A4 : Option Addr) (C1 C2 C3 C4 p q : Nat), Hid (∀ U, Below W.heap.size W U → U.cell? ⟨sb, 0, none⟩ = some (.pointer (some ⟨h0, 0, none⟩)) ∧ U.cell? ⟨sb, 1, none⟩ = some (.pointer (some ⟨h1, 0, none⟩)) ∧ U.cell? ⟨h0, 0, none⟩ = some (.pointer (some ⟨a, 0, none⟩)) ∧ U.cell? ⟨h0, 2, none⟩ = some (.slice A1 p C1) ∧ U.cell? ⟨h0, 3, none⟩ = some (.slice A2 q C2) ∧ U.cell? ⟨h1, 0, none⟩ = some (.pointer (some ⟨b, 0, none⟩)) ∧ U.cell? ⟨h1, 2, none⟩ = some (.slice A3 q C3) ∧ U.cell? ⟨h1, 3, none⟩ = some (.slice A4 p C4)) ∧
      Hid (∀ U, Below W.heap.size W U → Calls Try.prog 28 #[.slice A2 q C2, .slice A3 q C3] U fun e w' => e = .returned (.bool true) ∧ Below U.heap.size U w') ∧
      Hid (∀ U, Below W.heap.size W U → Calls Try.prog 28 #[.slice A4 p C4, .slice A1 p C1] U fun e w' => e = .returned (.bool true) ∧ Below U.heap.size U w') ∧
      Hid (∀ U, Below W.heap.size W U → Calls Try.prog 26 #[.pointer (some ⟨a, 0, none⟩)] U fun e w' => e = .returned (.int .i64 0) ∧ w' = U) ∧
      Hid (∀ U, Below W.heap.size W U → Calls Try.prog 26 #[.pointer (some ⟨b, 0, none⟩)] U fun e w' => e = .returned (.int .i64 0) ∧ w' = U) ∧ Hid (Below w.heap.size w W) := by
  obtain ⟨X, Y, m, hf, t1, t2⟩ := h
  obtain ⟨e1, e2, e3, e4⟩ := hf.end
  have hfew := hf.few
  obtain ⟨vs, vt, z2, z3, r2, r3⟩ := m.rows
  obtain ⟨us, ut, y2, y3, s2, s3⟩ := m.swap.rows
  obtain ⟨_, _, _, _, _, _, m0, _⟩ := m.cells
  obtain ⟨_, _, _, _, _, _, n0, _⟩ := m.swap.cells
  have hx := m.pinned (g := sb) (.head _)
  rw [e1] at r3
  rw [e2] at s3
  obtain ⟨A1, C1, f1⟩ := r2.form
  obtain ⟨A2, C2, f2⟩ := r3.form
  obtain ⟨A3, C3, f3⟩ := s2.form
  obtain ⟨A4, C4, f4⟩ := s3.form
  subst f1 f2 f3 f4
  refine ⟨A1, A2, A3, A4, C1, C2, C3, C4, X.sent.length, Y.sent.length, fun U hU => ?_, fun U hU => ?_, fun U hU => ?_, fun U hU => ?_, fun U hU => ?_, m.bel⟩
  · have hk : ∀ {g i : Nat} {u : Value}, W.cell? ⟨g, i, none⟩ = some u → U.cell? ⟨g, i, none⟩ = some u := fun hu => by rw [World.cell?_of_block (hU.block _ (World.block_lt_of_cell? W _ hu))]; exact hu
    exact ⟨hk (cell_at hx 0), hk (cell_at hx 1), hk m0, hk z2, hk z3, hk n0, hk y2, hk y3⟩
  · exact begins_yes (r3.below hU) (s2.below hU) (by rw [List.take_length]) (fun x hx => by have := t2 x hx; omega) (by omega)
  · exact begins_yes (s3.below hU) (r2.below hU) (by rw [List.take_length]) (fun x hx => by have := t1 x hx; omega) (by omega)
  · have := pw_wait (m.below hU); rw [e3] at this; exact this
  · have := pw_wait (m.below hU).swap; rw [e4] at this; exact this
end Go.Proofs.Ytpmbkncakbcmbaa
