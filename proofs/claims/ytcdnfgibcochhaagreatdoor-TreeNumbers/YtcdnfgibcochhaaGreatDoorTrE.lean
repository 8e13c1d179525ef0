/- Trees: what deeds do to nodes and sittings. -/
import Derived.Test.YtcdnfgibcochhaaGreatDoorTrD
import Derived.Test.YtcdnfgibcochhaaGreatDoorPathP
namespace Go.Proofs.YtcdnfgibcochhaaGreatDoor
set_option linter.unusedVariables false
open Go.RowKit Go.MapKept
set_option linter.unusedVariables false

/- A deed's cells. -/
abbrev dA (f : Fl) (A1 A2 A3 : Option Addr) (c1 c2 c3 : Nat) : Array Value := #[.int .i64 f.zxid, .int .u8 f.kind, .int .i64 f.session, .int .i64 f.turn, .int .i64 f.xid, .int .i64 f.time, .string (mkS f.path), .slice A1 f.data.length c1, .int .i64 f.owner, .int .i64 f.version, .int .i64 f.cversion, .int .i64 f.timeout, .int .i64 f.err, .int .i64 f.cver, .slice A2 f.mems.length c2, .slice A3 f.np c3]
def madeSt (f : Fl) : Stt := ⟨f.zxid, f.zxid, f.zxid, f.time, f.time, 0, 0, f.owner, 0, 0⟩
set_option maxRecDepth 100000 in
set_option maxHeartbeats 2000000 in
theorem create_any {w : World} {t m n : Nat} {L : List Fv} {K : List Si.Fv} (h : Tk w t m n L K) (f : Fl) (hp : f.path.length ≤ 281474976710656) {A1 A2 A3 : Option Addr} {c1 c2 c3 : Nat} (hx : Bs w (.slice A1 f.data.length c1) f.data) (hl : f.data.length ≤ 1000) :
    Calls Tryz.prog 58 #[.pointer (some ⟨t, 0, none⟩), .agg (dA f A1 A2 A3 c1 c2 c3)] w fun e w' => e = .returned (.tuple #[]) ∧ ∃ v, Tk w' t m n (putL (⟨f.path, f.data, madeSt f⟩, v) L) K ∧ Chg (fun k => k = m) w w' := by
  simp only [dA]
  have hc := put_any (h.alloc (.cells (dA f A1 A2 A3 c1 c2 c3) 31)) f.path hp (hx.alloc _) rfl hl (madeSt f)
  simp only [stA, madeSt, dA] at hc
  clear h hx
  go_enter Tryz.func58, Tryz.ntmps58
  go_wp2_with fail
  refine hc.mono ?_
  rintro e w1 ⟨rfl, v, h1, c1⟩
  have HF : Hid _ := And.intro h1 c1
  clear hc h1 c1
  go_wp2_with fail
  go_end0
  obtain ⟨h1, c1⟩ := HF.out
  exact ⟨rfl, v, h1, (Chg.alloc _ _ _).trans c1⟩
theorem run_max2T (x y : Int) (ty : TypeId) (w : World) : (Builtin.max_ #[3, 3] ty #[.int .i64 x, .int .i64 y]).run Tryz.prog w = .ok (.int .i64 (max x y)) w := by
  have : (if y > x then y else x) = max x y := by split <;> omega
  simp [Builtin.max_, Builtin.max2, ← this]
theorem wpList_bmaxT {w : World} {ops : Array Oper} {rest : List Oper} {o : Oper} {a : Act} {Q : Exit → Act → World → Prop} (hg : o.guard = none) (x y : Operand) (hop : o.op = Op.call { callee := Callee.builtin Builtin.max, args := #[x, y], argTypes := #[3, 3] }) (m n : Int) (hx : a.eval x = .int .i64 m) (hy : a.eval y = .int .i64 n)
    (hK : wpList Tryz.prog ops Q rest (a.put o.dst (.int .i64 (max m n))) w) : wpList Tryz.prog ops Q (o :: rest) a w := by
  refine wpList_plain hg fun K' hK' => ?_
  unfold Oper.wp execOp
  simp only [hop, resolve, invoke, builtin, Sem.run_bind, Sem.run_pure, Result.andThen_ok, List.map_toArray, List.map_cons, List.map_nil, hx, hy, run_max2T]
  exact hK' _ _ hK
set_option maxRecDepth 100000 in
set_option maxHeartbeats 2000000 in
theorem turn_any {w : World} {t m n : Nat} {L : List Fv} {K : List Si.Fv} (h : Tk w t m n L K) (s k : Int) :
    Calls Tryz.prog 38 #[.pointer (some ⟨t, 0, none⟩), .int .i64 s, .int .i64 k] w fun e w' => e = .returned (.tuple #[]) ∧ Tk w' t m n L (match Si.look s K with | none => K | some q => Si.putL (⟨q.1.nm, q.1.tmo, max q.1.turn k⟩, ()) K) ∧ Chg (fun k => k = n) w w' := by
  have hc0 := cell_at h.cell 1
  simp at hc0
  have hlk := h.seats.lookup s true
  cases hq : Si.look s K with
  | none =>
    rw [hq] at hlk
    simp only [if_true, Si.valOf, Si.zeroFv, Option.getD_none, Option.isSome_none] at hlk
    simp only
    have HT : Hid (Tk w t m n L K) := h
    clear h hq
    go_enter Tryz.func38, Tryz.ntmps38
    go_wp2_with fail
    go_end0
    exact ⟨rfl, HT.out.alloc _, Chg.alloc _ _ _⟩
  | some q =>
    have hnm := (Si.look_some hq).2
    rw [hq] at hlk
    simp only [if_true, Si.valOf, Option.getD_some, Option.isSome_some, hnm] at hlk
    simp only [hnm]
    obtain ⟨W, hW⟩ : ∃ W, W = (w.alloc (.cells #[.int .i64 s, .int .i64 q.1.tmo, .int .i64 (max q.1.turn k)] 57)).drew := ⟨_, rfl⟩
    have HW : Hid (W = (w.alloc (.cells #[.int .i64 s, .int .i64 q.1.tmo, .int .i64 (max q.1.turn k)] 57)).drew) := hW
    have hBW : Below w.heap.size w W := by rw [hW]; exact (lay1 _ _).drew
    have hbx : W.heap[w.heap.size]? = some (.cells #[.int .i64 s, .int .i64 q.1.tmo, .int .i64 (max q.1.turn k)] 57 (0, 0)) := by rw [hW]; exact heap_alloc_new w _
    have hTW := h.below hBW
    obtain ⟨w3, hrun, h3, c3, s3⟩ := hTW.seats.update (⟨s, q.1.tmo, max q.1.turn k⟩, ())
    have HF : Hid (Tk w3 t m n L (Si.putL (⟨s, q.1.tmo, max q.1.turn k⟩, ()) K) ∧ Chg (fun k => k = n) w w3) := ⟨hTW.seat h3 c3, ((Chg.of_below hBW).weak fun _ _ e => e.elim).trans c3⟩
    have HS : Hid (∀ {w' : World}, Chg (fun k => k = n) W w' → w'.cell? ⟨t, 1, none⟩ = some (.map (some n)) ∧ w'.cell? ⟨w.heap.size, 0, none⟩ = some (.int .i64 s) ∧ w'.cell? ⟨w.heap.size, 1, none⟩ = some (.int .i64 q.1.tmo) ∧ w'.cell? ⟨w.heap.size, 2, none⟩ = some (.int .i64 (max q.1.turn k))) := by
      intro w' hc
      have htn : t ≠ n := by
        intro e
        obtain ⟨es, c, hb, _⟩ := h.seats
        have := h.cell
        rw [e, hb] at this; cases this
      have hnl := h.seats.lt
      have ht : w'.heap[t]? = some (.cells #[.map (some m), .map (some n)] 38 (0, 0)) := by
        rw [hc.block t (theap_lt hTW.cell) htn]; exact hTW.cell
      have hb' : w'.heap[w.heap.size]? = some (.cells #[.int .i64 s, .int .i64 q.1.tmo, .int .i64 (max q.1.turn k)] 57 (0, 0)) := by rw [hc.block _ (theap_lt hbx) (by omega)]; exact hbx
      exact ⟨cell_at ht 1, cell_at hb' 0, cell_at hb' 1, cell_at hb' 2⟩
    have hS0 := HS.out (Chg.refl _ W)
    have hS1 := HS.out c3
    have hrun' : (Instr.mapUpdate 36 (.map (some n)) (.int .i64 s) (.agg #[.int .i64 s, .int .i64 q.1.tmo, .int .i64 (max q.1.turn k)])).run Tryz.prog W = .ok () w3 := hrun
    rw [hW] at hS0 hrun'
    clear h hq hnm hW hBW hbx hTW hrun h3 c3 s3 HS
    go_enter Tryz.func38, Tryz.ntmps38
    go_wp2_with (first | (at_builtin; refine wpList_bmaxT rfl _ _ rfl _ _ rfl rfl ?_) | fail)
    go_region_held3 (fun w' => w'.cell? ⟨t, 1, none⟩ = some (.map (some n)) ∧ w'.cell? ⟨w.heap.size, 0, none⟩ = some (.int .i64 s) ∧ w'.cell? ⟨w.heap.size, 1, none⟩ = some (.int .i64 q.1.tmo) ∧ w'.cell? ⟨w.heap.size, 2, none⟩ = some (.int .i64 (max q.1.turn k)))
      (first | exact hS0 | exact hS1 | go_keep)
      (fail)
    go_end0
    exact ⟨rfl, HF.out⟩
set_option maxRecDepth 100000 in
set_option maxHeartbeats 2000000 in
theorem mark_any {w : World} {t m n : Nat} {L : List Fv} {K : List Si.Fv} (h : Tk w t m n L K) (hL : PA.Laid w) (f : Fl) {A1 A2 A3 : Option Addr} {c1 c2 c3 : Nat} :
    Calls Tryz.prog 59 #[.pointer (some ⟨t, 0, none⟩), .agg (dA f A1 A2 A3 c1 c2 c3)] w fun e w' => e = .returned (.tuple #[]) ∧ Tk w' t m n (match look (PA.parentS f.path) L with | none => L | some q => putL (⟨q.1.nm, q.1.b, { q.1.st with cv := f.cversion, pz := f.zxid }⟩, q.2) L) K ∧ Chg (fun k => k = m) w w' := by
  obtain ⟨W, hW⟩ : ∃ W, W = w.alloc (.cells (dA f A1 A2 A3 c1 c2 c3) 31) := ⟨_, rfl⟩
  have HW : Hid (W = w.alloc (.cells (dA f A1 A2 A3 c1 c2 c3) 31)) := hW
  have hBW : Below w.heap.size w W := by rw [hW]; exact lay1 _ _
  have hpa := PA.parent_k f.path W W ⟨hL.below hBW, Below.refl _ _⟩
  simp only [dA] at hW ⊢
  rw [hW] at hpa
  have HB : Hid (Below w.heap.size w W ∧ W.heap[w.heap.size]? = some (.cells (dA f A1 A2 A3 c1 c2 c3) 31 (0, 0))) := ⟨hBW, by rw [hW]; exact heap_alloc_new w _⟩
  have HT : Hid (Tk w t m n L K) := h
  /- behind Parent -/
  have HF : Hid (∀ {w1 : World}, PA.Kept W w1 → Tk w1 t m n L K ∧ Below w.heap.size w w1 ∧ w1.heap[w.heap.size]? = some (.cells (dA f A1 A2 A3 c1 c2 c3) 31 (0, 0))) := by
    intro w1 hk
    have h1 := HB.out
    exact ⟨(HT.out.below h1.1).below hk.below, h1.1.trans (hk.below.mono h1.1.size), by rw [hk.below.block _ (theap_lt h1.2)]; exact h1.2⟩
  cases hq : look (PA.parentS f.path) L with
  | none =>
    have HQ : Hid (look (PA.parentS f.path) L = none) := hq
    simp only
    clear h hL hq hBW
    go_enter Tryz.func59, Tryz.ntmps59
    go_wp2_with fail
    refine hpa.mono ?_
    rintro e w1 ⟨rfl, hk1⟩
    clear hpa
    have hk1' : PA.Kept W w1 := by rw [hW]; exact hk1
    obtain ⟨hT1, hB1, hb1⟩ := HF.out hk1'
    have hc0 := cell_at hT1.cell 0
    simp at hc0
    have hlk := hT1.nodes.lookup (PA.parentS f.path) true
    rw [HQ.out] at hlk
    simp only [if_true, valOf, zeroFv, Option.getD_none, Option.isSome_none, stV, zeroSt] at hlk
    have HE : Hid (Tk w1 t m n L K ∧ Below w.heap.size w w1) := ⟨hT1, hB1⟩
    clear hT1 hB1 hb1 hk1 hk1'
    go_wp2_with fail
    go_end0
    exact ⟨rfl, HE.out.1.alloc _, ((Chg.of_below HE.out.2).weak fun _ _ e => e.elim).trans (Chg.alloc _ _ _)⟩
  | some q =>
    obtain ⟨hqm, hqn⟩ := look_some hq
    obtain ⟨A4, C4, hv4⟩ := owns_form' (h.bs q hqm)
    obtain ⟨⟨nm, b, ⟨cz, mz, pz, ct, mt, ver, cv, own, len, chd⟩⟩, v⟩ := q
    simp only at hv4 hqn
    subst hv4
    have HQ : Hid (look (PA.parentS f.path) L = some (⟨nm, b, ⟨cz, mz, pz, ct, mt, ver, cv, own, len, chd⟩⟩, .slice A4 b.length C4)) := hq
    have HQN : Hid (nm = PA.parentS f.path) := hqn
    simp only
    have HFIT : Hid (b.length ≤ 1000 ∧ len = 0 ∧ chd = 0) := h.fits _ hqm
    clear h hL hq hBW hqm hqn
    go_enter Tryz.func59, Tryz.ntmps59
    go_wp2_with fail
    refine hpa.mono ?_
    rintro e w1 ⟨rfl, hk1⟩
    clear hpa
    have hk1' : PA.Kept W w1 := by rw [hW]; exact hk1
    obtain ⟨hT1, hB1, hb1⟩ := HF.out hk1'
    have hc0 := cell_at hT1.cell 0
    simp at hc0
    have hlk := hT1.nodes.lookup (PA.parentS f.path) true
    rw [HQ.out] at hlk
    simp only [if_true, valOf, Option.getD_some, Option.isSome_some, stV] at hlk
    have hd0 : w1.cell? ⟨w.heap.size, 0, none⟩ = some (.int .i64 f.zxid) := cell_at hb1 0
    have hd10 : w1.cell? ⟨w.heap.size, 10, none⟩ = some (.int .i64 f.cversion) := cell_at hb1 10
    have hwl : w.heap.size < w1.heap.size := theap_lt hb1
    have htl : t < w1.heap.size := theap_lt hT1.cell
    have HE : Hid (Tk w1 t m n L K ∧ Below w.heap.size w w1) := ⟨hT1, hB1⟩
    clear hT1 hB1 hb1 hk1 hk1'
    have hS0 : (w1.alloc (.cells #[.slice A4 b.length C4, .int .i64 cz, .int .i64 mz, .int .i64 pz, .int .i64 ct, .int .i64 mt, .int .i64 ver, .int .i64 cv, .int .i64 own, .int .i64 len, .int .i64 chd] 77)).cell? ⟨w.heap.size, 0, none⟩ = some (.int .i64 f.zxid) ∧ (w1.alloc (.cells #[.slice A4 b.length C4, .int .i64 cz, .int .i64 mz, .int .i64 pz, .int .i64 ct, .int .i64 mt, .int .i64 ver, .int .i64 cv, .int .i64 own, .int .i64 len, .int .i64 chd] 77)).cell? ⟨w.heap.size, 10, none⟩ = some (.int .i64 f.cversion) := ⟨by rw [← hd0]; exact (Chg.alloc Non w1 _).cell (a := ⟨w.heap.size, 0, none⟩) hwl (fun e => e), by rw [← hd10]; exact (Chg.alloc Non w1 _).cell (a := ⟨w.heap.size, 10, none⟩) hwl (fun e => e)⟩
    have hne1 : ¬ w1.heap.size = w.heap.size := by omega
    have hne2 : ¬ w.heap.size = w1.heap.size := by omega
    go_wp2_with fail
    go_region_held3 (fun w' => w'.cell? ⟨w.heap.size, 0, none⟩ = some (.int .i64 f.zxid) ∧ w'.cell? ⟨w.heap.size, 10, none⟩ = some (.int .i64 f.cversion))
      (first | exact hS0 | go_keep)
      (fail)
    obtain ⟨hT1, hB1⟩ := HE.out
    obtain ⟨W3, hW3⟩ : ∃ W3, W3 = (w1.alloc (.cells #[.slice A4 b.length C4, .int .i64 cz, .int .i64 mz, .int .i64 f.zxid, .int .i64 ct, .int .i64 mt, .int .i64 ver, .int .i64 f.cversion, .int .i64 own, .int .i64 len, .int .i64 chd] 77)).drew.drew := ⟨_, rfl⟩
    have hB3 : Below w1.heap.size w1 W3 := by rw [hW3]; exact (lay1 _ _).drew.drew
    have hbx : W3.heap[w1.heap.size]? = some (.cells #[.slice A4 b.length C4, .int .i64 cz, .int .i64 mz, .int .i64 f.zxid, .int .i64 ct, .int .i64 mt, .int .i64 ver, .int .i64 f.cversion, .int .i64 own, .int .i64 len, .int .i64 chd] 77 (0, 0)) := by rw [hW3]; exact heap_alloc_new w1 _
    have hT3 := hT1.below hB3
    obtain ⟨w3, hrun, h3, c3, s3⟩ := hT3.nodes.update (⟨nm, b, ⟨cz, mz, f.zxid, ct, mt, ver, f.cversion, own, len, chd⟩⟩, .slice A4 b.length C4)
    have hqm := (look_some HQ.out).1
    have hbs3 := hT3.bs _ hqm
    have hne3 := fun k hk e => hT3.bs_ne hT3 hqm (k := k) hk (.inr (.inl e))
    have HEND : Hid (Tk w3 t m n (putL (⟨nm, b, ⟨cz, mz, f.zxid, ct, mt, ver, f.cversion, own, len, chd⟩⟩, .slice A4 b.length C4) L) K ∧ Chg (fun k => k = m) w w3) := ⟨hT3.put _ (Below.refl _ _) hbs3 hne3 h3 c3 HFIT.out, ((Chg.of_below (hB1.trans (hB3.mono hB1.size))).weak fun _ _ e => e.elim).trans c3⟩
    have HS : Hid (∀ {w' : World}, Chg (fun k => k = m) W3 w' → w'.cell? ⟨t, 0, none⟩ = some (.map (some m)) ∧ w'.cell? ⟨w1.heap.size, 0, none⟩ = some (.slice A4 b.length C4) ∧ w'.cell? ⟨w1.heap.size, 1, none⟩ = some (.int .i64 cz) ∧ w'.cell? ⟨w1.heap.size, 2, none⟩ = some (.int .i64 mz) ∧ w'.cell? ⟨w1.heap.size, 3, none⟩ = some (.int .i64 f.zxid) ∧ w'.cell? ⟨w1.heap.size, 4, none⟩ = some (.int .i64 ct) ∧ w'.cell? ⟨w1.heap.size, 5, none⟩ = some (.int .i64 mt) ∧ w'.cell? ⟨w1.heap.size, 6, none⟩ = some (.int .i64 ver) ∧ w'.cell? ⟨w1.heap.size, 7, none⟩ = some (.int .i64 f.cversion) ∧ w'.cell? ⟨w1.heap.size, 8, none⟩ = some (.int .i64 own) ∧ w'.cell? ⟨w1.heap.size, 9, none⟩ = some (.int .i64 len) ∧ w'.cell? ⟨w1.heap.size, 10, none⟩ = some (.int .i64 chd)) := by
      intro w' hc
      have htm : t ≠ m := by
        intro e
        obtain ⟨es, c, hb, _⟩ := hT1.nodes
        have := hT1.cell
        rw [e, hb] at this; cases this
      have hml := hT1.nodes.lt
      have ht : w'.heap[t]? = some (.cells #[.map (some m), .map (some n)] 38 (0, 0)) := by
        rw [hc.block t (theap_lt hT3.cell) htm]; exact hT3.cell
      have hb' : w'.heap[w1.heap.size]? = some (.cells #[.slice A4 b.length C4, .int .i64 cz, .int .i64 mz, .int .i64 f.zxid, .int .i64 ct, .int .i64 mt, .int .i64 ver, .int .i64 f.cversion, .int .i64 own, .int .i64 len, .int .i64 chd] 77 (0, 0)) := by rw [hc.block _ (theap_lt hbx) (by omega)]; exact hbx
      exact ⟨cell_at ht 0, cell_at hb' 0, cell_at hb' 1, cell_at hb' 2, cell_at hb' 3, cell_at hb' 4, cell_at hb' 5, cell_at hb' 6, cell_at hb' 7, cell_at hb' 8, cell_at hb' 9, cell_at hb' 10⟩
    have hS2 := HS.out (Chg.refl _ W3)
    have hS3 := HS.out c3
    have hrun' : (Instr.mapUpdate 35 (.map (some m)) (.string (mkS nm)) (.agg #[.slice A4 b.length C4, .int .i64 cz, .int .i64 mz, .int .i64 f.zxid, .int .i64 ct, .int .i64 mt, .int .i64 ver, .int .i64 f.cversion, .int .i64 own, .int .i64 len, .int .i64 chd])).run Tryz.prog W3 = .ok () w3 := hrun
    rw [HQN.out] at hrun'
    rw [hW3] at hS2 hrun'
    clear hT1 hB1 hW3 hB3 hbx hT3 hrun h3 c3 s3 HS hbs3 hne3 hqm hS0 hd0 hd10 hlk hc0
    go_wp2_with fail
    go_region_held3 (fun w' => w'.cell? ⟨t, 0, none⟩ = some (.map (some m)) ∧ w'.cell? ⟨w1.heap.size, 0, none⟩ = some (.slice A4 b.length C4) ∧ w'.cell? ⟨w1.heap.size, 1, none⟩ = some (.int .i64 cz) ∧ w'.cell? ⟨w1.heap.size, 2, none⟩ = some (.int .i64 mz) ∧ w'.cell? ⟨w1.heap.size, 3, none⟩ = some (.int .i64 f.zxid) ∧ w'.cell? ⟨w1.heap.size, 4, none⟩ = some (.int .i64 ct) ∧ w'.cell? ⟨w1.heap.size, 5, none⟩ = some (.int .i64 mt) ∧ w'.cell? ⟨w1.heap.size, 6, none⟩ = some (.int .i64 ver) ∧ w'.cell? ⟨w1.heap.size, 7, none⟩ = some (.int .i64 f.cversion) ∧ w'.cell? ⟨w1.heap.size, 8, none⟩ = some (.int .i64 own) ∧ w'.cell? ⟨w1.heap.size, 9, none⟩ = some (.int .i64 len) ∧ w'.cell? ⟨w1.heap.size, 10, none⟩ = some (.int .i64 chd))
      (first | exact hS2 | exact hS3 | go_keep)
      (fail)
    go_end0
    exact ⟨rfl, HEND.out⟩
end Go.Proofs.YtcdnfgibcochhaaGreatDoor
