/- Trees: what a deed without parts does to nodes and sittings. -/
import Derived.Test.YtcdnfgibcochhaaGreatDoorTrF
namespace Go.Proofs.YtcdnfgibcochhaaGreatDoor
set_option linter.unusedSimpArgs false
set_option linter.unusedVariables false
open Go.RowKit Go.MapKept
set_option linter.unusedVariables false
set_option linter.unusedSimpArgs false

def parN (f : Fl) (N : List Fi) : List Fi := match lookF (PA.parentS f.path) N with
  | none => N
  | some q => putF ⟨q.nm, q.b, { q.st with cv := f.cversion, pz := f.zxid }⟩ N
def setN (f : Fl) (N : List Fi) : List Fi := match lookF f.path N with
  | none => N
  | some q => putF ⟨f.path, f.data, setSt f q.st⟩ N
def turnS (s k : Int) (S : List Si.Fi) : List Si.Fi := match Si.lookF s S with
  | none => S
  | some q => Si.putF ⟨q.nm, q.tmo, max q.turn k⟩ S
/- What a deed without parts, or one's own part of it, does. -/
def doN (f : Fl) (N : List Fi) : List Fi := if f.kind = 1 then parN f (putF ⟨f.path, f.data, madeSt f⟩ N) else if f.kind = 2 then parN f (delF f.path N) else if f.kind = 3 then setN f N else N
def doS (f : Fl) (S : List Si.Fi) : List Si.Fi := if f.kind = 4 then Si.putF ⟨f.zxid, f.timeout, f.turn⟩ S else if f.kind = 5 then Si.delF f.owner S else S
abbrev Mn (m n : Nat) : Nat → Prop := fun k => k = m ∨ k = n
theorem create_tr {w : World} {t m n : Nat} {N : List Fi} {S : List Si.Fi} (h : Tr w t m n N S) (f : Fl) (hp : f.path.length ≤ 281474976710656) {A1 A2 A3 : Option Addr} {c1 c2 c3 : Nat} (hx : Bs w (.slice A1 f.data.length c1) f.data) (hl : f.data.length ≤ 1000) :
    Calls Tryz.prog 58 #[.pointer (some ⟨t, 0, none⟩), .agg (dA f A1 A2 A3 c1 c2 c3)] w fun e w' => e = .returned (.tuple #[]) ∧ Tr w' t m n (putF ⟨f.path, f.data, madeSt f⟩ N) S ∧ Chg (Mn m n) w w' := by
  obtain ⟨L, K, hT, rfl, rfl⟩ := h
  refine (create_any hT f hp hx hl).mono ?_
  rintro e w' ⟨rfl, v, h1, c1⟩
  exact ⟨rfl, ⟨_, K, h1, put_F _ _, rfl⟩, c1.weak fun _ _ e => .inl e⟩
theorem mark_tr {w : World} {t m n : Nat} {N : List Fi} {S : List Si.Fi} (h : Tr w t m n N S) (hL : PA.Laid w) (f : Fl) {A1 A2 A3 : Option Addr} {c1 c2 c3 : Nat} :
    Calls Tryz.prog 59 #[.pointer (some ⟨t, 0, none⟩), .agg (dA f A1 A2 A3 c1 c2 c3)] w fun e w' => e = .returned (.tuple #[]) ∧ Tr w' t m n (parN f N) S ∧ Chg (Mn m n) w w' := by
  obtain ⟨L, K, hT, rfl, rfl⟩ := h
  refine (mark_any hT hL f).mono ?_
  rintro e w' ⟨rfl, h1, c1⟩
  refine ⟨rfl, ⟨_, K, h1, ?_, rfl⟩, c1.weak fun _ _ e => .inl e⟩
  unfold parN
  rw [← look_F]
  cases look (PA.parentS f.path) L with
  | none => rfl
  | some q => exact put_F _ _
theorem set_tr {w : World} {t m n : Nat} {N : List Fi} {S : List Si.Fi} (h : Tr w t m n N S) (f : Fl) (hp : f.path.length ≤ 281474976710656) {A1 A2 A3 : Option Addr} {c1 c2 c3 : Nat} (hx : Bs w (.slice A1 f.data.length c1) f.data) (hl : f.data.length ≤ 1000) :
    Calls Tryz.prog 60 #[.pointer (some ⟨t, 0, none⟩), .agg (dA f A1 A2 A3 c1 c2 c3)] w fun e w' => e = .returned (.tuple #[]) ∧ Tr w' t m n (setN f N) S ∧ Chg (Mn m n) w w' := by
  obtain ⟨L, K, hT, rfl, rfl⟩ := h
  refine (set_any hT f hp hx hl).mono ?_
  rintro e w' ⟨rfl, v, h1, c1⟩
  refine ⟨rfl, ⟨_, K, h1, ?_, rfl⟩, c1.weak fun _ _ e => .inl e⟩
  unfold setN
  rw [← look_F]
  cases look f.path L with
  | none => rfl
  | some q => exact put_F _ _
theorem turn_tr {w : World} {t m n : Nat} {N : List Fi} {S : List Si.Fi} (h : Tr w t m n N S) (s k : Int) :
    Calls Tryz.prog 38 #[.pointer (some ⟨t, 0, none⟩), .int .i64 s, .int .i64 k] w fun e w' => e = .returned (.tuple #[]) ∧ Tr w' t m n N (turnS s k S) ∧ Chg (Mn m n) w w' := by
  obtain ⟨L, K, hT, rfl, rfl⟩ := h
  refine (turn_any hT s k).mono ?_
  rintro e w' ⟨rfl, h1, c1⟩
  refine ⟨rfl, ⟨L, _, h1, rfl, ?_⟩, c1.weak fun _ _ e => .inr e⟩
  unfold turnS
  rw [← Si.look_F]
  cases Si.look s K with
  | none => rfl
  | some q => exact Si.put_F _ _
/- What lies beside a tree. -/
theorem Tr.mn {w : World} {t m n : Nat} {N : List Fi} {S : List Si.Fi} (h : Tr w t m n N S) : (∃ es c, w.heap[m]? = some (.map es c)) ∧ ∃ es c, w.heap[n]? = some (.map es c) := by
  obtain ⟨L, K, hT, _⟩ := h
  obtain ⟨es, c, hb, _⟩ := hT.nodes
  obtain ⟨es', c', hb', _⟩ := hT.seats
  exact ⟨⟨es, c, hb⟩, es', c', hb'⟩
theorem laid_chg {w w' : World} {t m n : Nat} {N : List Fi} {S : List Si.Fi} (h : PA.Laid w) (hT : Tr w t m n N S) (hc : Chg (Mn m n) w w') : PA.Laid w' := by
  obtain ⟨⟨es, c, hm⟩, es', c', hn⟩ := hT.mn
  have key : ∀ {g i : Nat} {v : Value}, w.cell? ⟨g, i, none⟩ = some v → w'.cell? ⟨g, i, none⟩ = some v := by
    intro g i v hv
    have hl := World.block_lt_of_cell? w _ hv
    rw [hc.cell (a := ⟨g, i, none⟩) hl ?_]
    · exact hv
    · rintro (e | e)
      · have e' : g = m := e
        subst e'
        simp [World.cell?, hm] at hv
      · have e' : g = n := e
        subst e'
        simp [World.cell?, hn] at hv
  obtain ⟨q, hq⟩ := h.one
  exact ⟨⟨q, key hq⟩, fun j hj => key (h.tab j hj)⟩
theorem Tr.lt {w : World} {t m n : Nat} {N : List Fi} {S : List Si.Fi} (h : Tr w t m n N S) : m < w.heap.size ∧ n < w.heap.size ∧ t < w.heap.size := by
  obtain ⟨L, K, hT, _⟩ := h
  exact ⟨hT.nodes.lt, hT.seats.lt, theap_lt hT.cell⟩
theorem Tr.cells {w : World} {t m n : Nat} {N : List Fi} {S : List Si.Fi} (h : Tr w t m n N S) : w.cell? ⟨t, 0, none⟩ = some (.map (some m)) ∧ w.cell? ⟨t, 1, none⟩ = some (.map (some n)) := by
  obtain ⟨L, K, hT, _⟩ := h
  exact ⟨cell_at hT.cell 0, cell_at hT.cell 1⟩
set_option maxRecDepth 100000 in
set_option maxHeartbeats 4000000 in
theorem do_create {w : World} {t m n : Nat} {N : List Fi} {S : List Si.Fi} (h : Tr w t m n N S) (hL : PA.Laid w) (f : Fl) (hk : f.kind = 1) (hp : f.path.length ≤ 281474976710656) {A1 A2 A3 : Option Addr} {c1 c2 c3 : Nat} (hx : Bs w (.slice A1 f.data.length c1) f.data) (hl : f.data.length ≤ 1000) :
    Calls Tryz.prog 37 #[.pointer (some ⟨t, 0, none⟩), .agg (dA f A1 A2 A3 c1 c2 c3)] w fun e w' => e = .returned (.tuple #[]) ∧ Tr w' t m n (doN f N) (doS f S) ∧ Chg (Mn m n) w w' := by
  have HD : Hid (doN f N = parN f (putF ⟨f.path, f.data, madeSt f⟩ N) ∧ doS f S = S) := by simp [Hid, doN, doS, hk]
  rw [HD.out.1, HD.out.2]
  simp only [dA, hk]
  obtain ⟨W, hW⟩ : ∃ W, W = w.alloc (.cells #[.int .i64 f.zxid, .int .u8 1, .int .i64 f.session, .int .i64 f.turn, .int .i64 f.xid, .int .i64 f.time, .string (mkS f.path), .slice A1 f.data.length c1, .int .i64 f.owner, .int .i64 f.version, .int .i64 f.cversion, .int .i64 f.timeout, .int .i64 f.err, .int .i64 f.cver, .slice A2 f.mems.length c2, .slice A3 f.np c3] 31) := ⟨_, rfl⟩
  have hBW : Below w.heap.size w W := by rw [hW]; exact lay1 _ _
  have hTW : Tr W t m n N S := h.below hBW
  have hxW : Bs W (.slice A1 f.data.length c1) f.data := hx.keep (Chg.of_below hBW) (fun _ _ => id)
  have HML : Hid (m < w.heap.size ∧ n < w.heap.size ∧ t < w.heap.size) := h.lt
  have HB : Hid (∀ {w' : World}, Chg (Mn m n) W w' → w'.cell? ⟨w.heap.size, 0, none⟩ = some (.int .i64 f.zxid) ∧ w'.cell? ⟨w.heap.size, 1, none⟩ = some (.int .u8 1) ∧ w'.cell? ⟨w.heap.size, 2, none⟩ = some (.int .i64 f.session) ∧ w'.cell? ⟨w.heap.size, 3, none⟩ = some (.int .i64 f.turn) ∧ w'.cell? ⟨w.heap.size, 4, none⟩ = some (.int .i64 f.xid) ∧ w'.cell? ⟨w.heap.size, 5, none⟩ = some (.int .i64 f.time) ∧ w'.cell? ⟨w.heap.size, 6, none⟩ = some (.string (mkS f.path)) ∧ w'.cell? ⟨w.heap.size, 7, none⟩ = some (.slice A1 f.data.length c1) ∧ w'.cell? ⟨w.heap.size, 8, none⟩ = some (.int .i64 f.owner) ∧ w'.cell? ⟨w.heap.size, 9, none⟩ = some (.int .i64 f.version) ∧ w'.cell? ⟨w.heap.size, 10, none⟩ = some (.int .i64 f.cversion) ∧ w'.cell? ⟨w.heap.size, 11, none⟩ = some (.int .i64 f.timeout) ∧ w'.cell? ⟨w.heap.size, 12, none⟩ = some (.int .i64 f.err) ∧ w'.cell? ⟨w.heap.size, 13, none⟩ = some (.int .i64 f.cver) ∧ w'.cell? ⟨w.heap.size, 14, none⟩ = some (.slice A2 f.mems.length c2) ∧ w'.cell? ⟨w.heap.size, 15, none⟩ = some (.slice A3 f.np c3)) := by
    intro w' hc
    have hb : W.heap[w.heap.size]? = some (.cells #[.int .i64 f.zxid, .int .u8 1, .int .i64 f.session, .int .i64 f.turn, .int .i64 f.xid, .int .i64 f.time, .string (mkS f.path), .slice A1 f.data.length c1, .int .i64 f.owner, .int .i64 f.version, .int .i64 f.cversion, .int .i64 f.timeout, .int .i64 f.err, .int .i64 f.cver, .slice A2 f.mems.length c2, .slice A3 f.np c3] 31 (0, 0)) := by rw [hW]; exact heap_alloc_new w _
    have hb' : w'.heap[w.heap.size]? = some (.cells #[.int .i64 f.zxid, .int .u8 1, .int .i64 f.session, .int .i64 f.turn, .int .i64 f.xid, .int .i64 f.time, .string (mkS f.path), .slice A1 f.data.length c1, .int .i64 f.owner, .int .i64 f.version, .int .i64 f.cversion, .int .i64 f.timeout, .int .i64 f.err, .int .i64 f.cver, .slice A2 f.mems.length c2, .slice A3 f.np c3] 31 (0, 0)) := by rw [hc.block _ (theap_lt hb) (by have := HML.out; rintro (e | e) <;> omega)]; exact hb
    exact ⟨cell_at hb' 0, cell_at hb' 1, cell_at hb' 2, cell_at hb' 3, cell_at hb' 4, cell_at hb' 5, cell_at hb' 6, cell_at hb' 7, cell_at hb' 8, cell_at hb' 9, cell_at hb' 10, cell_at hb' 11, cell_at hb' 12, cell_at hb' 13, cell_at hb' 14, cell_at hb' 15⟩
  have HC : Hid (Chg (Mn m n) w W) := (Chg.of_below hBW).weak fun _ _ e => e.elim
  have hc1 := create_tr (A2 := A2) (A3 := A3) (c2 := c2) (c3 := c3) hTW f hp hxW hl
  simp only [dA, hk] at hc1
  have HM : Hid (∀ {w' : World} {N' : List Fi}, Tr w' t m n N' S → PA.Laid w' → Calls Tryz.prog 59 #[.pointer (some ⟨t, 0, none⟩), .agg (dA f A1 A2 A3 c1 c2 c3)] w' fun e w'' => e = .returned (.tuple #[]) ∧ Tr w'' t m n (parN f N') S ∧ Chg (Mn m n) w' w'') := fun h1 h2 => mark_tr h1 h2 f
  simp only [dA, hk] at HM
  have HLW : Hid (PA.Laid W ∧ Tr W t m n N S) := ⟨hL.below hBW, hTW⟩
  have HWW : Hid (W = w.alloc (.cells #[.int .i64 f.zxid, .int .u8 1, .int .i64 f.session, .int .i64 f.turn, .int .i64 f.xid, .int .i64 f.time, .string (mkS f.path), .slice A1 f.data.length c1, .int .i64 f.owner, .int .i64 f.version, .int .i64 f.cversion, .int .i64 f.timeout, .int .i64 f.err, .int .i64 f.cver, .slice A2 f.mems.length c2, .slice A3 f.np c3] 31)) := hW
  rw [hW] at hc1
  clear h hL hx hBW hTW hxW hW hk
  go_enter Tryz.func37, Tryz.ntmps37
  go_wp2_with fail
  refine hc1.mono ?_
  rintro e w1 ⟨rfl, h1, k1⟩
  rw [← HWW.out] at k1
  have hc2 := HM.out h1 (laid_chg HLW.out.1 HLW.out.2 k1)
  obtain ⟨z0, z1, z2, z3, z4, z5, z6, z7, z8, z9, z10, z11, z12, z13, z14, z15⟩ := HB.out k1
  have HK : Hid (Chg (Mn m n) w w1) := HC.out.trans k1
  clear hc1 h1 k1
  go_wp2_with fail
  refine hc2.mono ?_
  rintro e w2 ⟨rfl, h2, k2⟩
  have HF : Hid _ := And.intro h2 (HK.out.trans k2)
  clear hc2 h2 k2 z0 z1 z2 z3 z4 z5 z6 z7 z8 z9 z10 z11 z12 z13 z14 z15
  go_wp2_with fail
  go_end0
  exact ⟨rfl, HF.out⟩
end Go.Proofs.YtcdnfgibcochhaaGreatDoor
