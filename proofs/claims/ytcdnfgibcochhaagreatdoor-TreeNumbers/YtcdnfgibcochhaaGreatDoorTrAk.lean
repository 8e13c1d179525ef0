/- awake of the trees: a deed that creates, rows of one, a deed applied; what is read of a tree; the walk. -/
import Derived.Test.YtcdnfgibcochhaaGreatDoorTrEa
import Derived.Test.YtcdnfgibcochhaaGreatDoorTrL
import Derived.Test.YtcdnfgibcochhaaGreatDoorTrUa
import Derived.Test.YtcdnfgibcochhaaGreatDoorTrWa
import Derived.Lib.SlBytesConst
namespace Go.Proofs.YtcdnfgibcochhaaGreatDoor
set_option linter.unusedSimpArgs false
set_option linter.unusedVariables false
open Go.RowKit Go.MapKept
set_option linter.unusedVariables false
set_option linter.unusedSimpArgs false

theorem infoD16 : (Tryz.prog.info? 31).map (·.size) = some 16 := by kernel_rfl
abbrev zeroD : List Value := [.int .i64 0, .int .u8 0, .int .i64 0, .int .i64 0, .int .i64 0, .int .i64 0, .string ⟨#[]⟩, .slice none 0 0, .int .i64 0, .int .i64 0, .int .i64 0, .int .i64 0, .int .i64 0, .int .i64 0, .slice none 0 0, .slice none 0 0]
def fC : Fl := ⟨5, 1, 0, 0, 0, 7, [47, 97], [120], 0, 0, 1, 0, 0, 0, [], 0⟩
def fO : Fl := ⟨8, 4, 0, 3, 0, 0, [], [], 0, 0, 0, 10, 0, 0, [], 0⟩
def fS : Fl := ⟨9, 6, 8, 4, 0, 0, [], [], 0, 0, 0, 0, 0, 0, [], 0⟩
theorem cells_chg (b : Nat) : ∀ (vs : List Value) (o : Nat) (w : World), Chg (fun k => k = b) w (w.setCells b o vs)
  | [], _, _ => Chg.refl _ _
  | v :: r, o, w => (Chg.setCell (S := fun k => k = b) w ⟨b, o, none⟩ v rfl).trans (cells_chg b r (o + 1) _)
set_option maxRecDepth 100000 in
set_option maxHeartbeats 2000000 in
theorem mk_any (w : World) : Calls Tryz.prog 13 #[.int .i64 5, .string (mkS [47, 97]), .int .i64 0, .int .i64 1] w fun e w' => e = .returned (.agg (dA fC (some ⟨w.heap.size + 1, 0, none⟩) none none 1 0 0)) ∧ Bs w' (.slice (some ⟨w.heap.size + 1, 0, none⟩) 1 1) [120] ∧ Below w.heap.size w w' := by
  have hth : ((w.alloc (.cells zeroD.toArray 31)).alloc (.cells #[.int .u8 120] 5 (1, 2))).there w.heap.size 0 16 := by
    refine there_of (cs := zeroD) (T := 31) ?_
    rw [(lay1 (w.alloc (.cells zeroD.toArray 31)) _).block w.heap.size (by simp)]
    exact heap_alloc_new w _
  have hbs0 : Bs ((w.alloc (.cells zeroD.toArray 31)).alloc (.cells #[.int .u8 120] 5 (1, 2))) (.slice (some ⟨w.heap.size + 1, 0, none⟩) 1 1) [120] := by
    refine .inr (.inr ⟨by simp, w.heap.size + 1, 0, 1, rfl, by simp, by simp, fun j hj => ?_⟩)
    have hh := heap_alloc_new (w.alloc (.cells zeroD.toArray 31)) (.cells #[.int .u8 120] 5 (1, 2))
    have e : (w.alloc (.cells zeroD.toArray 31)).heap.size = w.heap.size + 1 := by simp
    rw [e] at hh
    have : j = 0 := by simpa using hj
    subst this
    exact cell_at hh 0
  have hB0 : Below w.heap.size w ((w.alloc (.cells zeroD.toArray 31)).alloc (.cells #[.int .u8 120] 5 (1, 2))) := (lay1 w _).trans ((lay1 _ _).mono (by simp))
  have hone : (dA fC (some ⟨w.heap.size + 1, 0, none⟩) none none 1 0 0).all (·.oneCell') = true := by simp [fC, Value.oneCell']
  have hinf := infoD16
  have hcv : (convert 24 24 (.slice (some ⟨w.heap.size + 1, 0, none⟩) 1 1)).run Tryz.prog ((w.alloc (.cells zeroD.toArray 31)).alloc (.cells #[.int .u8 120] 5)) = .ok (.slice (some ⟨w.heap.size + 1, 0, none⟩) 1 1) ((w.alloc (.cells zeroD.toArray 31)).alloc (.cells #[.int .u8 120] 5 (1, 2))) := by
    have := Go.Lib.run_convert_bytes_const (P := Tryz.prog) (w.alloc (.cells zeroD.toArray 31)) 24 5 #[.int .u8 120] 1 1 Tryz.underlying24 Tryz.underlying5
    simpa using this
  have HF : Hid (((w.alloc (.cells zeroD.toArray 31)).alloc (.cells #[.int .u8 120] 5 (1, 2))).there w.heap.size 0 16 ∧ Bs ((w.alloc (.cells zeroD.toArray 31)).alloc (.cells #[.int .u8 120] 5 (1, 2))) (.slice (some ⟨w.heap.size + 1, 0, none⟩) 1 1) [120] ∧ Below w.heap.size w ((w.alloc (.cells zeroD.toArray 31)).alloc (.cells #[.int .u8 120] 5 (1, 2)))) := ⟨hth, hbs0, hB0⟩
  simp only [fC, zeroD, List.length_cons, List.length_nil] at hth hone
  simp only [zeroD] at hcv
  clear hbs0 hB0
  go_enter Tryz.func13, Tryz.ntmps13
  go_wp2_with (refine wpList_store_mid rfl 31 _ _ rfl w.heap.size 0 #[.int .i64 5, .int .u8 1, .int .i64 0, .int .i64 0, .int .i64 0, .int .i64 7, .string (mkS [47, 97]), .slice (some ⟨w.heap.size + 1, 0, none⟩) 1 1, .int .i64 0, .int .i64 0, .int .i64 1, .int .i64 0, .int .i64 0, .int .i64 0, .slice none 0 0, .slice none 0 0] rfl rfl hth hinf hone ?_)
  refine bodyPost_ret (tresults_row _ _ Tryz.results13 w.heap.size rfl (dA fC (some ⟨w.heap.size + 1, 0, none⟩) none none 1 0 0).toList _ ?_ Tryz.underlying31 rfl (by kernel_rfl)) rfl ⟨rfl, ?_, ?_⟩
  · exact World.rangeAt_setCells_same _ _ _ (dA fC (some ⟨w.heap.size + 1, 0, none⟩) none none 1 0 0).toList HF.out.1
  · exact Bs.keep HF.out.2.1 (cells_chg w.heap.size (dA fC (some ⟨w.heap.size + 1, 0, none⟩) none none 1 0 0).toList 0 _) (fun k hk e => by simp [bk] at hk; omega)
  · exact below_cells (Nat.le_refl _) _ _ _ HF.out.2.2

/- One text in each of two rows, the same. -/
set_option maxRecDepth 100000 in
theorem texts_one {w : World} {ga gb ca cb : Nat} {s : List UInt8} (ha : w.cell? ⟨ga, 0, none⟩ = some (.string (mkS s))) (hb : w.cell? ⟨gb, 0, none⟩ = some (.string (mkS s))) :
    Calls Tryz.prog 15 #[.slice (some ⟨ga, 0, none⟩) 1 ca, .slice (some ⟨gb, 0, none⟩) 1 cb] w fun e w' => e = .returned (.bool true) ∧ ∃ q, w' = w.drewN q := by
  go_enter Tryz.func15, Tryz.ntmps15
  go_wp2
  go_loopw [5] (fun i wr => ∃ (k q : Nat), k ≤ 1 ∧ i = .int .i64 k ∧ wr = w.drewN q) (fun i _ => 1 - (intOf i).toNat)
  case atStart => exact ⟨0, 0, Nat.zero_le _, rfl, rfl⟩
  case round =>
    obtain ⟨k, q, hk, rfl, rfl⟩ := hrel
    by_cases hlt : k < 1
    · obtain rfl : k = 0 := by omega
      go_wp2_with fail
      go_quiet (fail)
      go_wp2
      go_roundw
      case rel => exact ⟨1, q + nq, by omega, by go_num, rfl⟩
      case measure => simp [intOf]
    · obtain rfl : k = 1 := by omega
      go_wp2
      go_ret
      exact ⟨rfl, q, rfl⟩
/- One sitting in each of two rows, the same. -/
set_option maxRecDepth 100000 in
theorem sits_one {w : World} {ga gb ca cb : Nat} {x y z : Int} (a0 : w.cell? ⟨ga, 0, none⟩ = some (.int .i64 x)) (a1 : w.cell? ⟨ga, 1, none⟩ = some (.int .i64 y)) (a2 : w.cell? ⟨ga, 2, none⟩ = some (.int .i64 z)) (b0 : w.cell? ⟨gb, 0, none⟩ = some (.int .i64 x)) (b1 : w.cell? ⟨gb, 1, none⟩ = some (.int .i64 y)) (b2 : w.cell? ⟨gb, 2, none⟩ = some (.int .i64 z)) :
    Calls Tryz.prog 17 #[.slice (some ⟨ga, 0, none⟩) 1 ca, .slice (some ⟨gb, 0, none⟩) 1 cb] w fun e w' => e = .returned (.bool true) ∧ ∃ q, w' = w.drewN q := by
  go_enter Tryz.func17, Tryz.ntmps17
  go_wp2
  go_loopw [5] (fun i wr => ∃ (k q : Nat), k ≤ 1 ∧ i = .int .i64 k ∧ wr = w.drewN q) (fun i _ => 1 - (intOf i).toNat)
  case atStart => exact ⟨0, 0, Nat.zero_le _, rfl, rfl⟩
  case round =>
    obtain ⟨k, q, hk, rfl, rfl⟩ := hrel
    by_cases hlt : k < 1
    · obtain rfl : k = 0 := by omega
      go_wp2_with fail
      go_quiet (fail)
      go_wp2
      go_roundw
      case rel => exact ⟨1, q + nq, by omega, by go_num, rfl⟩
      case measure => simp [intOf]
    · obtain rfl : k = 1 := by omega
      go_wp2
      go_ret
      exact ⟨rfl, q, rfl⟩

/- A deed without parts and members, applied, if it is right. -/
theorem apply_leaf {w : World} {t m n : Nat} {N : List Fi} {S : List Si.Fi} (h : Tr w t m n N S) (hL : PA.Laid w) (f : Fl) (hk : f.kind = 1 ∨ f.kind = 4 ∨ f.kind = 6) (hm : f.mems = []) (hn : f.np = 0) (hr : rightD f [] = true) (hfit : DedFit f []) (hp : f.path.length ≤ 281474976710656) {A1 : Option Addr} {c1 : Nat} (hx : Bs w (.slice A1 f.data.length c1) f.data) (hl : f.data.length ≤ 1000) :
    Calls Tryz.prog 12 #[.pointer (some ⟨t, 0, none⟩), .agg (dA f A1 none none c1 0 0)] w fun e w' => e = .returned (.tuple #[]) ∧ Tr w' t m n (doN f N) (turnS f.session f.turn (doS f S)) ∧ Chg (Mn m n) w w' := by
  have := apply_core (N' := doN f N) (S' := doS f S) h hL f [] (A1 := A1) (A2 := none) (A3 := none) (c1 := c1) (c2 := 0) (c3 := 0) ⟨hx, by rw [hm]; exact .inl ⟨rfl, rfl⟩, by rw [hn]; exact .inl ⟨rfl, rfl⟩⟩ hfit (fun _ w' hB => by
    have h' := h.below hB
    have hL' := hL.below hB
    have hx' := Bs.below hx hB (fun _ hk => hx.lt hk)
    rcases hk with hk | hk | hk
    · exact do_create h' hL' f hk hp hx' hl
    · exact do_open h' hL' f hk hp hx' hl
    · exact do_sync h' hL' f hk hp hx' hl)
  rw [hr] at this
  simpa only [if_true] using this
theorem fC_fit : DedFit fC [] := ⟨by constructor <;> (try simp [fC, I64]) <;> decide, by simp, rfl⟩
theorem fC_right : rightD fC [] = true := by decide +kernel
theorem fO_right : rightD fO [] = true := by decide +kernel
theorem fS_right : rightD fS [] = true := by decide +kernel
end Go.Proofs.YtcdnfgibcochhaaGreatDoor

namespace Go.Proofs.YtcdnfgibcochhaaGreatDoor
set_option linter.unusedSimpArgs false
set_option linter.unusedVariables false
open Go.RowKit Go.MapKept

theorem aform {T : TypeId} {sz : Nat} {w : World} {base n : Nat} {v : Value} {xs : List Value} (h : w.ownsRow base T sz v n xs) : ∃ A C, v = .slice A n C := by
  rcases h.2 with ⟨rfl, rfl⟩ | ⟨g, cap, cur, rfl, _⟩
  · exact ⟨none, 0, rfl⟩
  · exact ⟨_, cap, rfl⟩
theorem store_let {P : Program} {ops : Array Oper} {rest : List Oper} {op : Oper} {a : Act} {w : World} {Q : Exit → Act → World → Prop} (hgd : op.guard = none) (ty : TypeId) (x y : Operand) (ho : op.op = .store ty x y)
    (b o : Nat) (cells : Array Value) (hx : a.eval x = .pointer (some ⟨b, o, none⟩)) (hy : a.eval y = .agg cells)
    (ht : w.there b o cells.size) (hi : (P.info? ty).map (·.size) = some cells.size) (h1 : cells.all (·.oneCell') = true)
    (h : ∀ w', w' = w.setCells b o cells.toList → wpList P ops Q rest (a.put op.dst undef) w') : wpList P ops Q (op :: rest) a w :=
  wpList_store_mid hgd ty x y ho b o cells hx hy ht hi h1 (h _ rfl)
/- A tree that the call has made. -/
def Aw (w0 w : World) (t m n : Nat) (N : List Fi) (S : List Si.Fi) : Prop := Tr w t m n N S ∧ PA.Laid w ∧ Below w0.heap.size w0 w ∧ ∀ k, Wt t m n k → w0.heap.size ≤ k
theorem Aw.below {w0 w w' : World} {t m n : Nat} {N : List Fi} {S : List Si.Fi} (h : Aw w0 w t m n N S) (hb : Below w.heap.size w w') : Aw w0 w' t m n N S :=
  ⟨h.1.below hb, h.2.1.below hb, h.2.2.1.trans (hb.mono h.2.2.1.size), h.2.2.2⟩
theorem Aw.apply {w0 w : World} {t m n : Nat} {N : List Fi} {S : List Si.Fi} (h : Aw w0 w t m n N S) (f : Fl) (hk : f.kind = 1 ∨ f.kind = 4 ∨ f.kind = 6) (hm : f.mems = []) (hn : f.np = 0) (hr : rightD f [] = true) (hfit : DedFit f []) (hp : f.path.length ≤ 281474976710656) {A1 : Option Addr} {c1 : Nat} (hx : Bs w (.slice A1 f.data.length c1) f.data) (hl : f.data.length ≤ 1000) :
    Calls Tryz.prog 12 #[.pointer (some ⟨t, 0, none⟩), .agg (dA f A1 none none c1 0 0)] w fun e w' => e = .returned (.tuple #[]) ∧ Aw w0 w' t m n (doN f N) (turnS f.session f.turn (doS f S)) ∧ Chg (Mn m n) w w' := by
  refine (apply_leaf h.1 h.2.1 f hk hm hn hr hfit hp hx hl).mono ?_
  rintro e w' ⟨rfl, h1, c1⟩
  refine ⟨rfl, ⟨h1, laid_chg h.2.1 h.1 c1, h.2.2.1.trans (c1.below ?_ h.2.2.1.size), h.2.2.2⟩, c1⟩
  rintro k (rfl | rfl)
  · exact h.2.2.2 _ (.inr (.inl rfl))
  · exact h.2.2.2 _ (.inr (.inr rfl))
theorem Aw.look {w : World} {t m n : Nat} {N : List Fi} {S : List Si.Fi} (h : Tr w t m n N S) (p : List UInt8) {q : Fi} (hq : lookF p N = some q) : ∃ L K, Tk w t m n L K ∧ L.map Prod.fst = N ∧ K.map Prod.fst = S ∧ ∃ A C, look p L = some (q, .slice A q.b.length C) := by
  obtain ⟨L, K, hT, rfl, rfl⟩ := h
  rw [← look_F] at hq
  cases hl : YtcdnfgibcochhaaGreatDoor.look p L with
  | none => rw [hl] at hq; simp at hq
  | some v =>
    obtain ⟨q', v⟩ := v
    rw [hl] at hq
    obtain rfl : q' = q := by simpa using hq
    obtain ⟨A, C, hv⟩ := aform (hT.bs _ (look_some hl).1)
    simp only at hv
    subst hv
    exact ⟨L, K, hT, rfl, rfl, A, C, hl⟩
theorem names_F (L : List Fv) : (L.map fun q => q.1.nm) = (L.map Prod.fst).map (·.nm) := by simp
theorem Aw.get {w0 w : World} {t m n : Nat} {N : List Fi} {S : List Si.Fi} (h : Aw w0 w t m n N S) (hlen : N.length ≤ 1000000) (p : List UInt8) (hp : p.length ≤ 1000000) {q : Fi} (hq : lookF p N = some q) :
    Calls Tryz.prog 14 #[.pointer (some ⟨t, 0, none⟩), .string (mkS p)] w fun e w' => ∃ A' C', e = .returned (.tuple #[.agg (toldA p q A' C' ((N.map (·.nm)).filter (kid p)).length), .bool true]) ∧ w'.ownsRow w.heap.size 5 1 (.slice A' q.b.length C') q.b.length (bv q.b) ∧ Aw w0 w' t m n N S ∧ Below w.heap.size w w' := by
  obtain ⟨L, K, hT, hL, hK, A, C, hl⟩ := Aw.look h.1 p hq
  refine (get_yes hT h.2.1 (by rw [← hL] at hlen; simpa using hlen) p hp hl).mono ?_
  rintro e w' ⟨A', C', rfl, ho, hb⟩
  rw [names_F, hL]
  exact ⟨A', C', rfl, ho, h.below hb, hb⟩
theorem Aw.list {w0 w : World} {t m n : Nat} {N : List Fi} {S : List Si.Fi} (h : Aw w0 w t m n N S) (hlen : N.length ≤ 1000000) (p x : List UInt8) {q : Fi} (hq : lookF p N = some q) (hx : sortN (((N.map (·.nm)).filter (kid p)).map PA.lastS) = [x]) :
    Calls Tryz.prog 22 #[.pointer (some ⟨t, 0, none⟩), .string (mkS p)] w fun e w' => ∃ g C', e = .returned (.tuple #[.slice (some ⟨g, 0, none⟩) 1 C', .bool true]) ∧ (g < w'.heap.size ∧ w.heap.size ≤ g ∧ w'.cell? ⟨g, 0, none⟩ = some (.string (mkS x))) ∧ Aw w0 w' t m n N S ∧ Below w.heap.size w w' := by
  obtain ⟨L, K, hT, hL, hK, A, C, hl⟩ := Aw.look h.1 p hq
  refine (list_yes hT h.2.1 (by rw [← hL] at hlen; simpa using hlen) p hl).mono ?_
  rintro e w' ⟨ns, A', C', rfl, hns, ho, hb⟩
  rw [names_F, hL, hx] at hns
  subst hns
  obtain ⟨g, rfl, h1, h2⟩ := ttext_at ho 0 (by simp)
  exact ⟨g, C', rfl, ⟨h1, (ho.lt g rfl).1, h2⟩, h.below hb, hb⟩
theorem Aw.sits {w0 w : World} {t m n : Nat} {N : List Fi} {q : Si.Fi} (h : Aw w0 w t m n N [q]) :
    Calls Tryz.prog 18 #[.pointer (some ⟨t, 0, none⟩)] w fun e w' => ∃ g C', e = .returned (.slice (some ⟨g, 0, none⟩) 1 C') ∧ (g < w'.heap.size ∧ w'.cell? ⟨g, 0, none⟩ = some (.int .i64 q.nm) ∧ w'.cell? ⟨g, 1, none⟩ = some (.int .i64 q.tmo) ∧ w'.cell? ⟨g, 2, none⟩ = some (.int .i64 q.turn)) ∧ Below w.heap.size w w' := by
  obtain ⟨⟨L, K, hT, hL, hK⟩, _⟩ := h
  obtain rfl : K = [(q, ())] := by
    rcases K with _ | ⟨⟨a, u⟩, K⟩
    · simp at hK
    · simp at hK
      obtain ⟨rfl, rfl⟩ := hK
      rfl
  refine (Si.sittings_any hT (by simp)).mono ?_
  rintro e w' ⟨A, C, rfl, ho, hb⟩
  have e1 : (Si.sortS ([(q, ())].map fun p => p.1.nm)).flatMap (Si.encS [(q, ())]) = [.int .i64 q.nm, .int .i64 q.tmo, .int .i64 q.turn] := by
    simp [Si.sortS, Si.encS, Si.look]
  rw [e1] at ho
  rcases ho.2 with ⟨hv, h0⟩ | ⟨g, cap, cur, hv, hb', hg, hr⟩
  · simp at h0
  · cases hv
    exact ⟨g, C, rfl, ⟨theap_lt hg, by rw [ho.cellAt 0 (by simp)]; rfl, by rw [ho.cellAt 1 (by simp)]; rfl, by rw [ho.cellAt 2 (by simp)]; rfl⟩, hb⟩
/- What a told node lies in. -/
theorem told_lies {w w' : World} {vs : List Value} (hw : w' = (w.alloc (.cells zeroA.toArray 47)).setCells w.heap.size 0 vs) (hl : vs.length = 12) : Below w.heap.size w w' ∧ w.heap.size < w'.heap.size ∧ ∀ j v, vs[j]? = some v → w'.cell? ⟨w.heap.size, j, none⟩ = some v := by
  have hth : (w.alloc (.cells zeroA.toArray 47)).there w.heap.size 0 12 := there_of (cs := zeroA) (heap_alloc_new w _)
  have h1 : Below w.heap.size w w' := by rw [hw]; exact below_cells (Nat.le_refl _) _ _ _ (lay1 w _)
  have h2 : ∀ j v, vs[j]? = some v → w'.cell? ⟨w.heap.size, j, none⟩ = some v := by
    intro j v hv
    rw [hw]
    have := World.rangeAt_setCells_same _ w.heap.size 0 vs (by rw [hl]; exact hth) j v hv
    rw [Nat.zero_add] at this
    exact this
  refine ⟨h1, ?_, h2⟩
  exact World.block_lt_of_cell? w' _ (h2 0 (vs[0]'(by omega)) (by simp))

def nA : Fi := ⟨[47, 97], [120], ⟨5, 5, 5, 7, 7, 0, 0, 0, 0, 0⟩⟩
def nR : Fi := ⟨[47], [], ⟨0, 0, 5, 0, 0, 0, 1, 0, 0, 0⟩⟩
theorem N1_is : doN fC [⟨[47], [], zeroSt⟩] = [nR, nA] := by decide +kernel
theorem S1_is : turnS fC.session fC.turn (doS fC []) = [] := by decide +kernel
theorem N2_is : doN fO [nR, nA] = [nR, nA] := by decide +kernel
theorem S2_is : turnS fO.session fO.turn (doS fO []) = [⟨8, 10, 3⟩] := by decide +kernel
theorem N3_is : doN fS [nR, nA] = [nR, nA] := by decide +kernel
theorem S3_is : turnS fS.session fS.turn (doS fS [⟨8, 10, 3⟩]) = [⟨8, 10, 4⟩] := by decide +kernel
theorem lookA : lookF [47, 97] [nR, nA] = some nA := by decide +kernel
theorem lookR : lookF [47] [nR, nA] = some nR := by decide +kernel
theorem kidsA : (([nR, nA].map (·.nm)).filter (kid [47, 97])).length = 0 := by decide +kernel
theorem kidsR : (([nR, nA].map (·.nm)).filter (kid [47])).length = 1 := by decide +kernel
theorem listR : sortN ((([nR, nA].map (·.nm)).filter (kid [47])).map PA.lastS) = [[97]] := by
  have : (([nR, nA].map (·.nm)).filter (kid [47])).map PA.lastS = [[97]] := by decide +kernel
  rw [this]; simp [sortN]
theorem fO_fit : DedFit fO [] := ⟨by constructor <;> (try simp [fO, I64]) <;> decide, by simp, rfl⟩
theorem fS_fit : DedFit fS [] := ⟨by constructor <;> (try simp [fS, I64]) <;> decide, by simp, rfl⟩
end Go.Proofs.YtcdnfgibcochhaaGreatDoor

namespace Go.Proofs.YtcdnfgibcochhaaGreatDoor
set_option linter.unusedSimpArgs false
set_option linter.unusedVariables false
open Go.RowKit Go.MapKept
theorem get_a {w0 w : World} {t m n : Nat} {S : List Si.Fi} (h : Aw w0 w t m n [nR, nA] S) :
    Calls Tryz.prog 14 #[.pointer (some ⟨t, 0, none⟩), .string (mkS [47, 97])] w fun e w' => ∃ A C, e = .returned (.tuple #[.agg #[.string (mkS [47, 97]), .slice A 1 C, .int .i64 5, .int .i64 5, .int .i64 5, .int .i64 7, .int .i64 7, .int .i64 0, .int .i64 0, .int .i64 0, .int .i64 1, .int .i64 0], .bool true]) ∧ w'.ownsRow w.heap.size 5 1 (.slice A 1 C) 1 (bv [120]) ∧ Aw w0 w' t m n [nR, nA] S ∧ Below w.heap.size w w' := by
  have c4 := h.get (by simp) [47, 97] (by simp) lookA
  rw [kidsA] at c4
  refine c4.mono ?_
  rintro e w' ⟨A, C, rfl, ho, h1, h2⟩
  exact ⟨A, C, rfl, ho, h1, h2⟩
theorem one_get_a (A : Option Addr) (C : Nat) : (#[.string (mkS [47, 97]), .slice A 1 C, .int .i64 5, .int .i64 5, .int .i64 5, .int .i64 7, .int .i64 7, .int .i64 0, .int .i64 0, .int .i64 0, .int .i64 1, .int .i64 0] : Array Value).all (·.oneCell') = true := by simp [Value.oneCell']
theorem get_r {w0 w : World} {t m n : Nat} {S : List Si.Fi} (h : Aw w0 w t m n [nR, nA] S) :
    Calls Tryz.prog 14 #[.pointer (some ⟨t, 0, none⟩), .string (mkS [47])] w fun e w' => ∃ A C, e = .returned (.tuple #[.agg #[.string (mkS [47]), .slice A 0 C, .int .i64 0, .int .i64 0, .int .i64 5, .int .i64 0, .int .i64 0, .int .i64 0, .int .i64 1, .int .i64 0, .int .i64 0, .int .i64 1], .bool true]) ∧ w'.ownsRow w.heap.size 5 1 (.slice A 0 C) 0 (bv []) ∧ Aw w0 w' t m n [nR, nA] S ∧ Below w.heap.size w w' := by
  have c4 := h.get (by simp) [47] (by simp) lookR
  rw [kidsR] at c4
  refine c4.mono ?_
  rintro e w' ⟨A, C, rfl, ho, h1, h2⟩
  exact ⟨A, C, rfl, ho, h1, h2⟩
theorem one_get_r (A : Option Addr) (C : Nat) : (#[.string (mkS [47]), .slice A 0 C, .int .i64 0, .int .i64 0, .int .i64 5, .int .i64 0, .int .i64 0, .int .i64 0, .int .i64 1, .int .i64 0, .int .i64 0, .int .i64 1] : Array Value).all (·.oneCell') = true := by simp [Value.oneCell']
set_option maxRecDepth 100000 in
set_option maxHeartbeats 1000000 in
theorem awake_any (w : World) (hL : PA.Laid w) : Calls Tryz.prog 8 #[] w fun e w' => e = .returned (.bool true) ∧ Below w.heap.size w w' := by
  have c1 := new_tr w
  have HL : Hid (PA.Laid w) := hL
  clear hL
  go_enter Tryz.func8, Tryz.ntmps8
  go_wp2_with fail
  refine c1.mono ?_
  rintro e w1 ⟨t, m, n, rfl, hT1, hW1, hb1⟩
  have H1 : Hid (Aw w w1 t m n [⟨[47], [], zeroSt⟩] []) := ⟨hT1, HL.out.below hb1, hb1, hW1⟩
  have c2 := mk_any w1
  clear c1 hT1 hW1 hb1
  go_wp2_with fail
  refine c2.mono ?_
  rintro e w2 ⟨rfl, hbs, hb2⟩
  have c3 := (H1.out.below hb2).apply fC (by simp [fC]) rfl rfl fC_right fC_fit (by simp [fC]) hbs (by simp [fC])
  rw [N1_is, S1_is] at c3
  clear c2 hbs hb2
  simp only [dA, fC, List.length_cons, List.length_nil] at c3 ⊢
  go_wp2_with fail
  refine c3.mono ?_
  rintro e w3 ⟨rfl, h3, k3⟩
  have H3 : Hid (Aw w w3 t m n [nR, nA] []) := h3
  have c4 := get_a h3
  clear c3 h3 k3
  go_wp2_with fail
  refine c4.mono ?_
  rintro e w4 ⟨A4, C4, rfl, ho4, h4, hb4⟩
  have H4 : Hid (Aw w w4 t m n [nR, nA] [] ∧ w4.ownsRow w3.heap.size 5 1 (.slice A4 1 C4) 1 (bv [120]) ∧ Below w3.heap.size w3 w4) := ⟨h4, ho4, hb4⟩
  have HMN : Hid ((m < w4.heap.size ∧ n < w4.heap.size) ∧ ∀ k, bk (.slice A4 1 C4) = some k → k ≠ m ∧ k ≠ n) := by
    have h3l := H3.out.1.lt
    have hs := H4.out.2.2.size
    refine ⟨⟨by omega, by omega⟩, fun k hk => ?_⟩
    cases A4 with
    | none => simp [bk] at hk
    | some ad =>
      have hk' : ad.block = k := by simpa [bk] using hk
      have := (H4.out.2.1.lt ad.block rfl).1
      omega
  have HA4 : Hid (Bs w4 (.slice A4 1 C4) [120]) := Bs.of_owns ho4
  have c5 := get_r (h4.below (lay1 w4 (.cells #[.string (mkS [47, 97]), .slice A4 1 C4, .int .i64 5, .int .i64 5, .int .i64 5, .int .i64 7, .int .i64 7, .int .i64 0, .int .i64 0, .int .i64 0, .int .i64 1, .int .i64 0] 47)))
  clear c4 ho4 h4 hb4
  go_wp2_with fail
  refine c5.mono ?_
  rintro e w6 ⟨A6, C6, rfl, ho6, h6, hb6⟩
  have hbA : Below w4.heap.size w4 w6 := (lay1 w4 _).trans (hb6.mono (by simp))
  have hgA : w6.heap[w4.heap.size]? = some (.cells #[.string (mkS [47, 97]), .slice A4 1 C4, .int .i64 5, .int .i64 5, .int .i64 5, .int .i64 7, .int .i64 7, .int .i64 0, .int .i64 0, .int .i64 0, .int .i64 1, .int .i64 0] 47 (0, 0)) := by rw [hb6.block _ (by simp)]; exact heap_alloc_new w4 _
  have HG6 : Hid (w6.heap[w4.heap.size]? = some (.cells #[.string (mkS [47, 97]), .slice A4 1 C4, .int .i64 5, .int .i64 5, .int .i64 5, .int .i64 7, .int .i64 7, .int .i64 0, .int .i64 0, .int .i64 0, .int .i64 1, .int .i64 0] 47 (0, 0)) ∧ Bs w6 (.slice A4 1 C4) [120] ∧ w4.heap.size < w6.heap.size) := ⟨hgA, Bs.below HA4.out hbA (fun k hk => HA4.out.lt hk), theap_lt hgA⟩
  have c7 := Aw.list (h6.below (lay1 w6 (.cells #[.string (mkS [47]), .slice A6 0 C6, .int .i64 0, .int .i64 0, .int .i64 5, .int .i64 0, .int .i64 0, .int .i64 0, .int .i64 1, .int .i64 0, .int .i64 0, .int .i64 1] 47))) (by simp) [47] [97] lookR listR
  have H6 : Hid (Aw w w6 t m n [nR, nA] []) := h6
  clear c5 ho6 h6 hb6 hbA hgA
  go_wp2_with fail
  refine c7.mono ?_
  rintro e w7 ⟨gl, C7, rfl, hl7, h7, hb7⟩
  have hb67 : Below w6.heap.size w6 w7 := (lay1 w6 _).trans (hb7.mono (by simp))
  have HG7 : Hid (w7.heap[w6.heap.size]? = some (.cells #[.string (mkS [47]), .slice A6 0 C6, .int .i64 0, .int .i64 0, .int .i64 5, .int .i64 0, .int .i64 0, .int .i64 0, .int .i64 1, .int .i64 0, .int .i64 0, .int .i64 1] 47 (0, 0)) ∧ w7.heap[w4.heap.size]? = some (.cells #[.string (mkS [47, 97]), .slice A4 1 C4, .int .i64 5, .int .i64 5, .int .i64 5, .int .i64 7, .int .i64 7, .int .i64 0, .int .i64 0, .int .i64 0, .int .i64 1, .int .i64 0] 47 (0, 0)) ∧ Bs w7 (.slice A4 1 C4) [120] ∧ w7.cell? ⟨gl, 0, none⟩ = some (.string (mkS [97])) ∧ (w4.heap.size < w6.heap.size ∧ w6.heap.size < w7.heap.size ∧ w6.heap.size ≤ gl ∧ gl < w7.heap.size)) := by
    have e1 : w7.heap[w6.heap.size]? = some (.cells #[.string (mkS [47]), .slice A6 0 C6, .int .i64 0, .int .i64 0, .int .i64 5, .int .i64 0, .int .i64 0, .int .i64 0, .int .i64 1, .int .i64 0, .int .i64 0, .int .i64 1] 47 (0, 0)) := by rw [hb7.block _ (by simp)]; exact heap_alloc_new w6 _
    refine ⟨e1, ?_, Bs.below HG6.out.2.1 hb67 (fun k hk => HG6.out.2.1.lt hk), hl7.2.2, HG6.out.2.2, theap_lt e1, ?_, hl7.1⟩
    · rw [hb67.block _ HG6.out.2.2]; exact HG6.out.1
    · have := hl7.2.1; simp at this; omega
  have H7 : Hid (Aw w w7 t m n [nR, nA] []) := h7
  have c8 := h7.apply fO (by simp [fO]) rfl rfl fO_right fO_fit (by simp [fO]) (A1 := none) (c1 := 0) (.inl ⟨rfl, rfl⟩) (by simp [fO])
  rw [N2_is, S2_is] at c8
  simp only [dA, fO, List.length_cons, List.length_nil, mkS] at c8
  clear c7 hl7 h7 hb7 hb67
  go_wp2_with fail
  refine c8.mono ?_
  rintro e w8 ⟨rfl, h8, k8⟩
  have c9 := h8.apply fS (by simp [fS]) rfl rfl fS_right fS_fit (by simp [fS]) (A1 := none) (c1 := 0) (.inl ⟨rfl, rfl⟩) (by simp [fS])
  rw [N3_is, S3_is] at c9
  simp only [dA, fS, List.length_cons, List.length_nil, mkS] at c9
  have HK8 : Hid (Chg (Mn m n) w7 w8) := k8
  clear c8 h8 k8
  go_wp2_with fail
  refine c9.mono ?_
  rintro e w9 ⟨rfl, h9, k9⟩
  have HK9 : Chg (Mn m n) w7 w9 := HK8.out.trans k9
  have e1 : w9.heap[w6.heap.size]? = some (.cells #[.string (mkS [47]), .slice A6 0 C6, .int .i64 0, .int .i64 0, .int .i64 5, .int .i64 0, .int .i64 0, .int .i64 0, .int .i64 1, .int .i64 0, .int .i64 0, .int .i64 1] 47 (0, 0)) := by
    have h1 := HMN.out.1; have h2 := HG7.out.2.2.2.2
    rw [HK9.block _ h2.2.1 (by rintro (e | e) <;> omega)]; exact HG7.out.1
  have e2 : w9.heap[w4.heap.size]? = some (.cells #[.string (mkS [47, 97]), .slice A4 1 C4, .int .i64 5, .int .i64 5, .int .i64 5, .int .i64 7, .int .i64 7, .int .i64 0, .int .i64 0, .int .i64 0, .int .i64 1, .int .i64 0] 47 (0, 0)) := by
    have h1 := HMN.out.1; have h2 := HG7.out.2.2.2.2
    rw [HK9.block _ (by omega) (by rintro (e | e) <;> omega)]; exact HG7.out.2.1
  have e3 : Bs w9 (.slice A4 1 C4) [120] := HG7.out.2.2.1.keep HK9 (fun k hk => by
    have := HMN.out.2 k hk
    rintro (e | e) <;> omega)
  have e4 : w9.cell? ⟨gl, 0, none⟩ = some (.string (mkS [97])) := by
    have h1 := HMN.out.1; have h2 := HG7.out.2.2.2.2
    rw [HK9.cell (a := ⟨gl, 0, none⟩) h2.2.2.2 (by rintro (e | e) <;> (have e' : gl = _ := e; omega))]; exact HG7.out.2.2.2.1
  have a1 := cell_at e2 1
  have a2 := cell_at e2 2
  have a3 := cell_at e2 3
  have a4 := cell_at e2 4
  have a5 := cell_at e2 5
  have a6 := cell_at e2 6
  have a7 := cell_at e2 7
  have a8 := cell_at e2 8
  have a9 := cell_at e2 9
  have a10 := cell_at e2 10
  have a11 := cell_at e2 11
  have r2 := cell_at e1 2
  have r3 := cell_at e1 3
  have r4 := cell_at e1 4
  have r5 := cell_at e1 5
  have r6 := cell_at e1 6
  have r7 := cell_at e1 7
  have r8 := cell_at e1 8
  have r9 := cell_at e1 9
  have r10 := cell_at e1 10
  have r11 := cell_at e1 11
  simp at a1 a2 a3 a4 a5 a6 a7 a8 a9 a10 a11 r2 r3 r4 r5 r6 r7 r8 r9 r10 r11
  have hcv := convert_bytes e3
  have hgl : gl < w9.heap.size := Nat.lt_of_lt_of_le HG7.out.2.2.2.2.2.2.2 HK9.size
  have c10 := texts_one (w := w9.alloc (.cells #[.string (mkS [97])] 9)) (ga := gl) (gb := w9.heap.size) (ca := C7) (cb := 1) (s := [97]) (by
      rw [(lay1 w9 _).cell (p := ⟨gl, 0, none⟩) hgl]; exact e4) (cell_at (heap_alloc_new w9 _) 0)
  have H9 : Hid (Aw w w9 t m n [nR, nA] [⟨8, 10, 4⟩]) := h9
  clear c9 h9 k9 HK9 e1 e2 e3 e4 hgl
  simp only [mkS] at c10 hcv
  go_wp2_with fail
  refine c10.mono ?_
  rintro e w10 ⟨rfl, q, rfl⟩
  have h10 : Aw w ((w9.alloc (.cells #[.string (mkS [97])] 9)).drewN q) t m n [nR, nA] [⟨8, 10, 4⟩] := (H9.out.below (lay1 w9 _)).below (below_drewN (Below.refl _ _) q)
  have c11 := h10.sits
  have H10 : Hid (Below w.heap.size w ((w9.alloc (.cells #[.string (mkS [97])] 9)).drewN q)) := h10.2.2.1
  simp only [mkS] at c11
  clear c10 h10 a1 a2 a3 a4 a5 a6 a7 a8 a9 a10 a11 r2 r3 r4 r5 r6 r7 r8 r9 r10 r11 hcv
  go_wp2_with fail
  refine c11.mono ?_
  rintro e w11 ⟨g, C11, rfl, ⟨hg, s0, s1, s2⟩, hb11⟩
  have H11 : Hid (Below w.heap.size w w11) := H10.out.trans (hb11.mono H10.out.size)
  have c12 := sits_one (w := w11.alloc (.cells #[.int .i64 8, .int .i64 10, .int .i64 4] 57)) (ga := g) (gb := w11.heap.size) (ca := C11) (cb := 1) (x := 8) (y := 10) (z := 4)
    (by rw [(lay1 w11 _).cell (p := ⟨g, 0, none⟩) hg]; exact s0) (by rw [(lay1 w11 _).cell (p := ⟨g, 1, none⟩) hg]; exact s1) (by rw [(lay1 w11 _).cell (p := ⟨g, 2, none⟩) hg]; exact s2)
    (cell_at (heap_alloc_new w11 _) 0) (cell_at (heap_alloc_new w11 _) 1) (cell_at (heap_alloc_new w11 _) 2)
  clear c11 s0 s1 s2 hb11 hg
  go_wp2_with fail
  refine c12.mono ?_
  rintro e w12 ⟨rfl, q12, rfl⟩
  have H12 : Hid (Below w.heap.size w ((w11.alloc (.cells #[.int .i64 8, .int .i64 10, .int .i64 4] 57)).drewN q12)) := below_drewN (H11.out.trans ((lay1 w11 _).mono H11.out.size)) q12
  clear c12
  go_wp2_with fail
  go_ret
  exact ⟨rfl, H12.out⟩
end Go.Proofs.YtcdnfgibcochhaaGreatDoor
