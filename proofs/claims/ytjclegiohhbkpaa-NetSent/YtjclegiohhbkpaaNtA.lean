/- Bags in a map whose keys are pairs: what such a map holds, and what reading, storing, taking away and going through it do. No function of the program in this text. -/
import Derived.Test.YtjclegiohhbkpaaDkBase
import Derived.WideKeyRuns
import Derived.Laws.StructEq
namespace Go.Proofs.Ytjclegiohhbkpaa
open Go.RowKit Go.MapKept
open Go.ChangeMaps (setBlock)

/- A bag: its link, the slice that stands in the map, its packets with the slices that hold them. -/
structure Bg where
  k : Int × Int
  v : Value
  ps : List (List UInt8 × Value)

def keyV (k : Int × Int) : Value := .agg #[.int .i64 k.1, .int .i64 k.2]
theorem keyV_inj {a b : Int × Int} (h : keyV a = keyV b) : a = b := by
  obtain ⟨a1, a2⟩ := a
  obtain ⟨b1, b2⟩ := b
  simp only [keyV] at h
  injection h with h
  simpa using h
def kvOf (p : Bg) : Value × Value := (keyV p.k, p.v)
def kv (e : MapEntry) : Value × Value := (e.key, e.val)

def look (k : Int × Int) : List Bg → Option Bg
  | [] => none
  | q :: L => if q.k = k then some q else look k L
def putL (p : Bg) : List Bg → List Bg
  | [] => [p]
  | q :: L => if q.k = p.k then p :: L else q :: putL p L
def delL (k : Int × Int) : List Bg → List Bg
  | [] => []
  | q :: L => if q.k = k then L else q :: delL k L

def MapIs (w : World) (m : Nat) (L : List Bg) : Prop :=
  ∃ es clock, w.heap[m]? = some (.map es clock) ∧ es.toList.map kv = L.map kvOf ∧ Stamped es clock

theorem undK : Try.prog.underlying 56 = some (.array 2 3) := Try.underlying56
theorem und3 : Try.prog.underlying 3 = some (.int .i64) := Try.underlying3
theorem undM : Try.prog.underlying 38 = some (.map 56 42) := Try.underlying38
theorem info3 : (Try.prog.info? 3).map (fun i => (i.zero, i.size, i.bytes)) = some (some (.int .i64 0), 1, 8) := by kernel_rfl
theorem plain3 : Try.prog.plainKey 3 = true := by unfold Program.plainKey; rw [und3]
theorem cells3 : Try.prog.cellsOf 3 = 1 := by kernel_rfl

theorem run_eqAgg (d : Nat) (a b : Int × Int) (w : World) : (Op.equalIn (d + 2) 56 (keyV a) (keyV b)).run Try.prog w = .ok (decide (a = b)) w := by
  obtain ⟨i0, hi, hz0, hz1, hz2⟩ := info_parts info3
  obtain ⟨a1, a2⟩ := a
  obtain ⟨b1, b2⟩ := b
  simp only [keyV]
  rw [run_equalIn_array w (d + 1) _ _ undK hi, cells3]
  have p0 : ∀ (x y : Int), (part 3 #[.int .i64 x, .int .i64 y] (0 * 1)).run Try.prog w = .ok (.int .i64 x) w := fun x y => run_part_plain w plain3 rfl
  have e : ∀ x y : Int, (Op.equalIn (d + 1) 3 (.int .i64 x) (.int .i64 y)).run Try.prog w = .ok (x == y) w := fun x y => run_equalIn_int w d 3 .i64 .i64 x y und3
  show (Op.eqItems (d + 1) 3 1 _ _ [0, 1]).run Try.prog w = _
  simp only [Op.eqItems, Sem.run_bind, p0, e, Result.andThen_ok]
  have q1 : ∀ (x y : Int), (part 3 #[.int .i64 x, .int .i64 y] 1).run Try.prog w = .ok (.int .i64 y) w := fun x y => run_part_plain w plain3 rfl
  by_cases h1 : a1 = b1
  · by_cases h2 : a2 = b2
    · simp [h1, h2, q1, e]
    · simp [h1, h2, q1, e, (by simpa using h2 : (a2 == b2) = false)]
  · simp [h1, (by simpa using h1 : (a1 == b1) = false)]
theorem run_eqK (w : World) (a b : Int × Int) : (Op.equal 56 (keyV a) (keyV b)).run Try.prog w = .ok (decide (a = b)) w := run_eqAgg 9998 a b w
theorem run_neqA (w : World) (a b : Int × Int) : (binOp .neq 56 (keyV a) (keyV b)).run Try.prog w = .ok (.bool (!decide (a = b))) w := by
  have h := run_eqAgg 9998 a b w
  simp only [keyV] at h ⊢
  rw [run_neq_struct, h]
  rfl
theorem run_eqlA (w : World) (a b : Int × Int) : (binOp .eql 56 (keyV a) (keyV b)).run Try.prog w = .ok (.bool (decide (a = b))) w := by
  have h := run_eqAgg 9998 a b w
  simp only [keyV] at h ⊢
  rw [run_eql_struct, h]
  rfl
theorem run_checkK (w : World) (em : Bool) (k : Int × Int) : (Instr.checkKey em 10000 56 (keyV k)).run Try.prog w = .ok () w := by
  obtain ⟨i0, hi, hz0, hz1, hz2⟩ := info_parts info3
  have c : ∀ (x : Int), (Instr.checkKey em 9999 3 (.int .i64 x)).run Try.prog w = .ok () w := fun x => Go.MapKept.run_checkKey und3 (d := .int .i64) (k := .int .i64 x) rfl em 9998
  have p0 : ∀ (x y : Int), (part 3 #[.int .i64 x, .int .i64 y] 0).run Try.prog w = .ok (.int .i64 x) w := fun x y => run_part_plain w plain3 rfl
  have p1 : ∀ (x y : Int), (part 3 #[.int .i64 x, .int .i64 y] 1).run Try.prog w = .ok (.int .i64 y) w := fun x y => run_part_plain w plain3 rfl
  have hs : (sizeOf 3).run Try.prog w = .ok 1 w := by rw [run_sizeOf w hi, cells3]
  rw [Instr.checkKey]
  simp only [Sem.run_bind, run_underlying undK, Result.andThen_ok, keyV, Std.Legacy.Range.forIn_eq_forIn_range', Std.Legacy.Range.size]
  rw [show List.range' 0 ((2 - 0 + 1 - 1) / 1) = [0, 1] from rfl]
  simp [Sem.run_bind, hs, p0, p1, c, Result.andThen_ok]

theorem run_find (k : Int × Int) (p : Bg) (hp : p.k = k) (w : World) : ∀ (es : List MapEntry) (L : List Bg) (i : Nat), es.map kv = L.map kvOf →
    ((Instr.findAsking 56 (keyV k) es i).run Try.prog w = .ok none w ∧ look k L = none ∧ putL p L = L ++ [p] ∧ delL k L = L ∧ ∀ x ∈ es, x.key ≠ keyV k) ∨
    ∃ j e q, (Instr.findAsking 56 (keyV k) es i).run Try.prog w = .ok (some (i + j, e.val)) w ∧ es[j]? = some e ∧ L[j]? = some q ∧ look k L = some q ∧ e.key = keyV k ∧ e.val = q.v ∧ q.k = k ∧ putL p L = L.set j p ∧ delL k L = L.eraseIdx j
  | [], [], _, _ => .inl ⟨rfl, rfl, rfl, rfl, by simp⟩
  | [], q :: L, _, h => by cases h
  | e :: es, [], _, h => by cases h
  | e :: es, q :: L, i, h => by
    simp only [List.map_cons, List.cons.injEq] at h
    obtain ⟨h0, ht⟩ := h
    have hk : e.key = keyV q.k := congrArg Prod.fst h0
    have hv : e.val = q.v := congrArg Prod.snd h0
    by_cases hq : q.k = k
    · refine .inr ⟨0, e, q, ?_, rfl, rfl, by simp [look, hq], by rw [hk, hq], hv, hq, by simp [putL, hq, hp], by simp [delL, hq]⟩
      simp [Instr.findAsking, hk, hq, run_eqK]
    · have hq' : ¬ k = q.k := fun e => hq e.symm
      rcases run_find k p hp w es L (i + 1) ht with ⟨h1, h2, h3, h4, h5⟩ | ⟨j, e', q', h1, h2, h2', h3, h4, h5, h6, h7, h8⟩
      · refine .inl ⟨?_, by simp [look, hq, h2], by simp [putL, hq, hp, h3], by simp [delL, hq, h4], ?_⟩
        · simp [Instr.findAsking, hk, run_eqK, hq', h1]
        · intro x hx
          rcases List.mem_cons.1 hx with rfl | hx
          · rw [hk]; intro e; exact hq (keyV_inj e)
          · exact h5 x hx
      · refine .inr ⟨j + 1, e', q', ?_, by simpa using h2, by simpa using h2', by simp [look, hq, h3], h4, h5, h6, by simp [putL, hq, hp, h7], by simp [delL, hq, h8]⟩
        simp [Instr.findAsking, hk, run_eqK, hq', h1]; omega
theorem wideK : (match Try.prog.underlying 56 with | some (.array _ _) | some (.struct _) => true | _ => false) = true := by rw [undK]
set_option maxRecDepth 100000 in
theorem find_key (k : Int × Int) (p : Bg) (hp : p.k = k) (w : World) {es : List MapEntry} {L : List Bg} (h : es.map kv = L.map kvOf) :
    ((Instr.findKey 56 (keyV k) es).run Try.prog w = .ok none w ∧ look k L = none ∧ putL p L = L ++ [p] ∧ delL k L = L ∧ ∀ x ∈ es, x.key ≠ keyV k) ∨
    ∃ j e q, (Instr.findKey 56 (keyV k) es).run Try.prog w = .ok (some (j, e.val)) w ∧ es[j]? = some e ∧ L[j]? = some q ∧ look k L = some q ∧ e.key = keyV k ∧ e.val = q.v ∧ q.k = k ∧ putL p L = L.set j p ∧ delL k L = L.eraseIdx j := by
  rw [run_findKey_eq w wideK]
  rcases run_find k p hp w es L 0 h with h | ⟨j, e, q, h⟩
  · exact .inl h
  · rw [Nat.zero_add] at h; exact .inr ⟨j, e, q, h⟩
theorem run_stays (k : Int × Int) (w : World) : (Instr.keyThatStays (keyV k) (keyV k)).run Try.prog w = .ok (keyV k) w := by
  have : Instr.sameBits 10000 (keyV k) (keyV k) = true := by
    simp [keyV, Instr.sameBits]
  simp [Instr.keyThatStays, this]

theorem zeroV (w : World) : (zeroValue 42).run Try.prog w = .ok (.slice none 0 0) w := by kernel_rfl
/- What stands at a link, or nothing. -/
def valAt (k : Int × Int) (L : List Bg) : Value := ((look k L).map (·.v)).getD (.slice none 0 0)
theorem MapIs.lookup {w : World} {m : Nat} {L : List Bg} (h : MapIs w m L) (k : Int × Int) :
    (Instr.lookup 38 (.map (some m)) (keyV k) false).run Try.prog w = .ok (valAt k L) w := by
  obtain ⟨es, clock, hb, he, hs⟩ := h
  rcases find_key k ⟨k, .slice none 0 0, []⟩ rfl w he with ⟨h1, h2, _⟩ | ⟨j, e, q, h1, h2, h2', h3, h4, h5, _⟩
  · simp [Instr.lookup, run_underlying undM, Go.MapKept.run_getObj_map hb, run_checkK, h1, Result.andThen, valAt, h2]
  · simp [Instr.lookup, run_underlying undM, Go.MapKept.run_getObj_map hb, run_checkK, h1, Result.andThen, valAt, h3, h5]

theorem Chg.setBlock (w : World) (r : Nat) (o : Obj) : Chg (fun k => k = r) w (setBlock w r o) :=
  ⟨rfl, rfl, rfl, by simp [Go.ChangeMaps.setBlock], fun k _ hn => by simp [Go.ChangeMaps.setBlock, Array.getElem?_setIfInBounds_ne (fun e => hn e.symm)]⟩
theorem size_setBlock (w : World) (r : Nat) (o : Obj) : (setBlock w r o).heap.size = w.heap.size := by simp [Go.ChangeMaps.setBlock]
theorem heap_setBlock {w : World} {r : Nat} {o o' : Obj} (h : w.heap[r]? = some o) : (setBlock w r o').heap[r]? = some o' := by
  have hlt : r < w.heap.size := (Array.getElem?_eq_some_iff.1 h).1
  simp [Go.ChangeMaps.setBlock, hlt]

theorem modify_kv {es : Array MapEntry} {L : List Bg} (he : es.toList.map kv = L.map kvOf) (j : Nat) (p : Bg) {e : MapEntry} (hj : es[j]? = some e) (f : MapEntry → MapEntry) (hf : kv (f e) = kvOf p) :
    (es.modify j f).toList.map kv = (L.set j p).map kvOf := by
  apply List.ext_getElem?
  intro i
  have hi : (es.toList.map kv)[i]? = (L.map kvOf)[i]? := by rw [he]
  simp only [List.getElem?_map, Array.getElem?_toList, Array.getElem?_modify, List.getElem?_set] at hi ⊢
  by_cases hij : j = i
  · subst hij
    have hlt : j < L.length := by
      rw [hj] at hi
      cases hL : L[j]? with
      | none => rw [hL] at hi; cases hi
      | some _ => exact (List.getElem?_eq_some_iff.1 hL).1
    simp [hj, hlt, hf]
  · simp only [hij, if_false]
    exact hi

/- A bag put at its link. -/
theorem MapIs.update {w : World} {m : Nat} {L : List Bg} (h : MapIs w m L) (p : Bg) :
    ∃ w', (Instr.mapUpdate 38 (.map (some m)) (keyV p.k) p.v).run Try.prog w = .ok () w' ∧ MapIs w' m (putL p L) ∧ Chg (fun k => k = m) w w' ∧ w'.heap.size = w.heap.size := by
  obtain ⟨es, clock, hb, he, hs⟩ := h
  rcases find_key p.k p rfl w he with ⟨h1, h2, h3, _, h5⟩ | ⟨j, e, q, h1, h2, h2', h3, h4, h5, h6, h7, _⟩
  · refine ⟨setBlock w m (.map (es.push { key := keyV p.k, val := p.v, born := clock }) (clock + 1)), ?_, ⟨_, _, heap_setBlock hb, ?_, stamped_push hs h5⟩, Chg.setBlock _ _ _, size_setBlock _ _ _⟩
    · simp [Instr.mapUpdate, run_underlying undM, Go.MapKept.run_getObj_map hb, run_checkK, h1, Go.MapKept.run_setObj_map _ hb, Result.andThen, Go.ChangeMaps.setBlock]
    · rw [h3]; simp [he, kv, kvOf]
  · have h2' : es[j]? = some e := by rw [← Array.getElem?_toList]; exact h2
    refine ⟨setBlock w m (.map (es.modify j fun e => { e with key := keyV p.k, val := p.v }) clock), ?_, ⟨_, _, heap_setBlock hb, ?_, ?_⟩, Chg.setBlock _ _ _, size_setBlock _ _ _⟩
    · simp [Instr.mapUpdate, run_underlying undM, Go.MapKept.run_getObj_map hb, run_checkK, h1, Go.MapKept.run_setObj_map _ hb, Result.andThen, Go.ChangeMaps.setBlock, h2', h4, run_stays]
    · rw [h7]; exact modify_kv he j p h2' _ rfl
    · exact stamped_modify hs j _ (fun e _ => rfl) (fun e' _ he' => by rw [h2'] at he'; cases he'; exact h4.symm)

/- A bag taken out of the map. -/
theorem MapIs.delete {w : World} {m : Nat} {L : List Bg} (h : MapIs w m L) (k : Int × Int) (ty : TypeId) :
    ∃ w', (Builtin.delete_ #[38, 56] ty #[.map (some m), keyV k]).run Try.prog w = .ok (.tuple #[]) w' ∧ MapIs w' m (delL k L) ∧ Chg (fun k => k = m) w w' ∧ w'.heap.size = w.heap.size := by
  obtain ⟨es, clock, hb, he, hs⟩ := h
  rcases find_key k ⟨k, .slice none 0 0, []⟩ rfl w he with ⟨h1, h2, _, h4, _⟩ | ⟨j, e, q, h1, h2, h2', h3, h4, h5, _, _, h8⟩
  · refine ⟨setBlock w m (.map es clock), ?_, ⟨_, _, heap_setBlock hb, by rw [h4]; exact he, hs⟩, Chg.setBlock _ _ _, size_setBlock _ _ _⟩
    simp [Builtin.delete_, run_underlying undM, Go.MapKept.run_getObj_map hb, run_checkK, h1, Go.MapKept.run_setObj_map _ hb, Result.andThen, Go.ChangeMaps.setBlock]
    try (
      have hlt : m < w.heap.size := (Array.getElem?_eq_some_iff.1 hb).1
      have hv : w.heap[m] = .map es clock := (Array.getElem?_eq_some_iff.1 hb).2
      rw [Array.setIfInBounds_def, dif_pos hlt, ← hv]; simp)
  · refine ⟨setBlock w m (.map (es.eraseIdxIfInBounds j) clock), ?_, ⟨_, _, heap_setBlock hb, ?_, stamped_erase hs j⟩, Chg.setBlock _ _ _, size_setBlock _ _ _⟩
    · simp [Builtin.delete_, run_underlying undM, Go.MapKept.run_getObj_map hb, run_checkK, h1, Go.MapKept.run_setObj_map _ hb, Result.andThen, Go.ChangeMaps.setBlock]
    · rw [h8]
      have hlt : j < es.size := by
        have := List.getElem?_eq_some_iff.1 h2
        simpa using this.1
      rw [Array.eraseIdxIfInBounds, dif_pos hlt, Array.toList_eraseIdx, Go.ChangeMaps.map_eraseIdx, he, ← Go.ChangeMaps.map_eraseIdx]

theorem MapIs.keep {S : Nat → Prop} {w w' : World} {m : Nat} {L : List Bg} (h : MapIs w m L) (hc : Chg S w w') (hn : ¬ S m) : MapIs w' m L := by
  obtain ⟨es, clock, hb, h⟩ := h
  exact ⟨es, clock, by rw [hc.block m (Array.getElem?_eq_some_iff.1 hb).1 hn]; exact hb, h⟩
theorem MapIs.lt {w : World} {m : Nat} {L : List Bg} (h : MapIs w m L) : m < w.heap.size := by
  obtain ⟨es, clock, hb, h⟩ := h
  exact (Array.getElem?_eq_some_iff.1 hb).1
theorem MapIs.names {w : World} {m : Nat} {L : List Bg} (h : MapIs w m L) : (L.map fun p => p.k).Nodup := by
  obtain ⟨es, clock, hb, he, h1, h2, h3⟩ := h
  have hk : es.toList.map (·.key) = L.map (fun p => keyV p.k) := by
    have := congrArg (List.map Prod.fst) he
    simpa [kv, kvOf, Function.comp_def] using this
  rw [hk] at h3
  unfold List.Nodup at h3 ⊢
  rw [List.pairwise_map] at h3 ⊢
  exact h3.imp fun h e => h (by rw [e])

/- Going through a map: left: the links that are still to come. -/
def Ranges (w : World) (m r : Nat) (L : List Bg) (left : List (Int × Int)) : Prop :=
  ∃ es clock since seen c0, w.heap[m]? = some (.map es clock) ∧ es.toList.map kv = L.map kvOf ∧ Stamped es clock ∧ w.heap[r]? = some (.mapIter (some m) since seen c0) ∧ (∀ e ∈ es.toList, e.born < since) ∧ since ≤ c0 ∧ since ≤ clock ∧
    (leftOf es seen).toList.map (fun e => e.key) = left.map keyV

theorem Ranges.map {w : World} {m r : Nat} {L : List Bg} {left : List (Int × Int)} (h : Ranges w m r L left) : MapIs w m L := by
  obtain ⟨es, clock, since, seen, c0, h1, h2, h3, _⟩ := h
  exact ⟨es, clock, h1, h2, h3⟩
theorem Ranges.lt {w : World} {m r : Nat} {L : List Bg} {left : List (Int × Int)} (h : Ranges w m r L left) : r < w.heap.size := by
  obtain ⟨es, clock, since, seen, c0, h1, h2, h3, h4, _⟩ := h
  exact (Array.getElem?_eq_some_iff.1 h4).1
theorem Ranges.ne {w : World} {m r : Nat} {L : List Bg} {left : List (Int × Int)} (h : Ranges w m r L left) : m ≠ r := by
  obtain ⟨es, clock, since, seen, c0, h1, h2, h3, h4, _⟩ := h
  intro e; subst e; rw [h1] at h4; cases h4
theorem Ranges.keep {S : Nat → Prop} {w w' : World} {m r : Nat} {L : List Bg} {left : List (Int × Int)} (h : Ranges w m r L left) (hc : Chg S w w') (hm : ¬ S m) (hr : ¬ S r) : Ranges w' m r L left := by
  have hl := h.lt
  have hlm := h.map.lt
  obtain ⟨es, clock, since, seen, c0, h1, h2, h3, h4, h5⟩ := h
  exact ⟨es, clock, since, seen, c0, by rw [hc.block m hlm hm]; exact h1, h2, h3, by rw [hc.block r hl hr]; exact h4, h5⟩
theorem Ranges.alloc {w : World} {m r : Nat} {L : List Bg} {left : List (Int × Int)} (h : Ranges w m r L left) (o : Obj) : Ranges (w.alloc o) m r L left := h.keep (Chg.alloc Non w o) id id
theorem MapIs.range {w : World} {m : Nat} {L : List Bg} (h : MapIs w m L) :
    ∃ w', (Instr.range 38 (.map (some m))).run Try.prog w = .ok (.pointer (some ⟨w.heap.size, 0, none⟩)) w' ∧ Ranges w' m w.heap.size L (L.map fun p => p.k) ∧ Chg Non w w' ∧ w'.heap.size = w.heap.size + 1 := by
  have hlt := h.lt
  obtain ⟨es, clock, hb, he, hs⟩ := h
  refine ⟨w.alloc (.mapIter (some m) clock #[] clock), ?_, ⟨es, clock, clock, #[], clock, ?_, he, hs, heap_alloc_new w _, hs.1, Nat.le_refl _, Nat.le_refl _, ?_⟩, Chg.alloc _ _ _, by simp⟩
  · exact run_range_map (P := Try.prog) w 38 56 42 m es clock undM hb
  · rw [Below.heap_alloc w _ m hlt]; exact hb
  · have := congrArg (List.map Prod.fst) he
    have h2 : (leftOf es #[]).toList = es.toList := by simp [leftOf]
    rw [h2]
    simpa [kv, kvOf, Function.comp_def] using this

theorem split_born {e : MapEntry} : ∀ {A : List MapEntry}, (A.map (·.born)).Nodup → e ∈ A → ∃ A1 A2, A = A1 ++ e :: A2 ∧ A.filter (fun x => !(x.born == e.born)) = A1 ++ A2
  | [], _, h => by cases h
  | x :: A, hn, h => by
    simp only [List.map_cons, List.nodup_cons] at hn
    by_cases hx : x.born = e.born
    · rcases List.mem_cons.1 h with rfl | h
      · refine ⟨[], A, rfl, ?_⟩
        simp only [List.nil_append, List.filter_cons, beq_self_eq_true, Bool.not_true, Bool.false_eq_true, if_false]
        apply List.filter_eq_self.2
        intro y hy
        simp only [Bool.not_eq_true', beq_eq_false_iff_ne]
        intro e'
        exact hn.1 (List.mem_map.2 ⟨y, hy, e'⟩)
      · exact absurd (List.mem_map.2 ⟨e, h, hx.symm⟩) hn.1
    · rcases List.mem_cons.1 h with rfl | h
      · exact absurd rfl hx
      · obtain ⟨A1, A2, h1, h2⟩ := split_born hn.2 h
        refine ⟨x :: A1, A2, by rw [h1]; rfl, ?_⟩
        rw [List.filter_cons, if_pos (by simp [hx]), h2]; rfl

theorem look_mem : ∀ {L : List Bg} {p : Bg}, (L.map fun p => p.k).Nodup → p ∈ L → look p.k L = some p
  | [], _, _, h => by cases h
  | q :: L, p, hn, h => by
    simp only [List.map_cons, List.nodup_cons] at hn
    unfold look
    rcases List.mem_cons.1 h with rfl | h
    · simp
    · rw [if_neg (fun e => hn.1 (List.mem_map.2 ⟨p, h, e.symm⟩)), look_mem hn.2 h]
theorem look_some : ∀ {L : List Bg} {k : Int × Int} {p : Bg}, look k L = some p → p ∈ L ∧ p.k = k
  | q :: L, k, p, h => by
    unfold look at h
    split at h
    · cases h; exact ⟨.head _, by assumption⟩
    · exact ⟨.tail _ (look_some h).1, (look_some h).2⟩

/- One step: nothing is left, or a link that was to come. -/
theorem Ranges.next {w : World} {m r : Nat} {L : List Bg} {left : List (Int × Int)} (h : Ranges w m r L left) (ty : TypeId) :
    (left = [] ∧ (Instr.next (.pointer (some ⟨r, 0, none⟩)) false ty).run Try.prog w = .ok (.tuple #[.bool false]) w) ∨
    ∃ l1 l2 p w', left = l1 ++ p.k :: l2 ∧ look p.k L = some p ∧ (Instr.next (.pointer (some ⟨r, 0, none⟩)) false ty).run Try.prog w = .ok (.tuple #[.bool true, keyV p.k, p.v]) w' ∧ Ranges w' m r L (l1 ++ l2) ∧ Chg (fun k => k = r) w w' ∧ w'.heap.size = w.heap.size ∧
      (Instr.entry (.pointer (some ⟨r, 0, none⟩))).run Try.prog w' = .ok (.tuple #[keyV p.k, p.v]) w' := by
  have hN := h.map.names
  have hne := h.ne
  obtain ⟨es, clock, since, seen, c0, hb, he, hs, hr, hold, hsc, hck, hl⟩ := h
  rcases run_next_at (P := Try.prog) w ty r m since c0 seen es clock hr hb hold hsc with ⟨h0, hrun⟩ | ⟨e, hme, w1, hw1, hrun⟩
  · refine .inl ⟨?_, hrun⟩
    have : (leftOf es seen).toList = [] := List.length_eq_zero_iff.1 (by simpa using h0)
    rw [this] at hl
    cases left with
    | nil => rfl
    | cons a b => cases hl
  · have hmes : e ∈ es.toList := by
      have := hme; simp [leftOf] at this; simpa using this.1
    have hkv : kv e ∈ L.map kvOf := by rw [← he]; exact List.mem_map.2 ⟨e, hmes, rfl⟩
    obtain ⟨p, hp, hpe⟩ := List.mem_map.1 hkv
    have hek : e.key = keyV p.k := (congrArg Prod.fst hpe).symm
    have hev : e.val = p.v := (congrArg Prod.snd hpe).symm
    have hnd : ((leftOf es seen).toList.map (·.born)).Nodup := by
      have hsub : (leftOf es seen).toList.Sublist es.toList := by simp [leftOf]
      exact (hsub.map _).nodup hs.2.1
    obtain ⟨A1, A2, hA, hF⟩ := split_born hnd hme
    have hl2 := hl
    rw [hA, List.map_append, List.map_cons, hek] at hl2
    obtain ⟨l1, lr, hlr, hl1, hlr2⟩ := List.map_eq_append_iff.1 hl2.symm
    obtain ⟨k, l2, hk, hkk, hl2'⟩ := List.map_eq_cons_iff.1 hlr2
    have hkn := keyV_inj hkk
    subst hkn
    have hw1h : w1.heap = w.heap := by rcases hw1 with rfl | rfl <;> rfl
    have hr1 : w1.heap[r]? = some (.mapIter (some m) since seen c0) := by rw [hw1h]; exact hr
    have hb1 : (setBlock w1 r (.mapIter (some m) since (seen.push e.born) clock)).heap[m]? = some (.map es clock) := by
      simp [Go.ChangeMaps.setBlock, Array.getElem?_setIfInBounds_ne hne.symm, hw1h, hb]
    have hr2 := heap_setBlock (o' := .mapIter (some m) since (seen.push e.born) clock) hr1
    refine .inr ⟨l1, l2, p, _, by rw [hlr, hk], look_mem hN hp, by rw [hek, hev] at hrun; exact hrun, ⟨es, clock, since, seen.push e.born, clock, hb1, he, hs, hr2, hold, hck, hck, ?_⟩, ?_, by rw [size_setBlock, hw1h], ?_⟩
    · have hpush : (leftOf es (seen.push e.born)).toList = A1 ++ A2 := by
        rw [← hF]
        simp only [leftOf, Array.toList_filter, List.filter_filter]
        apply List.filter_congr
        intro x _
        rw [contains_push]
        cases seen.contains x.born <;> cases (x.born == e.born) <;> rfl
      rw [hpush, List.map_append, List.map_append, hl1, hl2']
    · rcases hw1 with rfl | rfl
      · exact Chg.setBlock _ _ _
      · exact (Chg.drew _ w).trans (Chg.setBlock _ _ _)
    · have := run_entry_at (P := Try.prog) _ r m since seen es clock e hr2 hb1 hmes hs.2.1
      rw [hek, hev] at this
      exact this
theorem Ranges.left_eq {w : World} {m r : Nat} {L : List Bg} {left : List (Int × Int)} (h : Ranges w m r L left) : w.rangeLeft m r = left.length := by
  obtain ⟨es, clock, since, seen, c0, h1, h2, h3, h4, _, _, _, h5⟩ := h
  simp only [World.rangeLeft, h1, h4]
  have := congrArg List.length h5
  simpa using this

section
variable {w : World} {ops : Array Oper} {rest : List Oper} {o : Oper} {a : Act} {Q : Exit → Act → World → Prop}
theorem wpList_upd (hg : o.guard = none) (m x v : Operand) (hop : o.op = Op.mapUpdate 38 m x v) {mb : Nat} {L : List Bg} (p : Bg) (hm : a.eval m = .map (some mb)) (hx : a.eval x = keyV p.k) (hv : a.eval v = p.v) (h : MapIs w mb L)
    (hK : ∀ w', MapIs w' mb (putL p L) → Chg (fun k => k = mb) w w' → w'.heap.size = w.heap.size → wpList Try.prog ops Q rest (a.put o.dst undef) w') : wpList Try.prog ops Q (o :: rest) a w := by
  refine wpList_plain hg fun K' hK' => ?_
  obtain ⟨w', hrun, r1, r2, r3⟩ := h.update p
  unfold Oper.wp
  simp [execOp, hop, hm, hx, hv, hrun, Result.andThen]
  exact hK' _ _ (hK w' r1 r2 r3)
theorem wpList_del (hg : o.guard = none) (m x : Operand) (hop : o.op = Op.call { callee := Callee.builtin Builtin.delete, args := #[m, x], argTypes := #[38, 56] }) {mb : Nat} {L : List Bg} (k : Int × Int) (hm : a.eval m = .map (some mb)) (hx : a.eval x = keyV k) (h : MapIs w mb L)
    (hK : ∀ w', MapIs w' mb (delL k L) → Chg (fun k => k = mb) w w' → w'.heap.size = w.heap.size → wpList Try.prog ops Q rest (a.put o.dst (.tuple #[])) w') : wpList Try.prog ops Q (o :: rest) a w := by
  refine wpList_plain hg fun K' hK' => ?_
  obtain ⟨w', hrun, r1, r2, r3⟩ := h.delete k o.type
  unfold Oper.wp
  simp [execOp, hop, resolve, invoke, builtin, hm, hx, hrun, Result.andThen]
  exact hK' _ _ (hK w' r1 r2 r3)
theorem wpList_rng (hg : o.guard = none) (m : Operand) (hop : o.op = Op.range 38 m) {mb : Nat} {L : List Bg} (hm : a.eval m = .map (some mb)) (h : MapIs w mb L)
    (hK : ∀ w', Ranges w' mb w.heap.size L (L.map fun p => p.k) → Chg Non w w' → w'.heap.size = w.heap.size + 1 → wpList Try.prog ops Q rest (a.put o.dst (.pointer (some ⟨w.heap.size, 0, none⟩))) w') : wpList Try.prog ops Q (o :: rest) a w := by
  refine wpList_plain hg fun K' hK' => ?_
  obtain ⟨w', hrun, r1, r2, r3⟩ := h.range
  unfold Oper.wp
  simp [execOp, hop, hm, hrun, Result.andThen]
  exact hK' _ _ (hK w' r1 r2 r3)
theorem wpList_nxt (hg : o.guard = none) (it : Operand) (hop : o.op = Op.next it false) {mb r : Nat} {L : List Bg} {left : List (Int × Int)} (hit : a.eval it = .pointer (some ⟨r, 0, none⟩)) (h : Ranges w mb r L left)
    (hDone : left = [] → wpList Try.prog ops Q rest (a.put o.dst (.tuple #[.bool false])) w)
    (hMore : ∀ (l1 l2 : List (Int × Int)) (k : Int × Int) (v : Value) (w' : World), left = l1 ++ k :: l2 → Ranges w' mb r L (l1 ++ l2) → Chg (fun k => k = r) w w' → w'.heap.size = w.heap.size →
      (Instr.entry (.pointer (some ⟨r, 0, none⟩))).run Try.prog w' = .ok (.tuple #[.agg #[.int .i64 k.1, .int .i64 k.2], v]) w' → wpList Try.prog ops Q rest (a.put o.dst (.tuple #[.bool true, .agg #[.int .i64 k.1, .int .i64 k.2], v])) w') : wpList Try.prog ops Q (o :: rest) a w := by
  refine wpList_plain hg fun K' hK' => ?_
  unfold Oper.wp
  rcases h.next o.type with ⟨h0, hrun⟩ | ⟨l1, l2, p, w', h1, h2, hrun, h3, h4, h5, h6⟩
  · simp [execOp, hop, hit, hrun, Result.andThen]
    exact hK' _ _ (hDone h0)
  · obtain ⟨k, v, ps⟩ := p
    simp only at *
    simp only [keyV] at hrun h6
    simp [execOp, hop, hit, hrun, Result.andThen]
    exact hK' _ _ (hMore l1 l2 k v w' h1 h3 h4 h5 h6)
end
end Go.Proofs.Ytjclegiohhbkpaa
