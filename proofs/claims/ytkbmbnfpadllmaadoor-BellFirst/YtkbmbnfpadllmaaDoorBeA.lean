/- Watches as keys of a map: what such a map holds, and what storing, taking away and going through it do. No function of the program in this text. -/
import Derived.Test.YtkbmbnfpadllmaaDoorPathW
import Derived.WideKeyRuns
import Derived.Laws.StructEq
import Derived.Maps.RangeWalk
namespace Go.Proofs.YtkbmbnfpadllmaaDoor.We
open Go.RowKit Go.MapKept
open Go.ChangeMaps (setBlock)

/- A watch: its connection, its sort, its path. -/
structure Wa where
  cn : Int
  so : Int
  p : List UInt8
  deriving DecidableEq
theorem mkS_inj {a b : List UInt8} (h : mkS a = mkS b) : a = b := by
  unfold mkS at h
  injection h with h
  simpa using h
theorem mkS_beq (a b : List UInt8) : (mkS a == mkS b) = (a == b) := by
  by_cases h : a = b
  · subst h; rw [(bytes_beq _ _).2 rfl]; simp
  · have h1 : ¬ mkS a = mkS b := fun e => h (mkS_inj e)
    have h2 : (mkS a == mkS b) = false := by
      cases e : (mkS a == mkS b)
      · rfl
      · exact absurd ((bytes_beq _ _).1 e) h1
    rw [h2]; simp [h]
def keyV (k : Wa) : Value := .agg #[.int .i64 k.cn, .int .u8 k.so, .string (mkS k.p)]
def unitV : Value := .agg #[]
theorem keyV_inj {a b : Wa} (h : keyV a = keyV b) : a = b := by
  obtain ⟨a1, a2, a3⟩ := a
  obtain ⟨b1, b2, b3⟩ := b
  simp only [keyV, Value.agg.injEq] at h
  have h := congrArg Array.toList h
  simp at h
  obtain ⟨h1, h2, h3⟩ := h
  rw [h1, h2, mkS_inj h3]
def kvOf (p : Wa) : Value × Value := (keyV p, unitV)
def kv (e : MapEntry) : Value × Value := (e.key, e.val)

/- A watch added to a row, if it is not there. -/
def addL (k : Wa) (L : List Wa) : List Wa := if k ∈ L then L else L ++ [k]

def MapIs (w : World) (m : Nat) (L : List Wa) : Prop :=
  ∃ es clock, w.heap[m]? = some (.map es clock) ∧ es.toList.map kv = L.map kvOf ∧ Stamped es clock

theorem undW : Tryd.prog.underlying 69 = some (.struct (Tryd.prog.fieldsOf 69)) := by kernel_rfl
theorem undM : Tryd.prog.underlying 42 = some (.map 69 81) := Tryd.underlying42

theorem run_eqW (w : World) (a b : Wa) : (Op.equalIn 10000 69 (keyV a) (keyV b)).run Tryd.prog w = .ok (decide (a = b)) w := by
  have u3 := Tryd.underlying3
  have u4 := Tryd.underlying22
  have u9 := Tryd.underlying9
  have a3 := Tryd.isAgg3
  have z3 := Tryd.sizeOf3
  have hp : Tryd.prog.stoodInHeld 69 = false := by kernel_rfl
  obtain ⟨a1, a2, a3'⟩ := a
  obtain ⟨b1, b2, b3'⟩ := b
  simp only [keyV]
  rw [show (10000 : Nat) = 9999 + 1 from rfl, run_equalIn_agg w 9999 69 _ _ undW hp]
  simp only [Program.fieldsOf, Tryd.underlying69]
  go_simp
  by_cases h1 : a1 = b1 <;> by_cases h2 : a2 = b2 <;> by_cases h3 : a3' = b3' <;> simp [h1, h2, h3, mkS]
theorem run_eqK (w : World) (a b : Wa) : (Op.equal 69 (keyV a) (keyV b)).run Tryd.prog w = .ok (decide (a = b)) w := run_eqW w a b
theorem run_checkK (w : World) (em : Bool) (k : Wa) : (Instr.checkKey em 10000 69 (keyV k)).run Tryd.prog w = .ok () w := by
  have u3 := Tryd.underlying3
  have u4 := Tryd.underlying22
  have u9 := Tryd.underlying9
  have c1 : ∀ (n : Nat) (x : Int), (Instr.checkKey em (n + 1) 3 (.int .i64 x)).run Tryd.prog w = .ok () w := fun n x => Go.MapKept.run_checkKey u3 (d := .int .i64) (k := .int .i64 x) (by simp [Go.MapKept.IsKey]) em n
  have c2 : ∀ (n : Nat) (x : Int), (Instr.checkKey em (n + 1) 22 (.int .u8 x)).run Tryd.prog w = .ok () w := fun n x => Go.MapKept.run_checkKey u4 (d := .int .u8) (k := .int .u8 x) (by simp [Go.MapKept.IsKey]) em n
  have c3 : ∀ (n : Nat) (x : ByteArray), (Instr.checkKey em (n + 1) 9 (.string x)).run Tryd.prog w = .ok () w := fun n x => Go.MapKept.run_checkKey u9 (d := .string) (k := .string x) trivial em n
  have p0 : Tryd.prog.plainKey 3 = true := by unfold Program.plainKey; rw [u3]
  have p1 : Tryd.prog.plainKey 22 = true := by unfold Program.plainKey; rw [u4]
  have p2 : Tryd.prog.plainKey 9 = true := by unfold Program.plainKey; rw [u9]
  obtain ⟨k1, k2, k3⟩ := k
  have q0 : (Go.part 3 #[.int .i64 k1, .int .u8 k2, .string (mkS k3)] 0).run Tryd.prog w = .ok (.int .i64 k1) w := run_part_plain w p0 rfl
  have q1 : (Go.part 22 #[.int .i64 k1, .int .u8 k2, .string (mkS k3)] 1).run Tryd.prog w = .ok (.int .u8 k2) w := run_part_plain w p1 rfl
  have q2 : (Go.part 9 #[.int .i64 k1, .int .u8 k2, .string (mkS k3)] 2).run Tryd.prog w = .ok (.string (mkS k3)) w := run_part_plain w p2 rfl
  rw [show (10000 : Nat) = 9999 + 1 from rfl, Instr.checkKey]
  simp only [Sem.run_bind, run_underlying Tryd.underlying69, Result.andThen_ok, keyV]
  rw [← Array.forIn_toList]
  simp [Sem.run_bind, q0, q1, q2, c1 9998, c2 9998, c3 9998, Result.andThen_ok]

theorem run_find (k : Wa) (w : World) : ∀ (es : List MapEntry) (L : List Wa) (i : Nat), es.map kv = L.map kvOf →
    ((Instr.findAsking 69 (keyV k) es i).run Tryd.prog w = .ok none w ∧ k ∉ L ∧ ∀ x ∈ es, x.key ≠ keyV k) ∨
    ∃ j e, (Instr.findAsking 69 (keyV k) es i).run Tryd.prog w = .ok (some (i + j, e.val)) w ∧ es[j]? = some e ∧ L[j]? = some k ∧ e.key = keyV k ∧ e.val = unitV ∧ L.erase k = L.eraseIdx j
  | [], [], _, _ => .inl ⟨rfl, by simp, by simp⟩
  | [], q :: L, _, h => by cases h
  | e :: es, [], _, h => by cases h
  | e :: es, q :: L, i, h => by
    simp only [List.map_cons, List.cons.injEq] at h
    obtain ⟨h0, ht⟩ := h
    have hk : e.key = keyV q := congrArg Prod.fst h0
    have hv : e.val = unitV := congrArg Prod.snd h0
    by_cases hq : q = k
    · subst hq
      refine .inr ⟨0, e, ?_, rfl, rfl, hk, hv, by simp⟩
      simp [Instr.findAsking, hk, run_eqK]
    · have hq' : ¬ k = q := fun e => hq e.symm
      rcases run_find k w es L (i + 1) ht with ⟨h1, h2, h5⟩ | ⟨j, e', h1, h2, h2', h4, h5, h6⟩
      · refine .inl ⟨?_, by simp [hq', h2], ?_⟩
        · simp [Instr.findAsking, hk, run_eqK, hq', h1]
        · intro x hx
          rcases List.mem_cons.1 hx with rfl | hx
          · rw [hk]; intro e; exact hq (keyV_inj e)
          · exact h5 x hx
      · refine .inr ⟨j + 1, e', ?_, by simpa using h2, by simpa using h2', h4, h5, ?_⟩
        · simp [Instr.findAsking, hk, run_eqK, hq', h1]; omega
        · rw [List.eraseIdx_cons_succ, ← h6, List.erase_cons]; simp [hq]
theorem wideK : (match Tryd.prog.underlying 69 with | some (.array _ _) | some (.struct _) => true | _ => false) = true := by rw [undW]
set_option maxRecDepth 100000 in
theorem find_key (k : Wa) (w : World) {es : List MapEntry} {L : List Wa} (h : es.map kv = L.map kvOf) :
    ((Instr.findKey 69 (keyV k) es).run Tryd.prog w = .ok none w ∧ k ∉ L ∧ ∀ x ∈ es, x.key ≠ keyV k) ∨
    ∃ j e, (Instr.findKey 69 (keyV k) es).run Tryd.prog w = .ok (some (j, e.val)) w ∧ es[j]? = some e ∧ L[j]? = some k ∧ e.key = keyV k ∧ e.val = unitV ∧ L.erase k = L.eraseIdx j := by
  rw [run_findKey_eq w wideK]
  rcases run_find k w es L 0 h with h | ⟨j, e, h⟩
  · exact .inl h
  · rw [Nat.zero_add] at h; exact .inr ⟨j, e, h⟩
theorem run_stays (k : Wa) (w : World) : (Instr.keyThatStays (keyV k) (keyV k)).run Tryd.prog w = .ok (keyV k) w := by
  have : Instr.sameBits 10000 (keyV k) (keyV k) = true := by
    have hb : (mkS k.p == mkS k.p) = true := by rw [beq_toListBytes]; simp
    simp [keyV, Instr.sameBits, hb]
  simp [Instr.keyThatStays, this]

theorem Chg.setBlock (w : World) (r : Nat) (o : Obj) : Chg (fun k => k = r) w (setBlock w r o) :=
  ⟨rfl, rfl, rfl, by simp [Go.ChangeMaps.setBlock], fun k _ hn => by simp [Go.ChangeMaps.setBlock, Array.getElem?_setIfInBounds_ne (fun e => hn e.symm)]⟩
theorem size_setBlock (w : World) (r : Nat) (o : Obj) : (setBlock w r o).heap.size = w.heap.size := by simp [Go.ChangeMaps.setBlock]
theorem heap_setBlock {w : World} {r : Nat} {o o' : Obj} (h : w.heap[r]? = some o) : (setBlock w r o').heap[r]? = some o' := by
  have hlt : r < w.heap.size := (Array.getElem?_eq_some_iff.1 h).1
  simp [Go.ChangeMaps.setBlock, hlt]

theorem modify_kv {es : Array MapEntry} {L : List Wa} (he : es.toList.map kv = L.map kvOf) (j : Nat) (p : Wa) {e : MapEntry} (hj : es[j]? = some e) (hL : L[j]? = some p) (f : MapEntry → MapEntry) (hf : kv (f e) = kvOf p) :
    (es.modify j f).toList.map kv = L.map kvOf := by
  apply List.ext_getElem?
  intro i
  have hi : (es.toList.map kv)[i]? = (L.map kvOf)[i]? := by rw [he]
  simp only [List.getElem?_map, Array.getElem?_toList, Array.getElem?_modify] at hi ⊢
  by_cases hij : j = i
  · subst hij
    simp [hj, hL, hf]
  · simp only [hij, if_false]
    exact hi

/- A watch put. -/
theorem MapIs.update {w : World} {m : Nat} {L : List Wa} (h : MapIs w m L) (p : Wa) :
    ∃ w', (Instr.mapUpdate 42 (.map (some m)) (keyV p) unitV).run Tryd.prog w = .ok () w' ∧ MapIs w' m (addL p L) ∧ Chg (fun k => k = m) w w' ∧ w'.heap.size = w.heap.size := by
  obtain ⟨es, clock, hb, he, hs⟩ := h
  rcases find_key p w he with ⟨h1, h2, h5⟩ | ⟨j, e, h1, h2, h2', h4, h5, h6⟩
  · refine ⟨setBlock w m (.map (es.push { key := keyV p, val := unitV, born := clock }) (clock + 1)), ?_, ⟨_, _, heap_setBlock hb, ?_, stamped_push hs h5⟩, Chg.setBlock _ _ _, size_setBlock _ _ _⟩
    · simp [Instr.mapUpdate, run_underlying undM, Go.MapKept.run_getObj_map hb, run_checkK, h1, Go.MapKept.run_setObj_map _ hb, Result.andThen, Go.ChangeMaps.setBlock]
    · rw [addL, if_neg h2]; simp [he, kv, kvOf]
  · have h2' : es[j]? = some e := by rw [← Array.getElem?_toList]; exact h2
    have hm : p ∈ L := List.mem_of_getElem? ‹L[j]? = some p›
    refine ⟨setBlock w m (.map (es.modify j fun e => { e with key := keyV p, val := unitV }) clock), ?_, ⟨_, _, heap_setBlock hb, ?_, ?_⟩, Chg.setBlock _ _ _, size_setBlock _ _ _⟩
    · simp [Instr.mapUpdate, run_underlying undM, Go.MapKept.run_getObj_map hb, run_checkK, h1, Go.MapKept.run_setObj_map _ hb, Result.andThen, Go.ChangeMaps.setBlock, h2', h4, run_stays]
    · rw [addL, if_pos hm]; exact modify_kv he j p h2' ‹L[j]? = some p› _ rfl
    · exact stamped_modify hs j _ (fun e _ => rfl) (fun e' _ he' => by rw [h2'] at he'; cases he'; exact h4.symm)

/- A watch taken out of the map. -/
theorem MapIs.delete {w : World} {m : Nat} {L : List Wa} (h : MapIs w m L) (k : Wa) (ty : TypeId) :
    ∃ w', (Builtin.delete_ #[42, 69] ty #[.map (some m), keyV k]).run Tryd.prog w = .ok (.tuple #[]) w' ∧ MapIs w' m (L.erase k) ∧ Chg (fun k => k = m) w w' ∧ w'.heap.size = w.heap.size := by
  obtain ⟨es, clock, hb, he, hs⟩ := h
  rcases find_key k w he with ⟨h1, h2, _⟩ | ⟨j, e, h1, h2, h2', h3, h4, h6⟩
  · refine ⟨setBlock w m (.map es clock), ?_, ⟨_, _, heap_setBlock hb, by rw [List.erase_of_not_mem h2]; exact he, hs⟩, Chg.setBlock _ _ _, size_setBlock _ _ _⟩
    simp [Builtin.delete_, run_underlying undM, Go.MapKept.run_getObj_map hb, run_checkK, h1, Go.MapKept.run_setObj_map _ hb, Result.andThen, Go.ChangeMaps.setBlock]
    try (
      have hlt : m < w.heap.size := (Array.getElem?_eq_some_iff.1 hb).1
      have hv : w.heap[m] = .map es clock := (Array.getElem?_eq_some_iff.1 hb).2
      rw [Array.setIfInBounds_def, dif_pos hlt, ← hv]; simp)
  · refine ⟨setBlock w m (.map (es.eraseIdxIfInBounds j) clock), ?_, ⟨_, _, heap_setBlock hb, ?_, stamped_erase hs j⟩, Chg.setBlock _ _ _, size_setBlock _ _ _⟩
    · simp [Builtin.delete_, run_underlying undM, Go.MapKept.run_getObj_map hb, run_checkK, h1, Go.MapKept.run_setObj_map _ hb, Result.andThen, Go.ChangeMaps.setBlock]
    · rw [h6]
      have hlt : j < es.size := by
        have := List.getElem?_eq_some_iff.1 h2
        simpa using this.1
      rw [Array.eraseIdxIfInBounds, dif_pos hlt, Array.toList_eraseIdx, Go.ChangeMaps.map_eraseIdx, he, ← Go.ChangeMaps.map_eraseIdx]

theorem MapIs.keep {S : Nat → Prop} {w w' : World} {m : Nat} {L : List Wa} (h : MapIs w m L) (hc : Chg S w w') (hn : ¬ S m) : MapIs w' m L := by
  obtain ⟨es, clock, hb, h⟩ := h
  exact ⟨es, clock, by rw [hc.block m (Array.getElem?_eq_some_iff.1 hb).1 hn]; exact hb, h⟩
theorem MapIs.lt {w : World} {m : Nat} {L : List Wa} (h : MapIs w m L) : m < w.heap.size := by
  obtain ⟨es, clock, hb, h⟩ := h
  exact (Array.getElem?_eq_some_iff.1 hb).1
theorem MapIs.names {w : World} {m : Nat} {L : List Wa} (h : MapIs w m L) : L.Nodup := by
  obtain ⟨es, clock, hb, he, h1, h2, h3⟩ := h
  have hk : es.toList.map (·.key) = L.map keyV := by
    have := congrArg (List.map Prod.fst) he
    simpa [kv, kvOf, Function.comp_def] using this
  rw [hk] at h3
  unfold List.Nodup at h3 ⊢
  rw [List.pairwise_map] at h3
  exact h3.imp fun h e => h (by rw [e])
theorem MapIs.len {w : World} {m : Nat} {L : List Wa} (h : MapIs w m L) (ty : TypeId) : (Builtin.len_ #[42] ty #[.map (some m)]).run Tryd.prog w = .ok (.int .i64 L.length) w := by
  obtain ⟨es, clock, hb, he, hs⟩ := h
  have e1 : es.size = L.length := by
    have := congrArg List.length he
    simpa using this
  simp [Builtin.len_, run_underlying undM, Go.MapKept.run_getObj_map hb, Result.andThen, goInt, e1]

/- Going through a map: left: the watches that are still to come. -/
def Ranges (w : World) (m r : Nat) (L : List Wa) (left : List Wa) : Prop :=
  ∃ es clock since seen c0, w.heap[m]? = some (.map es clock) ∧ es.toList.map kv = L.map kvOf ∧ Stamped es clock ∧ w.heap[r]? = some (.mapIter (some m) since seen c0) ∧ (∀ e ∈ es.toList, e.born < since) ∧ since ≤ c0 ∧ since ≤ clock ∧
    (leftOf es seen).toList.map (fun e => e.key) = left.map keyV

theorem Ranges.map {w : World} {m r : Nat} {L : List Wa} {left : List Wa} (h : Ranges w m r L left) : MapIs w m L := by
  obtain ⟨es, clock, since, seen, c0, h1, h2, h3, _⟩ := h
  exact ⟨es, clock, h1, h2, h3⟩
theorem Ranges.lt {w : World} {m r : Nat} {L : List Wa} {left : List Wa} (h : Ranges w m r L left) : r < w.heap.size := by
  obtain ⟨es, clock, since, seen, c0, h1, h2, h3, h4, _⟩ := h
  exact (Array.getElem?_eq_some_iff.1 h4).1
theorem Ranges.ne {w : World} {m r : Nat} {L : List Wa} {left : List Wa} (h : Ranges w m r L left) : m ≠ r := by
  obtain ⟨es, clock, since, seen, c0, h1, h2, h3, h4, _⟩ := h
  intro e; subst e; rw [h1] at h4; cases h4
theorem Ranges.keep {S : Nat → Prop} {w w' : World} {m r : Nat} {L : List Wa} {left : List Wa} (h : Ranges w m r L left) (hc : Chg S w w') (hm : ¬ S m) (hr : ¬ S r) : Ranges w' m r L left := by
  have hl := h.lt
  have hlm := h.map.lt
  obtain ⟨es, clock, since, seen, c0, h1, h2, h3, h4, h5⟩ := h
  exact ⟨es, clock, since, seen, c0, by rw [hc.block m hlm hm]; exact h1, h2, h3, by rw [hc.block r hl hr]; exact h4, h5⟩
theorem Ranges.alloc {w : World} {m r : Nat} {L : List Wa} {left : List Wa} (h : Ranges w m r L left) (o : Obj) : Ranges (w.alloc o) m r L left := h.keep (Chg.alloc Non w o) id id
theorem MapIs.range {w : World} {m : Nat} {L : List Wa} (h : MapIs w m L) :
    ∃ w', (Instr.range 42 (.map (some m))).run Tryd.prog w = .ok (.pointer (some ⟨w.heap.size, 0, none⟩)) w' ∧ Ranges w' m w.heap.size L L ∧ Chg Non w w' ∧ w'.heap.size = w.heap.size + 1 := by
  have hlt := h.lt
  obtain ⟨es, clock, hb, he, hs⟩ := h
  refine ⟨w.alloc (.mapIter (some m) clock #[] clock), ?_, ⟨es, clock, clock, #[], clock, ?_, he, hs, heap_alloc_new w _, hs.1, Nat.le_refl _, Nat.le_refl _, ?_⟩, Chg.alloc _ _ _, by simp⟩
  · exact run_range_map (P := Tryd.prog) w 42 69 81 m es clock undM hb
  · rw [Below.heap_alloc w _ m hlt]; exact hb
  · have := congrArg (List.map Prod.fst) he
    have h2 : (leftOf es #[]).toList = es.toList := by simp [leftOf]
    rw [h2]
    simpa [kv, kvOf, Function.comp_def] using this

theorem split_born {e : MapEntry} : ∀ {A : List MapEntry}, (A.map (·.born)).Nodup → e ∈ A → ∃ A1 A2, A = A1 ++ e :: A2 ∧ A.filter (fun x => !(x.born == e.born)) = A1 ++ A2
  | [], _, h => by cases h
  | x :: A, hn, h => by
    simp only [List.map_cons, List.nodup_cons] at hn
    by_cases hx : x.born = e.born
    · rcases List.mem_cons.1 h with rfl | h
      · refine ⟨[], A, rfl, ?_⟩
        simp only [List.nil_append, List.filter_cons, beq_self_eq_true, Bool.not_true, Bool.false_eq_true, if_false]
        apply List.filter_eq_self.2
        intro y hy
        simp only [Bool.not_eq_true', beq_eq_false_iff_ne]
        intro e'
        exact hn.1 (List.mem_map.2 ⟨y, hy, e'⟩)
      · exact absurd (List.mem_map.2 ⟨e, h, hx.symm⟩) hn.1
    · rcases List.mem_cons.1 h with rfl | h
      · exact absurd rfl hx
      · obtain ⟨A1, A2, h1, h2⟩ := split_born hn.2 h
        refine ⟨x :: A1, A2, by rw [h1]; rfl, ?_⟩
        rw [List.filter_cons, if_pos (by simp [hx]), h2]; rfl

/- One step: nothing is left, or a watch that was to come. -/
theorem Ranges.next {w : World} {m r : Nat} {L : List Wa} {left : List Wa} (h : Ranges w m r L left) (ty : TypeId) :
    (left = [] ∧ (Instr.next (.pointer (some ⟨r, 0, none⟩)) false ty).run Tryd.prog w = .ok (.tuple #[.bool false]) w) ∨
    ∃ l1 l2 p w', left = l1 ++ p :: l2 ∧ p ∈ L ∧ (Instr.next (.pointer (some ⟨r, 0, none⟩)) false ty).run Tryd.prog w = .ok (.tuple #[.bool true, keyV p, unitV]) w' ∧ Ranges w' m r L (l1 ++ l2) ∧ Chg (fun k => k = r) w w' ∧ w'.heap.size = w.heap.size ∧
      (Instr.entry (.pointer (some ⟨r, 0, none⟩))).run Tryd.prog w' = .ok (.tuple #[keyV p, unitV]) w' := by
  have hne := h.ne
  obtain ⟨es, clock, since, seen, c0, hb, he, hs, hr, hold, hsc, hck, hl⟩ := h
  rcases run_next_at (P := Tryd.prog) w ty r m since c0 seen es clock hr hb hold hsc with ⟨h0, hrun⟩ | ⟨e, hme, w1, hw1, hrun⟩
  · refine .inl ⟨?_, hrun⟩
    have : (leftOf es seen).toList = [] := List.length_eq_zero_iff.1 (by simpa using h0)
    rw [this] at hl
    cases left with
    | nil => rfl
    | cons a b => cases hl
  · have hmes : e ∈ es.toList := by
      have := hme; simp [leftOf] at this; simpa using this.1
    have hkv : kv e ∈ L.map kvOf := by rw [← he]; exact List.mem_map.2 ⟨e, hmes, rfl⟩
    obtain ⟨p, hp, hpe⟩ := List.mem_map.1 hkv
    have hek : e.key = keyV p := (congrArg Prod.fst hpe).symm
    have hev : e.val = unitV := (congrArg Prod.snd hpe).symm
    have hnd : ((leftOf es seen).toList.map (·.born)).Nodup := by
      have hsub : (leftOf es seen).toList.Sublist es.toList := by simp [leftOf]
      exact (hsub.map _).nodup hs.2.1
    obtain ⟨A1, A2, hA, hF⟩ := split_born hnd hme
    have hl2 := hl
    rw [hA, List.map_append, List.map_cons, hek] at hl2
    obtain ⟨l1, lr, hlr, hl1, hlr2⟩ := List.map_eq_append_iff.1 hl2.symm
    obtain ⟨k, l2, hk, hkk, hl2'⟩ := List.map_eq_cons_iff.1 hlr2
    have hkn := keyV_inj hkk
    subst hkn
    have hw1h : w1.heap = w.heap := by rcases hw1 with rfl | rfl <;> rfl
    have hr1 : w1.heap[r]? = some (.mapIter (some m) since seen c0) := by rw [hw1h]; exact hr
    have hb1 : (setBlock w1 r (.mapIter (some m) since (seen.push e.born) clock)).heap[m]? = some (.map es clock) := by
      simp [Go.ChangeMaps.setBlock, Array.getElem?_setIfInBounds_ne hne.symm, hw1h, hb]
    have hr2 := heap_setBlock (o' := .mapIter (some m) since (seen.push e.born) clock) hr1
    refine .inr ⟨l1, l2, k, _, by rw [hlr, hk], hp, by rw [hek, hev] at hrun; exact hrun, ⟨es, clock, since, seen.push e.born, clock, hb1, he, hs, hr2, hold, hck, hck, ?_⟩, ?_, by rw [size_setBlock, hw1h], ?_⟩
    · have hpush : (leftOf es (seen.push e.born)).toList = A1 ++ A2 := by
        rw [← hF]
        simp only [leftOf, Array.toList_filter, List.filter_filter]
        apply List.filter_congr
        intro x _
        rw [contains_push]
        cases seen.contains x.born <;> cases (x.born == e.born) <;> rfl
      rw [hpush, List.map_append, List.map_append, hl1, hl2']
    · rcases hw1 with rfl | rfl
      · exact Chg.setBlock _ _ _
      · exact (Chg.drew _ w).trans (Chg.setBlock _ _ _)
    · have := run_entry_at (P := Tryd.prog) _ r m since seen es clock e hr2 hb1 hmes hs.2.1
      rw [hek, hev] at this
      exact this
theorem Ranges.left_eq {w : World} {m r : Nat} {L : List Wa} {left : List Wa} (h : Ranges w m r L left) : w.rangeLeft m r = left.length := by
  obtain ⟨es, clock, since, seen, c0, h1, h2, h3, h4, _, _, _, h5⟩ := h
  simp only [World.rangeLeft, h1, h4]
  have := congrArg List.length h5
  simpa using this

/- A watch taken out, while the map is gone through: one that is not to come any more. -/
theorem Ranges.delete {w : World} {m r : Nat} {L : List Wa} {left : List Wa} (h : Ranges w m r L left) (k : Wa) (hk : k ∉ left) (ty : TypeId) :
    ∃ w', (Builtin.delete_ #[42, 69] ty #[.map (some m), keyV k]).run Tryd.prog w = .ok (.tuple #[]) w' ∧ Ranges w' m r (L.erase k) left ∧ Chg (fun i => i = m) w w' ∧ w'.heap.size = w.heap.size := by
  have hne := h.ne
  obtain ⟨es, clock, since, seen, c0, hb, he, hs, hr, hold, hsc, hck, hl⟩ := h
  rcases find_key k w he with ⟨h1, h2, _⟩ | ⟨j, e, h1, h2, h2', h4, h5, h8⟩
  · refine ⟨setBlock w m (.map es clock), ?_, ⟨es, clock, since, seen, c0, heap_setBlock hb, by rw [List.erase_of_not_mem h2]; exact he, hs, ?_, hold, hsc, hck, hl⟩, Chg.setBlock _ _ _, size_setBlock _ _ _⟩
    · simp [Builtin.delete_, run_underlying undM, Go.MapKept.run_getObj_map hb, run_checkK, h1, Go.MapKept.run_setObj_map _ hb, Result.andThen, Go.ChangeMaps.setBlock]
      try (
        have hlt : m < w.heap.size := (Array.getElem?_eq_some_iff.1 hb).1
        have hv : w.heap[m] = .map es clock := (Array.getElem?_eq_some_iff.1 hb).2
        rw [Array.setIfInBounds_def, dif_pos hlt, ← hv]; simp)
    · simp [Go.ChangeMaps.setBlock, Array.getElem?_setIfInBounds_ne hne, hr]
  · have hlt : j < es.size := by
      have := List.getElem?_eq_some_iff.1 h2
      simpa using this.1
    have hto : (es.eraseIdxIfInBounds j).toList = es.toList.eraseIdx j := by rw [Array.eraseIdxIfInBounds, dif_pos hlt, Array.toList_eraseIdx]
    refine ⟨setBlock w m (.map (es.eraseIdxIfInBounds j) clock), ?_, ⟨_, clock, since, seen, c0, heap_setBlock hb, ?_, stamped_erase hs j, ?_, ?_, hsc, hck, ?_⟩, Chg.setBlock _ _ _, size_setBlock _ _ _⟩
    · simp [Builtin.delete_, run_underlying undM, Go.MapKept.run_getObj_map hb, run_checkK, h1, Go.MapKept.run_setObj_map _ hb, Result.andThen, Go.ChangeMaps.setBlock]
    · rw [h8, hto, Go.ChangeMaps.map_eraseIdx, he, ← Go.ChangeMaps.map_eraseIdx]
    · simp [Go.ChangeMaps.setBlock, Array.getElem?_setIfInBounds_ne hne, hr]
    · intro x hx
      rw [hto] at hx
      exact hold x (List.mem_of_mem_eraseIdx hx)
    · rw [← hl]
      have hgen : ∀ (A : List MapEntry) (j : Nat) (e : MapEntry), A[j]? = some e → (!seen.contains e.born) = false →
          (A.eraseIdx j).filter (fun e => !seen.contains e.born) = A.filter fun e => !seen.contains e.born := by
        intro A
        induction A with
        | nil => intro j e h; cases j <;> cases h
        | cons x A ih =>
          intro j e hx hs
          cases j with
          | zero =>
            have hxe : x = e := by simpa using hx
            subst hxe
            rw [List.eraseIdx_cons_zero, List.filter_cons, hs]; rfl
          | succ j =>
            rw [List.eraseIdx_cons_succ, List.filter_cons, List.filter_cons, ih j e (by simpa using hx) hs]
      have hes : (!seen.contains e.born) = false := by
        rcases hc : (!seen.contains e.born) with _ | _
        · rfl
        · exfalso
          have hm : e ∈ (leftOf es seen).toList := by
            simp only [leftOf, Array.toList_filter, List.mem_filter]
            exact ⟨List.mem_of_getElem? h2, hc⟩
          have : e.key ∈ (leftOf es seen).toList.map (fun e => e.key) := List.mem_map.2 ⟨e, hm, rfl⟩
          rw [hl, h4] at this
          obtain ⟨y, hy, hye⟩ := List.mem_map.1 this
          exact hk (keyV_inj hye ▸ hy)
      have := hgen es.toList j e h2 hes
      simp only [leftOf, Array.toList_filter, hto]
      rw [this]

section
variable {w : World} {ops : Array Oper} {rest : List Oper} {o : Oper} {a : Act} {Q : Exit → Act → World → Prop}
theorem wpList_upd (hg : o.guard = none) (m x v : Operand) (hop : o.op = Op.mapUpdate 42 m x v) {mb : Nat} {L : List Wa} (p : Wa) (hm : a.eval m = .map (some mb)) (hx : a.eval x = keyV p) (hv : a.eval v = unitV) (h : MapIs w mb L)
    (hK : ∀ w', MapIs w' mb (addL p L) → Chg (fun k => k = mb) w w' → w'.heap.size = w.heap.size → wpList Tryd.prog ops Q rest (a.put o.dst undef) w') : wpList Tryd.prog ops Q (o :: rest) a w := by
  refine wpList_plain hg fun K' hK' => ?_
  obtain ⟨w', hrun, r1, r2, r3⟩ := h.update p
  unfold Oper.wp
  simp [execOp, hop, hm, hx, hv, hrun, Result.andThen]
  exact hK' _ _ (hK w' r1 r2 r3)
theorem wpList_del (hg : o.guard = none) (m x : Operand) (hop : o.op = Op.call { callee := Callee.builtin Builtin.delete, args := #[m, x], argTypes := #[42, 69] }) {mb : Nat} {L : List Wa} (k : Wa) (hm : a.eval m = .map (some mb)) (hx : a.eval x = keyV k) (h : MapIs w mb L)
    (hK : ∀ w', MapIs w' mb (L.erase k) → Chg (fun k => k = mb) w w' → w'.heap.size = w.heap.size → wpList Tryd.prog ops Q rest (a.put o.dst (.tuple #[])) w') : wpList Tryd.prog ops Q (o :: rest) a w := by
  refine wpList_plain hg fun K' hK' => ?_
  obtain ⟨w', hrun, r1, r2, r3⟩ := h.delete k o.type
  unfold Oper.wp
  simp [execOp, hop, resolve, invoke, builtin, hm, hx, hrun, Result.andThen]
  exact hK' _ _ (hK w' r1 r2 r3)
theorem wpList_delR (hg : o.guard = none) (m x : Operand) (hop : o.op = Op.call { callee := Callee.builtin Builtin.delete, args := #[m, x], argTypes := #[42, 69] }) {mb r : Nat} {L : List Wa} {left : List Wa} (k : Wa) (hkl : k ∉ left) (hm : a.eval m = .map (some mb)) (hx : a.eval x = keyV k) (h : Ranges w mb r L left)
    (hK : ∀ w', Ranges w' mb r (L.erase k) left → Chg (fun k => k = mb) w w' → w'.heap.size = w.heap.size → wpList Tryd.prog ops Q rest (a.put o.dst (.tuple #[])) w') : wpList Tryd.prog ops Q (o :: rest) a w := by
  refine wpList_plain hg fun K' hK' => ?_
  obtain ⟨w', hrun, r1, r2, r3⟩ := h.delete k hkl o.type
  unfold Oper.wp
  simp [execOp, hop, resolve, invoke, builtin, hm, hx, hrun, Result.andThen]
  exact hK' _ _ (hK w' r1 r2 r3)
theorem wpList_rng (hg : o.guard = none) (m : Operand) (hop : o.op = Op.range 42 m) {mb : Nat} {L : List Wa} (hm : a.eval m = .map (some mb)) (h : MapIs w mb L)
    (hK : ∀ w', Ranges w' mb w.heap.size L L → Chg Non w w' → w'.heap.size = w.heap.size + 1 → wpList Tryd.prog ops Q rest (a.put o.dst (.pointer (some ⟨w.heap.size, 0, none⟩))) w') : wpList Tryd.prog ops Q (o :: rest) a w := by
  refine wpList_plain hg fun K' hK' => ?_
  obtain ⟨w', hrun, r1, r2, r3⟩ := h.range
  unfold Oper.wp
  simp [execOp, hop, hm, hrun, Result.andThen]
  exact hK' _ _ (hK w' r1 r2 r3)
theorem wpList_nxt (hg : o.guard = none) (it : Operand) (hop : o.op = Op.next it false) {mb r : Nat} {L : List Wa} {left : List Wa} (hit : a.eval it = .pointer (some ⟨r, 0, none⟩)) (h : Ranges w mb r L left)
    (hDone : left = [] → wpList Tryd.prog ops Q rest (a.put o.dst (.tuple #[.bool false])) w)
    (hMore : ∀ (l1 l2 : List Wa) (k : Wa) (w' : World), left = l1 ++ k :: l2 → k ∈ L → Ranges w' mb r L (l1 ++ l2) → Chg (fun k => k = r) w w' → w'.heap.size = w.heap.size →
      (Instr.entry (.pointer (some ⟨r, 0, none⟩))).run Tryd.prog w' = .ok (.tuple #[.agg #[.int .i64 k.cn, .int .u8 k.so, .string (mkS k.p)], .agg #[]]) w' → wpList Tryd.prog ops Q rest (a.put o.dst (.tuple #[.bool true, .agg #[.int .i64 k.cn, .int .u8 k.so, .string (mkS k.p)], .agg #[]])) w') : wpList Tryd.prog ops Q (o :: rest) a w := by
  refine wpList_plain hg fun K' hK' => ?_
  unfold Oper.wp
  rcases h.next o.type with ⟨h0, hrun⟩ | ⟨l1, l2, p, w', h1, h2, hrun, h3, h4, h5, h6⟩
  · simp [execOp, hop, hit, hrun, Result.andThen]
    exact hK' _ _ (hDone h0)
  · simp only [keyV, unitV] at hrun h6
    simp [execOp, hop, hit, hrun, Result.andThen]
    exact hK' _ _ (hMore l1 l2 p w' h1 h2 h3 h4 h5 h6)
end
end Go.Proofs.YtkbmbnfpadllmaaDoor.We
