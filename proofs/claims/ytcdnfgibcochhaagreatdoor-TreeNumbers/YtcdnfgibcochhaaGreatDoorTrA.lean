/- Nodes in a map: what a map of nodes holds, and what reading, storing, taking away and going through it do. No function of the program in this text. -/
import Derived.Test.YtcdnfgibcochhaaGreatDoorPathW
namespace Go.Proofs.YtcdnfgibcochhaaGreatDoor
open Go.RowKit Go.MapKept
open Go.ChangeMaps (setBlock)

/- What a node's stat holds (Length and Children stand besides). -/
structure Stt where
  cz : Int
  mz : Int
  pz : Int
  ct : Int
  mt : Int
  ver : Int
  cv : Int
  own : Int
  len : Int
  chd : Int
  deriving DecidableEq
def zeroSt : Stt := ⟨0, 0, 0, 0, 0, 0, 0, 0, 0, 0⟩
/- A node: its path, its bytes, its stat. -/
structure Fi where
  nm : List UInt8
  b : List UInt8
  st : Stt
  deriving DecidableEq

theorem mkS_inj {a b : List UInt8} (h : mkS a = mkS b) : a = b := by
  unfold mkS at h
  injection h with h
  simpa using h
theorem mkS_beq (a b : List UInt8) : (mkS a == mkS b) = (a == b) := by
  by_cases h : a = b
  · subst h; rw [(bytes_beq _ _).2 rfl]; simp
  · have h1 : ¬ mkS a = mkS b := fun e => h (mkS_inj e)
    have h2 : (mkS a == mkS b) = false := by
      cases e : (mkS a == mkS b)
      · rfl
      · exact absurd ((bytes_beq _ _).1 e) h1
    rw [h2]; simp [h]

/- A file with the slice that holds its bytes; what stands for it in the map. -/
abbrev Fv := Fi × Value
def stV (s : Stt) : List Value := [.int .i64 s.cz, .int .i64 s.mz, .int .i64 s.pz, .int .i64 s.ct, .int .i64 s.mt, .int .i64 s.ver, .int .i64 s.cv, .int .i64 s.own, .int .i64 s.len, .int .i64 s.chd]
def valOf (p : Fv) : Value := .agg (p.2 :: stV p.1.st).toArray
def kvOf (p : Fv) : Value × Value := (.string (mkS p.1.nm), valOf p)
def kv (e : MapEntry) : Value × Value := (e.key, e.val)

/- The file of a name, a file put at its name, the file of a name taken away: the first one of that name. -/
def look (k : List UInt8) : List Fv → Option Fv
  | [] => none
  | q :: L => if q.1.nm = k then some q else look k L
def putL (p : Fv) : List Fv → List Fv
  | [] => [p]
  | q :: L => if q.1.nm = p.1.nm then p :: L else q :: putL p L
def delL (k : List UInt8) : List Fv → List Fv
  | [] => []
  | q :: L => if q.1.nm = k then L else q :: delL k L

def MapIs (w : World) (m : Nat) (L : List Fv) : Prop :=
  ∃ es clock, w.heap[m]? = some (.map es clock) ∧ es.toList.map kv = L.map kvOf ∧ Stamped es clock

theorem find_key (k : List UInt8) (p : Fv) (hp : p.1.nm = k) : ∀ (es : List MapEntry) (L : List Fv) (i : Nat), es.map kv = L.map kvOf →
    (Instr.findNow .string (.string (mkS k)) es i = some none ∧ look k L = none ∧ putL p L = L ++ [p] ∧ delL k L = L ∧ ∀ x ∈ es, x.key ≠ .string (mkS k)) ∨
    ∃ j e q, Instr.findNow .string (.string (mkS k)) es i = some (some (i + j, e.val)) ∧ es[j]? = some e ∧ L[j]? = some q ∧ look k L = some q ∧ e.key = .string (mkS k) ∧ e.val = valOf q ∧ q.1.nm = k ∧ putL p L = L.set j p ∧ delL k L = L.eraseIdx j
  | [], [], _, _ => .inl ⟨rfl, rfl, rfl, rfl, by simp⟩
  | [], q :: L, _, h => by cases h
  | e :: es, [], _, h => by cases h
  | e :: es, q :: L, i, h => by
    simp only [List.map_cons, List.cons.injEq] at h
    obtain ⟨h0, ht⟩ := h
    have hk : e.key = .string (mkS q.1.nm) := congrArg Prod.fst h0
    have hv : e.val = valOf q := congrArg Prod.snd h0
    by_cases hq : q.1.nm = k
    · refine .inr ⟨0, e, q, ?_, rfl, rfl, by simp [look, hq], by rw [hk, hq], hv, hq, by simp [putL, hq, hp], by simp [delL, hq]⟩
      simp [Instr.findNow, hk, hq, Instr.sameNow, mkS_beq]
    · have hq' : (k == q.1.nm) = false := by simpa using fun e => hq (Eq.symm e)
      rcases find_key k p hp es L (i + 1) ht with ⟨h1, h2, h3, h4, h5⟩ | ⟨j, e', q', h1, h2, h2', h3, h4, h5, h6, h7, h8⟩
      · refine .inl ⟨?_, by simp [look, hq, h2], by simp [putL, hq, hp, h3], by simp [delL, hq, h4], ?_⟩
        · simp [Instr.findNow, hk, Instr.sameNow, mkS_beq, hq', h1]
        · intro x hx
          rcases List.mem_cons.1 hx with rfl | hx
          · rw [hk]; intro e; injection e with e; exact hq (mkS_inj e)
          · exact h5 x hx
      · refine .inr ⟨j + 1, e', q', ?_, by simpa using h2, by simpa using h2', by simp [look, hq, h3], h4, h5, h6, by simp [putL, hq, hp, h7], by simp [delL, hq, h8]⟩
        simp [Instr.findNow, hk, Instr.sameNow, mkS_beq, hq', h1]; omega

theorem und9 : Tryz.prog.underlying 9 = some .string := Tryz.underlying9
theorem undM : Tryz.prog.underlying 35 = some (.map 9 77) := Tryz.underlying35
theorem zeroF (w : World) : (zeroValue 77).run Tryz.prog w = .ok (.agg #[.slice none 0 0, .int .i64 0, .int .i64 0, .int .i64 0, .int .i64 0, .int .i64 0, .int .i64 0, .int .i64 0, .int .i64 0, .int .i64 0, .int .i64 0]) w := by kernel_rfl

/- What stands at a name, or the file that is none's. -/
def zeroFv : Fv := (⟨[], [], zeroSt⟩, .slice none 0 0)
theorem MapIs.lookup {w : World} {m : Nat} {L : List Fv} (h : MapIs w m L) (k : List UInt8) (c : Bool) :
    (Instr.lookup 35 (.map (some m)) (.string (mkS k)) c).run Tryz.prog w = .ok (if c then .tuple #[valOf ((look k L).getD zeroFv), .bool (look k L).isSome] else valOf ((look k L).getD zeroFv)) w := by
  obtain ⟨es, clock, hb, he, hs⟩ := h
  rcases find_key k (⟨k, [], zeroSt⟩, .slice none 0 0) rfl es.toList L 0 he with ⟨h1, h2, _⟩ | ⟨j, e, q, h1, h2, h2', h3, h4, h5, _⟩
  · simp [Instr.lookup, run_underlying undM, Go.MapKept.run_getObj_map hb, Go.MapKept.run_checkKey und9 (d := .string) (k := .string (mkS k)) trivial, Go.MapKept.run_findKey und9 h1, Result.andThen, h2, valOf, zeroFv, stV, zeroSt]
  · simp [Instr.lookup, run_underlying undM, Go.MapKept.run_getObj_map hb, Go.MapKept.run_checkKey und9 (d := .string) (k := .string (mkS k)) trivial, Go.MapKept.run_findKey und9 h1, Result.andThen, h3, h5]

theorem Chg.setBlock (w : World) (r : Nat) (o : Obj) : Chg (fun k => k = r) w (setBlock w r o) :=
  ⟨rfl, rfl, rfl, by simp [Go.ChangeMaps.setBlock], fun k _ hn => by simp [Go.ChangeMaps.setBlock, Array.getElem?_setIfInBounds_ne (fun e => hn e.symm)]⟩
theorem size_setBlock (w : World) (r : Nat) (o : Obj) : (setBlock w r o).heap.size = w.heap.size := by simp [Go.ChangeMaps.setBlock]
theorem heap_setBlock {w : World} {r : Nat} {o o' : Obj} (h : w.heap[r]? = some o) : (setBlock w r o').heap[r]? = some o' := by
  have hlt : r < w.heap.size := (Array.getElem?_eq_some_iff.1 h).1
  simp [Go.ChangeMaps.setBlock, hlt]

theorem modify_kv {es : Array MapEntry} {L : List Fv} (he : es.toList.map kv = L.map kvOf) (j : Nat) (p : Fv) {e : MapEntry} (hj : es[j]? = some e) (f : MapEntry → MapEntry) (hf : kv (f e) = kvOf p) :
    (es.modify j f).toList.map kv = (L.set j p).map kvOf := by
  apply List.ext_getElem?
  intro i
  have hi : (es.toList.map kv)[i]? = (L.map kvOf)[i]? := by rw [he]
  simp only [List.getElem?_map, Array.getElem?_toList, Array.getElem?_modify, List.getElem?_set] at hi ⊢
  by_cases hij : j = i
  · subst hij
    rw [hj] at hi ⊢
    have hlt : j < L.length := by
      rcases Nat.lt_or_ge j L.length with h | h
      · exact h
      · rw [List.getElem?_eq_none h] at hi; cases hi
    simp [hlt, hf]
  · simp [hij, hi]

/- A file put into the map. -/
theorem MapIs.update {w : World} {m : Nat} {L : List Fv} (h : MapIs w m L) (p : Fv) :
    ∃ w', (Instr.mapUpdate 35 (.map (some m)) (.string (mkS p.1.nm)) (valOf p)).run Tryz.prog w = .ok () w' ∧ MapIs w' m (putL p L) ∧ Chg (fun k => k = m) w w' ∧ w'.heap.size = w.heap.size := by
  obtain ⟨es, clock, hb, he, hs⟩ := h
  rcases find_key p.1.nm p rfl es.toList L 0 he with ⟨h1, h2, h3, _, h5⟩ | ⟨j, e, q, h1, h2, h2', h3, h4, h5, h6, h7, _⟩
  · refine ⟨setBlock w m (.map (es.push { key := .string (mkS p.1.nm), val := valOf p, born := clock }) (clock + 1)), ?_, ⟨_, _, heap_setBlock hb, ?_, stamped_push hs h5⟩, Chg.setBlock _ _ _, size_setBlock _ _ _⟩
    · simp [Instr.mapUpdate, run_underlying undM, Go.MapKept.run_getObj_map hb, Go.MapKept.run_checkKey und9 (d := .string) (k := .string (mkS p.1.nm)) trivial, Go.MapKept.run_findKey und9 h1, Go.MapKept.run_setObj_map _ hb, Result.andThen, Go.ChangeMaps.setBlock]
    · rw [h3]; simp [he, kv, kvOf]
  · have h2' : es[j]? = some e := by rw [← Array.getElem?_toList]; exact h2
    have hj : 0 + j = j := Nat.zero_add j
    rw [hj] at h1
    refine ⟨setBlock w m (.map (es.modify j fun e => { e with key := .string (mkS p.1.nm), val := valOf p }) clock), ?_, ⟨_, _, heap_setBlock hb, ?_, ?_⟩, Chg.setBlock _ _ _, size_setBlock _ _ _⟩
    · simp [Instr.mapUpdate, run_underlying undM, Go.MapKept.run_getObj_map hb, Go.MapKept.run_checkKey und9 (d := .string) (k := .string (mkS p.1.nm)) trivial, Go.MapKept.run_findKey und9 h1, Go.MapKept.run_setObj_map _ hb, Result.andThen, Go.ChangeMaps.setBlock, h2', h4, run_keyThatStays (d := .string) (k := .string (mkS p.1.nm)) trivial]
    · rw [h7]; exact modify_kv he j p h2' _ rfl
    · exact stamped_modify hs j _ (fun e _ => rfl) (fun e' _ he' => by rw [h2'] at he'; cases he'; exact h4.symm)

/- A file taken out of the map. -/
theorem MapIs.delete {w : World} {m : Nat} {L : List Fv} (h : MapIs w m L) (k : List UInt8) (ty : TypeId) :
    ∃ w', (Builtin.delete_ #[35, 9] ty #[.map (some m), .string (mkS k)]).run Tryz.prog w = .ok (.tuple #[]) w' ∧ MapIs w' m (delL k L) ∧ Chg (fun i => i = m) w w' ∧ w'.heap.size = w.heap.size := by
  obtain ⟨es, clock, hb, he, hs⟩ := h
  rcases find_key k (⟨k, [], zeroSt⟩, .slice none 0 0) rfl es.toList L 0 he with ⟨h1, h2, _, h4, _⟩ | ⟨j, e, q, h1, h2, h2', h3, h4, h5, _, _, h8⟩
  · refine ⟨setBlock w m (.map es clock), ?_, ⟨_, _, heap_setBlock hb, by rw [h4]; exact he, hs⟩, Chg.setBlock _ _ _, size_setBlock _ _ _⟩
    simp [Builtin.delete_, run_underlying undM, Go.MapKept.run_getObj_map hb, Go.MapKept.run_checkKey und9 (d := .string) (k := .string (mkS k)) trivial, Go.MapKept.run_findKey und9 h1, Go.MapKept.run_setObj_map _ hb, Result.andThen, Go.ChangeMaps.setBlock]
  · have hj : 0 + j = j := Nat.zero_add j
    rw [hj] at h1
    refine ⟨setBlock w m (.map (es.eraseIdxIfInBounds j) clock), ?_, ⟨_, _, heap_setBlock hb, ?_, stamped_erase hs j⟩, Chg.setBlock _ _ _, size_setBlock _ _ _⟩
    · simp [Builtin.delete_, run_underlying undM, Go.MapKept.run_getObj_map hb, Go.MapKept.run_checkKey und9 (d := .string) (k := .string (mkS k)) trivial, Go.MapKept.run_findKey und9 h1, Go.MapKept.run_setObj_map _ hb, Result.andThen, Go.ChangeMaps.setBlock]
    · rw [h8]
      have hlt : j < es.size := by
        have := List.getElem?_eq_some_iff.1 h2
        simpa using this.1
      rw [Array.eraseIdxIfInBounds, dif_pos hlt, Array.toList_eraseIdx, Go.ChangeMaps.map_eraseIdx, he, ← Go.ChangeMaps.map_eraseIdx]

theorem MapIs.keep {S : Nat → Prop} {w w' : World} {m : Nat} {L : List Fv} (h : MapIs w m L) (hc : Chg S w w') (hn : ¬ S m) : MapIs w' m L := by
  obtain ⟨es, clock, hb, h⟩ := h
  exact ⟨es, clock, by rw [hc.block m (Array.getElem?_eq_some_iff.1 hb).1 hn]; exact hb, h⟩
theorem MapIs.lt {w : World} {m : Nat} {L : List Fv} (h : MapIs w m L) : m < w.heap.size := by
  obtain ⟨es, clock, hb, h⟩ := h
  exact (Array.getElem?_eq_some_iff.1 hb).1
theorem MapIs.names {w : World} {m : Nat} {L : List Fv} (h : MapIs w m L) : (L.map fun p => p.1.nm).Nodup := by
  obtain ⟨es, clock, hb, he, h1, h2, h3⟩ := h
  have hk : es.toList.map (·.key) = L.map (fun p => Value.string (mkS p.1.nm)) := by
    have := congrArg (List.map Prod.fst) he
    simpa [kv, kvOf, Function.comp_def] using this
  rw [hk] at h3
  unfold List.Nodup at h3 ⊢
  rw [List.pairwise_map] at h3 ⊢
  exact h3.imp fun h e => h (by rw [e])

/- Going through a map: left: the names that are still to come. -/
def Ranges (w : World) (m r : Nat) (L : List Fv) (left : List (List UInt8)) : Prop :=
  ∃ es clock since seen c0, w.heap[m]? = some (.map es clock) ∧ es.toList.map kv = L.map kvOf ∧ Stamped es clock ∧ w.heap[r]? = some (.mapIter (some m) since seen c0) ∧ (∀ e ∈ es.toList, e.born < since) ∧ since ≤ c0 ∧ since ≤ clock ∧
    (leftOf es seen).toList.map (fun e => e.key) = left.map (fun k => Value.string (mkS k))

theorem Ranges.map {w : World} {m r : Nat} {L : List Fv} {left : List (List UInt8)} (h : Ranges w m r L left) : MapIs w m L := by
  obtain ⟨es, clock, since, seen, c0, h1, h2, h3, _⟩ := h
  exact ⟨es, clock, h1, h2, h3⟩
theorem Ranges.lt {w : World} {m r : Nat} {L : List Fv} {left : List (List UInt8)} (h : Ranges w m r L left) : r < w.heap.size := by
  obtain ⟨es, clock, since, seen, c0, h1, h2, h3, h4, _⟩ := h
  exact (Array.getElem?_eq_some_iff.1 h4).1
theorem Ranges.ne {w : World} {m r : Nat} {L : List Fv} {left : List (List UInt8)} (h : Ranges w m r L left) : m ≠ r := by
  obtain ⟨es, clock, since, seen, c0, h1, h2, h3, h4, _⟩ := h
  intro e; subst e; rw [h1] at h4; cases h4
theorem Ranges.keep {S : Nat → Prop} {w w' : World} {m r : Nat} {L : List Fv} {left : List (List UInt8)} (h : Ranges w m r L left) (hc : Chg S w w') (hm : ¬ S m) (hr : ¬ S r) : Ranges w' m r L left := by
  have hl := h.lt
  have hlm := h.map.lt
  obtain ⟨es, clock, since, seen, c0, h1, h2, h3, h4, h5⟩ := h
  exact ⟨es, clock, since, seen, c0, by rw [hc.block m hlm hm]; exact h1, h2, h3, by rw [hc.block r hl hr]; exact h4, h5⟩

theorem Ranges.alloc {w : World} {m r : Nat} {L : List Fv} {left : List (List UInt8)} (h : Ranges w m r L left) (o : Obj) : Ranges (w.alloc o) m r L left := h.keep (Chg.alloc Non w o) id id
theorem MapIs.range {w : World} {m : Nat} {L : List Fv} (h : MapIs w m L) :
    ∃ w', (Instr.range 35 (.map (some m))).run Tryz.prog w = .ok (.pointer (some ⟨w.heap.size, 0, none⟩)) w' ∧ Ranges w' m w.heap.size L (L.map fun p => p.1.nm) ∧ Chg Non w w' ∧ w'.heap.size = w.heap.size + 1 := by
  have hlt := h.lt
  obtain ⟨es, clock, hb, he, hs⟩ := h
  refine ⟨w.alloc (.mapIter (some m) clock #[] clock), ?_, ⟨es, clock, clock, #[], clock, ?_, he, hs, heap_alloc_new w _, hs.1, Nat.le_refl _, Nat.le_refl _, ?_⟩, Chg.alloc _ _ _, by simp⟩
  · exact run_range_map (P := Tryz.prog) w 35 9 77 m es clock undM hb
  · rw [Below.heap_alloc w _ m hlt]; exact hb
  · have := congrArg (List.map Prod.fst) he
    have h2 : (leftOf es #[]).toList = es.toList := by simp [leftOf]
    rw [h2]
    simpa [kv, kvOf, Function.comp_def] using this

theorem split_born {e : MapEntry} : ∀ {A : List MapEntry}, (A.map (·.born)).Nodup → e ∈ A → ∃ A1 A2, A = A1 ++ e :: A2 ∧ A.filter (fun x => !(x.born == e.born)) = A1 ++ A2
  | [], _, h => by cases h
  | x :: A, hn, h => by
    simp only [List.map_cons, List.nodup_cons] at hn
    by_cases hx : x.born = e.born
    · rcases List.mem_cons.1 h with rfl | h
      · refine ⟨[], A, rfl, ?_⟩
        simp only [List.nil_append, List.filter_cons, beq_self_eq_true, Bool.not_true, Bool.false_eq_true, if_false]
        apply List.filter_eq_self.2
        intro y hy
        simp only [Bool.not_eq_true', beq_eq_false_iff_ne]
        intro e'
        exact hn.1 (List.mem_map.2 ⟨y, hy, e'⟩)
      · exact absurd (List.mem_map.2 ⟨e, h, hx.symm⟩) hn.1
    · rcases List.mem_cons.1 h with rfl | h
      · exact absurd rfl hx
      · obtain ⟨A1, A2, h1, h2⟩ := split_born hn.2 h
        refine ⟨x :: A1, A2, by rw [h1]; rfl, ?_⟩
        rw [List.filter_cons, if_pos (by simp [hx]), h2]; rfl

theorem look_mem : ∀ {L : List Fv} {p : Fv}, (L.map fun p => p.1.nm).Nodup → p ∈ L → look p.1.nm L = some p
  | [], _, _, h => by cases h
  | q :: L, p, hn, h => by
    simp only [List.map_cons, List.nodup_cons] at hn
    unfold look
    rcases List.mem_cons.1 h with rfl | h
    · simp
    · rw [if_neg (fun e => hn.1 (List.mem_map.2 ⟨p, h, e.symm⟩)), look_mem hn.2 h]
theorem look_some : ∀ {L : List Fv} {k : List UInt8} {p : Fv}, look k L = some p → p ∈ L ∧ p.1.nm = k
  | q :: L, k, p, h => by
    unfold look at h
    split at h
    · cases h; exact ⟨.head _, by assumption⟩
    · exact ⟨.tail _ (look_some h).1, (look_some h).2⟩

/- One step: nothing is left, or a name that was to come. -/
theorem Ranges.next {w : World} {m r : Nat} {L : List Fv} {left : List (List UInt8)} (h : Ranges w m r L left) (ty : TypeId) :
    (left = [] ∧ (Instr.next (.pointer (some ⟨r, 0, none⟩)) false ty).run Tryz.prog w = .ok (.tuple #[.bool false]) w) ∨
    ∃ l1 l2 p w', left = l1 ++ p.1.nm :: l2 ∧ look p.1.nm L = some p ∧ (Instr.next (.pointer (some ⟨r, 0, none⟩)) false ty).run Tryz.prog w = .ok (.tuple #[.bool true, .string (mkS p.1.nm), valOf p]) w' ∧ Ranges w' m r L (l1 ++ l2) ∧ Chg (fun k => k = r) w w' ∧ w'.heap.size = w.heap.size ∧
      (Instr.entry (.pointer (some ⟨r, 0, none⟩))).run Tryz.prog w' = .ok (.tuple #[.string (mkS p.1.nm), valOf p]) w' := by
  have hN := h.map.names
  have hne := h.ne
  obtain ⟨es, clock, since, seen, c0, hb, he, hs, hr, hold, hsc, hck, hl⟩ := h
  rcases run_next_at (P := Tryz.prog) w ty r m since c0 seen es clock hr hb hold hsc with ⟨h0, hrun⟩ | ⟨e, hme, w1, hw1, hrun⟩
  · refine .inl ⟨?_, hrun⟩
    have : (leftOf es seen).toList = [] := List.length_eq_zero_iff.1 (by simpa using h0)
    rw [this] at hl
    cases left with
    | nil => rfl
    | cons a b => cases hl
  · have hmes : e ∈ es.toList := by
      have := hme; simp [leftOf] at this; simpa using this.1
    have hkv : kv e ∈ L.map kvOf := by rw [← he]; exact List.mem_map.2 ⟨e, hmes, rfl⟩
    obtain ⟨p, hp, hpe⟩ := List.mem_map.1 hkv
    have hek : e.key = .string (mkS p.1.nm) := (congrArg Prod.fst hpe).symm
    have hev : e.val = valOf p := (congrArg Prod.snd hpe).symm
    have hnd : ((leftOf es seen).toList.map (·.born)).Nodup := by
      have hsub : (leftOf es seen).toList.Sublist es.toList := by simp [leftOf]
      exact (hsub.map _).nodup hs.2.1
    obtain ⟨A1, A2, hA, hF⟩ := split_born hnd hme
    have hl2 := hl
    rw [hA, List.map_append, List.map_cons, hek] at hl2
    obtain ⟨l1, lr, hlr, hl1, hlr2⟩ := List.map_eq_append_iff.1 hl2.symm
    obtain ⟨k, l2, hk, hkk, hl2'⟩ := List.map_eq_cons_iff.1 hlr2
    injection hkk with hkk
    have hkn := mkS_inj hkk
    subst hkn
    have hw1h : w1.heap = w.heap := by rcases hw1 with rfl | rfl <;> rfl
    have hr1 : w1.heap[r]? = some (.mapIter (some m) since seen c0) := by rw [hw1h]; exact hr
    have hb1 : (setBlock w1 r (.mapIter (some m) since (seen.push e.born) clock)).heap[m]? = some (.map es clock) := by
      simp [Go.ChangeMaps.setBlock, Array.getElem?_setIfInBounds_ne hne.symm, hw1h, hb]
    have hr2 := heap_setBlock (o' := .mapIter (some m) since (seen.push e.born) clock) hr1
    refine .inr ⟨l1, l2, p, _, by rw [hlr, hk], look_mem hN hp, by rw [hek, hev] at hrun; exact hrun, ⟨es, clock, since, seen.push e.born, clock, hb1, he, hs, hr2, hold, hck, hck, ?_⟩, ?_, by rw [size_setBlock, hw1h], ?_⟩
    · have hpush : (leftOf es (seen.push e.born)).toList = A1 ++ A2 := by
        rw [← hF]
        simp only [leftOf, Array.toList_filter, List.filter_filter]
        apply List.filter_congr
        intro x _
        rw [contains_push]
        cases seen.contains x.born <;> cases (x.born == e.born) <;> rfl
      rw [hpush, List.map_append, List.map_append, hl1, hl2']
    · rcases hw1 with rfl | rfl
      · exact Chg.setBlock _ _ _
      · exact (Chg.drew _ w).trans (Chg.setBlock _ _ _)
    · have := run_entry_at (P := Tryz.prog) _ r m since seen es clock e hr2 hb1 hmes hs.2.1
      rw [hek, hev] at this
      exact this

/- A file put at a name that is there, while the map is gone through. -/
theorem Ranges.update {w : World} {m r : Nat} {L : List Fv} {left : List (List UInt8)} (h : Ranges w m r L left) (p : Fv) {q : Fv} (hq : look p.1.nm L = some q) :
    ∃ w', (Instr.mapUpdate 35 (.map (some m)) (.string (mkS p.1.nm)) (valOf p)).run Tryz.prog w = .ok () w' ∧ Ranges w' m r (putL p L) left ∧ Chg (fun k => k = m) w w' ∧ w'.heap.size = w.heap.size := by
  have hne := h.ne
  obtain ⟨es, clock, since, seen, c0, hb, he, hs, hr, hold, hsc, hck, hl⟩ := h
  rcases find_key p.1.nm p rfl es.toList L 0 he with ⟨h1, h2, h3, _, h5⟩ | ⟨j, e, q', h1, h2, h2', h3, h4, h5, h6, h7, _⟩
  · rw [h2] at hq; cases hq
  · have h2' : es[j]? = some e := by rw [← Array.getElem?_toList]; exact h2
    have hj : 0 + j = j := Nat.zero_add j
    rw [hj] at h1
    have hmk : ∀ x, es[j]? = some x → ({ x with key := .string (mkS p.1.nm), val := valOf p } : MapEntry).key = x.key := fun x hx => by rw [h2'] at hx; cases hx; exact h4.symm
    refine ⟨setBlock w m (.map (es.modify j fun e => { e with key := .string (mkS p.1.nm), val := valOf p }) clock), ?_, ⟨_, clock, since, seen, c0, heap_setBlock hb, ?_, ?_, ?_, ?_, hsc, hck, ?_⟩, Chg.setBlock _ _ _, size_setBlock _ _ _⟩
    · simp [Instr.mapUpdate, run_underlying undM, Go.MapKept.run_getObj_map hb, Go.MapKept.run_checkKey und9 (d := .string) (k := .string (mkS p.1.nm)) trivial, Go.MapKept.run_findKey und9 h1, Go.MapKept.run_setObj_map _ hb, Result.andThen, Go.ChangeMaps.setBlock, h2', h4, run_keyThatStays (d := .string) (k := .string (mkS p.1.nm)) trivial]
    · rw [h7]; exact modify_kv he j p h2' _ rfl
    · exact stamped_modify hs j _ (fun e _ => rfl) (fun e' _ he' => hmk e' he')
    · simp [Go.ChangeMaps.setBlock, Array.getElem?_setIfInBounds_ne hne, hr]
    · intro x hx
      obtain ⟨i, hi⟩ := List.getElem?_of_mem hx
      rw [Array.getElem?_toList, Array.getElem?_modify] at hi
      split at hi
      · obtain ⟨y, hy, rfl⟩ := Option.map_eq_some_iff.1 hi
        exact hold y (Array.mem_toList_iff.2 (Array.mem_of_getElem? hy))
      · exact hold x (Array.mem_toList_iff.2 (Array.mem_of_getElem? hi))
    · rw [← hl]
      have hgen : ∀ (A : List MapEntry) (j : Nat), (∀ x, A[j]? = some x → x.key = .string (mkS p.1.nm)) →
          ((A.modify j fun e => { e with key := .string (mkS p.1.nm), val := valOf p }).filter fun e => !seen.contains e.born).map (·.key) = (A.filter fun e => !seen.contains e.born).map (·.key) := by
        intro A
        induction A with
        | nil => intro j _; simp
        | cons x A ih =>
          intro j hx
          cases j with
          | zero =>
            have hxk := hx x rfl
            simp only [List.modify_zero_cons, List.filter_cons]
            split <;> simp [hxk]
          | succ j =>
            simp only [List.modify_succ_cons, List.filter_cons]
            split
            · simp only [List.map_cons]; rw [ih j (fun y hy => hx y (by simpa using hy))]
            · exact ih j (fun y hy => hx y (by simpa using hy))
      have := hgen es.toList j (fun x hx => by rw [Array.getElem?_toList] at hx; rw [h2'] at hx; cases hx; exact h4)
      simpa [leftOf] using this
end Go.Proofs.YtcdnfgibcochhaaGreatDoor
