/- Maps from texts to numbers, as trees' maps of nodes. Trees: All: the nodes by rising paths. -/
import Derived.Test.YtcdnfgibcochhaaGreatDoorTrB
import Derived.Test.YtcdnfgibcochhaaGreatDoorTrMb
import Derived.Test.YtcdnfgibcochhaaGreatDoorTrWa
import Derived.Maps.RangeWalk
import Derived.Maps.AppendAt
namespace Go.Proofs.YtcdnfgibcochhaaGreatDoor.Ct
set_option linter.unusedSimpArgs false
set_option linter.unusedVariables false
set_option linter.unusedVariables false
set_option linter.unusedSimpArgs false
open Go.RowKit Go.MapKept
open Go.ChangeMaps (setBlock)
set_option linter.unusedVariables false
set_option linter.unusedSimpArgs false

/- A file with the slice that holds its bytes; what stands for it in the map. -/
abbrev Fv := List UInt8 × Int
def valOf (p : Fv) : Value := .int .i64 p.2
def kvOf (p : Fv) : Value × Value := (.string (mkS p.1), valOf p)
def kv (e : MapEntry) : Value × Value := (e.key, e.val)

/- The file of a name, a file put at its name, the file of a name taken away: the first one of that name. -/
def look (k : List UInt8) : List Fv → Option Fv
  | [] => none
  | q :: L => if q.1 = k then some q else look k L
def putL (p : Fv) : List Fv → List Fv
  | [] => [p]
  | q :: L => if q.1 = p.1 then p :: L else q :: putL p L
def delL (k : List UInt8) : List Fv → List Fv
  | [] => []
  | q :: L => if q.1 = k then L else q :: delL k L

def MapIs (w : World) (m : Nat) (L : List Fv) : Prop :=
  ∃ es clock, w.heap[m]? = some (.map es clock) ∧ es.toList.map kv = L.map kvOf ∧ Stamped es clock

theorem find_key (k : List UInt8) (p : Fv) (hp : p.1 = k) : ∀ (es : List MapEntry) (L : List Fv) (i : Nat), es.map kv = L.map kvOf →
    (Instr.findNow .string (.string (mkS k)) es i = some none ∧ look k L = none ∧ putL p L = L ++ [p] ∧ delL k L = L ∧ ∀ x ∈ es, x.key ≠ .string (mkS k)) ∨
    ∃ j e q, Instr.findNow .string (.string (mkS k)) es i = some (some (i + j, e.val)) ∧ es[j]? = some e ∧ L[j]? = some q ∧ look k L = some q ∧ e.key = .string (mkS k) ∧ e.val = valOf q ∧ q.1 = k ∧ putL p L = L.set j p ∧ delL k L = L.eraseIdx j
  | [], [], _, _ => .inl ⟨rfl, rfl, rfl, rfl, by simp⟩
  | [], q :: L, _, h => by cases h
  | e :: es, [], _, h => by cases h
  | e :: es, q :: L, i, h => by
    simp only [List.map_cons, List.cons.injEq] at h
    obtain ⟨h0, ht⟩ := h
    have hk : e.key = .string (mkS q.1) := congrArg Prod.fst h0
    have hv : e.val = valOf q := congrArg Prod.snd h0
    by_cases hq : q.1 = k
    · refine .inr ⟨0, e, q, ?_, rfl, rfl, by simp [look, hq], by rw [hk, hq], hv, hq, by simp [putL, hq, hp], by simp [delL, hq]⟩
      simp [Instr.findNow, hk, hq, Instr.sameNow, mkS_beq]
    · have hq' : (k == q.1) = false := by simpa using fun e => hq (Eq.symm e)
      rcases find_key k p hp es L (i + 1) ht with ⟨h1, h2, h3, h4, h5⟩ | ⟨j, e', q', h1, h2, h2', h3, h4, h5, h6, h7, h8⟩
      · refine .inl ⟨?_, by simp [look, hq, h2], by simp [putL, hq, hp, h3], by simp [delL, hq, h4], ?_⟩
        · simp [Instr.findNow, hk, Instr.sameNow, mkS_beq, hq', h1]
        · intro x hx
          rcases List.mem_cons.1 hx with rfl | hx
          · rw [hk]; intro e; injection e with e; exact hq (mkS_inj e)
          · exact h5 x hx
      · refine .inr ⟨j + 1, e', q', ?_, by simpa using h2, by simpa using h2', by simp [look, hq, h3], h4, h5, h6, by simp [putL, hq, hp, h7], by simp [delL, hq, h8]⟩
        simp [Instr.findNow, hk, Instr.sameNow, mkS_beq, hq', h1]; omega

theorem und9 : Tryz.prog.underlying 9 = some .string := Tryz.underlying9
theorem undM : Tryz.prog.underlying 93 = some (.map 9 3) := Tryz.underlying93
theorem zeroF (w : World) : (zeroValue 3).run Tryz.prog w = .ok (.int .i64 0) w := by kernel_rfl

/- What stands at a name, or the file that is none's. -/
def zeroFv : Fv := ([], 0)
theorem MapIs.lookup {w : World} {m : Nat} {L : List Fv} (h : MapIs w m L) (k : List UInt8) (c : Bool) :
    (Instr.lookup 93 (.map (some m)) (.string (mkS k)) c).run Tryz.prog w = .ok (if c then .tuple #[valOf ((look k L).getD zeroFv), .bool (look k L).isSome] else valOf ((look k L).getD zeroFv)) w := by
  obtain ⟨es, clock, hb, he, hs⟩ := h
  rcases find_key k (k, 0) rfl es.toList L 0 he with ⟨h1, h2, _⟩ | ⟨j, e, q, h1, h2, h2', h3, h4, h5, _⟩
  · simp [Instr.lookup, run_underlying undM, Go.MapKept.run_getObj_map hb, Go.MapKept.run_checkKey und9 (d := .string) (k := .string (mkS k)) trivial, Go.MapKept.run_findKey und9 h1, Result.andThen, h2, valOf, zeroFv]
  · simp [Instr.lookup, run_underlying undM, Go.MapKept.run_getObj_map hb, Go.MapKept.run_checkKey und9 (d := .string) (k := .string (mkS k)) trivial, Go.MapKept.run_findKey und9 h1, Result.andThen, h3, h5]

theorem modify_kv {es : Array MapEntry} {L : List Fv} (he : es.toList.map kv = L.map kvOf) (j : Nat) (p : Fv) {e : MapEntry} (hj : es[j]? = some e) (f : MapEntry → MapEntry) (hf : kv (f e) = kvOf p) :
    (es.modify j f).toList.map kv = (L.set j p).map kvOf := by
  apply List.ext_getElem?
  intro i
  have hi : (es.toList.map kv)[i]? = (L.map kvOf)[i]? := by rw [he]
  simp only [List.getElem?_map, Array.getElem?_toList, Array.getElem?_modify, List.getElem?_set] at hi ⊢
  by_cases hij : j = i
  · subst hij
    rw [hj] at hi ⊢
    have hlt : j < L.length := by
      rcases Nat.lt_or_ge j L.length with h | h
      · exact h
      · rw [List.getElem?_eq_none h] at hi; cases hi
    simp [hlt, hf]
  · simp [hij, hi]

/- A file put into the map. -/
theorem MapIs.update {w : World} {m : Nat} {L : List Fv} (h : MapIs w m L) (p : Fv) :
    ∃ w', (Instr.mapUpdate 93 (.map (some m)) (.string (mkS p.1)) (valOf p)).run Tryz.prog w = .ok () w' ∧ MapIs w' m (putL p L) ∧ Chg (fun k => k = m) w w' ∧ w'.heap.size = w.heap.size := by
  obtain ⟨es, clock, hb, he, hs⟩ := h
  rcases find_key p.1 p rfl es.toList L 0 he with ⟨h1, h2, h3, _, h5⟩ | ⟨j, e, q, h1, h2, h2', h3, h4, h5, h6, h7, _⟩
  · refine ⟨setBlock w m (.map (es.push { key := .string (mkS p.1), val := valOf p, born := clock }) (clock + 1)), ?_, ⟨_, _, heap_setBlock hb, ?_, stamped_push hs h5⟩, Chg.setBlock _ _ _, size_setBlock _ _ _⟩
    · simp [Instr.mapUpdate, run_underlying undM, Go.MapKept.run_getObj_map hb, Go.MapKept.run_checkKey und9 (d := .string) (k := .string (mkS p.1)) trivial, Go.MapKept.run_findKey und9 h1, Go.MapKept.run_setObj_map _ hb, Result.andThen, Go.ChangeMaps.setBlock]
    · rw [h3]; simp [he, kv, kvOf]
  · have h2' : es[j]? = some e := by rw [← Array.getElem?_toList]; exact h2
    have hj : 0 + j = j := Nat.zero_add j
    rw [hj] at h1
    refine ⟨setBlock w m (.map (es.modify j fun e => { e with key := .string (mkS p.1), val := valOf p }) clock), ?_, ⟨_, _, heap_setBlock hb, ?_, ?_⟩, Chg.setBlock _ _ _, size_setBlock _ _ _⟩
    · simp [Instr.mapUpdate, run_underlying undM, Go.MapKept.run_getObj_map hb, Go.MapKept.run_checkKey und9 (d := .string) (k := .string (mkS p.1)) trivial, Go.MapKept.run_findKey und9 h1, Go.MapKept.run_setObj_map _ hb, Result.andThen, Go.ChangeMaps.setBlock, h2', h4, run_keyThatStays (d := .string) (k := .string (mkS p.1)) trivial]
    · rw [h7]; exact modify_kv he j p h2' _ rfl
    · exact stamped_modify hs j _ (fun e _ => rfl) (fun e' _ he' => by rw [h2'] at he'; cases he'; exact h4.symm)

/- A file taken out of the map. -/
theorem MapIs.delete {w : World} {m : Nat} {L : List Fv} (h : MapIs w m L) (k : List UInt8) (ty : TypeId) :
    ∃ w', (Builtin.delete_ #[93, 9] ty #[.map (some m), .string (mkS k)]).run Tryz.prog w = .ok (.tuple #[]) w' ∧ MapIs w' m (delL k L) ∧ Chg (fun i => i = m) w w' ∧ w'.heap.size = w.heap.size := by
  obtain ⟨es, clock, hb, he, hs⟩ := h
  rcases find_key k (k, 0) rfl es.toList L 0 he with ⟨h1, h2, _, h4, _⟩ | ⟨j, e, q, h1, h2, h2', h3, h4, h5, _, _, h8⟩
  · refine ⟨setBlock w m (.map es clock), ?_, ⟨_, _, heap_setBlock hb, by rw [h4]; exact he, hs⟩, Chg.setBlock _ _ _, size_setBlock _ _ _⟩
    simp [Builtin.delete_, run_underlying undM, Go.MapKept.run_getObj_map hb, Go.MapKept.run_checkKey und9 (d := .string) (k := .string (mkS k)) trivial, Go.MapKept.run_findKey und9 h1, Go.MapKept.run_setObj_map _ hb, Result.andThen, Go.ChangeMaps.setBlock]
  · have hj : 0 + j = j := Nat.zero_add j
    rw [hj] at h1
    refine ⟨setBlock w m (.map (es.eraseIdxIfInBounds j) clock), ?_, ⟨_, _, heap_setBlock hb, ?_, stamped_erase hs j⟩, Chg.setBlock _ _ _, size_setBlock _ _ _⟩
    · simp [Builtin.delete_, run_underlying undM, Go.MapKept.run_getObj_map hb, Go.MapKept.run_checkKey und9 (d := .string) (k := .string (mkS k)) trivial, Go.MapKept.run_findKey und9 h1, Go.MapKept.run_setObj_map _ hb, Result.andThen, Go.ChangeMaps.setBlock]
    · rw [h8]
      have hlt : j < es.size := by
        have := List.getElem?_eq_some_iff.1 h2
        simpa using this.1
      rw [Array.eraseIdxIfInBounds, dif_pos hlt, Array.toList_eraseIdx, Go.ChangeMaps.map_eraseIdx, he, ← Go.ChangeMaps.map_eraseIdx]

theorem MapIs.keep {S : Nat → Prop} {w w' : World} {m : Nat} {L : List Fv} (h : MapIs w m L) (hc : Chg S w w') (hn : ¬ S m) : MapIs w' m L := by
  obtain ⟨es, clock, hb, h⟩ := h
  exact ⟨es, clock, by rw [hc.block m (Array.getElem?_eq_some_iff.1 hb).1 hn]; exact hb, h⟩
theorem MapIs.lt {w : World} {m : Nat} {L : List Fv} (h : MapIs w m L) : m < w.heap.size := by
  obtain ⟨es, clock, hb, h⟩ := h
  exact (Array.getElem?_eq_some_iff.1 hb).1
theorem MapIs.names {w : World} {m : Nat} {L : List Fv} (h : MapIs w m L) : (L.map fun p => p.1).Nodup := by
  obtain ⟨es, clock, hb, he, h1, h2, h3⟩ := h
  have hk : es.toList.map (·.key) = L.map (fun p => Value.string (mkS p.1)) := by
    have := congrArg (List.map Prod.fst) he
    simpa [kv, kvOf, Function.comp_def] using this
  rw [hk] at h3
  unfold List.Nodup at h3 ⊢
  rw [List.pairwise_map] at h3 ⊢
  exact h3.imp fun h e => h (by rw [e])


/- What stands at a text. -/
def cnt (k : List UInt8) (L : List Fv) : Int := ((look k L).getD zeroFv).2
theorem cnt_put (p : Fv) (k : List UInt8) : ∀ L : List Fv, cnt k (putL p L) = if k = p.1 then p.2 else cnt k L
  | [] => by
    unfold cnt putL look
    by_cases h : p.1 = k
    · rw [if_pos h, if_pos h.symm]; rfl
    · rw [if_neg h, if_neg (fun e => h e.symm)]; rfl
  | q :: L => by
    have ih := cnt_put p k L
    unfold cnt at ih ⊢
    unfold putL
    by_cases hq : q.1 = p.1
    · rw [if_pos hq]
      unfold look
      by_cases h : k = p.1
      · rw [if_pos h, if_pos h.symm]; rfl
      · rw [if_neg h, if_neg (fun e => h e.symm), if_neg (fun e => h (by rw [← e, hq]))]
    · rw [if_neg hq]
      unfold look
      by_cases h : q.1 = k
      · rw [if_pos h, if_neg (fun e => hq (by rw [h, e])), if_pos h]
      · rw [if_neg h, if_neg h]
        exact ih
end Go.Proofs.YtcdnfgibcochhaaGreatDoor.Ct

namespace Go.Proofs.YtcdnfgibcochhaaGreatDoor
set_option linter.unusedSimpArgs false
set_option linter.unusedVariables false
set_option linter.unusedSimpArgs false
set_option linter.unusedVariables false
open Go.RowKit Go.MapKept

theorem cmpLaysP (Q : List Al) (blk off size : Nat) (w : World) : Go.Proofs.CmpLays Tryz.prog 52 #[] (encQ Q) 12 cfP blk off size w := by
  intro _ _ _ _ x y
  have h := cmpT_any (getQ Q x) (getQ Q y)
  rw [getQ_nm, getQ_nm] at h
  exact h _
theorem lays_sort {Q : List Al} (ps : List (List UInt8)) (hps : ps = Q.map (·.q.nm)) (hn : ps.Nodup) : (sortP ps).flatMap (encQ Q) = ((sortP ps).map (getQ Q)).flatMap alV := flat_map Q _
/- What stands at each path, as it is told. -/
theorem told_all {N : List Fi} {seen : List (List UInt8)} {Q : List Al} (hp : seen.Perm (N.map (·.nm))) (hN : nam N) (hQ : Q.map (·.q) = seen.map fun p => toldF (N.map (·.nm)) ((lookF p N).getD ⟨p, [], zeroSt⟩)) :
    Q.map (·.q.nm) = seen ∧ ((sortP seen).map (getQ Q)).map (·.q) = allF N ∧ ∀ x ∈ (sortP seen).map (getQ Q), x ∈ Q := by
  have hnm : Q.map (·.q.nm) = seen := by
    have := congrArg (List.map Fi.nm) hQ
    rw [List.map_map, List.map_map] at this
    have h2 : seen.map (Fi.nm ∘ fun p => toldF (N.map (·.nm)) ((lookF p N).getD ⟨p, [], zeroSt⟩)) = seen := by
      conv => rhs; rw [← List.map_id seen]
      apply List.map_congr_left
      intro p _
      show ((lookF p N).getD ⟨p, [], zeroSt⟩).nm = p
      cases h : lookF p N with
      | none => rfl
      | some q => exact (look_nm h).1
    exact this.trans h2
  have hnd : seen.Nodup := hp.nodup_iff.2 hN
  have hndQ : (Q.map (·.q.nm)).Nodup := by rw [hnm]; exact hnd
  have hin : ∀ p ∈ seen, ∃ x ∈ Q, x.q.nm = p ∧ getQ Q p = x ∧ x.q = toldF (N.map (·.nm)) ((lookF p N).getD ⟨p, [], zeroSt⟩) := by
    intro p hp'
    rw [← hnm] at hp'
    obtain ⟨x, hx, rfl⟩ := List.mem_map.1 hp'
    refine ⟨x, hx, rfl, getQ_at hndQ hx, ?_⟩
    have : x.q ∈ seen.map fun p => toldF (N.map (·.nm)) ((lookF p N).getD ⟨p, [], zeroSt⟩) := by rw [← hQ]; exact List.mem_map.2 ⟨x, hx, rfl⟩
    obtain ⟨p', _, hp2⟩ := List.mem_map.1 this
    have e : p' = x.q.nm := by
      rw [← hp2]
      show p' = ((lookF p' N).getD ⟨p', [], zeroSt⟩).nm
      cases h : lookF p' N with
      | none => rfl
      | some q => exact (look_nm h).1.symm
    rw [← e]
    exact hp2.symm
  refine ⟨hnm, ?_, ?_⟩
  · unfold allF
    rw [← sortP_perm hp, List.map_map]
    apply List.map_congr_left
    intro p hp'
    obtain ⟨x, _, _, h1, h2⟩ := hin p ((sortP_is seen).mem_iff.1 hp')
    show (getQ Q p).q = _
    rw [h1, h2]
  · intro x hx
    obtain ⟨p, hp', rfl⟩ := List.mem_map.1 hx
    obtain ⟨x, hx, _, h1, _⟩ := hin p ((sortP_is seen).mem_iff.1 hp')
    rw [h1]; exact hx
theorem infoN12 : (Tryz.prog.info? 47).map (fun i => (i.zero, i.size, i.bytes)) = some (some (.agg #[.string ⟨#[]⟩, .slice none 0 0, .int .i64 0, .int .i64 0, .int .i64 0, .int .i64 0, .int .i64 0, .int .i64 0, .int .i64 0, .int .i64 0, .int .i64 0, .int .i64 0]), 12, 120) := by kernel_rfl
theorem nform {T : TypeId} {sz : Nat} {w : World} {base n : Nat} {v : Value} {xs : List Value} (h : w.ownsRow base T sz v n xs) : ∃ A C, v = .slice A n C := by
  rcases h.2 with ⟨rfl, rfl⟩ | ⟨g, cap, cur, rfl, _⟩
  · exact ⟨none, 0, rfl⟩
  · exact ⟨_, cap, rfl⟩
theorem nblock {T : TypeId} {sz : Nat} {w : World} {base : Nat} {v : Value} {n : Nat} {xs : List Value} (h : w.ownsRow base T sz v n xs) {k : Nat} (hk : v.ownBlock = some k) : ∃ cur, w.heap[k]? = some (.cells cur T (0, 0)) ∧ base ≤ k := by
  rcases h.2 with ⟨rfl, _⟩ | ⟨g, cap, cur, rfl, hb, hg, hr⟩
  · cases hk
  · cases hk; exact ⟨cur, hg, hb⟩
theorem cells_new (w : World) (xs : List Value) (T : TypeId) : ∀ j y, xs[j]? = some y → (w.alloc (.cells xs.toArray T)).cell? ((⟨w.heap.size, 0, none⟩ : Addr).add j) = some y := by
  intro j y hy
  rw [show (⟨w.heap.size, 0, none⟩ : Addr).add j = ⟨w.heap.size, j, none⟩ by simp only [Addr.add]; split <;> simp_all, cell_at (heap_alloc_new w _)]
  simpa using hy
theorem alV_told (names : List (List UInt8)) (q : Fi) (A : Option Addr) (C : Nat) : (toldA q.nm q A C (kids names q.nm)).toList = alV ⟨toldF names q, A, C⟩ := rfl
set_option maxRecDepth 100000 in
set_option maxHeartbeats 8000000 in
theorem all_any {w : World} {t m n : Nat} {L : List Fv} {K : List Si.Fv} (h : Tk w t m n L K) (hL : PA.Laid w) (hlen : L.length ≤ 1000000) (hpl : ∀ p ∈ L, p.1.nm.length ≤ 1000000) :
    Calls Tryz.prog 23 #[.pointer (some ⟨t, 0, none⟩)] w fun e w' => ∃ (Q : List Al) (A : Option Addr) (C : Nat), e = .returned (.slice A Q.length C) ∧ Q.map (·.q) = allF (L.map Prod.fst) ∧ w'.ownsRow w.heap.size 47 12 (.slice A Q.length C) Q.length (Q.flatMap alV) ∧ (∀ x ∈ Q, w'.ownsRow w.heap.size 5 1 (.slice x.A x.q.b.length x.C) x.q.b.length (bv x.q.b)) ∧ Below w.heap.size w w' := by
  have hc0 : w.cell? ⟨t, 0, none⟩ = some (.map (some m)) := cell_at h.cell 0
  have htl := theap_lt h.cell
  have HTL : Hid (t < w.heap.size) := htl
  have HC0 : Hid (w.cell? ⟨t, 0, none⟩ = some (.map (some m))) := hc0
  have hm := h.nodes
  have hth := there_yes hc0
  obtain ⟨i0, hi, hz0, hz1, hz2⟩ := info_parts infoN12
  have hm1 : MapIs (w.alloc (.map #[] 0)) m L := hm.keep (Chg.alloc Non w _) id
  have HML : Hid (m < w.heap.size) := hm.lt
  have HD : Hid (Tk w t m n L K) := h
  have HLD : Hid (PA.Laid w) := hL
  have HPL : Hid (∀ p ∈ L, p.1.nm.length ≤ 1000000) := hpl
  have HLL : Hid ((L.map fun p => p.1.nm).length = L.length) := by unfold Hid; simp
  have HNF : Hid ((L.map Prod.fst).map (·.nm) = L.map fun p => p.1.nm) := by unfold Hid; simp
  have HNN : Hid (nam (L.map Prod.fst)) := by unfold Hid nam; rw [HNF.out]; exact hm.names
  clear hpl hm h hL
  have hmm := @run_makeMap Tryz.prog
  go_enter Tryz.func23, Tryz.ntmps23
  go_wp2_with fail
  refine hth.mono ?_
  rintro e w1 ⟨rfl, hw1⟩
  obtain rfl : w = w1 := hw1.symm
  clear hth
  go_wp2_with (first
    | (at_range; refine wpList_rng rfl _ rfl rfl hm1 ?_; intro w2 hr2 hc2 hs2)
    | fail)
  go_frame
  rw [show (w.alloc (.map #[] 0)).heap.size = w.heap.size + 1 by simp] at hr2 ⊢
  have HR : Hid (Ranges w2 m (w.heap.size + 1) L (L.map fun p => p.1.nm)) := hr2
  have HB2 : Hid (Below w.heap.size w w2) := (lay1 w (.map #[] 0)).trans (hc2.below (fun _ e => e.elim) (by simp))
  have HM2 : Hid (Ct.MapIs w2 w.heap.size []) := Ct.MapIs.keep (w := w.alloc (.map #[] 0)) ⟨#[], 0, heap_alloc_new w _, rfl, by simp, by simp, by simp⟩ hc2 (fun e => e)
  clear hr2 hc2 hs2 hm1 hc0 htl
  go_loopw [4] (fun _ wr => ∃ (left seen : List (List UInt8)) (M : List Ct.Fv), Ct.MapIs wr w.heap.size M ∧ (∀ k, Ct.cnt k M = kids seen k) ∧ (seen ++ left).Perm (L.map fun p => p.1.nm) ∧ Ranges wr m (w.heap.size + 1) L left ∧ Below w.heap.size w wr) (fun _ wr => wr.rangeLeft m (w.heap.size + 1))
  case atStart => exact ⟨_, [], [], HM2.out, fun _ => rfl, List.Perm.refl _, HR.out, HB2.out⟩
  case round =>
    obtain ⟨left, seen, M, hM, hK, hperm, hrg, hB⟩ := hrel
    go_wp2_with (first
      | (at_next; refine wpList_nxt rfl _ rfl rfl hrg (tform HD.out) ?_ ?_)
      | fail)
    · intro hl0
      subst hl0
      rw [List.append_nil] at hperm
      have HMK : Hid (Ct.MapIs wr w.heap.size M) := hM
      have HK : Hid (∀ k, Ct.cnt k M = kids (L.map fun p => p.1.nm) k) := fun k => by rw [hK k, kids_perm hperm]
      have HB : Hid (Below w.heap.size w wr) := hB
      have hmr := hrg.map
      clear hM hK hperm hrg hB
      obtain ⟨wA, hwA⟩ : ∃ x, x = wr := ⟨_, rfl⟩
      subst hwA
      have hcA : wA.cell? ⟨t, 0, none⟩ = some (.map (some m)) := by rw [HB.out.cell (p := ⟨t, 0, none⟩) HTL.out]; exact HC0.out
      go_wp2_with (first
        | (at_range; refine wpList_rng rfl _ rfl rfl hmr ?_; intro w2 hr2 hc2 hs2)
        | fail)
      go_frame
      obtain ⟨rB, hrB⟩ : ∃ x, x = wA.heap.size := ⟨_, rfl⟩
      rw [← hrB] at hr2 ⊢
      have HRB : Hid (w.heap.size < rB ∧ m < rB) := by have := HMK.out.lt; have := hmr.lt; exact ⟨by omega, by omega⟩
      have HR2 : Hid (Ranges w2 m rB L (L.map fun p => p.1.nm)) := hr2
      have HB2' : Hid (Below w.heap.size w w2) := HB.out.trans (hc2.below (fun _ e => e.elim) HB.out.size)
      have HM2' : Hid (Ct.MapIs w2 w.heap.size M) := HMK.out.keep hc2 (fun e => e)
      clear hr2 hc2 hs2 hmr hrB HMK HB hcA
      go_loopw [5] (fun v wr => ∃ (left seen : List (List UInt8)) (Q : List Al), wr.ownsRow w.heap.size 47 12 v Q.length (Q.flatMap alV) ∧ (∀ x ∈ Q, wr.ownsRow w.heap.size 5 1 (.slice x.A x.q.b.length x.C) x.q.b.length (bv x.q.b)) ∧ Q.map (·.q) = (seen.map fun p => toldF (L.map fun p => p.1.nm) ((lookF p (L.map Prod.fst)).getD ⟨p, [], zeroSt⟩)) ∧ Ct.MapIs wr w.heap.size M ∧ (seen ++ left).Perm (L.map fun p => p.1.nm) ∧ Ranges wr m rB L left ∧ Below w.heap.size w wr) (fun _ wr => wr.rangeLeft m rB)
      case atStart => exact ⟨_, [], [], World.ownsRow_nil _ _ _ _, fun x hx => (nomatch hx), rfl, HM2'.out, List.Perm.refl _, HR2.out, HB2'.out⟩
      case round =>
        obtain ⟨left, seen, Q, hown, hbs, hQ, hM, hperm, hrg, hB⟩ := hrel
        have hql : Q.length = seen.length := by have := congrArg List.length hQ; simpa using this
        go_wp2_with (first
          | (at_next; refine wpList_nxt rfl _ rfl rfl hrg (tform HD.out) ?_ ?_)
          | fail)
        · intro hl0
          subst hl0
          rw [List.append_nil] at hperm
          have hlen3 : Q.length ≤ 1000000 := by have h1 := hperm.length_eq; have h2 := HLL.out; omega
          obtain ⟨q1, q2, q3⟩ := told_all (N := L.map Prod.fst) (seen := seen) (Q := Q) (by rw [HNF.out]; exact hperm) HNN.out (by rw [HNF.out]; exact hQ)
          have HQ1 : Hid (Q.map (·.q.nm) = seen) := q1
          have HQ2 : Hid (((sortP seen).map (getQ Q)).map (·.q) = allF (L.map Prod.fst)) := q2
          have HQ3 : Hid (∀ x ∈ (sortP seen).map (getQ Q), x ∈ Q) := q3
          have HBS : Hid (∀ x ∈ Q, wr.ownsRow w.heap.size 5 1 (.slice x.A x.q.b.length x.C) x.q.b.length (bv x.q.b)) := hbs
          have HB : Hid (Below w.heap.size w wr) := hB
          have HQL : Hid (Q.length = seen.length) := hql
          have HFL : Hid (Q.flatMap alV = seen.flatMap (encQ Q)) := by
            have := flat_getQ (Q := Q) (by rw [q1]; exact hperm.nodup_iff.2 (by have := HNN.out; unfold nam at this; rwa [HNF.out] at this))
            rw [q1] at this
            exact this.symm
          clear hperm hrg hM hQ q1 q2 q3 hbs hB hlen
          rcases hown.2 with ⟨hnil, h0⟩ | ⟨g, cp0, cur, hv, hbase, hb, h1, h2, h3, h4⟩
          · have hns : Q = [] := List.length_eq_zero_iff.1 h0
            have hsn : seen = [] := List.length_eq_zero_iff.1 (by omega)
            clear hown hql
            subst hnil
            subst hns
            subst hsn
            go_wp2_with fail
            refine (Tryz.slices_SortFunc_none_f51 (α := Nat) none 0 _ _).mono ?_
            rintro e w5 ⟨rfl, rfl⟩
            go_wp2_with fail
            go_ret
            refine ⟨[], none, 0, rfl, ?_, World.ownsRow_nil _ _ _ _, fun x hx => (nomatch hx), HB.out⟩
            have := HQ2.out
            simpa [sortP] using this
          · have eg : ∀ args w, (callFunc 52 args).run Tryz.prog w = .ok (.enter 52 args) w := enters_of Tryz.func52 (by kernel_rfl) rfl
            rw [HFL.out, hql] at h4
            have hHold := Si.holds_gen (encQ Q) 12 (encQ_len Q) (by omega) hb h4
            have hsort := Tryz.slices_SortFunc_total_f51 12 Tryz.isAgg47 Tryz.sizeOf47 (encQ Q) (encQ_len Q) (encQ_one Q) cfP swoP 52 #[] g 0 cp0 seen.toArray wr eg (cmpLaysP Q g 0 _ wr) hHold (theap_lt hb) (by simp; omega) totP
            simp only [List.size_toArray] at hsort
            rw [← hql] at hsort
            have HBK : Hid _ := hb
            have H1 : Hid (Q.length ≤ cp0) := h1
            have H2 : Hid (cp0 ≤ maxLen) := h2
            have H3 : Hid _ := h3
            have HBSE : Hid (w.heap.size ≤ g) := hbase
            clear hown hHold hb h1 h2 h3 h4 hbase hql
            subst hv
            go_wp2_with fail
            refine hsort.mono ?_
            rintro e w5 ⟨rfl, n5, os5, hw5⟩
            obtain ⟨ho5, hc5⟩ := Si.sorted_gen (encQ Q) 12 (encQ_len Q) (by omega) (ss := sortP seen) (N := Q.length) (by rw [sortP_len, HQL.out]) HBSE.out HBK.out H1.out H2.out H3.out hw5
            have HB5 : Hid (Below w.heap.size w w5) := HB.out.trans (hc5.below (fun k hk => by rw [hk]; exact HBSE.out) HB.out.size)
            have HO5 : Hid _ := ho5
            have HBS5 : Hid (∀ x ∈ Q, w5.ownsRow w.heap.size 5 1 (.slice x.A x.q.b.length x.C) x.q.b.length (bv x.q.b)) := fun x hx => towns_keep (HBS.out x hx) hc5 (fun k hk e => by
              obtain ⟨cu, hcu, _⟩ := nblock (HBS.out x hx) hk
              rw [e, HBK.out] at hcu
              simp at hcu)
            clear hsort hw5 ho5 hc5
            go_wp2_with fail
            go_ret
            have hln : ((sortP seen).map (getQ Q)).length = Q.length := by rw [List.length_map, sortP_len, HQL.out]
            refine ⟨(sortP seen).map (getQ Q), some ⟨g, 0, none⟩, cp0, by rw [hln]; rfl, HQ2.out, ?_, fun x hx => HBS5.out x (HQ3.out x hx), HB5.out⟩
            rw [hln, ← flat_map]
            exact HO5.out
        · intro l1 l2 f A C w3 hl hlk hrg3 hc3 hs3 hen
          have hlen2 : Q.length + 1 ≤ 1000000 := by
            have h1 := hperm.length_eq
            have h2 := HLL.out
            rw [hl] at h1
            simp at h1 h2
            omega
          have hlF : lookF f.nm (L.map Prod.fst) = some f := by rw [← look_F, hlk]; rfl
          have hfL := (look_some hlk).1
          have hfit := HD.out.fits _ hfL
          have hfn := HPL.out _ hfL
          simp only at hfit hfn
          have HLF : Hid (lookF f.nm (L.map Prod.fst) = some f) := hlF
          have hne : ∀ k, (u5 : Value).ownBlock = some k → k ≠ rB := by
            intro k hk e
            obtain ⟨cur, hcu, _⟩ := nblock hown hk
            obtain ⟨es, cl, si, se, c0, _, _, _, h4, _⟩ := hrg
            rw [e, h4] at hcu; cases hcu
          have hneb : ∀ x ∈ Q, ∀ k, (Value.slice x.A x.q.b.length x.C).ownBlock = some k → k ≠ rB := by
            intro x hx k hk e
            obtain ⟨cur, hcu, _⟩ := nblock (hbs x hx) hk
            obtain ⟨es, cl, si, se, c0, _, _, _, h4, _⟩ := hrg
            rw [e, h4] at hcu; cases hcu
          have hB3 : Below w.heap.size w w3 := hB.trans (hc3.below (fun k e => by have := HRB.out; omega) hB.size)
          have HNE : Hid (∀ k, (u5 : Value).ownBlock = some k → k ≠ rB) := hne
          have HO : Hid (w3.ownsRow w.heap.size 47 12 u5 Q.length (Q.flatMap alV)) := towns_keep hown hc3 (fun k hk e => hne k hk e)
          have HBS : Hid (∀ x ∈ Q, w3.ownsRow w.heap.size 5 1 (.slice x.A x.q.b.length x.C) x.q.b.length (bv x.q.b)) := fun x hx => towns_keep (hbs x hx) hc3 (fun k hk e => hneb x hx k hk e)
          have HM3 : Hid (Ct.MapIs w3 w.heap.size M) := hM.keep hc3 (fun e => by have := HRB.out; omega)
          have HQ : Hid (Q.map (·.q) = (seen.map fun p => toldF (L.map fun p => p.1.nm) ((lookF p (L.map Prod.fst)).getD ⟨p, [], zeroSt⟩))) := hQ
          have HP : Hid ((seen ++ left).Perm (L.map fun p => p.1.nm)) := hperm
          have HL : Hid (left = l1 ++ f.nm :: l2) := hl
          have HR1 : Hid (Ranges wr m rB L left) := hrg
          have HR3 : Hid (Ranges w3 m rB L (l1 ++ l2)) := hrg3
          have HB3 : Hid (Below w.heap.size w w3) := hB3
          obtain ⟨A4, C4, hv4⟩ := nform hown
          subst hv4
          have hval : valOf (f, .slice A f.b.length C) = .agg (nodeA f A C) := rfl
          rw [hval] at hen ⊢
          obtain ⟨W, hW⟩ : ∃ W, W = w3.alloc (.cells (nodeA f A C) 77) := ⟨_, rfl⟩
          have HBW : Hid (Below w.heap.size w W) := by rw [hW]; exact hB3.alloc hB3.size _
          have hMW : Ct.MapIs W w.heap.size M := by rw [hW]; exact HM3.out.keep (Chg.alloc Non _ _) (fun e => e)
          have hk1 := hMW.lookup f.nm false
          obtain ⟨kN, hkN⟩ : ∃ kN, kN = kids (L.map fun p => p.1.nm) f.nm := ⟨_, rfl⟩
          have HKN : Hid (kN = kids (L.map fun p => p.1.nm) f.nm) := hkN
          have hkl : kN ≤ 1000000 := by have := kids_le (L.map fun p => p.1.nm) f.nm; have := HLL.out; omega
          have hz : Ct.valOf ((Ct.look f.nm M).getD Ct.zeroFv) = .int .i64 kN := by
            show Value.int .i64 (Ct.cnt f.nm M) = _
            rw [HK.out, hkN]
          simp only [Bool.false_eq_true, if_false, hz] at hk1
          have htell := tell_any (w := W) (q := f) (A := A) (C := C) ((Bs.of_owns (HD.out.bs _ hfL)).keep (Chg.of_below HBW.out) (fun _ _ => id)) hfit.1 f.nm hfn kN hkl
          have HW : Hid (W = w3.alloc (.cells (nodeA f A C) 77)) := hW
          have HWS : Hid (W.heap.size = w3.heap.size + 1) := by rw [hW]; unfold Hid; simp
          rw [hW] at hk1 htell
          simp only [nodeA] at hk1 htell hen ⊢
          clear hown hbs hQ hM hperm hrg hB hql hl hlk hrg3 hc3 hs3 hne hneb hB3 hval hW hMW hz hkl hkN hfL hfit hfn hlF hlen
          go_wp2_with fail
          refine htell.mono ?_
          rintro e w5 ⟨A5, C5, rfl, ho5, hb5⟩
          rw [← HW.out] at ho5 hb5
          have hW3 : Chg Non w3 W := by rw [HW.out]; exact Chg.alloc Non _ _
          have hsw : w.heap.size ≤ W.heap.size := HBW.out.size
          have HB5 : Hid (Below w.heap.size w w5) := HBW.out.trans (hb5.mono hsw)
          have HO5 : Hid (w5.ownsRow w.heap.size 47 12 (.slice A4 Q.length C4) Q.length (Q.flatMap alV)) := towns_keep (towns_keep HO.out hW3 (fun _ _ => id)) (Chg.of_below hb5) (fun _ _ => id)
          have HBS5 : Hid (∀ x ∈ Q, w5.ownsRow w.heap.size 5 1 (.slice x.A x.q.b.length x.C) x.q.b.length (bv x.q.b)) := fun x hx => towns_keep (towns_keep (HBS.out x hx) hW3 (fun _ _ => id)) (Chg.of_below hb5) (fun _ _ => id)
          have HN5 : Hid (w5.ownsRow w.heap.size 5 1 (.slice A5 f.b.length C5) f.b.length (bv f.b)) := owns_base ho5 hsw
          have HM5 : Hid (Ct.MapIs w5 w.heap.size M) := (HM3.out.keep hW3 (fun e => e)).keep (Chg.of_below hb5) (fun e => e)
          have HR5 : Hid (Ranges w5 m rB L (l1 ++ l2)) := (HR3.out.keep hW3 id id).keep (Chg.of_below hb5) id id
          have hs5 : w.heap.size ≤ w5.heap.size := HB5.out.size
          clear hk1 htell hen ho5 hb5 hW3 hsw
          go_wp2_with (first
            | (at_builtin; refine wpList_append_own_at _ rfl (.tmp 36) (.tmp 43) 58 rfl w.heap.size 47 i0 (.agg #[.string ⟨#[]⟩, .slice none 0 0, .int .i64 0, .int .i64 0, .int .i64 0, .int .i64 0, .int .i64 0, .int .i64 0, .int .i64 0, .int .i64 0, .int .i64 0, .int .i64 0]) 12 120 Tryz.underlying58 hi hz0 hz1 hz2 rfl (by decide) _ Q.length (Q.flatMap alV) rfl (HO5.out.alloc _) ⟨w5.heap.size, 0, none⟩ 1 1 (toldA f.nm f A5 C5 kN).toList rfl rfl (cells_new w5 (toldA f.nm f A5 C5 kN).toList 47) (by intro u hu; have := oneT f.nm f A5 C5 kN; rw [Array.all_eq_true_iff_forall_mem] at this; exact this u (by simpa using hu)) (by unfold maxLen; omega) (by omega) (by simp; omega) ?_; intro v6 w6 ho6 hg6 hn6 hl6)
            | fail)
          have hgc : Chg (fun k => (Value.slice A4 Q.length C4).ownBlock = some k) (w5.alloc (.cells (toldA f.nm f A5 C5 kN) 47)) w6 := Chg.of_grown hg6
          have hty : ∀ k, (Value.slice A4 Q.length C4).ownBlock = some k → ∃ cur, w5.heap[k]? = some (.cells cur 47 (0, 0)) ∧ w.heap.size ≤ k := fun k hk => nblock HO5.out hk
          have hr6 : Ranges w6 m rB L (l1 ++ l2) := by
            refine (HR5.out.alloc _).keep hgc ?_ ?_
            · intro e
              obtain ⟨_, _, hle⟩ := hty _ e
              have := HML.out; omega
            · intro e; exact HNE.out _ e rfl
          have hm6 : Ct.MapIs w6 w.heap.size M := by
            refine (HM5.out.keep (Chg.alloc Non _ _) (fun e => e)).keep hgc (fun e => ?_)
            obtain ⟨cu, hcu, _⟩ := hty _ e
            obtain ⟨es, cl, hh, _⟩ := HM5.out
            rw [hh] at hcu; cases hcu
          have keepB : ∀ {A : Option Addr} {C : Nat} {b : List UInt8}, w5.ownsRow w.heap.size 5 1 (.slice A b.length C) b.length (bv b) → w6.ownsRow w.heap.size 5 1 (.slice A b.length C) b.length (bv b) := by
            intro A C b ho
            refine towns_keep (ho.alloc _) hgc (fun k hk e => ?_)
            obtain ⟨cu, hcu, _⟩ := hty _ e
            obtain ⟨cu', hcu', _⟩ := nblock ho hk
            rw [hcu] at hcu'
            simp at hcu'
          have hb6 : Below w.heap.size w w6 := by
            refine (HB5.out.alloc hs5 _).trans (hgc.below (fun k hk => ?_) (by simp; omega))
            obtain ⟨_, _, hle⟩ := hty _ hk
            exact hle
          go_roundw
          case rel =>
            have hx : alV ⟨toldF (L.map fun p => p.1.nm) f, A5, C5⟩ = (toldA f.nm f A5 C5 kN).toList := by rw [HKN.out]; rfl
            refine ⟨l1 ++ l2, seen ++ [f.nm], Q ++ [⟨toldF (L.map fun p => p.1.nm) f, A5, C5⟩], ?_, ?_, ?_, hm6, tperm (HL.out ▸ HP.out), hr6, hb6⟩
            · rw [List.length_append, List.flatMap_append, List.flatMap_cons, List.flatMap_nil, List.append_nil, hx]
              exact ho6
            · intro x hx
              rcases List.mem_append.1 hx with hx | hx
              · exact keepB (HBS5.out x hx)
              · rw [List.mem_singleton] at hx
                subst hx
                exact keepB HN5.out
            · rw [List.map_append, List.map_append, HQ.out]
              simp [HLF.out]
          case measure => rw [hr6.left_eq, HR1.out.left_eq, HL.out]; simp
    · intro l1 l2 f A C w3 hl hlk hrg3 hc3 hs3 hen
      have hB3 : Below w.heap.size w w3 := hB.trans (hc3.below (fun k e => by omega) hB.size)
      have hM3 : Ct.MapIs w3 w.heap.size M := hM.keep hc3 (by omega)
      have hpar := PA.parent_k f.nm w3 w3 ⟨HLD.out.from HLD.out.gt hB3, Below.refl _ _⟩
      have hlen2 : kids seen (PA.parentS f.nm) + 1 ≤ 1000000 := by
        have h1 := hperm.length_eq
        have h2 := HLL.out
        have h3 := kids_le seen (PA.parentS f.nm)
        rw [hl] at h1
        simp at h1 h2
        omega
      have HM3 : Hid (Ct.MapIs w3 w.heap.size M) := hM3
      have HK : Hid (∀ k, Ct.cnt k M = kids seen k) := hK
      have HP : Hid ((seen ++ left).Perm (L.map fun p => p.1.nm)) := hperm
      have HL : Hid (left = l1 ++ f.nm :: l2) := hl
      have HR1 : Hid (Ranges wr m (w.heap.size + 1) L left) := hrg
      have HR3 : Hid (Ranges w3 m (w.heap.size + 1) L (l1 ++ l2)) := hrg3
      have HB3 : Hid (Below w.heap.size w w3) := hB3
      have HBR : Hid (Below w.heap.size w wr) := hB
      obtain ⟨kN, hkN⟩ : ∃ kN, kN = kids seen (PA.parentS f.nm) := ⟨_, rfl⟩
      have HKN : Hid (kN = kids seen (PA.parentS f.nm)) := hkN
      rw [← hkN] at hlen2
      have hval : valOf (f, .slice A f.b.length C) = .agg (nodeA f A C) := rfl
      rw [hval] at hen ⊢
      clear hM hK hperm hrg hB hl hlk hrg3 hc3 hs3 hB3 hM3 hkN hval
      go_wp2_with fail
      refine hpar.mono ?_
      rintro e w5 ⟨rfl, hk5⟩
      have HB5 : Hid (Below w3.heap.size w3 w5) := hk5.below
      have hM5 : Ct.MapIs w5 w.heap.size M := HM3.out.keep (Chg.of_below hk5.below) (fun e => e)
      have hlk := hM5.lookup (PA.parentS f.nm) false
      have hz : Ct.valOf ((Ct.look (PA.parentS f.nm) M).getD Ct.zeroFv) = .int .i64 kN := by
        show Value.int .i64 (Ct.cnt (PA.parentS f.nm) M) = _
        rw [HK.out, HKN.out]
      simp only [Bool.false_eq_true, if_false, hz] at hlk
      obtain ⟨w6, hrun, hM6, hc6, hs6⟩ := hM5.update (PA.parentS f.nm, (kN : Int) + 1)
      have hrun' : (Instr.mapUpdate 93 (.map (some w.heap.size)) (.string (mkS (PA.parentS f.nm))) (.int .i64 ((kN : Int) + 1))).run Tryz.prog w5 = .ok () w6 := hrun
      have hwr : IntKind.i64.wrap ((kN : Int) + 1) = (kN : Int) + 1 := by rw [IntKind.wrap_i64]; omega
      have HM6 : Hid (Ct.MapIs w6 w.heap.size (Ct.putL (PA.parentS f.nm, (kN : Int) + 1) M)) := hM6
      have HC6 : Hid (Chg (fun k => k = w.heap.size) w5 w6 ∧ w6.heap.size = w5.heap.size) := ⟨hc6, hs6⟩
      clear hpar hk5 hM5 hz hrun hM6 hc6 hs6
      go_wp2_with fail
      have hB6 : Below w.heap.size w w6 := (HB3.out.trans (HB5.out.mono HB3.out.size)).trans (HC6.out.1.below (fun k hk => by omega) (by have := HB3.out.size; have := HB5.out.size; omega))
      have hR6 : Ranges w6 m (w.heap.size + 1) L (l1 ++ l2) := (HR3.out.keep (Chg.of_below HB5.out) id id).keep HC6.out.1 (by have := HML.out; omega) (by omega)
      go_roundw
      case rel =>
        refine ⟨l1 ++ l2, seen ++ [f.nm], _, HM6.out, ?_, tperm (HL.out ▸ HP.out), hR6, hB6⟩
        intro k
        rw [Ct.cnt_put, kids_add, HK.out]
        split
        · next hk =>
          have hk' : k = PA.parentS f.nm := hk
          show (kN : Int) + 1 = _
          rw [hk', HKN.out]; simp
        · next hk => rfl
      case measure => rw [hR6.left_eq, HR1.out.left_eq, HL.out]; simp
end Go.Proofs.YtcdnfgibcochhaaGreatDoor
