/- Trees: the least number of a stat. No tree: what find, List and Get tell. The contracts of the library's functions at this dump: each an application of a proved contract, the program's own bodies compared by the kernel. Nodes as they lie in a row; which of two goes first by its path. Trees: a node's children. Trees: the nodes by rising paths, as mathematics. Trees: finding a node; a node's children. Trees: a node as it is told. -/
import Derived.Test.YtcdnfgibcochhaaGreatDoorTrB
import Derived.Test.YtcdnfgibcochhaaGreatDoorTrN
import Derived.Deep.MidRow
import Derived.Shelf.Small.Strs
import Derived.Test.YtcdnfgibcochhaaGreatDoorProg
import Derived.Test.YtcdnfgibcochhaaGreatDoorWalksC
import Derived.Test.YtcdnfgibcochhaaGreatDoorPathW
import Derived.Sort.OwnSorted
import Derived.Shelf.SlSortCmp.InsertionK
import Derived.Test.YtcdnfgibcochhaaGreatDoorTrG
import Derived.Maps.RangeWalk
import Derived.Maps.AppendAt
import Derived.Test.YtcdnfgibcochhaaGreatDoorTrPa
namespace Go.Proofs.YtcdnfgibcochhaaGreatDoor
set_option linter.unusedSimpArgs false
set_option linter.unusedVariables false
set_option linter.unusedSimpArgs false
set_option linter.unusedVariables false
open Go.RowKit Go.MapKept
set_option linter.unusedVariables false
set_option linter.unusedSimpArgs false

/- The least of some numbers. -/
def mn (x : Int) (l : List Int) : Int := l.foldl (fun a b => if b < a then b else a) x
theorem mn_neg : ∀ (l : List Int) (x : Int), mn x l < 0 ↔ x < 0 ∨ ∃ y ∈ l, y < 0
  | [], x => by simp [mn]
  | y :: l, x => by
    have ih := mn_neg l (if y < x then y else x)
    show mn (if y < x then y else x) l < 0 ↔ _
    rw [ih]
    constructor
    · rintro (h | ⟨z, hz, h⟩)
      · by_cases e : y < x
        · rw [if_pos e] at h; exact .inr ⟨y, .head _, h⟩
        · rw [if_neg e] at h; exact .inl h
      · exact .inr ⟨z, .tail _ hz, h⟩
    · rintro (h | ⟨z, hz, h⟩)
      · by_cases e : y < x
        · rw [if_pos e]; exact .inl (by omega)
        · rw [if_neg e]; exact .inl h
      · rcases List.mem_cons.1 hz with rfl | hz
        · by_cases e : z < x
          · rw [if_pos e]; exact .inl h
          · rw [if_neg e]; exact .inl (by omega)
        · exact .inr ⟨z, hz, h⟩
theorem fold_min (w : World) : ∀ (l : List Int) (x : Int), ((l.map (Value.int .i64)).foldlM Builtin.min2 (.int .i64 x)).run Tryz.prog w = .ok (.int .i64 (mn x l)) w
  | [], x => rfl
  | y :: l, x => by
    have ih := fold_min w l (if y < x then y else x)
    show (Builtin.min2 (.int .i64 x) (.int .i64 y) >>= fun v => (l.map (Value.int .i64)).foldlM Builtin.min2 v).run Tryz.prog w = _
    rw [Sem.run_bind]
    rw [show (Builtin.min2 (.int .i64 x) (.int .i64 y)).run Tryz.prog w = .ok (.int .i64 (if y < x then y else x)) w from rfl]
    exact ih
theorem run_min10 (w : World) (ts : Array TypeId) (t : TypeId) (s0 s1 s2 s3 s4 s5 s6 s7 s8 s9 : Int) : (Builtin.min_ ts t #[.int .i64 s0, .int .i64 s1, .int .i64 s2, .int .i64 s3, .int .i64 s4, .int .i64 s5, .int .i64 s6, .int .i64 s7, .int .i64 s8, .int .i64 s9]).run Tryz.prog w = .ok (.int .i64 (mn s0 [s1, s2, s3, s4, s5, s6, s7, s8, s9])) w :=
  fold_min w [s1, s2, s3, s4, s5, s6, s7, s8, s9] s0
def stMin (s : Stt) : Int := mn s.cz [s.mz, s.pz, s.ct, s.mt, s.ver, s.cv, s.own, s.len, s.chd]
set_option maxRecDepth 100000 in
theorem least_any (s : Stt) (w : World) : Calls Tryz.prog 70 #[.agg (stV s).toArray] w fun e w' => e = .returned (.int .i64 (stMin s)) ∧ Below w.heap.size w w' := by
  obtain ⟨s0, s1, s2, s3, s4, s5, s6, s7, s8, s9⟩ := s
  have hb := (Below.refl w.heap.size w).alloc (Nat.le_refl _) (.cells (stV ⟨s0, s1, s2, s3, s4, s5, s6, s7, s8, s9⟩).toArray 45)
  have HB : Hid (Below w.heap.size w (w.alloc (.cells (stV ⟨s0, s1, s2, s3, s4, s5, s6, s7, s8, s9⟩).toArray 45))) := hb
  clear hb
  simp only [stV, stMin] at HB ⊢
  have hmin := fun w => run_min10 w #[2, 2, 2, 2, 2, 2, 2, 2, 2, 2] 2 s0 s1 s2 s3 s4 s5 s6 s7 s8 s9
  generalize mn s0 [s1, s2, s3, s4, s5, s6, s7, s8, s9] = z at hmin ⊢
  go_enter Tryz.func70, Tryz.ntmps70
  go_wp2_with fail
  go_ret
  exact ⟨rfl, HB.out⟩
end Go.Proofs.YtcdnfgibcochhaaGreatDoor

namespace Go.Proofs.YtcdnfgibcochhaaGreatDoor
set_option linter.unusedVariables false
open Go.RowKit Go.MapKept
set_option linter.unusedVariables false

theorem results_row2 {P : Program} {fn : Func} {tmps : Array Value} {w : World} (a t : Tmp) (ty : TypeId) (hres : fn.results = #[.cell a ty, .tmp t]) (b : Nat) (ht : tmps.getD a undef = .pointer (some ⟨b, 0, none⟩)) (v : Value) (hv : tmps.getD t undef = v) (cs : List Value) (d : TypeDesc) (hc : w.rangeAt b 0 cs)
    (hu : P.underlying ty = some d) (hd : d.isRow = true) (hi : (P.info? ty).map (·.size) = some cs.length) : (results fn tmps).run P w = .ok (.tuple #[.agg cs.toArray, v]) w := by
  rw [Array.getD_eq_getD_getElem?] at ht hv
  have hl : (loadCells ⟨b, 0, none⟩ cs.length).run P w = .ok cs.toArray w :=
    run_loadCells_list (P := P) w ⟨b, 0, none⟩ cs (fun j v hv => by rw [Addr.add_mid]; exact hc j v hv)
  unfold loadCells at hl
  cases hq : P.info? ty with
  | none => simp [hq] at hi
  | some i =>
    have hs : i.size = cs.length := by simpa [hq] using hi
    have hagg : (isAgg ty).run P w = .ok true w := by
      unfold isAgg
      rw [Sem.run_bind, run_underlying hu w]
      cases d <;> simp_all
    have hsz : (sizeOf ty).run P w = .ok cs.length w := by simp [sizeOf, typeInfo, hq, hs, Sem.run_bind]
    unfold results
    rw [hres]
    simp [go_sem, ht, hv, hagg, hsz, hl]

abbrev zeroN : List Value := [.slice none 0 0, .int .i64 0, .int .i64 0, .int .i64 0, .int .i64 0, .int .i64 0, .int .i64 0, .int .i64 0, .int .i64 0, .int .i64 0, .int .i64 0]
abbrev zeroA : List Value := [.string ⟨#[]⟩, .slice none 0 0, .int .i64 0, .int .i64 0, .int .i64 0, .int .i64 0, .int .i64 0, .int .i64 0, .int .i64 0, .int .i64 0, .int .i64 0, .int .i64 0]
theorem range_new (w : World) (cs : List Value) (T : TypeId) : (w.alloc (.cells cs.toArray T)).rangeAt w.heap.size 0 cs := by
  intro j v h
  rw [Nat.zero_add]
  have hb : (w.alloc (.cells cs.toArray T)).heap[w.heap.size]? = some (.cells cs.toArray T (0, 0)) := by
    unfold World.alloc
    exact Array.getElem?_push_size
  unfold World.cell?
  simp only [hb]
  simpa using h
set_option maxRecDepth 100000 in
theorem find_no {w : World} {v : Value} (h : NoTree w v) (p : Value) : Calls Tryz.prog 39 #[v, p] w fun e w' => e = .returned (.tuple #[.agg zeroN.toArray, .bool false]) ∧ Below w.heap.size w w' := by
  have ht := there_no (h.lay (.cells zeroN.toArray 77))
  clear h
  go_enter Tryz.func39, Tryz.ntmps39
  go_wp2_with fail
  refine ht.mono ?_
  rintro e w1 ⟨rfl, hw⟩
  subst hw
  clear ht
  go_wp2_with fail
  refine bodyPost_ret (results_row2 _ _ _ Tryz.results39 w.heap.size rfl (.bool false) rfl zeroN _ ?_ Tryz.underlying77 rfl (by kernel_rfl)) rfl ⟨rfl, lay1 _ _⟩
  exact range_new w zeroN 77
set_option maxRecDepth 100000 in
theorem list_no {w : World} {v : Value} (h : NoTree w v) (p : Value) : Calls Tryz.prog 22 #[v, p] w fun e w' => e = .returned (.tuple #[.slice none 0 0, .bool false]) ∧ Below w.heap.size w w' := by
  have ht := find_no h p
  clear h
  go_enter Tryz.func22, Tryz.ntmps22
  go_wp2_with fail
  refine ht.mono ?_
  rintro e w1 ⟨rfl, hb⟩
  have HB : Hid (Below w.heap.size w w1) := hb
  clear ht hb
  go_wp2_with fail
  go_ret2
  exact ⟨rfl, HB.out.trans ((lay1 w1 _).mono HB.out.size)⟩
theorem below_cells {B b : Nat} {a : World} (hb : B ≤ b) : ∀ (vs : List Value) (o : Nat) (w : World), Below B a w → Below B a (w.setCells b o vs)
  | [], _, _, h => h
  | v :: r, o, w, h => by
    rw [World.setCells]
    exact below_cells hb r (o + 1) _ (h.setCell hb v)
theorem there_of {w : World} {b T : Nat} {cs : List Value} (h : w.heap[b]? = some (.cells cs.toArray T (0, 0))) : w.there b 0 cs.length := by
  intro j hj
  refine ⟨?_, ?_⟩
  · simp [World.cell?, h, hj]
  · simp [World.frozen?, h]
theorem infoN : (Tryz.prog.info? 47).map (·.size) = some 12 := by kernel_rfl
theorem oneA : (#[.string ⟨#[]⟩, .slice none 0 0, .int .i64 0, .int .i64 0, .int .i64 0, .int .i64 0, .int .i64 0, .int .i64 0, .int .i64 0, .int .i64 0, .int .i64 0, .int .i64 0] : Array Value).all (·.oneCell') = true := all_oneCell_toArray (cs := zeroA) (fun v hv => by simp [zeroA] at hv; rcases hv with rfl | rfl | rfl <;> rfl)
set_option maxRecDepth 100000 in
theorem get_no {w : World} {v : Value} (h : NoTree w v) (p : Value) : Calls Tryz.prog 14 #[v, p] w fun e w' => e = .returned (.tuple #[.agg zeroA.toArray, .bool false]) ∧ Below w.heap.size w w' := by
  have ht := find_no (h.lay (.cells zeroA.toArray 47)) p
  clear h
  go_enter Tryz.func14, Tryz.ntmps14
  go_wp2_with fail
  refine ht.mono ?_
  rintro e w1 ⟨rfl, hb⟩
  have hn : (w.alloc (.cells zeroA.toArray 47)).heap[w.heap.size]? = some (.cells zeroA.toArray 47 (0, 0)) := by
    unfold World.alloc
    exact Array.getElem?_push_size
  have HT : Hid (∀ o, (w1.alloc o).there w.heap.size 0 12) := by
    intro o
    have h1 : w1.heap[w.heap.size]? = some (.cells zeroA.toArray 47 (0, 0)) := by rw [hb.block w.heap.size (by simp)]; exact hn
    have h2 : (w1.alloc o).heap[w.heap.size]? = some (.cells zeroA.toArray 47 (0, 0)) := by rw [(lay1 w1 o).block _ (by rcases Nat.lt_or_ge w.heap.size w1.heap.size with q | q; exact q; rw [Array.getElem?_eq_none q] at h1; cases h1)]; exact h1
    exact there_of (cs := zeroA) h2
  have HB : Hid (Below w.heap.size w w1) := (lay1 w _).trans (hb.mono (by simp))
  have hth := HT.out (.cells #[.slice none 0 0, .int .i64 0, .int .i64 0, .int .i64 0, .int .i64 0, .int .i64 0, .int .i64 0, .int .i64 0, .int .i64 0, .int .i64 0, .int .i64 0] 77)
  have hone := oneA
  clear ht hb hn HT
  go_wp2_with (refine wpList_store_mid rfl 47 _ _ rfl w.heap.size 0 #[.string ⟨#[]⟩, .slice none 0 0, .int .i64 0, .int .i64 0, .int .i64 0, .int .i64 0, .int .i64 0, .int .i64 0, .int .i64 0, .int .i64 0, .int .i64 0, .int .i64 0] rfl rfl hth infoN hone ?_)
  refine bodyPost_ret (results_row2 _ _ _ Tryz.results14 w.heap.size rfl (.bool false) rfl zeroA _ ?_ Tryz.underlying47 rfl (by kernel_rfl)) rfl ⟨rfl, ?_⟩
  · exact World.rangeAt_setCells_same _ _ _ zeroA hth
  · exact below_cells (Nat.le_refl _) _ _ _ (HB.out.trans ((lay1 w1 _).mono HB.out.size))
end Go.Proofs.YtcdnfgibcochhaaGreatDoor

namespace Go.Proofs
open Go.Shelf
def Tryz.lays106_ren : Go.Shelf.Ren := ⟨fun | 106 => 73 | 213 => 110 | 265 => 127 | n => n, fun | 9 => 9 | 3 => 3 | n => n, fun | n => n⟩
theorem Tryz.lays106 : Go.Proofs.Lays.n106 Tryz.prog Tryz.lays106_ren := {
  mixed := by kernel_rfl
  f106 := Tryz.func73.trans (congrArg some (by kernel_rfl))
  f213 := Tryz.func110.trans (congrArg some (by kernel_rfl))
  f265 := Tryz.func127.trans (congrArg some (by kernel_rfl))
  t3 := Tryz.underlying3
  a3 := Tryz.isAgg3
  z3 := Tryz.sizeOf3
  v3 := Tryz.zeroValue3
  t9 := Tryz.underlying9
  a9 := Tryz.isAgg9
  z9 := Tryz.sizeOf9
  v9 := Tryz.zeroValue9 }
open Go.RowKit in
theorem Tryz.strings_Compare (a b : ByteArray) (w : World) :
    Calls Tryz.prog 73 #[.string a, .string b] w fun e w' => e = .returned (.int .i64 (Lib.compareBytes a.data.toList b.data.toList)) ∧ w' = w := Any.strings_Compare Tryz.lays106 a b w
end Go.Proofs

namespace Go.Proofs.YtcdnfgibcochhaaGreatDoor
set_option linter.unusedSimpArgs false
set_option linter.unusedVariables false
set_option linter.unusedSimpArgs false
set_option linter.unusedVariables false
open Go.RowKit Go.MapKept
set_option linter.unusedVariables false
set_option linter.unusedSimpArgs false

/- A node that lies in a row: what it is, and where its bytes lie. -/
structure Al where
  q : Fi
  A : Option Addr
  C : Nat
instance : Inhabited Al := ⟨⟨⟨[], [], zeroSt⟩, none, 0⟩⟩
def alV (x : Al) : List Value := [.string (mkS x.q.nm), .slice x.A x.q.b.length x.C, .int .i64 x.q.st.cz, .int .i64 x.q.st.mz, .int .i64 x.q.st.pz, .int .i64 x.q.st.ct, .int .i64 x.q.st.mt, .int .i64 x.q.st.ver, .int .i64 x.q.st.cv, .int .i64 x.q.st.own, .int .i64 x.q.st.len, .int .i64 x.q.st.chd]
theorem alV_len (x : Al) : (alV x).length = 12 := rfl
theorem alV_one (x : Al) : ∀ u ∈ alV x, u.oneCell' = true := by
  intro u hu
  simp only [alV, List.mem_cons, List.not_mem_nil, or_false] at hu
  rcases hu with rfl | rfl | rfl | rfl | rfl | rfl | rfl | rfl | rfl | rfl | rfl | rfl <;> rfl
theorem cmp_lt : ∀ x y : List UInt8, Lib.compareBytes x y < 0 ↔ x < y
  | [], [] => by simp [Lib.compareBytes]
  | [], b :: bs => by simp [Lib.compareBytes]
  | a :: xs, [] => by simp [Lib.compareBytes]
  | a :: xs, b :: bs => by
    rw [List.cons_lt_cons_iff, ← cmp_lt xs bs]
    rw [show Lib.compareBytes (a :: xs) (b :: bs) = if a < b then -1 else if b < a then 1 else Lib.compareBytes xs bs from rfl]
    by_cases h1 : a < b
    · simp [h1]
    · by_cases h2 : b < a
      · have h3 : ¬ a = b := fun e => by subst e; exact h1 h2
        simp [h1, h2, h3]
      · have h3 : a = b := by
          apply UInt8.toNat_inj.1
          rw [UInt8.lt_iff_toNat_lt] at h1 h2
          omega
        subst h3
        simp [h1]
theorem grow_two12 (w : World) (a b : Obj) : (w.alloc a).alloc b = Go.Sort.grow (w.drewN 0) #[a, b] := by
  rw [Go.Sort.alloc_eq_grow, Go.Sort.alloc_eq_grow, Go.Sort.grow_grow]
  rfl
set_option maxRecDepth 100000 in
theorem cmpT_any (x y : Al) (w : World) : Calls Tryz.prog 52 #[.agg (alV x).toArray, .agg (alV y).toArray] w fun e w' => e = .returned (.int .i64 (Lib.compareBytes x.q.nm y.q.nm)) ∧ ∃ q os', w' = Go.Sort.grow (w.drewN q) os' := by
  have hc : ∀ w, Calls Tryz.prog 73 #[.string (mkS x.q.nm), .string (mkS y.q.nm)] w fun e w' => e = .returned (.int .i64 (Lib.compareBytes x.q.nm y.q.nm)) ∧ w' = w := by
    intro w
    have := Tryz.strings_Compare (mkS x.q.nm) (mkS y.q.nm) w
    rwa [PA.mkS_list, PA.mkS_list] at this
  simp only [alV]
  go_enter Tryz.func52, Tryz.ntmps52
  go_wp2_with fail
  refine (hc _).mono ?_
  rintro e w1 ⟨rfl, rfl⟩
  go_wp2_with fail
  go_ret
  exact ⟨rfl, 0, _, grow_two12 _ _ _⟩
theorem cmpB_any (x y : Al) (w : World) : Calls Tryz.prog 52 #[.agg (alV x).toArray, .agg (alV y).toArray] w fun e w' => e = .returned (.int .i64 (Lib.compareBytes x.q.nm y.q.nm)) ∧ Below w.heap.size w w' := by
  refine (cmpT_any x y w).mono ?_
  rintro e w' ⟨rfl, q, os, rfl⟩
  refine ⟨rfl, ?_⟩
  have : Below w.heap.size (w.drewN q) (Go.Sort.grow (w.drewN q) os) := by
    refine ⟨rfl, rfl, rfl, by simp, fun k hk => ?_⟩
    rw [Go.Sort.heap_grow_old _ _ (by simpa using hk)]
  exact (PA.below_drewN (Below.refl _ w) q).trans (this.mono (by simp))
/- Nodes side by side. -/
def RowN (w : World) (A : Option Addr) (Q : List Al) (C : Nat) : Prop :=
  Q = [] ∨ ∃ b o, A = some ⟨b, o, none⟩ ∧ b < w.heap.size ∧ Q.length ≤ C ∧ ∀ (i : Nat) (h : i < Q.length) (j : Nat), j < 12 → w.cell? ⟨b, o + i * 12 + j, none⟩ = (alV (Q[i]'h))[j]?
theorem RowN.below {w w' : World} {A : Option Addr} {Q : List Al} {C : Nat} (h : RowN w A Q C) (hB : Below w.heap.size w w') : RowN w' A Q C := by
  rcases h with h | ⟨b, o, h1, h2, h3, h4⟩
  · exact .inl h
  · exact .inr ⟨b, o, h1, Nat.lt_of_lt_of_le h2 hB.size, h3, fun i h j hj => by rw [hB.cell (p := ⟨b, o + i * 12 + j, none⟩) h2]; exact h4 i h j hj⟩
theorem RowN.keep {S : Nat → Prop} {w w' : World} {b o C : Nat} {Q : List Al} (h : RowN w (some ⟨b, o, none⟩) Q C) (hc : Chg S w w') (hn : ¬ S b) : RowN w' (some ⟨b, o, none⟩) Q C := by
  rcases h with h | ⟨b', o', h1, h2, h3, h4⟩
  · exact .inl h
  · cases h1
    exact .inr ⟨b, o, rfl, Nat.lt_of_lt_of_le h2 hc.size, h3, fun i h j hj => by
      have := h4 i h j hj
      simp only [World.cell?] at this ⊢
      rw [hc.block b h2 hn]
      exact this⟩
theorem flat_alV : ∀ (Q : List Al) (i : Nat) (h : i < Q.length) (j : Nat), j < 12 → (Q.flatMap alV)[i * 12 + j]? = (alV (Q[i]'h))[j]?
  | x :: Q, 0, h, j, hj => by
    rw [List.flatMap_cons, List.getElem?_append_left (by rw [alV_len]; omega)]
    simp
  | x :: Q, i + 1, h, j, hj => by
    rw [List.flatMap_cons, List.getElem?_append_right (by rw [alV_len]; omega), alV_len, show (i + 1) * 12 + j - 12 = i * 12 + j by omega]
    exact flat_alV Q i (by simpa using h) j hj
theorem row_of_owns {w : World} {base : Nat} {T : TypeId} {A : Option Addr} {Q : List Al} {C : Nat} (h : w.ownsRow base T 12 (.slice A Q.length C) Q.length (Q.flatMap alV)) : RowN w A Q C := by
  rcases h.2 with ⟨hv, h0⟩ | ⟨g, cap, cur, hv, hb, hg, h1, h2, h3, h4⟩
  · exact .inl (List.length_eq_zero_iff.1 h0)
  · cases hv
    refine .inr ⟨g, 0, rfl, theap_lt hg, h1, fun i hi j hj => ?_⟩
    rw [Nat.zero_add, cell_at hg, ← flat_alV Q i hi j hj, ← h4, List.getElem?_take_of_lt, Array.getElem?_toList]
    have : (i + 1) * 12 ≤ Q.length * 12 := Nat.mul_le_mul_right 12 hi
    omega
end Go.Proofs.YtcdnfgibcochhaaGreatDoor

namespace Go.Proofs.YtcdnfgibcochhaaGreatDoor
set_option linter.unusedSimpArgs false
set_option linter.unusedVariables false
open Go.RowKit Go.MapKept
set_option linter.unusedVariables false
set_option linter.unusedSimpArgs false

/- A path's children among some. -/
def kid (p c : List UInt8) : Bool := p.isPrefixOf c && decide (PA.parentS c = p)
theorem tperm {seen l1 l2 : List (List UInt8)} {x : List UInt8} {R : List (List UInt8)} (h : (seen ++ (l1 ++ x :: l2)).Perm R) : ((seen ++ [x]) ++ (l1 ++ l2)).Perm R := by
  have : ((seen ++ [x]) ++ (l1 ++ l2)).Perm (seen ++ (l1 ++ x :: l2)) := by
    rw [List.append_assoc]
    refine List.Perm.append_left seen ?_
    exact (List.perm_middle (a := x) (l₁ := l1) (l₂ := l2)).symm
  exact this.trans h
theorem tinfo9 : (Tryz.prog.info? 9).map (fun i => (i.zero, i.size, i.bytes)) = some (some (.string ⟨#[]⟩), 1, 16) := by kernel_rfl
theorem tstr_one (l : List (List UInt8)) : ∀ u ∈ l.map encStr, u.oneCell' = true := by
  intro u hu
  obtain ⟨y, _, rfl⟩ := List.mem_map.1 hu
  rfl
theorem towns_formS {w : World} {base n : Nat} {v : Value} {xs : List Value} (h : w.ownsRow base 9 1 v n xs) : ∃ A C, v = .slice A n C := by
  rcases h.2 with ⟨rfl, rfl⟩ | ⟨g, cap, cur, rfl, _⟩
  · exact ⟨none, 0, rfl⟩
  · exact ⟨_, cap, rfl⟩
theorem tform {w : World} {t m n : Nat} {L : List Fv} {K : List Si.Fv} (h : Tk w t m n L K) : ∀ p ∈ L, ∃ A C, p.2 = .slice A p.1.b.length C := by
  intro p hp
  rcases (h.bs p hp).2 with ⟨h1, h2⟩ | ⟨g, cap, cur, h1, _⟩
  · exact ⟨none, 0, by rw [h1, h2]⟩
  · exact ⟨_, cap, h1⟩
set_option maxRecDepth 100000 in
set_option maxHeartbeats 2000000 in
theorem children_any {w : World} {t m n : Nat} {L : List Fv} {K : List Si.Fv} (h : Tk w t m n L K) (hL : PA.Laid w) (hlen : L.length ≤ 1000000) (p : List UInt8) :
    Calls Tryz.prog 41 #[.pointer (some ⟨t, 0, none⟩), .string (mkS p)] w fun e w' => ∃ (ns : List (List UInt8)) (A : Option Addr) (C : Nat), e = .returned (.slice A ns.length C) ∧ ns.Perm ((L.map fun q => q.1.nm).filter (kid p)) ∧ w'.ownsRow w.heap.size 9 1 (.slice A ns.length C) ns.length (ns.map encStr) ∧ Below w.heap.size w w' := by
  have hc0 := cell_at h.cell 0
  simp at hc0
  have hm := h.nodes
  obtain ⟨i0, hi, hz0, hz1, hz2⟩ := info_parts tinfo9
  go_enter Tryz.func41, Tryz.ntmps41
  go_wp2_with (first
    | (at_range; refine wpList_rng rfl _ rfl rfl hm ?_; intro w2 hr2 hc2 hs2)
    | fail)
  go_frame
  have HR : Hid (Ranges w2 m w.heap.size L (L.map fun p => p.1.nm)) := hr2
  have HB2 : Hid (Below w.heap.size w w2) := hc2.below (fun _ e => e.elim) (Nat.le_refl _)
  have HD : Hid (Tk w t m n L K) := h
  have HML : Hid (m < w.heap.size) := hm.lt
  have HLD : Hid (PA.Laid w) := hL
  clear hr2 hc2 hs2 hm h hL
  go_loopw [5] (fun v wr => ∃ (left seen ns : List (List UInt8)), wr.ownsRow w.heap.size 9 1 v ns.length (ns.map encStr) ∧ ns = seen.filter (kid p) ∧ (seen ++ left).Perm (L.map fun p => p.1.nm) ∧ Ranges wr m w.heap.size L left ∧ Below w.heap.size w wr) (fun _ wr => wr.rangeLeft m w.heap.size)
  case atStart => exact ⟨_, [], [], World.ownsRow_nil _ _ _ _, rfl, List.Perm.refl _, HR.out, HB2.out⟩
  case round =>
    obtain ⟨left, seen, ns, hown, hns, hperm, hrg, hB⟩ := hrel
    obtain ⟨A4, C4, hv4⟩ := towns_formS hown
    subst hv4
    have hlen2 : ns.length + left.length ≤ 1000000 := by
      have h1 := hperm.length_eq
      have h2 : ns.length ≤ seen.length := by rw [hns]; exact List.length_filter_le _ _
      rw [List.length_append, List.length_map] at h1
      omega
    have HLEN : Hid (ns.length + left.length ≤ 1000000) := hlen2
    have HN : Hid (ns = seen.filter (kid p)) := hns
    have HP : Hid ((seen ++ left).Perm (L.map fun p => p.1.nm)) := hperm
    have HB : Hid (Below w.heap.size w wr) := hB
    have HO : Hid (wr.ownsRow w.heap.size 9 1 (.slice A4 ns.length C4) ns.length (ns.map encStr)) := hown
    clear hns hperm hB hown hlen2 hlen
    go_wp2_with (first
      | (at_next; refine wpList_nxt rfl _ rfl rfl hrg (tform HD.out) ?_ ?_)
      | fail)
    · intro hl0
      subst hl0
      go_wp2_with fail
      go_ret
      refine ⟨ns, A4, C4, rfl, ?_, HO.out, HB.out⟩
      have := HP.out
      rw [List.append_nil] at this
      rw [HN.out]
      exact this.filter _
    · intro l1 l2 f A C w3 hl hlk hrg3 hc3 hs3 hen
      have hs3' : w.heap.size ≤ w3.heap.size := by rw [hs3]; exact HB.out.size
      have hB3 : Below w.heap.size w w3 := HB.out.trans (hc3.below (fun k e => by omega) HB.out.size)
      have hne : ∀ k, Value.ownBlock (.slice A4 ns.length C4) = some k → k ≠ w.heap.size := by
        intro k hk e
        obtain ⟨cur, hcu, _⟩ := towns_block HO.out hk
        obtain ⟨es, cl, si, se, c0, _, _, _, h4, _⟩ := hrg
        rw [e, h4] at hcu; cases hcu
      have HNE : Hid (∀ k, Value.ownBlock (.slice A4 ns.length C4) = some k → k ≠ w.heap.size) := hne
      have HO3 : Hid (w3.ownsRow w.heap.size 9 1 (.slice A4 ns.length C4) ns.length (ns.map encStr)) := towns_keep HO.out hc3 hne
      have HB3 : Hid (Below w.heap.size w w3) := hB3
      have HR3 : Hid (Ranges w3 m w.heap.size L (l1 ++ l2)) := hrg3
      have HR1 : Hid (Ranges wr m w.heap.size L left) := hrg
      have HS3 : Hid (w.heap.size ≤ w3.heap.size) := hs3'
      have HL3 : Hid (left = l1 ++ f.nm :: l2) := hl
      have hpre := Tryz.strings_HasPrefix (mkS f.nm) (mkS p) w3
      have hpar := PA.parent_k f.nm w3 w3 ⟨HLD.out.from HLD.out.gt hB3 |> fun x => x, Below.refl _ _⟩
      have hq1 : Lib.hasPrefix (mkS f.nm).data.toList (mkS p).data.toList = p.isPrefixOf f.nm := by rw [Lib.hasPrefix]; rfl
      rw [hq1] at hpre
      clear hq1 hrg hrg3 hs3' hB3 hc3 hs3 hl hlk hne HD
      cases hpf : p.isPrefixOf f.nm with
      | false =>
        rw [hpf] at hpre
        go_wp2_with fail
        refine hpre.mono ?_
        rintro e w4 ⟨rfl, rfl⟩
        clear hpre hpar
        go_wp2_with fail
        go_roundw
        case rel =>
          refine ⟨l1 ++ l2, seen ++ [f.nm], ns, HO3.out, ?_, ?_, HR3.out, HB3.out⟩
          · rw [List.filter_append, HN.out]
            simp [kid, hpf]
          · exact tperm (HL3.out ▸ HP.out)
        case measure => rw [HR3.out.left_eq, HR1.out.left_eq, HL3.out]; simp
      | true =>
        rw [hpf] at hpre
        by_cases hpe : PA.parentS f.nm = p
        · have hbe : ((mkS (PA.parentS f.nm)).toList == (mkS p).toList) = true := by rw [hpe]; simp
          have hlen3 : ns.length + 1 ≤ 1000000 := by
            have h1 := HLEN.out
            rw [HL3.out] at h1
            simp at h1
            omega
          have hkd : kid p f.nm = true := by simp [kid, hpf, hpe]
          have HKD : Hid (kid p f.nm = true) := hkd
          clear hkd hpf hpe
          go_wp2_with fail
          refine hpre.mono ?_
          rintro e w4 ⟨rfl, rfl⟩
          clear hpre
          go_wp2_with fail
          refine hpar.mono ?_
          rintro e w5 ⟨rfl, hk5⟩
          have HK5 : Hid (Below w4.heap.size w4 w5) := hk5.below
          clear hpar hk5
          have hs5 : w.heap.size ≤ w5.heap.size := by have := HK5.out.size; have := HS3.out; omega
          have HO5 : Hid (w5.ownsRow w.heap.size 9 1 (.slice A4 ns.length C4) ns.length (ns.map encStr)) := towns_keep HO3.out (Chg.of_below HK5.out) (fun _ _ => id)
          have HR5 : Hid (Ranges w5 m w.heap.size L (l1 ++ l2)) := HR3.out.keep (Chg.of_below HK5.out) id id
          have HB5 : Hid (Below w.heap.size w w5) := HB3.out.trans (HK5.out.mono HS3.out)
          clear HO3 HR3 HB3 HK5 HS3
          go_wp2_with (first
            | (at_builtin; refine wpList_append_own_at _ rfl (.tmp 25) (.tmp 27) 51 rfl w.heap.size 9 i0 (.string ⟨#[]⟩) 1 16 Tryz.underlying51 hi hz0 hz1 hz2 rfl (by decide) _ ns.length (ns.map encStr) rfl (HO5.out.alloc _) ⟨w5.heap.size, 0, none⟩ 1 1 [.string (mkS f.nm)] rfl rfl (cell_one_new _ _ _) (tstr_one [f.nm]) (by unfold maxLen; omega) (by omega) (by simp; omega) ?_; intro v6 w6 ho6 hg6 hn6 hl6)
            | fail)
          have hgc : Chg (fun k => Value.ownBlock (.slice A4 ns.length C4) = some k) (w5.alloc (.cells #[.string (mkS f.nm)] 9)) w6 := Chg.of_grown hg6
          have hr6 : Ranges w6 m w.heap.size L (l1 ++ l2) := by
            refine (HR5.out.alloc _).keep hgc ?_ ?_
            · intro e
              obtain ⟨_, _, hle⟩ := towns_block HO5.out e
              have := HML.out; omega
            · intro e; exact HNE.out _ e rfl
          have hb6 : Below w.heap.size w w6 := by
            refine (HB5.out.alloc hs5 _).trans (hgc.below (fun k hk => ?_) (by simp; omega))
            obtain ⟨_, _, hle⟩ := towns_block HO5.out hk
            exact hle
          have HR6 : Hid (Ranges w6 m w.heap.size L (l1 ++ l2)) := hr6
          have HB6 : Hid (Below w.heap.size w w6) := hb6
          have HO6 := ho6
          clear hr6 hb6 hgc hg6
          go_roundw
          case rel =>
            refine ⟨l1 ++ l2, seen ++ [f.nm], ns ++ [f.nm], ?_, ?_, tperm (HL3.out ▸ HP.out), HR6.out, HB6.out⟩
            · rw [List.length_append, List.map_append]; exact ho6
            · rw [List.filter_append, ← HN.out]
              simp [HKD.out]
          case measure => rw [HR6.out.left_eq, HR1.out.left_eq, HL3.out]; simp
        · have hbe : ((mkS (PA.parentS f.nm)).toList == (mkS p).toList) = false := by rw [PA.mkS_toList, PA.mkS_toList]; simpa using hpe
          have hkd : kid p f.nm = false := by simp [kid, hpe]
          have HKD : Hid (kid p f.nm = false) := hkd
          clear hkd hpf hpe
          go_wp2_with fail
          refine hpre.mono ?_
          rintro e w4 ⟨rfl, rfl⟩
          clear hpre
          go_wp2_with fail
          refine hpar.mono ?_
          rintro e w5 ⟨rfl, hk5⟩
          have HK5 : Hid (Below w4.heap.size w4 w5) := hk5.below
          clear hpar hk5
          have HO5 : Hid (w5.ownsRow w.heap.size 9 1 (.slice A4 ns.length C4) ns.length (ns.map encStr)) := towns_keep HO3.out (Chg.of_below HK5.out) (fun _ _ => id)
          have HR5 : Hid (Ranges w5 m w.heap.size L (l1 ++ l2)) := HR3.out.keep (Chg.of_below HK5.out) id id
          have HB5 : Hid (Below w.heap.size w w5) := HB3.out.trans (HK5.out.mono HS3.out)
          clear HO3 HR3 HB3 HK5 HS3
          go_wp2_with fail
          go_roundw
          case rel =>
            refine ⟨l1 ++ l2, seen ++ [f.nm], ns, HO5.out, ?_, tperm (HL3.out ▸ HP.out), HR5.out, HB5.out⟩
            rw [List.filter_append, HN.out]
            simp [HKD.out]
          case measure => rw [HR5.out.left_eq, HR1.out.left_eq, HL3.out]; simp
end Go.Proofs.YtcdnfgibcochhaaGreatDoor

namespace Go.Proofs.YtcdnfgibcochhaaGreatDoor
set_option linter.unusedSimpArgs false
set_option linter.unusedVariables false
set_option linter.unusedSimpArgs false
set_option linter.unusedVariables false
open Go.RowKit Go.MapKept

/- What is told of the node of a path, among what is told. -/
def getQ : List Al → List UInt8 → Al
  | [], p => ⟨⟨p, [], zeroSt⟩, none, 0⟩
  | x :: Q, p => if x.q.nm = p then x else getQ Q p
theorem getQ_nm : ∀ (Q : List Al) (p : List UInt8), (getQ Q p).q.nm = p
  | [], _ => rfl
  | x :: Q, p => by
    unfold getQ
    split
    · assumption
    · exact getQ_nm Q p
theorem getQ_at : ∀ {Q : List Al} {x : Al}, (Q.map (·.q.nm)).Nodup → x ∈ Q → getQ Q x.q.nm = x
  | y :: Q, x, hn, h => by
    simp only [List.map_cons, List.nodup_cons] at hn
    unfold getQ
    rcases List.mem_cons.1 h with rfl | h
    · rw [if_pos rfl]
    · rw [if_neg (fun e => hn.1 (by rw [e]; exact List.mem_map.2 ⟨x, h, rfl⟩))]
      exact getQ_at hn.2 h
def encQ (Q : List Al) (p : List UInt8) : List Value := alV (getQ Q p)
theorem encQ_len (Q : List Al) (p : List UInt8) : (encQ Q p).length = 12 := alV_len _
theorem encQ_one (Q : List Al) (p : List UInt8) : ∀ u ∈ encQ Q p, u.oneCell' = true := alV_one _
theorem flat_sub {Q : List Al} (hn : (Q.map (·.q.nm)).Nodup) : ∀ R : List Al, (∀ x ∈ R, x ∈ Q) → (R.map (·.q.nm)).flatMap (encQ Q) = R.flatMap alV
  | [], _ => rfl
  | x :: R, h => by
    rw [List.map_cons, List.flatMap_cons, List.flatMap_cons, flat_sub hn R (fun y hy => h y (.tail _ hy)), encQ, getQ_at hn (h x (.head _))]
theorem flat_getQ {Q : List Al} (hn : (Q.map (·.q.nm)).Nodup) : (Q.map (·.q.nm)).flatMap (encQ Q) = Q.flatMap alV := flat_sub hn Q (fun _ h => h)
theorem flat_map (Q : List Al) : ∀ ps : List (List UInt8), ps.flatMap (encQ Q) = (ps.map (getQ Q)).flatMap alV
  | [] => rfl
  | p :: ps => by rw [List.flatMap_cons, List.map_cons, List.flatMap_cons, flat_map Q ps]; rfl
def cfP (x y : List UInt8) : Int := Lib.compareBytes x y
theorem lt_P (x y : List UInt8) : Go.Proofs.ltOf cfP x y = decide (x < y) := by
  unfold Go.Proofs.ltOf cfP
  simp [cmp_lt]
theorem plt_irrefl (x : List UInt8) : ¬ x < x := by
  rw [← cmp_lt]
  induction x with
  | nil => simp [Lib.compareBytes]
  | cons a x ih => simpa [Lib.compareBytes] using ih
theorem plt_trans {x y z : List UInt8} (h1 : x < y) (h2 : y < z) : x < z := List.lt_trans h1 h2
theorem pnlt_trans {x y z : List UInt8} (h1 : ¬ x < y) (h2 : ¬ y < z) : ¬ x < z := by
  have a : y ≤ x := h1
  have b : z ≤ y := h2
  have c : z ≤ x := List.le_trans b a
  exact c
theorem pnlt_anti {x y : List UInt8} (h1 : ¬ x < y) (h2 : ¬ y < x) : x = y := List.le_antisymm (show x ≤ y from h2) (show y ≤ x from h1)
theorem swoP : Go.Sort.SWO (Go.Proofs.ltOf cfP) where
  irrefl x := by rw [lt_P]; exact decide_eq_false (plt_irrefl x)
  trans x y z h1 h2 := by
    rw [lt_P] at *
    simp only [decide_eq_true_eq] at *
    exact plt_trans h1 h2
  ntrans x y z h1 h2 := by
    rw [lt_P] at *
    simp only [decide_eq_false_iff_not] at *
    exact pnlt_trans h1 h2
theorem totP (x y : List UInt8) (h1 : Go.Proofs.ltOf cfP x y = false) (h2 : Go.Proofs.ltOf cfP y x = false) : x = y := by
  rw [lt_P] at *
  simp only [decide_eq_false_iff_not] at *
  exact pnlt_anti h1 h2
def sortP (l : List (List UInt8)) : List (List UInt8) := l.mergeSort fun x y => !(Go.Proofs.ltOf cfP) y x
theorem sortP_all (l : List (List UInt8)) : (sortP l).Pairwise fun x y => ¬ y < x := by
  have tr : ∀ (x y z : List UInt8), (!(Go.Proofs.ltOf cfP) y x) = true → (!(Go.Proofs.ltOf cfP) z y) = true → (!(Go.Proofs.ltOf cfP) z x) = true := by
    intro x y z h1 h2
    simp only [lt_P, Bool.not_eq_true', decide_eq_false_iff_not] at *
    exact pnlt_trans h2 h1
  have tt : ∀ (x y : List UInt8), ((!(Go.Proofs.ltOf cfP) y x) || (!(Go.Proofs.ltOf cfP) x y)) = true := by
    intro x y
    simp only [lt_P, Bool.or_eq_true, Bool.not_eq_true', decide_eq_false_iff_not]
    by_cases h : y < x
    · exact .inr (fun e => plt_irrefl _ (plt_trans h e))
    · exact .inl h
  have := List.pairwise_mergeSort tr tt l
  exact this.imp fun {a b} h => by simpa only [lt_P, Bool.not_eq_true', decide_eq_false_iff_not] using h
theorem sortP_is (l : List (List UInt8)) : (sortP l).Perm l := List.mergeSort_perm l _
theorem sortP_perm {a b : List (List UInt8)} (h : a.Perm b) : sortP a = sortP b := by
  refine List.Perm.eq_of_pairwise (le := fun x y => ¬ y < x) ?_ (sortP_all a) (sortP_all b) (((sortP_is a).trans h).trans (sortP_is b).symm)
  intro x y _ _ h1 h2
  exact pnlt_anti h2 h1
theorem sortP_len (l : List (List UInt8)) : (sortP l).length = l.length := (sortP_is l).length_eq
theorem sortP_up {l : List (List UInt8)} (hn : l.Nodup) : (sortP l).Pairwise fun x y => x < y := by
  have h1 := sortP_all l
  have h2 : (sortP l).Nodup := (sortP_is l).nodup_iff.2 hn
  refine (List.pairwise_and_iff.2 ⟨h1, h2⟩).imp ?_
  rintro a b ⟨h1, h2⟩
  apply Decidable.byContradiction
  intro h3
  exact h2 (pnlt_anti h3 h1)
/- A path's parent is where it begins. -/
theorem parent_prefix (c : List UInt8) : (PA.parentS c).isPrefixOf c = true := by
  by_cases h : PA.lastS c = []
  · rw [PA.parentS, if_pos h]; cases c <;> rfl
  · obtain ⟨l, h1, h2, h3⟩ := PA.head_cut h
    rw [h2]
    split
    · obtain ⟨l', x, hr, hp, _⟩ := PA.lastS_ne h
      rw [hp]
      cases hg : PA.glue l' with
      | nil => simp
      | cons a r =>
        rcases PA.glue_shape l' with e | ⟨r', e⟩
        · rw [e] at hg; cases hg
        · rw [e] at hg; injection hg with ha hb; subst ha; simp
    · rw [List.isPrefixOf_iff_prefix, ← h1]
      exact List.take_prefix _ _
theorem kid_is (p c : List UInt8) : kid p c = decide (PA.parentS c = p) := by
  unfold kid
  by_cases h : PA.parentS c = p
  · rw [← h, parent_prefix]; simp
  · simp [h]
/- How many nodes have that parent. -/
def kids (names : List (List UInt8)) (k : List UInt8) : Nat := (names.filter (kid k)).length
theorem kids_perm {a b : List (List UInt8)} (h : a.Perm b) (k : List UInt8) : kids a k = kids b k := (h.filter _).length_eq
theorem kids_le (names : List (List UInt8)) (k : List UInt8) : kids names k ≤ names.length := List.length_filter_le _ _
theorem kids_add (names : List (List UInt8)) (c k : List UInt8) : kids (names ++ [c]) k = if k = PA.parentS c then kids names k + 1 else kids names k := by
  unfold kids
  rw [List.filter_append, List.length_append]
  by_cases h : k = PA.parentS c
  · rw [if_pos h]; simp [List.filter, kid_is, h]
  · have h' : ¬ PA.parentS c = k := fun e => h e.symm
    rw [if_neg h]; simp [List.filter, kid_is, h']
/- A node as it is told. -/
def toldF (names : List (List UInt8)) (q : Fi) : Fi := { q with st := { q.st with len := q.b.length, chd := kids names q.nm } }
def allF (N : List Fi) : List Fi := (sortP (N.map (·.nm))).map fun p => toldF (N.map (·.nm)) ((lookF p N).getD ⟨p, [], zeroSt⟩)
theorem allF_nm (N : List Fi) : (allF N).map (·.nm) = sortP (N.map (·.nm)) := by
  unfold allF
  rw [List.map_map]
  conv => rhs; rw [← List.map_id (sortP (N.map (·.nm)))]
  apply List.map_congr_left
  intro p hp
  show ((lookF p N).getD ⟨p, [], zeroSt⟩).nm = p
  cases h : lookF p N with
  | none => rfl
  | some q => exact (look_nm h).1
end Go.Proofs.YtcdnfgibcochhaaGreatDoor

namespace Go.Proofs.YtcdnfgibcochhaaGreatDoor
set_option linter.unusedSimpArgs false
set_option linter.unusedVariables false
open Go.RowKit Go.MapKept
set_option linter.unusedVariables false
set_option linter.unusedSimpArgs false

theorem trange_below {w w' : World} {B b o : Nat} {cs : List Value} (h : w.rangeAt b o cs) (hb : Below B w w') (hk : b < B) : w'.rangeAt b o cs := fun j v hj => by
  have := h j v hj
  unfold World.cell? at this ⊢
  simp only [hb.block b hk]
  exact this
abbrev nodeA (q : Fi) (A : Option Addr) (C : Nat) : Array Value := #[.slice A q.b.length C, .int .i64 q.st.cz, .int .i64 q.st.mz, .int .i64 q.st.pz, .int .i64 q.st.ct, .int .i64 q.st.mt, .int .i64 q.st.ver, .int .i64 q.st.cv, .int .i64 q.st.own, .int .i64 q.st.len, .int .i64 q.st.chd]
set_option maxRecDepth 100000 in
set_option maxHeartbeats 2000000 in
theorem find_yes {w : World} {t m n : Nat} {L : List Fv} {K : List Si.Fv} (h : Tk w t m n L K) (p : List UInt8) {q : Fi} {A : Option Addr} {C : Nat} (hq : look p L = some (q, .slice A q.b.length C)) :
    Calls Tryz.prog 39 #[.pointer (some ⟨t, 0, none⟩), .string (mkS p)] w fun e w' => e = .returned (.tuple #[.agg (nodeA q A C), .bool true]) ∧ Below w.heap.size w w' := by
  have hA := h.alloc (.cells #[.slice none 0 0, .int .i64 0, .int .i64 0, .int .i64 0, .int .i64 0, .int .i64 0, .int .i64 0, .int .i64 0, .int .i64 0, .int .i64 0, .int .i64 0] 77)
  have hc0 := cell_at hA.cell 0
  simp at hc0
  have hlk := hA.nodes.lookup p true
  rw [hq] at hlk
  simp only [if_true, valOf, Option.getD_some, Option.isSome_some, stV] at hlk
  have hth := there_yes hc0
  clear hA h hq
  go_enter Tryz.func39, Tryz.ntmps39
  go_wp2_with fail
  refine hth.mono ?_
  rintro e w1 ⟨rfl, rfl⟩
  clear hth
  go_wp2_with fail
  refine bodyPost_ret (results_row2 _ _ _ Tryz.results39 w.heap.size rfl (.bool true) rfl (nodeA q A C).toList _ ?_ Tryz.underlying77 rfl (by kernel_rfl)) rfl ⟨rfl, ?_⟩
  · exact trange_below (range_new w (nodeA q A C).toList 77) (lay1 _ _) (by simp)
  · exact (lay1 _ _).trans ((lay1 _ _).mono (by simp))
end Go.Proofs.YtcdnfgibcochhaaGreatDoor

namespace Go.Proofs.YtcdnfgibcochhaaGreatDoor
set_option linter.unusedSimpArgs false
set_option linter.unusedVariables false
open Go.RowKit Go.MapKept
set_option linter.unusedVariables false
set_option linter.unusedSimpArgs false

abbrev toldA (p : List UInt8) (q : Fi) (A : Option Addr) (C : Nat) (k : Nat) : Array Value := #[.string (mkS p), .slice A q.b.length C, .int .i64 q.st.cz, .int .i64 q.st.mz, .int .i64 q.st.pz, .int .i64 q.st.ct, .int .i64 q.st.mt, .int .i64 q.st.ver, .int .i64 q.st.cv, .int .i64 q.st.own, .int .i64 q.b.length, .int .i64 k]
theorem tresults_row {P : Program} {fn : Func} {tmps : Array Value} {w : World} (a : Tmp) (ty : TypeId) (hres : fn.results = #[.cell a ty]) (b : Nat) (ht : tmps.getD a undef = .pointer (some ⟨b, 0, none⟩)) (cs : List Value) (d : TypeDesc) (hc : w.rangeAt b 0 cs)
    (hu : P.underlying ty = some d) (hd : d.isRow = true) (hi : (P.info? ty).map (·.size) = some cs.length) : (results fn tmps).run P w = .ok (.agg cs.toArray) w := by
  rw [Array.getD_eq_getD_getElem?] at ht
  have hl : (loadCells ⟨b, 0, none⟩ cs.length).run P w = .ok cs.toArray w :=
    run_loadCells_list (P := P) w ⟨b, 0, none⟩ cs (fun j v hv => by rw [Addr.add_mid]; exact hc j v hv)
  unfold loadCells at hl
  cases hq : P.info? ty with
  | none => simp [hq] at hi
  | some i =>
    have hs : i.size = cs.length := by simpa [hq] using hi
    have hagg : (isAgg ty).run P w = .ok true w := by
      unfold isAgg
      rw [Sem.run_bind, run_underlying hu w]
      cases d <;> simp_all
    have hsz : (sizeOf ty).run P w = .ok cs.length w := by simp [sizeOf, typeInfo, hq, hs, Sem.run_bind]
    unfold results
    rw [hres]
    simp [go_sem, ht, hagg, hsz, hl]
theorem tset_block {b : Nat} : ∀ (vs : List Value) (o : Nat) (w : World) (k : Nat), k ≠ b → (w.setCells b o vs).heap[k]? = w.heap[k]?
  | [], _, _, _, _ => rfl
  | v :: r, o, w, k, h => by
    rw [World.setCells, tset_block r (o + 1) _ k h]
    unfold World.setCell
    simp [Array.getElem?_modify, Ne.symm h]
theorem tset_owns {w : World} {b o base n : Nat} {v : Value} {xs vs : List Value} (h : w.ownsRow base 5 1 v n xs) (hn : ∀ k, v.ownBlock = some k → k ≠ b) : (w.setCells b o vs).ownsRow base 5 1 v n xs := by
  refine ⟨h.1, ?_⟩
  rcases h.2 with h | ⟨g, cap, cur, rfl, hb, hg, hr⟩
  · exact .inl h
  · exact .inr ⟨g, cap, cur, rfl, hb, by rw [tset_block _ _ _ _ (hn g rfl)]; exact hg, hr⟩
theorem oneT (p : List UInt8) (q : Fi) (A : Option Addr) (C k : Nat) : (toldA p q A C k).all (·.oneCell') = true := by simp [toldA, Value.oneCell']
set_option maxRecDepth 100000 in
set_option maxHeartbeats 2000000 in
theorem tell_any {w : World} {q : Fi} {A : Option Addr} {C : Nat} (h : Bs w (.slice A q.b.length C) q.b) (hq : q.b.length ≤ 1000) (p : List UInt8) (hp : p.length ≤ 1000000) (k : Nat) (hk : k ≤ 1000000) :
    Calls Tryz.prog 40 #[.agg (nodeA q A C), .string (mkS p), .int .i64 k] w fun e w' => ∃ A' C', e = .returned (.agg (toldA p q A' C' k)) ∧ w'.ownsRow w.heap.size 5 1 (.slice A' q.b.length C') q.b.length (bv q.b) ∧ Below w.heap.size w w' := by
  obtain ⟨W, hW⟩ : ∃ W, W = ((w.alloc (.cells #[.slice A q.b.length C, .int .i64 q.st.cz, .int .i64 q.st.mz, .int .i64 q.st.pz, .int .i64 q.st.ct, .int .i64 q.st.mt, .int .i64 q.st.ver, .int .i64 q.st.cv, .int .i64 q.st.own, .int .i64 q.b.length, .int .i64 k] 77)).alloc (.cells #[.string ⟨#[]⟩, .slice none 0 0, .int .i64 0, .int .i64 0, .int .i64 0, .int .i64 0, .int .i64 0, .int .i64 0, .int .i64 0, .int .i64 0, .int .i64 0, .int .i64 0] 47)).drew := ⟨_, rfl⟩
  have HW : Hid (W = ((w.alloc (.cells #[.slice A q.b.length C, .int .i64 q.st.cz, .int .i64 q.st.mz, .int .i64 q.st.pz, .int .i64 q.st.ct, .int .i64 q.st.mt, .int .i64 q.st.ver, .int .i64 q.st.cv, .int .i64 q.st.own, .int .i64 q.b.length, .int .i64 k] 77)).alloc (.cells #[.string ⟨#[]⟩, .slice none 0 0, .int .i64 0, .int .i64 0, .int .i64 0, .int .i64 0, .int .i64 0, .int .i64 0, .int .i64 0, .int .i64 0, .int .i64 0, .int .i64 0] 47)).drew) := hW
  have hBW : Below w.heap.size w W := by rw [hW]; exact ((lay1 _ _).trans ((lay1 _ _).mono (by simp))).drew
  have hsz : W.heap.size = w.heap.size + 2 := by rw [hW]; simp
  have hb0 : W.heap[w.heap.size]? = some (.cells #[.slice A q.b.length C, .int .i64 q.st.cz, .int .i64 q.st.mz, .int .i64 q.st.pz, .int .i64 q.st.ct, .int .i64 q.st.mt, .int .i64 q.st.ver, .int .i64 q.st.cv, .int .i64 q.st.own, .int .i64 q.b.length, .int .i64 k] 77 (0, 0)) := by rw [hW]; exact ((lay1 _ _).block _ (by simp)).trans (heap_alloc_new w _)
  have hb1 : W.heap[w.heap.size + 1]? = some (.cells #[.string ⟨#[]⟩, .slice none 0 0, .int .i64 0, .int .i64 0, .int .i64 0, .int .i64 0, .int .i64 0, .int .i64 0, .int .i64 0, .int .i64 0, .int .i64 0, .int .i64 0] 47 (0, 0)) := by rw [hW]; have := heap_alloc_new (w.alloc (.cells #[.slice A q.b.length C, .int .i64 q.st.cz, .int .i64 q.st.mz, .int .i64 q.st.pz, .int .i64 q.st.ct, .int .i64 q.st.mt, .int .i64 q.st.ver, .int .i64 q.st.cv, .int .i64 q.st.own, .int .i64 q.b.length, .int .i64 k] 77)) (.cells #[.string ⟨#[]⟩, .slice none 0 0, .int .i64 0, .int .i64 0, .int .i64 0, .int .i64 0, .int .i64 0, .int .i64 0, .int .i64 0, .int .i64 0, .int .i64 0, .int .i64 0] 47 (0, 0)); rw [show (w.alloc _).heap.size = w.heap.size + 1 by simp] at this; exact this
  have HS : Hid (∀ {w' : World}, Below W.heap.size W w' → w'.cell? ⟨w.heap.size, 0, none⟩ = some (.slice A q.b.length C) ∧ w'.cell? ⟨w.heap.size, 1, none⟩ = some (.int .i64 q.st.cz) ∧ w'.cell? ⟨w.heap.size, 2, none⟩ = some (.int .i64 q.st.mz) ∧ w'.cell? ⟨w.heap.size, 3, none⟩ = some (.int .i64 q.st.pz) ∧ w'.cell? ⟨w.heap.size, 4, none⟩ = some (.int .i64 q.st.ct) ∧ w'.cell? ⟨w.heap.size, 5, none⟩ = some (.int .i64 q.st.mt) ∧ w'.cell? ⟨w.heap.size, 6, none⟩ = some (.int .i64 q.st.ver) ∧ w'.cell? ⟨w.heap.size, 7, none⟩ = some (.int .i64 q.st.cv) ∧ w'.cell? ⟨w.heap.size, 8, none⟩ = some (.int .i64 q.st.own) ∧ w'.cell? ⟨w.heap.size, 9, none⟩ = some (.int .i64 q.b.length) ∧ w'.cell? ⟨w.heap.size, 10, none⟩ = some (.int .i64 k)) := by
    intro w' hb
    have hb' : w'.heap[w.heap.size]? = some (.cells #[.slice A q.b.length C, .int .i64 q.st.cz, .int .i64 q.st.mz, .int .i64 q.st.pz, .int .i64 q.st.ct, .int .i64 q.st.mt, .int .i64 q.st.ver, .int .i64 q.st.cv, .int .i64 q.st.own, .int .i64 q.b.length, .int .i64 k] 77 (0, 0)) := by rw [hb.block _ (by omega)]; exact hb0
    exact ⟨cell_at hb' 0, cell_at hb' 1, cell_at hb' 2, cell_at hb' 3, cell_at hb' 4, cell_at hb' 5, cell_at hb' 6, cell_at hb' 7, cell_at hb' 8, cell_at hb' 9, cell_at hb' 10⟩
  have HT : Hid (∀ {w' : World}, Below W.heap.size W w' → w'.there (w.heap.size + 1) 0 12) := by
    intro w' hb
    have hb' : w'.heap[w.heap.size + 1]? = some (.cells zeroA.toArray 47 (0, 0)) := by rw [hb.block _ (by omega)]; exact hb1
    exact there_of (cs := zeroA) hb'
  have HSS : Hid (∀ {w' : World}, (w'.cell? ⟨w.heap.size, 0, none⟩ = some (.slice A q.b.length C) ∧ w'.cell? ⟨w.heap.size, 1, none⟩ = some (.int .i64 q.st.cz) ∧ w'.cell? ⟨w.heap.size, 2, none⟩ = some (.int .i64 q.st.mz) ∧ w'.cell? ⟨w.heap.size, 3, none⟩ = some (.int .i64 q.st.pz) ∧ w'.cell? ⟨w.heap.size, 4, none⟩ = some (.int .i64 q.st.ct) ∧ w'.cell? ⟨w.heap.size, 5, none⟩ = some (.int .i64 q.st.mt) ∧ w'.cell? ⟨w.heap.size, 6, none⟩ = some (.int .i64 q.st.ver) ∧ w'.cell? ⟨w.heap.size, 7, none⟩ = some (.int .i64 q.st.cv) ∧ w'.cell? ⟨w.heap.size, 8, none⟩ = some (.int .i64 q.st.own) ∧ w'.cell? ⟨w.heap.size, 9, none⟩ = some (.int .i64 q.b.length) ∧ w'.cell? ⟨w.heap.size, 10, none⟩ = some (.int .i64 k)) → ∀ A2 C2, (fun w' : World => w'.cell? ⟨w.heap.size, 0, none⟩ = some (.slice A q.b.length C) ∧ w'.cell? ⟨w.heap.size, 1, none⟩ = some (.int .i64 q.st.cz) ∧ w'.cell? ⟨w.heap.size, 2, none⟩ = some (.int .i64 q.st.mz) ∧ w'.cell? ⟨w.heap.size, 3, none⟩ = some (.int .i64 q.st.pz) ∧ w'.cell? ⟨w.heap.size, 4, none⟩ = some (.int .i64 q.st.ct) ∧ w'.cell? ⟨w.heap.size, 5, none⟩ = some (.int .i64 q.st.mt) ∧ w'.cell? ⟨w.heap.size, 6, none⟩ = some (.int .i64 q.st.ver) ∧ w'.cell? ⟨w.heap.size, 7, none⟩ = some (.int .i64 q.st.cv) ∧ w'.cell? ⟨w.heap.size, 8, none⟩ = some (.int .i64 q.st.own) ∧ w'.cell? ⟨w.heap.size, 9, none⟩ = some (.int .i64 q.b.length) ∧ w'.cell? ⟨w.heap.size, 10, none⟩ = some (.int .i64 k)) (w'.setCells (w.heap.size + 1) 0 (toldA p q A2 C2 k).toList)) := by
    intro w' hc A2 C2
    have hx : ∀ j, (w'.setCells (w.heap.size + 1) 0 (toldA p q A2 C2 k).toList).cell? ⟨w.heap.size, j, none⟩ = w'.cell? ⟨w.heap.size, j, none⟩ := fun j => World.cell?_setCells_out (w.heap.size + 1) _ 0 w' ⟨w.heap.size, j, none⟩ (fun hb _ => by simp at hb)
    simp only [hx]
    exact hc
  have HST : Hid (∀ {w' : World}, Below W.heap.size W w' → (w'.cell? ⟨w.heap.size, 0, none⟩ = some (.slice A q.b.length C) ∧ w'.cell? ⟨w.heap.size, 1, none⟩ = some (.int .i64 q.st.cz) ∧ w'.cell? ⟨w.heap.size, 2, none⟩ = some (.int .i64 q.st.mz) ∧ w'.cell? ⟨w.heap.size, 3, none⟩ = some (.int .i64 q.st.pz) ∧ w'.cell? ⟨w.heap.size, 4, none⟩ = some (.int .i64 q.st.ct) ∧ w'.cell? ⟨w.heap.size, 5, none⟩ = some (.int .i64 q.st.mt) ∧ w'.cell? ⟨w.heap.size, 6, none⟩ = some (.int .i64 q.st.ver) ∧ w'.cell? ⟨w.heap.size, 7, none⟩ = some (.int .i64 q.st.cv) ∧ w'.cell? ⟨w.heap.size, 8, none⟩ = some (.int .i64 q.st.own) ∧ w'.cell? ⟨w.heap.size, 9, none⟩ = some (.int .i64 q.b.length) ∧ w'.cell? ⟨w.heap.size, 10, none⟩ = some (.int .i64 k)) → ∀ A2 C2, ∃ w3, (storeVar 47 ⟨w.heap.size + 1, 0, none⟩ (.agg (toldA p q A2 C2 k))).run Tryz.prog w' = .ok () w3 ∧ w3 = w'.setCells (w.heap.size + 1) 0 (toldA p q A2 C2 k).toList ∧ (fun w' : World => w'.cell? ⟨w.heap.size, 0, none⟩ = some (.slice A q.b.length C) ∧ w'.cell? ⟨w.heap.size, 1, none⟩ = some (.int .i64 q.st.cz) ∧ w'.cell? ⟨w.heap.size, 2, none⟩ = some (.int .i64 q.st.mz) ∧ w'.cell? ⟨w.heap.size, 3, none⟩ = some (.int .i64 q.st.pz) ∧ w'.cell? ⟨w.heap.size, 4, none⟩ = some (.int .i64 q.st.ct) ∧ w'.cell? ⟨w.heap.size, 5, none⟩ = some (.int .i64 q.st.mt) ∧ w'.cell? ⟨w.heap.size, 6, none⟩ = some (.int .i64 q.st.ver) ∧ w'.cell? ⟨w.heap.size, 7, none⟩ = some (.int .i64 q.st.cv) ∧ w'.cell? ⟨w.heap.size, 8, none⟩ = some (.int .i64 q.st.own) ∧ w'.cell? ⟨w.heap.size, 9, none⟩ = some (.int .i64 q.b.length) ∧ w'.cell? ⟨w.heap.size, 10, none⟩ = some (.int .i64 k)) w3) := by
    intro w' hb hc A2 C2
    exact ⟨_, run_storeVar_mid (P := Tryz.prog) w' (w.heap.size + 1) 0 47 (toldA p q A2 C2 k) (HT.out hb) infoN (oneT p q A2 C2 k), rfl, HSS.out hc A2 C2⟩
  have hc1 := sclone_any p (by omega) W
  have HC2 : Hid (∀ {w1 : World}, Below W.heap.size W w1 → Calls Tryz.prog 62 #[.slice A q.b.length C] w1 fun e w2 => ∃ A' C', e = .returned (.slice A' q.b.length C') ∧ Below W.heap.size W w2 ∧ w2.ownsRow w.heap.size 5 1 (.slice A' q.b.length C') q.b.length (bv q.b) ∧ ∀ b, Value.ownBlock (.slice A' q.b.length C') = some b → w.heap.size + 2 ≤ b) := by
    intro w1 hb1
    refine (bclone_any ((h.keep (Chg.of_below hBW) (fun _ _ => id)).keep (Chg.of_below hb1) (fun _ _ => id)) rfl (by omega)).mono ?_
    rintro e w2 ⟨A', C', rfl, ho, hb⟩
    have := hb1.size
    refine ⟨A', C', rfl, hb1.trans (hb.mono hb1.size), owns_base ho (by omega), fun b hb' => ?_⟩
    obtain ⟨_, _, hle⟩ := towns_block ho hb'
    omega
  have hS0 := HS.out (Below.refl _ W)
  rw [hW] at hc1 hS0
  have HBW : Hid (Below w.heap.size w W) := hBW
  have HSZ : Hid (W.heap.size = w.heap.size + 2) := hsz
  clear hW hBW hb0 hb1 h hsz hq hp hk
  go_enter Tryz.func40, Tryz.ntmps40
  go_wp2_with fail
  go_region_held3 (fun w' => w'.cell? ⟨w.heap.size, 0, none⟩ = some (.slice A q.b.length C) ∧ w'.cell? ⟨w.heap.size, 1, none⟩ = some (.int .i64 q.st.cz) ∧ w'.cell? ⟨w.heap.size, 2, none⟩ = some (.int .i64 q.st.mz) ∧ w'.cell? ⟨w.heap.size, 3, none⟩ = some (.int .i64 q.st.pz) ∧ w'.cell? ⟨w.heap.size, 4, none⟩ = some (.int .i64 q.st.ct) ∧ w'.cell? ⟨w.heap.size, 5, none⟩ = some (.int .i64 q.st.mt) ∧ w'.cell? ⟨w.heap.size, 6, none⟩ = some (.int .i64 q.st.ver) ∧ w'.cell? ⟨w.heap.size, 7, none⟩ = some (.int .i64 q.st.cv) ∧ w'.cell? ⟨w.heap.size, 8, none⟩ = some (.int .i64 q.st.own) ∧ w'.cell? ⟨w.heap.size, 9, none⟩ = some (.int .i64 q.b.length) ∧ w'.cell? ⟨w.heap.size, 10, none⟩ = some (.int .i64 k))
    (first | exact hS0 | exact hS1 | exact hS2 | exact hS3 | go_keep)
    (first
      | (go_at_call 61; refine hc1.mono ?_; rintro e w1 ⟨rfl, hb1⟩; rw [← HW.out] at hb1; have hS1 := HS.out hb1; have hc2 := HC2.out hb1; clear hc1 hb1)
      | (go_at_call 62; refine hc2.mono ?_; rintro e w2 ⟨A2, C2, rfl, hb2, ho2, hn2⟩; have hS2 := HS.out hb2; obtain ⟨w3, hst, hw3, hS3⟩ := HST.out hb2 hS2 A2 C2; have HW3 : Hid _ := hw3; clear hw3; simp [go_sem, toldA] at hst; have HF : Hid _ := And.intro hb2 (And.intro ho2 hn2); clear hc2 hb2 ho2 hn2))
  have HS3 : Hid True := trivial
  clear hst hS0 hS1 hS2 hS3
  go_wp2_with fail
  obtain ⟨hb2, ho2, hn2⟩ := HF.out
  have hthr := HT.out hb2
  refine bodyPost_ret (tresults_row _ _ Tryz.results40 (w.heap.size + 1) rfl (toldA p q A2 C2 k).toList _ ?_ Tryz.underlying47 rfl (by kernel_rfl)) rfl ⟨A2, C2, rfl, ?_, ?_⟩
  · rw [HW3.out]
    exact World.rangeAt_setCells_same _ _ _ (toldA p q A2 C2 k).toList hthr
  · rw [HW3.out]
    exact tset_owns ho2 (fun b hb => by have := hn2 b hb; omega)
  · rw [HW3.out]
    exact below_cells (by omega) _ _ _ (HBW.out.trans (hb2.mono HBW.out.size))
end Go.Proofs.YtcdnfgibcochhaaGreatDoor
