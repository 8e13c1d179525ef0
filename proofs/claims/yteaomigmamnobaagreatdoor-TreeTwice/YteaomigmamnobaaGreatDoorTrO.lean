/- No tree: what find, List and Get tell. -/
import Derived.Test.YteaomigmamnobaaGreatDoorTrN
import Derived.Deep.MidRow
namespace Go.Proofs.YteaomigmamnobaaGreatDoor
set_option linter.unusedVariables false
open Go.RowKit Go.MapKept
set_option linter.unusedVariables false

theorem results_row2 {P : Program} {fn : Func} {tmps : Array Value} {w : World} (a t : Tmp) (ty : TypeId) (hres : fn.results = #[.cell a ty, .tmp t]) (b : Nat) (ht : tmps.getD a undef = .pointer (some ⟨b, 0, none⟩)) (v : Value) (hv : tmps.getD t undef = v) (cs : List Value) (d : TypeDesc) (hc : w.rangeAt b 0 cs)
    (hu : P.underlying ty = some d) (hd : d.isRow = true) (hi : (P.info? ty).map (·.size) = some cs.length) : (results fn tmps).run P w = .ok (.tuple #[.agg cs.toArray, v]) w := by
  rw [Array.getD_eq_getD_getElem?] at ht hv
  have hl : (loadCells ⟨b, 0, none⟩ cs.length).run P w = .ok cs.toArray w :=
    run_loadCells_list (P := P) w ⟨b, 0, none⟩ cs (fun j v hv => by rw [Addr.add_mid]; exact hc j v hv)
  unfold loadCells at hl
  cases hq : P.info? ty with
  | none => simp [hq] at hi
  | some i =>
    have hs : i.size = cs.length := by simpa [hq] using hi
    have hagg : (isAgg ty).run P w = .ok true w := by
      unfold isAgg
      rw [Sem.run_bind, run_underlying hu w]
      cases d <;> simp_all
    have hsz : (sizeOf ty).run P w = .ok cs.length w := by simp [sizeOf, typeInfo, hq, hs, Sem.run_bind]
    unfold results
    rw [hres]
    simp [go_sem, ht, hv, hagg, hsz, hl]

abbrev zeroN : List Value := [.slice none 0 0, .int .i64 0, .int .i64 0, .int .i64 0, .int .i64 0, .int .i64 0, .int .i64 0, .int .i64 0, .int .i64 0, .int .i64 0, .int .i64 0]
abbrev zeroA : List Value := [.string ⟨#[]⟩, .slice none 0 0, .int .i64 0, .int .i64 0, .int .i64 0, .int .i64 0, .int .i64 0, .int .i64 0, .int .i64 0, .int .i64 0, .int .i64 0, .int .i64 0]
theorem range_new (w : World) (cs : List Value) (T : TypeId) : (w.alloc (.cells cs.toArray T)).rangeAt w.heap.size 0 cs := by
  intro j v h
  rw [Nat.zero_add]
  have hb : (w.alloc (.cells cs.toArray T)).heap[w.heap.size]? = some (.cells cs.toArray T (0, 0)) := by
    unfold World.alloc
    exact Array.getElem?_push_size
  unfold World.cell?
  simp only [hb]
  simpa using h
set_option maxRecDepth 100000 in
theorem find_no {w : World} {v : Value} (h : NoTree w v) (p : Value) : Calls Tryz.prog 39 #[v, p] w fun e w' => e = .returned (.tuple #[.agg zeroN.toArray, .bool false]) ∧ Below w.heap.size w w' := by
  have ht := there_no (h.lay (.cells zeroN.toArray 77))
  clear h
  go_enter Tryz.func39, Tryz.ntmps39
  go_wp2_with fail
  refine ht.mono ?_
  rintro e w1 ⟨rfl, hw⟩
  subst hw
  clear ht
  go_wp2_with fail
  refine bodyPost_ret (results_row2 _ _ _ Tryz.results39 w.heap.size rfl (.bool false) rfl zeroN _ ?_ Tryz.underlying77 rfl (by kernel_rfl)) rfl ⟨rfl, lay1 _ _⟩
  exact range_new w zeroN 77
set_option maxRecDepth 100000 in
theorem list_no {w : World} {v : Value} (h : NoTree w v) (p : Value) : Calls Tryz.prog 22 #[v, p] w fun e w' => e = .returned (.tuple #[.slice none 0 0, .bool false]) ∧ Below w.heap.size w w' := by
  have ht := find_no h p
  clear h
  go_enter Tryz.func22, Tryz.ntmps22
  go_wp2_with fail
  refine ht.mono ?_
  rintro e w1 ⟨rfl, hb⟩
  have HB : Hid (Below w.heap.size w w1) := hb
  clear ht hb
  go_wp2_with fail
  go_ret2
  exact ⟨rfl, HB.out.trans ((lay1 w1 _).mono HB.out.size)⟩
theorem below_cells {B b : Nat} {a : World} (hb : B ≤ b) : ∀ (vs : List Value) (o : Nat) (w : World), Below B a w → Below B a (w.setCells b o vs)
  | [], _, _, h => h
  | v :: r, o, w, h => by
    rw [World.setCells]
    exact below_cells hb r (o + 1) _ (h.setCell hb v)
theorem there_of {w : World} {b T : Nat} {cs : List Value} (h : w.heap[b]? = some (.cells cs.toArray T (0, 0))) : w.there b 0 cs.length := by
  intro j hj
  refine ⟨?_, ?_⟩
  · simp [World.cell?, h, hj]
  · simp [World.frozen?, h]
theorem infoN : (Tryz.prog.info? 47).map (·.size) = some 12 := by kernel_rfl
theorem oneA : (#[.string ⟨#[]⟩, .slice none 0 0, .int .i64 0, .int .i64 0, .int .i64 0, .int .i64 0, .int .i64 0, .int .i64 0, .int .i64 0, .int .i64 0, .int .i64 0, .int .i64 0] : Array Value).all (·.oneCell') = true := all_oneCell_toArray (cs := zeroA) (fun v hv => by simp [zeroA] at hv; rcases hv with rfl | rfl | rfl <;> rfl)
set_option maxRecDepth 100000 in
theorem get_no {w : World} {v : Value} (h : NoTree w v) (p : Value) : Calls Tryz.prog 14 #[v, p] w fun e w' => e = .returned (.tuple #[.agg zeroA.toArray, .bool false]) ∧ Below w.heap.size w w' := by
  have ht := find_no (h.lay (.cells zeroA.toArray 47)) p
  clear h
  go_enter Tryz.func14, Tryz.ntmps14
  go_wp2_with fail
  refine ht.mono ?_
  rintro e w1 ⟨rfl, hb⟩
  have hn : (w.alloc (.cells zeroA.toArray 47)).heap[w.heap.size]? = some (.cells zeroA.toArray 47 (0, 0)) := by
    unfold World.alloc
    exact Array.getElem?_push_size
  have HT : Hid (∀ o, (w1.alloc o).there w.heap.size 0 12) := by
    intro o
    have h1 : w1.heap[w.heap.size]? = some (.cells zeroA.toArray 47 (0, 0)) := by rw [hb.block w.heap.size (by simp)]; exact hn
    have h2 : (w1.alloc o).heap[w.heap.size]? = some (.cells zeroA.toArray 47 (0, 0)) := by rw [(lay1 w1 o).block _ (by rcases Nat.lt_or_ge w.heap.size w1.heap.size with q | q; exact q; rw [Array.getElem?_eq_none q] at h1; cases h1)]; exact h1
    exact there_of (cs := zeroA) h2
  have HB : Hid (Below w.heap.size w w1) := (lay1 w _).trans (hb.mono (by simp))
  have hth := HT.out (.cells #[.slice none 0 0, .int .i64 0, .int .i64 0, .int .i64 0, .int .i64 0, .int .i64 0, .int .i64 0, .int .i64 0, .int .i64 0, .int .i64 0, .int .i64 0] 77)
  have hone := oneA
  clear ht hb hn HT
  go_wp2_with (refine wpList_store_mid rfl 47 _ _ rfl w.heap.size 0 #[.string ⟨#[]⟩, .slice none 0 0, .int .i64 0, .int .i64 0, .int .i64 0, .int .i64 0, .int .i64 0, .int .i64 0, .int .i64 0, .int .i64 0, .int .i64 0, .int .i64 0] rfl rfl hth infoN hone ?_)
  refine bodyPost_ret (results_row2 _ _ _ Tryz.results14 w.heap.size rfl (.bool false) rfl zeroA _ ?_ Tryz.underlying47 rfl (by kernel_rfl)) rfl ⟨rfl, ?_⟩
  · exact World.rangeAt_setCells_same _ _ _ zeroA hth
  · exact below_cells (Nat.le_refl _) _ _ _ (HB.out.trans ((lay1 w1 _).mono HB.out.size))
end Go.Proofs.YteaomigmamnobaaGreatDoor
