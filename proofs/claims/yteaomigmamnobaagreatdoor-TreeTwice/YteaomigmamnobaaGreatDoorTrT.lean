/- Trees: a node as it is told. -/
import Derived.Test.YteaomigmamnobaaGreatDoorTrM
import Derived.Test.YteaomigmamnobaaGreatDoorTrO
import Derived.Deep.MidRow
namespace Go.Proofs.YteaomigmamnobaaGreatDoor
set_option linter.unusedSimpArgs false
set_option linter.unusedVariables false
open Go.RowKit Go.MapKept
set_option linter.unusedVariables false
set_option linter.unusedSimpArgs false

abbrev toldA (p : List UInt8) (q : Fi) (A : Option Addr) (C : Nat) (k : Nat) : Array Value := #[.string (mkS p), .slice A q.b.length C, .int .i64 q.st.cz, .int .i64 q.st.mz, .int .i64 q.st.pz, .int .i64 q.st.ct, .int .i64 q.st.mt, .int .i64 q.st.ver, .int .i64 q.st.cv, .int .i64 q.st.own, .int .i64 q.b.length, .int .i64 k]
theorem tresults_row {P : Program} {fn : Func} {tmps : Array Value} {w : World} (a : Tmp) (ty : TypeId) (hres : fn.results = #[.cell a ty]) (b : Nat) (ht : tmps.getD a undef = .pointer (some ⟨b, 0, none⟩)) (cs : List Value) (d : TypeDesc) (hc : w.rangeAt b 0 cs)
    (hu : P.underlying ty = some d) (hd : d.isRow = true) (hi : (P.info? ty).map (·.size) = some cs.length) : (results fn tmps).run P w = .ok (.agg cs.toArray) w := by
  rw [Array.getD_eq_getD_getElem?] at ht
  have hl : (loadCells ⟨b, 0, none⟩ cs.length).run P w = .ok cs.toArray w :=
    run_loadCells_list (P := P) w ⟨b, 0, none⟩ cs (fun j v hv => by rw [Addr.add_mid]; exact hc j v hv)
  unfold loadCells at hl
  cases hq : P.info? ty with
  | none => simp [hq] at hi
  | some i =>
    have hs : i.size = cs.length := by simpa [hq] using hi
    have hagg : (isAgg ty).run P w = .ok true w := by
      unfold isAgg
      rw [Sem.run_bind, run_underlying hu w]
      cases d <;> simp_all
    have hsz : (sizeOf ty).run P w = .ok cs.length w := by simp [sizeOf, typeInfo, hq, hs, Sem.run_bind]
    unfold results
    rw [hres]
    simp [go_sem, ht, hagg, hsz, hl]
theorem tset_block {b : Nat} : ∀ (vs : List Value) (o : Nat) (w : World) (k : Nat), k ≠ b → (w.setCells b o vs).heap[k]? = w.heap[k]?
  | [], _, _, _, _ => rfl
  | v :: r, o, w, k, h => by
    rw [World.setCells, tset_block r (o + 1) _ k h]
    unfold World.setCell
    simp [Array.getElem?_modify, Ne.symm h]
theorem tset_owns {w : World} {b o base n : Nat} {v : Value} {xs vs : List Value} (h : w.ownsRow base 5 1 v n xs) (hn : ∀ k, v.ownBlock = some k → k ≠ b) : (w.setCells b o vs).ownsRow base 5 1 v n xs := by
  refine ⟨h.1, ?_⟩
  rcases h.2 with h | ⟨g, cap, cur, rfl, hb, hg, hr⟩
  · exact .inl h
  · exact .inr ⟨g, cap, cur, rfl, hb, by rw [tset_block _ _ _ _ (hn g rfl)]; exact hg, hr⟩
theorem oneT (p : List UInt8) (q : Fi) (A : Option Addr) (C k : Nat) : (toldA p q A C k).all (·.oneCell') = true := by simp [toldA, Value.oneCell']
set_option maxRecDepth 100000 in
set_option maxHeartbeats 2000000 in
theorem tell_any {w : World} {q : Fi} {A : Option Addr} {C : Nat} (h : Bs w (.slice A q.b.length C) q.b) (hq : q.b.length ≤ 1000) (p : List UInt8) (hp : p.length ≤ 1000000) (k : Nat) (hk : k ≤ 1000000) :
    Calls Tryz.prog 40 #[.agg (nodeA q A C), .string (mkS p), .int .i64 k] w fun e w' => ∃ A' C', e = .returned (.agg (toldA p q A' C' k)) ∧ w'.ownsRow w.heap.size 5 1 (.slice A' q.b.length C') q.b.length (bv q.b) ∧ Below w.heap.size w w' := by
  obtain ⟨W, hW⟩ : ∃ W, W = ((w.alloc (.cells #[.slice A q.b.length C, .int .i64 q.st.cz, .int .i64 q.st.mz, .int .i64 q.st.pz, .int .i64 q.st.ct, .int .i64 q.st.mt, .int .i64 q.st.ver, .int .i64 q.st.cv, .int .i64 q.st.own, .int .i64 q.b.length, .int .i64 k] 77)).alloc (.cells #[.string ⟨#[]⟩, .slice none 0 0, .int .i64 0, .int .i64 0, .int .i64 0, .int .i64 0, .int .i64 0, .int .i64 0, .int .i64 0, .int .i64 0, .int .i64 0, .int .i64 0] 47)).drew := ⟨_, rfl⟩
  have HW : Hid (W = ((w.alloc (.cells #[.slice A q.b.length C, .int .i64 q.st.cz, .int .i64 q.st.mz, .int .i64 q.st.pz, .int .i64 q.st.ct, .int .i64 q.st.mt, .int .i64 q.st.ver, .int .i64 q.st.cv, .int .i64 q.st.own, .int .i64 q.b.length, .int .i64 k] 77)).alloc (.cells #[.string ⟨#[]⟩, .slice none 0 0, .int .i64 0, .int .i64 0, .int .i64 0, .int .i64 0, .int .i64 0, .int .i64 0, .int .i64 0, .int .i64 0, .int .i64 0, .int .i64 0] 47)).drew) := hW
  have hBW : Below w.heap.size w W := by rw [hW]; exact ((lay1 _ _).trans ((lay1 _ _).mono (by simp))).drew
  have hsz : W.heap.size = w.heap.size + 2 := by rw [hW]; simp
  have hb0 : W.heap[w.heap.size]? = some (.cells #[.slice A q.b.length C, .int .i64 q.st.cz, .int .i64 q.st.mz, .int .i64 q.st.pz, .int .i64 q.st.ct, .int .i64 q.st.mt, .int .i64 q.st.ver, .int .i64 q.st.cv, .int .i64 q.st.own, .int .i64 q.b.length, .int .i64 k] 77 (0, 0)) := by rw [hW]; exact ((lay1 _ _).block _ (by simp)).trans (heap_alloc_new w _)
  have hb1 : W.heap[w.heap.size + 1]? = some (.cells #[.string ⟨#[]⟩, .slice none 0 0, .int .i64 0, .int .i64 0, .int .i64 0, .int .i64 0, .int .i64 0, .int .i64 0, .int .i64 0, .int .i64 0, .int .i64 0, .int .i64 0] 47 (0, 0)) := by rw [hW]; have := heap_alloc_new (w.alloc (.cells #[.slice A q.b.length C, .int .i64 q.st.cz, .int .i64 q.st.mz, .int .i64 q.st.pz, .int .i64 q.st.ct, .int .i64 q.st.mt, .int .i64 q.st.ver, .int .i64 q.st.cv, .int .i64 q.st.own, .int .i64 q.b.length, .int .i64 k] 77)) (.cells #[.string ⟨#[]⟩, .slice none 0 0, .int .i64 0, .int .i64 0, .int .i64 0, .int .i64 0, .int .i64 0, .int .i64 0, .int .i64 0, .int .i64 0, .int .i64 0, .int .i64 0] 47 (0, 0)); rw [show (w.alloc _).heap.size = w.heap.size + 1 by simp] at this; exact this
  have HS : Hid (∀ {w' : World}, Below W.heap.size W w' → w'.cell? ⟨w.heap.size, 0, none⟩ = some (.slice A q.b.length C) ∧ w'.cell? ⟨w.heap.size, 1, none⟩ = some (.int .i64 q.st.cz) ∧ w'.cell? ⟨w.heap.size, 2, none⟩ = some (.int .i64 q.st.mz) ∧ w'.cell? ⟨w.heap.size, 3, none⟩ = some (.int .i64 q.st.pz) ∧ w'.cell? ⟨w.heap.size, 4, none⟩ = some (.int .i64 q.st.ct) ∧ w'.cell? ⟨w.heap.size, 5, none⟩ = some (.int .i64 q.st.mt) ∧ w'.cell? ⟨w.heap.size, 6, none⟩ = some (.int .i64 q.st.ver) ∧ w'.cell? ⟨w.heap.size, 7, none⟩ = some (.int .i64 q.st.cv) ∧ w'.cell? ⟨w.heap.size, 8, none⟩ = some (.int .i64 q.st.own) ∧ w'.cell? ⟨w.heap.size, 9, none⟩ = some (.int .i64 q.b.length) ∧ w'.cell? ⟨w.heap.size, 10, none⟩ = some (.int .i64 k)) := by
    intro w' hb
    have hb' : w'.heap[w.heap.size]? = some (.cells #[.slice A q.b.length C, .int .i64 q.st.cz, .int .i64 q.st.mz, .int .i64 q.st.pz, .int .i64 q.st.ct, .int .i64 q.st.mt, .int .i64 q.st.ver, .int .i64 q.st.cv, .int .i64 q.st.own, .int .i64 q.b.length, .int .i64 k] 77 (0, 0)) := by rw [hb.block _ (by omega)]; exact hb0
    exact ⟨cell_at hb' 0, cell_at hb' 1, cell_at hb' 2, cell_at hb' 3, cell_at hb' 4, cell_at hb' 5, cell_at hb' 6, cell_at hb' 7, cell_at hb' 8, cell_at hb' 9, cell_at hb' 10⟩
  have HT : Hid (∀ {w' : World}, Below W.heap.size W w' → w'.there (w.heap.size + 1) 0 12) := by
    intro w' hb
    have hb' : w'.heap[w.heap.size + 1]? = some (.cells zeroA.toArray 47 (0, 0)) := by rw [hb.block _ (by omega)]; exact hb1
    exact there_of (cs := zeroA) hb'
  have HSS : Hid (∀ {w' : World}, (w'.cell? ⟨w.heap.size, 0, none⟩ = some (.slice A q.b.length C) ∧ w'.cell? ⟨w.heap.size, 1, none⟩ = some (.int .i64 q.st.cz) ∧ w'.cell? ⟨w.heap.size, 2, none⟩ = some (.int .i64 q.st.mz) ∧ w'.cell? ⟨w.heap.size, 3, none⟩ = some (.int .i64 q.st.pz) ∧ w'.cell? ⟨w.heap.size, 4, none⟩ = some (.int .i64 q.st.ct) ∧ w'.cell? ⟨w.heap.size, 5, none⟩ = some (.int .i64 q.st.mt) ∧ w'.cell? ⟨w.heap.size, 6, none⟩ = some (.int .i64 q.st.ver) ∧ w'.cell? ⟨w.heap.size, 7, none⟩ = some (.int .i64 q.st.cv) ∧ w'.cell? ⟨w.heap.size, 8, none⟩ = some (.int .i64 q.st.own) ∧ w'.cell? ⟨w.heap.size, 9, none⟩ = some (.int .i64 q.b.length) ∧ w'.cell? ⟨w.heap.size, 10, none⟩ = some (.int .i64 k)) → ∀ A2 C2, (fun w' : World => w'.cell? ⟨w.heap.size, 0, none⟩ = some (.slice A q.b.length C) ∧ w'.cell? ⟨w.heap.size, 1, none⟩ = some (.int .i64 q.st.cz) ∧ w'.cell? ⟨w.heap.size, 2, none⟩ = some (.int .i64 q.st.mz) ∧ w'.cell? ⟨w.heap.size, 3, none⟩ = some (.int .i64 q.st.pz) ∧ w'.cell? ⟨w.heap.size, 4, none⟩ = some (.int .i64 q.st.ct) ∧ w'.cell? ⟨w.heap.size, 5, none⟩ = some (.int .i64 q.st.mt) ∧ w'.cell? ⟨w.heap.size, 6, none⟩ = some (.int .i64 q.st.ver) ∧ w'.cell? ⟨w.heap.size, 7, none⟩ = some (.int .i64 q.st.cv) ∧ w'.cell? ⟨w.heap.size, 8, none⟩ = some (.int .i64 q.st.own) ∧ w'.cell? ⟨w.heap.size, 9, none⟩ = some (.int .i64 q.b.length) ∧ w'.cell? ⟨w.heap.size, 10, none⟩ = some (.int .i64 k)) (w'.setCells (w.heap.size + 1) 0 (toldA p q A2 C2 k).toList)) := by
    intro w' hc A2 C2
    have hx : ∀ j, (w'.setCells (w.heap.size + 1) 0 (toldA p q A2 C2 k).toList).cell? ⟨w.heap.size, j, none⟩ = w'.cell? ⟨w.heap.size, j, none⟩ := fun j => World.cell?_setCells_out (w.heap.size + 1) _ 0 w' ⟨w.heap.size, j, none⟩ (fun hb _ => by simp at hb)
    simp only [hx]
    exact hc
  have HST : Hid (∀ {w' : World}, Below W.heap.size W w' → (w'.cell? ⟨w.heap.size, 0, none⟩ = some (.slice A q.b.length C) ∧ w'.cell? ⟨w.heap.size, 1, none⟩ = some (.int .i64 q.st.cz) ∧ w'.cell? ⟨w.heap.size, 2, none⟩ = some (.int .i64 q.st.mz) ∧ w'.cell? ⟨w.heap.size, 3, none⟩ = some (.int .i64 q.st.pz) ∧ w'.cell? ⟨w.heap.size, 4, none⟩ = some (.int .i64 q.st.ct) ∧ w'.cell? ⟨w.heap.size, 5, none⟩ = some (.int .i64 q.st.mt) ∧ w'.cell? ⟨w.heap.size, 6, none⟩ = some (.int .i64 q.st.ver) ∧ w'.cell? ⟨w.heap.size, 7, none⟩ = some (.int .i64 q.st.cv) ∧ w'.cell? ⟨w.heap.size, 8, none⟩ = some (.int .i64 q.st.own) ∧ w'.cell? ⟨w.heap.size, 9, none⟩ = some (.int .i64 q.b.length) ∧ w'.cell? ⟨w.heap.size, 10, none⟩ = some (.int .i64 k)) → ∀ A2 C2, ∃ w3, (storeVar 47 ⟨w.heap.size + 1, 0, none⟩ (.agg (toldA p q A2 C2 k))).run Tryz.prog w' = .ok () w3 ∧ w3 = w'.setCells (w.heap.size + 1) 0 (toldA p q A2 C2 k).toList ∧ (fun w' : World => w'.cell? ⟨w.heap.size, 0, none⟩ = some (.slice A q.b.length C) ∧ w'.cell? ⟨w.heap.size, 1, none⟩ = some (.int .i64 q.st.cz) ∧ w'.cell? ⟨w.heap.size, 2, none⟩ = some (.int .i64 q.st.mz) ∧ w'.cell? ⟨w.heap.size, 3, none⟩ = some (.int .i64 q.st.pz) ∧ w'.cell? ⟨w.heap.size, 4, none⟩ = some (.int .i64 q.st.ct) ∧ w'.cell? ⟨w.heap.size, 5, none⟩ = some (.int .i64 q.st.mt) ∧ w'.cell? ⟨w.heap.size, 6, none⟩ = some (.int .i64 q.st.ver) ∧ w'.cell? ⟨w.heap.size, 7, none⟩ = some (.int .i64 q.st.cv) ∧ w'.cell? ⟨w.heap.size, 8, none⟩ = some (.int .i64 q.st.own) ∧ w'.cell? ⟨w.heap.size, 9, none⟩ = some (.int .i64 q.b.length) ∧ w'.cell? ⟨w.heap.size, 10, none⟩ = some (.int .i64 k)) w3) := by
    intro w' hb hc A2 C2
    exact ⟨_, run_storeVar_mid (P := Tryz.prog) w' (w.heap.size + 1) 0 47 (toldA p q A2 C2 k) (HT.out hb) infoN (oneT p q A2 C2 k), rfl, HSS.out hc A2 C2⟩
  have hc1 := sclone_any p (by omega) W
  have HC2 : Hid (∀ {w1 : World}, Below W.heap.size W w1 → Calls Tryz.prog 62 #[.slice A q.b.length C] w1 fun e w2 => ∃ A' C', e = .returned (.slice A' q.b.length C') ∧ Below W.heap.size W w2 ∧ w2.ownsRow w.heap.size 5 1 (.slice A' q.b.length C') q.b.length (bv q.b) ∧ ∀ b, Value.ownBlock (.slice A' q.b.length C') = some b → w.heap.size + 2 ≤ b) := by
    intro w1 hb1
    refine (bclone_any ((h.keep (Chg.of_below hBW) (fun _ _ => id)).keep (Chg.of_below hb1) (fun _ _ => id)) rfl (by omega)).mono ?_
    rintro e w2 ⟨A', C', rfl, ho, hb⟩
    have := hb1.size
    refine ⟨A', C', rfl, hb1.trans (hb.mono hb1.size), owns_base ho (by omega), fun b hb' => ?_⟩
    obtain ⟨_, _, hle⟩ := towns_block ho hb'
    omega
  have hS0 := HS.out (Below.refl _ W)
  rw [hW] at hc1 hS0
  have HBW : Hid (Below w.heap.size w W) := hBW
  have HSZ : Hid (W.heap.size = w.heap.size + 2) := hsz
  clear hW hBW hb0 hb1 h hsz hq hp hk
  go_enter Tryz.func40, Tryz.ntmps40
  go_wp2_with fail
  go_region_held3 (fun w' => w'.cell? ⟨w.heap.size, 0, none⟩ = some (.slice A q.b.length C) ∧ w'.cell? ⟨w.heap.size, 1, none⟩ = some (.int .i64 q.st.cz) ∧ w'.cell? ⟨w.heap.size, 2, none⟩ = some (.int .i64 q.st.mz) ∧ w'.cell? ⟨w.heap.size, 3, none⟩ = some (.int .i64 q.st.pz) ∧ w'.cell? ⟨w.heap.size, 4, none⟩ = some (.int .i64 q.st.ct) ∧ w'.cell? ⟨w.heap.size, 5, none⟩ = some (.int .i64 q.st.mt) ∧ w'.cell? ⟨w.heap.size, 6, none⟩ = some (.int .i64 q.st.ver) ∧ w'.cell? ⟨w.heap.size, 7, none⟩ = some (.int .i64 q.st.cv) ∧ w'.cell? ⟨w.heap.size, 8, none⟩ = some (.int .i64 q.st.own) ∧ w'.cell? ⟨w.heap.size, 9, none⟩ = some (.int .i64 q.b.length) ∧ w'.cell? ⟨w.heap.size, 10, none⟩ = some (.int .i64 k))
    (first | exact hS0 | exact hS1 | exact hS2 | exact hS3 | go_keep)
    (first
      | (go_at_call 61; refine hc1.mono ?_; rintro e w1 ⟨rfl, hb1⟩; rw [← HW.out] at hb1; have hS1 := HS.out hb1; have hc2 := HC2.out hb1; clear hc1 hb1)
      | (go_at_call 62; refine hc2.mono ?_; rintro e w2 ⟨A2, C2, rfl, hb2, ho2, hn2⟩; have hS2 := HS.out hb2; obtain ⟨w3, hst, hw3, hS3⟩ := HST.out hb2 hS2 A2 C2; have HW3 : Hid _ := hw3; clear hw3; simp [go_sem, toldA] at hst; have HF : Hid _ := And.intro hb2 (And.intro ho2 hn2); clear hc2 hb2 ho2 hn2))
  have HS3 : Hid True := trivial
  clear hst hS0 hS1 hS2 hS3
  go_wp2_with fail
  obtain ⟨hb2, ho2, hn2⟩ := HF.out
  have hthr := HT.out hb2
  refine bodyPost_ret (tresults_row _ _ Tryz.results40 (w.heap.size + 1) rfl (toldA p q A2 C2 k).toList _ ?_ Tryz.underlying47 rfl (by kernel_rfl)) rfl ⟨A2, C2, rfl, ?_, ?_⟩
  · rw [HW3.out]
    exact World.rangeAt_setCells_same _ _ _ (toldA p q A2 C2 k).toList hthr
  · rw [HW3.out]
    exact tset_owns ho2 (fun b hb => by have := hn2 b hb; omega)
  · rw [HW3.out]
    exact below_cells (by omega) _ _ _ (HBW.out.trans (hb2.mono HBW.out.size))
end Go.Proofs.YteaomigmamnobaaGreatDoor
