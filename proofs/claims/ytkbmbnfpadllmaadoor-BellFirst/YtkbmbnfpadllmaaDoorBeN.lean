/- The laws' own makers of a ring and of a deed; what wakes every law. -/
import Derived.Test.YtkbmbnfpadllmaaDoorBeL
import Derived.Test.YtkbmbnfpadllmaaDoorBeI
import Derived.Test.YtkbmbnfpadllmaaDoorBeK
namespace Go.Proofs.YtkbmbnfpadllmaaDoor.We
set_option linter.unusedSimpArgs false
set_option linter.unusedVariables false
open Go.RowKit Go.MapKept
set_option linter.unusedVariables false
set_option linter.unusedSimpArgs false

def fC (z : Int) (p : List UInt8) : Fl := ⟨z, 1, 0, 0, 0, 0, p, [], 0, 0, 1, 0, 0, 0, [], 0⟩
theorem rowRes {P : Program} {fn : Func} {tmps : Array Value} {w : World} (a : Tmp) (ty : TypeId) (hres : fn.results = #[.cell a ty]) (b : Nat) (ht : tmps.getD a undef = .pointer (some ⟨b, 0, none⟩)) (cs : List Value) (d : TypeDesc) (hc : w.rangeAt b 0 cs)
    (hu : P.underlying ty = some d) (hd : d.isRow = true) (hi : (P.info? ty).map (·.size) = some cs.length) : (results fn tmps).run P w = .ok (.agg cs.toArray) w := by
  rw [Array.getD_eq_getD_getElem?] at ht
  have hl : (loadCells ⟨b, 0, none⟩ cs.length).run P w = .ok cs.toArray w :=
    run_loadCells_list (P := P) w ⟨b, 0, none⟩ cs (fun j v hv => by rw [Addr.add_mid]; exact hc j v hv)
  unfold loadCells at hl
  cases hq : P.info? ty with
  | none => simp [hq] at hi
  | some i =>
    have hs : i.size = cs.length := by simpa [hq] using hi
    have hagg : (isAgg ty).run P w = .ok true w := by
      unfold isAgg
      rw [Sem.run_bind, run_underlying hu w]
      cases d <;> simp_all
    have hsz : (sizeOf ty).run P w = .ok cs.length w := by simp [sizeOf, typeInfo, hq, hs, Sem.run_bind]
    unfold results
    rw [hres]
    simp [go_sem, ht, hagg, hsz, hl]
theorem range_new (w : World) (cs : List Value) (T : TypeId) : (w.alloc (.cells cs.toArray T)).rangeAt w.heap.size 0 cs := by
  intro j v hv
  rw [Nat.zero_add, cellAt (heap_alloc_new w _)]
  simpa using hv
set_option maxRecDepth 100000 in
theorem mkR_any (cn kd so z : Int) (p : List UInt8) (w : World) : Calls Tryd.prog 17 #[.int .i64 cn, .int .u8 kd, .int .u8 so, .string (mkS p), .int .i64 z] w fun e w' => e = .returned (.agg #[.int .i64 cn, .int .u8 kd, .int .u8 so, .string (mkS p), .int .i64 z]) ∧ Below w.heap.size w w' := by
  have HB : Hid (Below w.heap.size w (w.alloc (.cells #[.int .i64 cn, .int .u8 kd, .int .u8 so, .string (mkS p), .int .i64 z] 56))) := (Below.refl _ _).alloc (Nat.le_refl _) _
  go_enter Tryd.func17, Tryd.ntmps17
  go_wp2_with fail
  exact bodyPost_ret (rowRes _ _ Tryd.results17 w.heap.size rfl [.int .i64 cn, .int .u8 kd, .int .u8 so, .string (mkS p), .int .i64 z] _ (range_new w _ 56) Tryd.underlying56 rfl (by kernel_rfl)) rfl ⟨rfl, HB.out⟩
set_option maxRecDepth 100000 in
theorem mkD_any (z : Int) (p : List UInt8) (w : World) : Calls Tryd.prog 15 #[.int .i64 z, .string (mkS p)] w fun e w' => e = .returned (.agg #[.int .i64 z, .int .u8 1, .int .i64 0, .int .i64 0, .int .i64 0, .int .i64 0, .string (mkS p), .slice none 0 0, .int .i64 0, .int .i64 0, .int .i64 1, .int .i64 0, .int .i64 0, .int .i64 0, .slice none 0 0, .slice none 0 0]) ∧ Below w.heap.size w w' := by
  have HB : Hid (Below w.heap.size w (w.alloc (.cells #[.int .i64 z, .int .u8 1, .int .i64 0, .int .i64 0, .int .i64 0, .int .i64 0, .string (mkS p), .slice none 0 0, .int .i64 0, .int .i64 0, .int .i64 1, .int .i64 0, .int .i64 0, .int .i64 0, .slice none 0 0, .slice none 0 0] 32))) := (Below.refl _ _).alloc (Nat.le_refl _) _
  go_enter Tryd.func15, Tryd.ntmps15
  go_wp2_with fail
  exact bodyPost_ret (rowRes _ _ Tryd.results15 w.heap.size rfl [.int .i64 z, .int .u8 1, .int .i64 0, .int .i64 0, .int .i64 0, .int .i64 0, .string (mkS p), .slice none 0 0, .int .i64 0, .int .i64 0, .int .i64 1, .int .i64 0, .int .i64 0, .int .i64 0, .slice none 0 0, .slice none 0 0] _ (range_new w _ 32) Tryd.underlying32 rfl (by kernel_rfl)) rfl ⟨rfl, HB.out⟩

/- A tower that the call has made. -/
def Tw (w0 w : World) (t m : Nat) (L : List Wa) : Prop := Tx w t m L ∧ PA.Laid w ∧ Below w0.heap.size w0 w ∧ w0.heap.size ≤ t ∧ w0.heap.size ≤ m
theorem Tw.below {w0 w w' : World} {t m : Nat} {L : List Wa} (h : Tw w0 w t m L) (hb : Below w.heap.size w w') : Tw w0 w' t m L :=
  ⟨h.1.below hb, h.2.1.below hb, h.2.2.1.trans (hb.mono h.2.2.1.size), h.2.2.2⟩
theorem Tw.to {w0 w w' : World} {t m : Nat} {L L' : List Wa} (h : Tw w0 w t m L) (hx : Tx w' t m L') (hc : Chg (fun k => k = m) w w') : Tw w0 w' t m L' :=
  ⟨hx, laid_chg h.2.1 h.1 hc, h.2.2.1.trans (hc.below (fun k e => by have := h.2.2.2.2; omega) h.2.2.1.size), h.2.2.2⟩
theorem Tw.new (w : World) (hL : PA.Laid w) : Calls Tryd.prog 8 #[] w fun e w' => ∃ t m, e = .returned (.pointer (some ⟨t, 0, none⟩)) ∧ Tw w w' t m [] := by
  refine (new_any w).mono ?_
  rintro e w' ⟨t, m, rfl, h1, h2, h3, h4⟩
  exact ⟨t, m, rfl, h1, hL.below h4, h4, h2, h3⟩
theorem Tw.add {w0 w : World} {t m : Nat} {L : List Wa} (h : Tw w0 w t m L) (cn so : Int) (p : List UInt8) :
    Calls Tryd.prog 9 #[.pointer (some ⟨t, 0, none⟩), .int .i64 cn, .int .u8 so, .string (mkS p)] w fun e w' => e = .returned (.tuple #[]) ∧ Tw w0 w' t m (addR cn so p L) := by
  refine (add_any h.1 h.2.1 cn so p).mono ?_
  rintro e w' ⟨rfl, h1, h2⟩
  exact ⟨rfl, h.to h1 h2⟩
theorem Tw.count {w0 w : World} {t m : Nat} {L : List Wa} (h : Tw w0 w t m L) (n : Int) (hn : n = L.length) : Calls Tryd.prog 14 #[.pointer (some ⟨t, 0, none⟩)] w fun e w' => e = .returned (.int .i64 n) ∧ Tw w0 w' t m L ∧ Below w.heap.size w w' := by
  refine (count_any h.1).mono ?_
  rintro e w' ⟨rfl, rfl⟩
  exact ⟨by rw [hn], h, Below.refl _ _⟩
theorem Tw.ring {w0 w : World} {t m : Nat} {L : List Wa} (h : Tw w0 w t m L) (f : Fl) (ps : List Fl) {A1 A2 A3 : Option Addr} {c1 c2 c3 : Nat} (hv : DD.DVal w f ps A1 c1 A2 c2 A3 c3) (hf : DedFit f ps) (hlen : L.length ≤ 1000000) (hps : ps.length ≤ 1000000) :
    Calls Tryd.prog 10 #[.pointer (some ⟨t, 0, none⟩), .agg (dV f A1 A2 A3 c1 c2 c3)] w fun e w' => ∃ v, e = .returned v ∧ w'.ownsRow w.heap.size 56 5 v (tellF f ps L).length ((tellF f ps L).flatMap rgC) ∧ Tw w0 w' t m (restF f ps L) := by
  refine (rings_any h.1 h.2.1 f ps hv hf hlen hps).mono ?_
  rintro e w' ⟨v, rfl, h1, h2, h3⟩
  exact ⟨v, rfl, h1, h.to h2 h3⟩
theorem Tw.again {w0 w : World} {t m : Nat} {L : List Wa} (h : Tw w0 w t m L) (cn so : Int) (p : List UInt8) (last : Int) (x0 x1 : Value) (s0 s1 s2 s3 s4 s5 s6 s7 s8 s9 : Int) (th : Bool) :
    Calls Tryd.prog 16 #[.pointer (some ⟨t, 0, none⟩), .int .i64 cn, .int .u8 so, .string (mkS p), .int .i64 last, .agg #[x0, x1, .int .i64 s0, .int .i64 s1, .int .i64 s2, .int .i64 s3, .int .i64 s4, .int .i64 s5, .int .i64 s6, .int .i64 s7, .int .i64 s8, .int .i64 s9], .bool th] w fun e w' => e = .returned (.tuple #[agV so last s0 s1 s2 th p, .bool (agB so last s0 s1 s2 th p)]) ∧ Tw w0 w' t m (agL cn so last s0 s1 s2 th p L) ∧ Chg (fun k => k = m) w w' := by
  refine (again_any h.1 h.2.1 cn so p last x0 x1 s0 s1 s2 s3 s4 s5 s6 s7 s8 s9 th).mono ?_
  rintro e w' ⟨rfl, h1, h2⟩
  exact ⟨rfl, h.to h1 h2, h2⟩

theorem fC_fit (z : Int) (hz : I64 z) (p : List UInt8) : DedFit (fC z p) [] := ⟨by constructor <;> (try simp [fC]) <;> first | exact hz | (simp [I64]), by simp, rfl⟩
theorem fC_val (z : Int) (p : List UInt8) (w : World) : DD.DVal w (fC z p) [] none 0 none 0 none 0 := ⟨.inl ⟨rfl, rfl⟩, .inl ⟨rfl, rfl⟩, .inl ⟨rfl, rfl⟩⟩
/- What the towers of awake hold. -/
def wA : Wa := ⟨1, 2, [47, 97]⟩
def wB : Wa := ⟨2, 3, [47]⟩
def wC : Wa := ⟨1, 3, [47]⟩
theorem l1_is : addR 1 2 [47, 97] [] = [wA] := by decide +kernel
theorem l2_is : addR 2 3 [47] [wA] = [wA, wB] := by decide +kernel
theorem l3_is : addR 1 3 [47] [wA, wB] = [wA, wB, wC] := by decide +kernel
theorem l4_is : addR 1 3 [47] [wA, wB, wC] = [wA, wB, wC] := by decide +kernel
def rA : List Rg := [⟨1, 1, 2, [47, 97], 5⟩, ⟨1, 4, 3, [47], 5⟩, ⟨2, 4, 3, [47], 5⟩]
theorem rest_is : restF (fC 5 [47, 97]) [] [wA, wB, wC] = [] := by decide +kernel
theorem tell_is : tellF (fC 5 [47, 97]) [] [wA, wB, wC] = rA := by
  have h1 : rightD (fC 5 [47, 97]) [] = true := by decide +kernel
  have h2 : chgs (fC 5 [47, 97]) [] = [(1, [47, 97])] := by decide +kernel
  have h3 : ([wA, wB, wC].filter fun x => !decide (rgK 1 [47, 97] x = 0)) = [wA, wB, wC] := by decide +kernel
  have h4 : sortW [wA, wB, wC] = [wA, wC, wB] := sortW_eq (by decide) (by decide +kernel)
  have h5 : ([wA, wC, wB].map fun x => rgOf (rgK 1 [47, 97] x) 5 x) = rA := by decide +kernel
  unfold tellF
  rw [if_pos h1, h2]
  simp only [toldAll, told1, List.append_nil]
  rw [h3, h4]
  exact h5
theorem again_is : agV 1 7 0 9 0 true [47, 97] = .agg #[.int .u8 3, .int .u8 1, .string (mkS [47, 97]), .int .i64 9] ∧ agB 1 7 0 9 0 true [47, 97] = true ∧ agL 1 1 7 0 9 0 true [47, 97] [] = [] := by
  have h1 : agK 1 7 0 9 0 true [47, 97] = (3, 9) := by decide +kernel
  have h2 : agB 1 7 0 9 0 true [47, 97] = true := by unfold agB; rw [h1]; rfl
  refine ⟨?_, h2, ?_⟩
  · unfold agV; rw [h2, h1]; rfl
  · unfold agL; rw [h2]; rfl
end Go.Proofs.YtkbmbnfpadllmaaDoor.We
