/- The walks of Rename and Append. -/
import Derived.Test.YtndjlnlmlgimlaaDkE
import Derived.Deep.RegionHeld3
namespace Go.Proofs.Ytndjlnlmlgimlaa
open Go.RowKit Go.MapKept

set_option maxRecDepth 100000 in
theorem rename_arg {w : World} {base d m : Nat} {room : Int} {L : List Fv} (h : Dk w base d m room L) (a b : List UInt8) (hn : nameB a = false ∨ nameB b = false) :
    Calls Try.prog 24 #[.pointer (some ⟨d, 0, none⟩), .string (mkS a), .string (mkS b)] w fun e w' => e = .returned (.int .i64 2) ∧ Below w.heap.size w w' := by
  have hc0 := cell_at h.cell 0
  simp at hc0
  go_enter Try.func24, Try.ntmps24
  go_wp2_with fail
  refine (there_any hc0).mono ?_
  rintro e w1 ⟨rfl, rfl⟩
  go_wp2_with fail
  cases hna : nameB a
  · refine (isName_any a false hna _).mono ?_
    rintro e w2 ⟨rfl, rfl⟩
    go_wp2_with fail
    go_ret
    exact ⟨rfl, Below.refl _ _⟩
  · have hnb : nameB b = false := by rcases hn with h | h; rw [hna] at h; cases h; exact h
    refine (isName_any a true hna _).mono ?_
    rintro e w2 ⟨rfl, rfl⟩
    go_wp2_with fail
    refine (isName_any b false hnb _).mono ?_
    rintro e w2 ⟨rfl, rfl⟩
    go_wp2_with fail
    go_ret
    exact ⟨rfl, Below.refl _ _⟩
set_option maxRecDepth 100000 in
theorem rename_none {w : World} {base d m : Nat} {room : Int} {L : List Fv} (h : Dk w base d m room L) (a b : List UInt8) (hna : nameB a = true) (hnb : nameB b = true) (hk : lookF a (L.map Prod.fst) = none) :
    Calls Try.prog 24 #[.pointer (some ⟨d, 0, none⟩), .string (mkS a), .string (mkS b)] w fun e w' => e = .returned (.int .i64 6) ∧ Below w.heap.size w w' := by
  have hc0 := cell_at h.cell 0
  simp at hc0
  go_enter Try.func24, Try.ntmps24
  go_wp2_with fail
  refine (there_any hc0).mono ?_
  rintro e w1 ⟨rfl, rfl⟩
  go_wp2_with fail
  refine (isName_any a true hna _).mono ?_
  rintro e w2 ⟨rfl, rfl⟩
  go_wp2_with fail
  refine (isName_any b true hnb _).mono ?_
  rintro e w2 ⟨rfl, rfl⟩
  go_wp2_with fail
  refine (find_none h a (look_no hk)).mono ?_
  rintro e w3 ⟨rfl, hB⟩
  go_wp2_with fail
  go_ret
  exact ⟨rfl, hB.alloc hB.size _⟩

theorem del_ne : ∀ {L : List Fv} {k : List UInt8}, (L.map fun p => p.1.nm).Nodup → ∀ q ∈ delL k L, q.1.nm ≠ k
  | [], _, _, q, hq => by simp [delL] at hq
  | x :: L, k, hn, q, hq => by
    simp only [List.map_cons, List.nodup_cons] at hn
    unfold delL at hq
    split at hq
    · next hx => exact fun e => hn.1 (List.mem_map.2 ⟨q, hq, by rw [e, hx]⟩)
    · next hx =>
      rcases List.mem_cons.1 hq with rfl | hq
      · exact hx
      · exact del_ne hn.2 q hq
set_option maxRecDepth 100000 in
theorem rename_some {w : World} {base d : Nat} {room : Int} {F : List Fi} {S : Nat → Prop} (hb : base ≤ w.heap.size) (h : Dsk w base d room F S) (a b : List UInt8) (hna : nameB a = true) (hnb : nameB b = true) {f : Fi} (hk : lookF a F = some f) :
    Calls Try.prog 24 #[.pointer (some ⟨d, 0, none⟩), .string (mkS a), .string (mkS b)] w fun e w' => e = .returned (.int .i64 0) ∧ Nxt base d room S w w' (putF ⟨b, f.b, f.sy⟩ (delF a F)) := by
  obtain ⟨m, L, rfl, hD, hx, hS⟩ := h
  obtain ⟨A, C, hlk, ho, hl, hsy, hnm⟩ := hD.at hk
  have HO : Hid (w.ownsRow base 5 1 (.slice A f.b.length C) f.b.length (bv f.b)) := ho
  have HK : Hid (look a L = some (f, .slice A f.b.length C)) := hlk
  have hc0 := cell_at hD.cell 0
  simp at hc0
  clear hk hlk ho
  go_enter Try.func24, Try.ntmps24
  go_wp2_with fail
  refine (there_any hc0).mono ?_
  rintro e w1 ⟨rfl, rfl⟩
  go_wp2_with fail
  refine (isName_any a true hna _).mono ?_
  rintro e w2 ⟨rfl, rfl⟩
  go_wp2_with fail
  refine (isName_any b true hnb _).mono ?_
  rintro e w2 ⟨rfl, rfl⟩
  go_wp2_with fail
  refine (find_some hD a HK.out).mono ?_
  rintro e w3 ⟨rfl, hB⟩
  have hB3 := hB.alloc hB.size (.cells #[.slice A f.b.length C, .int .i64 (f.sy : Int)] 58)
  have hD3 := hD.below hB3
  have hc3 := cell_at hD3.cell 0
  simp at hc3
  have HM : Hid (MapIs (w3.alloc (.cells #[.slice A f.b.length C, .int .i64 (f.sy : Int)] 58)) m L) := hD3.map
  go_wp2_with (first
    | (at_delete; refine wpList_del rfl _ _ rfl a rfl rfl HM.out ?_; intro w4 hm4 hc4 hs4)
    | fail)
  go_frame
  have hD4 := hD3.del a hm4 hc4
  have hc0' := cell_at hD4.cell 0
  have hlb : w4.heap[w3.heap.size]? = some (.cells #[.slice A f.b.length C, .int .i64 (f.sy : Int)] 58 (0, 0)) := by
    have hml := (hD.below hB).map.lt
    rw [hc4.block w3.heap.size (by simp) (by omega)]
    exact heap_alloc_new w3 _
  have hy0 := cell_at hlb 0
  have hy1 := cell_at hlb 1
  simp at hc0' hy0 hy1
  obtain ⟨w5, hrun, hm5, hc5, hs5⟩ := (hD4.keep (Chg.drew Non w4) (fun _ _ => id)).map.update (⟨b, f.b, f.sy⟩, .slice A f.b.length C)
  simp only [valOf] at hrun
  have HN : Hid (Nxt base d room S w2 w5 (putF ⟨b, f.b, f.sy⟩ (delF a (L.map Prod.fst)))) := by
    have hrow4 : w4.ownsRow base 5 1 (.slice A f.b.length C) f.b.length (bv f.b) :=
      owns_keep (owns_keep HO.out (Chg.of_below hB3) (fun _ _ => id)) hc4 (fun k hk e => (hD.row_ne (look_some HK.out).1 hk).2 e)
    have hloc : ∀ k, blk (.slice A f.b.length C) = some k → ∀ q ∈ delL a L, q.1.nm ≠ b → blk q.2 ≠ some k :=
      fun k hk q hq _ => look_ne hD.apart HK.out (del_mem hq) (del_ne hD.map.names q hq) hk
    have hu : ((used (putF ⟨b, f.b, f.sy⟩ ((delL a L).map Prod.fst)) : Nat) : Int) ≤ room := by
      have h1 := used_put ⟨b, f.b, f.sy⟩ (delF a (L.map Prod.fst))
      have h2 := used_del a (L.map Prod.fst)
      have h3 := get_look HK.out
      rw [h3] at h2
      have h4 := hD.usd
      rw [del_F]
      simp only at h1 h2
      omega
    have hput := hD4.put (⟨b, f.b, f.sy⟩, .slice A f.b.length C) (Chg.drew Non w4) (fun _ _ e => e.elim) (owns_keep hrow4 (Chg.drew Non w4) (fun _ _ => id)) (fun k hk => .inl (hloc k hk)) hm5 hc5 ⟨hsy, hl⟩ hu
    refine Nxt.of hb hS ?_ (by rw [put_F, del_F]) hput ?_
    · have c1 : Chg S w2 w4 := ((Chg.of_below hB3).weak (fun _ _ e => e.elim)).trans' hc4 (fun i _ e => hx i (.inr (.inl e)))
      exact (c1.trans (Chg.drew S w4)).trans' hc5 (fun i _ e => hx i (.inr (.inl e)))
    · rintro i (e | e | ⟨q, hq, hi⟩)
      · exact .inl (hx i (.inl e))
      · exact .inl (hx i (.inr (.inl e)))
      · rcases put_mem hq with rfl | hq
        · exact .inl (hx i (.inr (.inr ⟨_, (look_some HK.out).1, hi⟩)))
        · exact .inl (hx i (.inr (.inr ⟨q, del_mem hq, hi⟩)))
  clear hm5 hc5 hs5 hD4 hD3 hc4 hs4 hm4 HM hB3 HO HK hD hlb
  go_region
  all_goals
    go_wp2_with fail
    go_ret
    exact ⟨rfl, HN.out⟩

/- What Append answers, and makes. -/
def appE (room : Int) (F : List Fi) (k l : List UInt8) : Int :=
  if nameB k = false then 2 else if 4194304 < (getF k F).b.length + l.length then 3 else if room < (used F : Int) + (l.length : Int) then 5 else 0
def appF (F : List Fi) (k l : List UInt8) : List Fi := putF ⟨k, (getF k F).b ++ l, (getF k F).sy⟩ F
theorem Dk.get {w : World} {base d m : Nat} {room : Int} {L : List Fv} (h : Dk w base d m room L) (k : List UInt8) : ∃ A C, (look k L).getD zeroFv = (getF k (L.map Prod.fst), .slice A (getF k (L.map Prod.fst)).b.length C) ∧ w.ownsRow base 5 1 (.slice A (getF k (L.map Prod.fst)).b.length C) (getF k (L.map Prod.fst)).b.length (bv (getF k (L.map Prod.fst)).b) ∧ (getF k (L.map Prod.fst)).b.length ≤ 4194304 ∧ (getF k (L.map Prod.fst)).sy ≤ (getF k (L.map Prod.fst)).b.length ∧
    ∀ i, blk (.slice A (getF k (L.map Prod.fst)).b.length C) = some i → ∃ q, look k L = some q ∧ blk q.2 = some i := by
  cases hl : look k L with
  | none =>
    have : getF k (L.map Prod.fst) = ⟨[], [], 0⟩ := by rw [← get_F, hl]; rfl
    rw [this]
    exact ⟨none, 0, rfl, World.ownsRow_nil _ _ _ _, by simp, by simp, fun i hi => by cases hi⟩
  | some p =>
    have e := get_look hl
    obtain ⟨A, C, hv⟩ := h.form p (look_some hl).1
    have ho := h.rows p (look_some hl).1
    have hf := h.fits p (look_some hl).1
    rw [e]
    rw [hv] at ho
    exact ⟨A, C, by rw [← hv]; rfl, ho, hf.2, hf.1, fun i hi => ⟨p, rfl, by rw [hv]; exact hi⟩⟩
set_option maxRecDepth 100000 in
theorem append_arg {w : World} {base d m : Nat} {room : Int} {L : List Fv} (h : Dk w base d m room L) (k : List UInt8) (hn : nameB k = false) (x : Value) :
    Calls Try.prog 18 #[.pointer (some ⟨d, 0, none⟩), .string (mkS k), x] w fun e w' => e = .returned (.int .i64 2) ∧ Below w.heap.size w w' := by
  have hc0 := cell_at h.cell 0
  simp at hc0
  go_enter Try.func18, Try.ntmps18
  go_wp2_with fail
  refine (there_any hc0).mono ?_
  rintro e w1 ⟨rfl, rfl⟩
  go_wp2_with fail
  refine (isName_any k false hn _).mono ?_
  rintro e w2 ⟨rfl, rfl⟩
  go_wp2_with fail
  go_ret
  exact ⟨rfl, Below.refl _ _⟩
set_option maxRecDepth 100000 in
theorem append_long {w : World} {base d m : Nat} {room : Int} {L : List Fv} (h : Dk w base d m room L) (k : List UInt8) (hn : nameB k = true) {X : Option Addr} {n c : Nat} (hl : 4194304 < (getF k (L.map Prod.fst)).b.length + n) :
    Calls Try.prog 18 #[.pointer (some ⟨d, 0, none⟩), .string (mkS k), .slice X n c] w fun e w' => e = .returned (.int .i64 3) ∧ Below w.heap.size w w' := by
  have hc0 := cell_at h.cell 0
  simp at hc0
  obtain ⟨A, C, hg, ho, hle, hsy, hbk⟩ := h.get k
  have hlk := h.map.lookup k false
  rw [hg] at hlk
  simp only [valOf, if_false, Bool.false_eq_true] at hlk
  generalize getF k (L.map Prod.fst) = f at *
  go_enter Try.func18, Try.ntmps18
  go_wp2_with fail
  refine (there_any hc0).mono ?_
  rintro e w1 ⟨rfl, rfl⟩
  go_wp2_with fail
  refine (isName_any k true hn _).mono ?_
  rintro e w2 ⟨rfl, rfl⟩
  have hlt : (4194304 : Int) - (f.b.length : Int) < (n : Int) := by omega
  go_wp2_with fail
  go_ret
  exact ⟨rfl, (Below.refl _ _).alloc (Nat.le_refl _) _⟩
set_option maxRecDepth 100000 in
theorem append_full {w : World} {base d m : Nat} {room : Int} {L : List Fv} (h : Dk w base d m room L) (k : List UInt8) (hn : nameB k = true) {X : Option Addr} {n c : Nat} (hl : ¬ 4194304 < (getF k (L.map Prod.fst)).b.length + n) (hr : room < (used (L.map Prod.fst) : Int) + (n : Int)) :
    Calls Try.prog 18 #[.pointer (some ⟨d, 0, none⟩), .string (mkS k), .slice X n c] w fun e w' => e = .returned (.int .i64 5) ∧ Below w.heap.size w w' := by
  have hc0 := cell_at h.cell 0
  simp at hc0
  obtain ⟨A, C, hg, ho, hle, hsy, hbk⟩ := h.get k
  have hlk := h.map.lookup k false
  rw [hg] at hlk
  simp only [valOf, if_false, Bool.false_eq_true] at hlk
  generalize getF k (L.map Prod.fst) = f at *
  have HD : Hid (Dk (w.alloc (.cells #[.slice A f.b.length C, .int .i64 (f.sy : Int)] 58)).drew base d m room L) := (h.alloc _).keep (Chg.drew Non _) (fun _ _ => id)
  have hcr := cell_at (h.alloc (.cells #[.slice A f.b.length C, .int .i64 (f.sy : Int)] 58)).cell 1
  simp at hcr
  have hrm := h.rm
  have hus := h.usd
  generalize hU : used (L.map Prod.fst) = U at *
  have HU : Hid (used (L.map Prod.fst) = U) := hU
  clear hU ho hbk hg h
  go_enter Try.func18, Try.ntmps18
  go_wp2_with fail
  refine (there_any hc0).mono ?_
  rintro e w1 ⟨rfl, rfl⟩
  go_wp2_with fail
  refine (isName_any k true hn _).mono ?_
  rintro e w2 ⟨rfl, rfl⟩
  have hlt : ¬ ((4194304 : Int) - (f.b.length : Int) < (n : Int)) := by omega
  have hlt2 : room - (U : Int) < (n : Int) := by omega
  have hwr : IntKind.i64.wrap (room - (U : Int)) = room - (U : Int) := Go.IntWalk.i64_in _ (by omega)
  go_wp2_with fail
  go_region_with (go_at_call 31; refine (used_any HD.out).mono ?_; rintro e w4 ⟨rfl, hB4⟩; rw [HU.out]; have hc4 := cell_at (HD.out.below hB4).cell 1; simp at hc4)
  all_goals
    go_wp2_with fail
    go_ret
    refine ⟨rfl, ?_⟩
    exact ((Below.refl _ _).alloc (Nat.le_refl _) _).drew.trans (hB4.mono (by simp))
theorem app_mid {w2 w4 w5 : World} {base d m : Nat} {room : Int} {L : List Fv} {k : List UInt8} {v y : Value} {n : Nat} {xs : List Value} (ho : w2.ownsRow base 5 1 v n xs) (hbk : ∀ i, blk v = some i → ∃ q, look k L = some q ∧ blk q.2 = some i) (h : Dk w2 base d m room L) (hB : Below w2.heap.size w2 w4)
    (hlb : w4.heap[w2.heap.size]? = some (.cells #[v, y] 58 (0, 0))) (hg : w4.grownBy w5 (blk v)) :
    w5.cell? ⟨w2.heap.size, 1, none⟩ = some y ∧ w5.frozen? ⟨w2.heap.size, 0, none⟩ = false ∧ w5.cell? ⟨w2.heap.size, 0, none⟩ = some v ∧ w5.cell? ⟨d, 0, none⟩ = some (.map (some m)) := by
  have h5 : w5.heap[w2.heap.size]? = some (.cells #[v, y] 58 (0, 0)) := by
    rw [hg.block _ (heap_lt hlb) (fun e => by
      obtain ⟨cur, hc, _⟩ := owns_block ho e.symm
      have := heap_lt hc; omega)]
    exact hlb
  have hd : w5.heap[d]? = some (.cells #[.map (some m), .int .i64 room] 45 (0, 0)) := by
    have hd4 := (h.below hB).cell
    rw [hg.block d (heap_lt hd4) (fun e => by
      obtain ⟨q, hq, hqb⟩ := hbk d e.symm
      exact (h.row_ne (look_some hq).1 hqb).1 rfl)]
    exact hd4
  have h0 := cell_at h5 0
  have h1 := cell_at h5 1
  have h2 := cell_at hd 0
  simp at h0 h1 h2
  exact ⟨h1, frozen_at h5 0, h0, h2⟩
theorem app_end {w2 w4 w5 : World} {base d m : Nat} {room : Int} {L : List Fv} {S : Nat → Prop} {k : List UInt8} {f : Fi} {l : List UInt8} {A A5 : Option Addr} {C C5 : Nat} (hb : base ≤ w2.heap.size) (hx : ∀ k, Sx d m L k → S k) (hS : ∀ k, S k → base ≤ k ∧ k < w2.heap.size)
    (ho : w2.ownsRow base 5 1 (.slice A f.b.length C) f.b.length (bv f.b)) (hbk : ∀ i, blk (.slice A f.b.length C) = some i → ∃ q, look k L = some q ∧ blk q.2 = some i) (h : Dk w2 base d m room L) (hB : Below w2.heap.size w2 w4)
    (hlb : w4.heap[w2.heap.size]? = some (.cells #[.slice A f.b.length C, .int .i64 (f.sy : Int)] 58 (0, 0))) (hg : w4.grownBy w5 (blk (.slice A f.b.length C)))
    (ho5 : w5.ownsRow base 5 1 (.slice A5 (f.b.length + l.length) C5) (f.b.length + l.length) (bv (f.b ++ l))) (hl5 : blk (.slice A5 (f.b.length + l.length) C5) = blk (.slice A f.b.length C) ∨ blk (.slice A5 (f.b.length + l.length) C5) = some w4.heap.size)
    (hle : f.b.length + l.length ≤ 4194304) (hsy : f.sy ≤ f.b.length) (hu : (used (putF ⟨k, f.b ++ l, f.sy⟩ (L.map Prod.fst)) : Int) ≤ room) :
    (w5.setCell ⟨w2.heap.size, 0, none⟩ (.slice A5 (f.b.length + l.length) C5)).cell? ⟨d, 0, none⟩ = some (.map (some m)) ∧
    (w5.setCell ⟨w2.heap.size, 0, none⟩ (.slice A5 (f.b.length + l.length) C5)).cell? ⟨w2.heap.size, 0, none⟩ = some (.slice A5 (f.b.length + l.length) C5) ∧
    (w5.setCell ⟨w2.heap.size, 0, none⟩ (.slice A5 (f.b.length + l.length) C5)).cell? ⟨w2.heap.size, 1, none⟩ = some (.int .i64 (f.sy : Int)) ∧
    ∃ w7, (Instr.mapUpdate 43 (.map (some m)) (.string (mkS k)) (.agg #[.slice A5 (f.b.length + l.length) C5, .int .i64 (f.sy : Int)])).run Try.prog (w5.setCell ⟨w2.heap.size, 0, none⟩ (.slice A5 (f.b.length + l.length) C5)).drew = .ok () w7 ∧
      Hid (Nxt base d room S w2 w7 (putF ⟨k, f.b ++ l, f.sy⟩ (L.map Prod.fst))) := by
  have hlt4 := heap_lt hlb
  have h5 : w5.heap[w2.heap.size]? = some (.cells #[.slice A f.b.length C, .int .i64 (f.sy : Int)] 58 (0, 0)) := by
    rw [hg.block _ hlt4 (fun e => by
      obtain ⟨cur, hc, _⟩ := owns_block ho e.symm
      have := heap_lt hc; omega)]
    exact hlb
  have h6 := heap_set h5 0 (.slice A5 (f.b.length + l.length) C5)
  simp at h6
  have y0 := cell_at h6 0
  have y1 := cell_at h6 1
  simp only [List.getElem?_toArray, List.getElem?_cons_zero, List.getElem?_cons_succ] at y0 y1
  have c56 : Chg (fun i => i = w2.heap.size) w5 (w5.setCell ⟨w2.heap.size, 0, none⟩ (.slice A5 (f.b.length + l.length) C5)) := Chg.setCell w5 ⟨w2.heap.size, 0, none⟩ _ rfl
  have c1 : Chg (fun i => blk (.slice A f.b.length C) = some i) w2 (w5.setCell ⟨w2.heap.size, 0, none⟩ (.slice A5 (f.b.length + l.length) C5)).drew := by
    have a1 : Chg (fun i => blk (.slice A f.b.length C) = some i) w2 w4 := (Chg.of_below hB).weak (fun _ _ e => e.elim)
    have a2 := a1.trans (Chg.of_grown hg)
    exact (a2.trans' c56 (fun i hi e => by omega)).trans (Chg.drew _ _)
  have hT : ∀ i, blk (.slice A f.b.length C) = some i → S i ∧ i ≠ d ∧ i ≠ m ∧ ∀ q ∈ L, q.1.nm ≠ k → blk q.2 ≠ some i := by
    intro i hi
    obtain ⟨q, hq, hqb⟩ := hbk i hi
    exact ⟨hx i (.inr (.inr ⟨q, (look_some hq).1, hqb⟩)), (h.row_ne (look_some hq).1 hqb).1, (h.row_ne (look_some hq).1 hqb).2, fun p hp hne => look_ne h.apart hq hp hne hqb⟩
  have hd : (w5.setCell ⟨w2.heap.size, 0, none⟩ (.slice A5 (f.b.length + l.length) C5)).heap[d]? = some (.cells #[.map (some m), .int .i64 room] 45 (0, 0)) := by
    have := c1.block d (heap_lt h.cell) (fun e => (hT d e).2.1 rfl)
    rw [show (w5.setCell ⟨w2.heap.size, 0, none⟩ (.slice A5 (f.b.length + l.length) C5)).heap[d]? = _ from this]
    exact h.cell
  have z0 := cell_at hd 0
  simp only [List.getElem?_toArray, List.getElem?_cons_zero] at z0
  have hM : MapIs (w5.setCell ⟨w2.heap.size, 0, none⟩ (.slice A5 (f.b.length + l.length) C5)).drew m L := h.map.keep c1 (fun e => (hT m e).2.2.1 rfl)
  obtain ⟨w7, hrun, hm7, hc7, hs7⟩ := hM.update (⟨k, f.b ++ l, f.sy⟩, .slice A5 (f.b.length + l.length) C5)
  refine ⟨z0, y0, y1, w7, hrun, nxt_put hb h hx hS (⟨k, f.b ++ l, f.sy⟩, .slice A5 (f.b.length + l.length) C5) c1 (fun i _ e => hT i e) ?_ ?_ hm7 hc7 ⟨by simp; omega, by simp; omega⟩ hu⟩
  · show World.ownsRow _ base 5 1 _ (f.b ++ l).length _
    rw [List.length_append]
    refine owns_keep (owns_keep ho5 c56 ?_) (Chg.drew Non _) (fun _ _ => id)
    intro i hi e
    rcases hl5 with h5 | h5
    · rw [h5] at hi
      obtain ⟨cur, hc, _⟩ := owns_block ho hi
      have := heap_lt hc; omega
    · rw [h5] at hi; cases hi; omega
  · intro i hi
    rcases hl5 with h5 | h5
    · have hi' : blk (.slice A f.b.length C) = some i := by rw [← h5]; exact hi
      exact .inl ⟨(hT i hi').1, (hT i hi').2.2.2⟩
    · have hi' : some w4.heap.size = some i := by rw [← h5]; exact hi
      cases hi'
      exact .inr (by omega)
set_option maxRecDepth 100000 in
theorem append_ok {w : World} {base d : Nat} {room : Int} {F : List Fi} {S : Nat → Prop} (hb : base ≤ w.heap.size) (hdk : Dsk w base d room F S) (k : List UInt8) (hn : nameB k = true) {X : Option Addr} {n c : Nat} {l : List UInt8} (hX : Bs w (.slice X n c) l) (hnl : n = l.length)
    (hl : ¬ 4194304 < (getF k F).b.length + l.length) (hr : ¬ room < (used F : Int) + (l.length : Int)) :
    Calls Try.prog 18 #[.pointer (some ⟨d, 0, none⟩), .string (mkS k), .slice X n c] w fun e w' => e = .returned (.int .i64 0) ∧ Nxt base d room S w w' (appF F k l) := by
  obtain ⟨m, L, rfl, h, hx, hS⟩ := hdk
  have hc0 := cell_at h.cell 0
  simp at hc0
  obtain ⟨A, C, hg, ho, hle, hsy, hbk⟩ := h.get k
  have hlk := h.map.lookup k false
  rw [hg] at hlk
  simp only [valOf, if_false, Bool.false_eq_true] at hlk
  have HF : Hid (appF (L.map Prod.fst) k l = putF ⟨k, (getF k (L.map Prod.fst)).b ++ l, (getF k (L.map Prod.fst)).sy⟩ (L.map Prod.fst)) := rfl
  have HP : Hid (used (putF ⟨k, (getF k (L.map Prod.fst)).b ++ l, (getF k (L.map Prod.fst)).sy⟩ (L.map Prod.fst)) + (getF k (L.map Prod.fst)).b.length = used (L.map Prod.fst) + ((getF k (L.map Prod.fst)).b.length + l.length)) := by
    have := used_put ⟨k, (getF k (L.map Prod.fst)).b ++ l, (getF k (L.map Prod.fst)).sy⟩ (L.map Prod.fst)
    simpa [Hid] using this
  generalize getF k (L.map Prod.fst) = f at *
  have HD : Hid (Dk (w.alloc (.cells #[.slice A f.b.length C, .int .i64 (f.sy : Int)] 58)).drew base d m room L) := (h.alloc _).keep (Chg.drew Non _) (fun _ _ => id)
  have hcr := cell_at (h.alloc (.cells #[.slice A f.b.length C, .int .i64 (f.sy : Int)] 58)).cell 1
  simp at hcr
  have hrm := h.rm
  have hus := h.usd
  generalize hU : used (L.map Prod.fst) = U at *
  have HU : Hid (used (L.map Prod.fst) = U) := hU
  have HO : Hid (w.ownsRow base 5 1 (.slice A f.b.length C) f.b.length (bv f.b)) := ho
  have HBK : Hid (∀ i, blk (.slice A f.b.length C) = some i → ∃ q, look k L = some q ∧ blk q.2 = some i) := hbk
  have HX : Hid (Bs w (.slice X n c) l) := hX
  have HN : Hid (n = l.length) := hnl
  have hlt : ¬ ((4194304 : Int) - (f.b.length : Int) < (n : Int)) := by omega
  have hlt2 : ¬ (room - (U : Int) < (n : Int)) := by omega
  have hwr : IntKind.i64.wrap (room - (U : Int)) = room - (U : Int) := Go.IntWalk.i64_in _ (by omega)
  have HL : Hid (f.b.length + l.length ≤ 4194304) := by unfold Hid; omega
  have HR : Hid ((U : Int) + (l.length : Int) ≤ room) := by unfold Hid; omega
  have HH : Hid (Dk w base d m room L) := h
  clear hU ho hbk hg h hX hnl hr hl
  go_enter Try.func18, Try.ntmps18
  go_wp2_with fail
  refine (there_any hc0).mono ?_
  rintro e w1 ⟨rfl, rfl⟩
  go_wp2_with fail
  refine (isName_any k true hn _).mono ?_
  rintro e w2 ⟨rfl, rfl⟩
  go_wp2_with fail
  go_region_with (go_at_call 31; refine (used_any HD.out).mono ?_; rintro e w4 ⟨rfl, hB4⟩; rw [HU.out]; have hc4 := cell_at (HD.out.below hB4).cell 1; simp at hc4)
  all_goals
    have hB24 : Below w2.heap.size w2 w4 := ((Below.refl _ _).alloc (Nat.le_refl _) _).drew.trans (hB4.mono (by simp))
    have hlb : w4.heap[w2.heap.size]? = some (.cells #[.slice A f.b.length C, .int .i64 (f.sy : Int)] 58 (0, 0)) := by
      rw [hB4.block _ (by simp)]
      exact heap_alloc_new w2 _
    have hy0 := cell_at hlb 0
    have hy1 := cell_at hlb 1
    have hz0 := frozen_at hlb 0
    simp at hy0 hy1
    have HO4 : Hid (w4.ownsRow base 5 1 (.slice A f.b.length C) f.b.length (bv f.b)) := owns_keep HO.out (Chg.of_below hB24) (fun _ _ => id)
    have HX4 : Hid (Bs w4 (.slice X n c) l) := HX.out.keep (Chg.of_below hB24) (fun _ _ => id)
    clear hcr hc4 hlk hc0
    go_wp2_with (first
      | (at_builtin; refine wpList_app rfl (.tmp 38) (.tmp 39) rfl _ _ rfl rfl HO4.out HX4.out (Nat.le_trans hb hB24.size) (by have := HL.out; omega) ?_; intro A5 C5 w5 ho5 hg5 hl5 hn5; obtain ⟨hp0, hp1, hp2, hp3⟩ := app_mid HO.out HBK.out HH.out hB24 hlb hg5; clear hy0 hy1 hz0)
      | fail)
    have hu : ((used (putF ⟨k, f.b ++ l, f.sy⟩ (L.map Prod.fst)) : Nat) : Int) ≤ room := by
      have := HP.out; have := HR.out; omega
    obtain ⟨x0, x1, x2, w7, hrun7, HN7⟩ := app_end hb hx hS HO.out HBK.out HH.out hB24 hlb hg5 ho5 hl5 HL.out hsy hu
    clear hp0 hp1 hp2 hp3 hn5 hl5 hg5 ho5 hlb hB24 hB4
    go_region
    all_goals
      go_wp2_with fail
      go_ret
      exact ⟨rfl, by rw [HF.out]; exact HN7.out⟩
end Go.Proofs.Ytndjlnlmlgimlaa
