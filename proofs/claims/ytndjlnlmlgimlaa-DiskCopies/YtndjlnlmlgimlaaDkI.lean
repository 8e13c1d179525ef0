/- The walk of Copy. -/
import Derived.Test.YtndjlnlmlgimlaaDkF
import Derived.Deep.RegionHeld3
namespace Go.Proofs.Ytndjlnlmlgimlaa
open Go.RowKit Go.MapKept

/- The files of names. -/
def filesOf (F : List Fi) (l : List (List UInt8)) : List Fi := l.filterMap fun k => lookF k F
theorem filesOf_app (F : List Fi) (a b : List (List UInt8)) : filesOf F (a ++ b) = filesOf F a ++ filesOf F b := by simp [filesOf]
theorem filesOf_cons (F : List Fi) (k : List UInt8) (l : List (List UInt8)) : filesOf F (k :: l) = (lookF k F).toList ++ filesOf F l := by
  unfold filesOf
  rw [List.filterMap_cons]
  cases lookF k F <;> rfl
theorem filesOf_skip (q : Fi) (F : List Fi) : ∀ (l : List (List UInt8)), (∀ k ∈ l, k ≠ q.nm) → filesOf (q :: F) l = filesOf F l
  | [], _ => rfl
  | k :: l, h => by
    have h1 : ¬ q.nm = k := fun e => h k (.head _) e.symm
    rw [filesOf_cons, filesOf_cons, filesOf_skip q F l (fun k hk => h k (.tail _ hk))]
    simp [lookF, h1]
theorem filesOf_all : ∀ (F : List Fi), (F.map (·.nm)).Nodup → filesOf F (F.map (·.nm)) = F
  | [], _ => rfl
  | q :: F, h => by
    simp only [List.map_cons, List.nodup_cons] at h
    rw [List.map_cons, filesOf_cons, filesOf_skip q F _ (fun k hk e => h.1 (by rw [← e]; exact hk)), filesOf_all F h.2]
    simp [lookF]
theorem look_none_of : ∀ {F : List Fi} {k : List UInt8}, k ∉ F.map (·.nm) → lookF k F = none
  | [], _, _ => rfl
  | q :: F, k, h => by
    simp only [List.map_cons, List.mem_cons, not_or] at h
    unfold lookF
    rw [if_neg (fun e => h.1 e.symm)]
    exact look_none_of h.2
theorem put_new : ∀ {F : List Fi} {f : Fi}, f.nm ∉ F.map (·.nm) → putF f F = F ++ [f]
  | [], _, _ => rfl
  | q :: F, f, h => by
    simp only [List.map_cons, List.mem_cons, not_or] at h
    unfold putF
    rw [if_neg (fun e => h.1 e.symm), put_new h.2]; rfl
theorem used_perm : ∀ {F G : List Fi}, F.Perm G → used F = used G := by
  intro F G h
  induction h with
  | nil => rfl
  | cons x _ ih => simp [used, ih]
  | swap x y l => simp [used]; omega
  | trans _ _ h1 h2 => rw [h1, h2]

theorem clone_row {w : World} {base : Nat} {A : Option Addr} {C : Nat} {l : List UInt8} (h : w.ownsRow base 5 1 (.slice A l.length C) l.length (bv l)) (hl : l.length ≤ 4194304) :
    Calls Try.prog 34 #[.slice A l.length C] w fun e w' => ∃ A' C', e = .returned (.slice A' l.length C') ∧ w'.ownsRow w.heap.size 5 1 (.slice A' l.length C') l.length (bv l) ∧ Below w.heap.size w w' := by
  obtain ⟨_, ⟨rfl, rfl, rfl⟩ | ⟨g, rfl, hC, hb⟩⟩ := owns_some h
  · refine (clone_nil w).mono ?_
    rintro e w' ⟨rfl, rfl⟩
    exact ⟨none, 0, rfl, World.ownsRow_nil _ _ _ _, Below.refl _ _⟩
  · exact clone_some hb (by omega)
theorem copy_round {w1 w5 w6 : World} {d' m m2 r : Nat} {room : Int} {L Lc : List Fv} {l1 l2 : List (List UInt8)} {f : Fi} {A A6 : Option Addr} {C C6 : Nat} {base : Nat} (hO : Dk w1 base d' m room L) {e : Nat} (hperm : (Lc.map Prod.fst ++ filesOf (L.map Prod.fst) (l1 ++ f.nm :: l2)).Perm (L.map Prod.fst))
    (hrg : Ranges w5 m r L (l1 ++ l2)) (hmr : m2 ≠ r) (hml : m < w1.heap.size) (hD : Dk w5 w1.heap.size e m2 room Lc) (hB : Below w1.heap.size w1 w5) (hlk : look f.nm L = some (f, .slice A f.b.length C))
    (hB6 : Below w5.heap.size w5 w6) (ho6 : w6.ownsRow w5.heap.size 5 1 (.slice A6 f.b.length C6) f.b.length (bv f.b)) :
    w6.cell? ⟨e, 0, none⟩ = some (.map (some m2)) ∧ ∃ w7, (Instr.mapUpdate 43 (.map (some m2)) (.string (mkS f.nm)) (.agg #[.slice A6 f.b.length C6, .int .i64 (f.sy : Int)])).run Try.prog w6 = .ok () w7 ∧ Hid (Chg (fun k => k = m2) w6 w7) ∧
      Hid (∃ Ln : List Fv, (Ln.map Prod.fst ++ filesOf (L.map Prod.fst) (l1 ++ l2)).Perm (L.map Prod.fst) ∧ Ranges w7 m r L (l1 ++ l2) ∧ Dk w7 w1.heap.size e m2 room Ln ∧ Below w1.heap.size w1 w7) := by
  have hD6 := hD.below hB6
  have hc := cell_at hD6.cell 0
  simp at hc
  have hlf : lookF f.nm (L.map Prod.fst) = some f := by rw [← look_F, hlk]; rfl
  have hnN := hO.map.names
  rw [names_eq] at hnN
  have hfit := hO.fits _ (look_some hlk).1
  simp only at hfit
  rw [filesOf_app, filesOf_cons, hlf] at hperm
  have hperm2 : ((Lc.map Prod.fst ++ [f]) ++ filesOf (L.map Prod.fst) (l1 ++ l2)).Perm (L.map Prod.fst) := by
    refine List.Perm.trans ?_ hperm
    rw [List.append_assoc, filesOf_app]
    refine List.Perm.append_left _ ?_
    exact (List.perm_middle (a := f) (l₁ := filesOf (L.map Prod.fst) l1) (l₂ := filesOf (L.map Prod.fst) l2)).symm
  have hnew : f.nm ∉ (Lc.map Prod.fst).map (·.nm) := by
    have h1 := (hperm2.map (·.nm)).symm.nodup hnN
    simp only [List.map_append, List.append_assoc] at h1
    intro hmem
    have h2 := (List.nodup_append.1 h1).2.2 f.nm hmem f.nm (by simp)
    exact h2 rfl
  obtain ⟨w7, hrun, hm7, hc7, hs7⟩ := hD6.map.update (f, .slice A6 f.b.length C6)
  have hput : (putL (f, .slice A6 f.b.length C6) Lc).map Prod.fst = Lc.map Prod.fst ++ [f] := by rw [put_F]; exact put_new hnew
  have hB61 : Below w1.heap.size w1 w6 := hB.trans (hB6.mono hB.size)
  have hm2 := hD.low.2
  refine ⟨hc, w7, hrun, hc7, putL (f, .slice A6 f.b.length C6) Lc, by rw [hput]; exact hperm2, ?_, ?_, ?_⟩
  · exact (hrg.keep (Chg.of_below hB6) id id).keep hc7 (by omega) (fun e => hmr e.symm)
  · refine hD.put (f, .slice A6 f.b.length C6) (Chg.of_below hB6) (fun _ _ e => e.elim) (owns_low ho6 hB.size) (fun i hi => ?_) hm7 hc7 hfit ?_
    · obtain ⟨_, _, hle⟩ := owns_block ho6 hi
      exact .inr hle
    · show ((used (putF f (Lc.map Prod.fst)) : Nat) : Int) ≤ room
      rw [put_new hnew]
      have h1 := used_perm hperm2
      have h2 : ∀ (a b : List Fi), used (a ++ b) = used a + used b := by
        intro a b
        induction a with
        | nil => simp [used]
        | cons x a ih => simp [used, ih]; omega
      rw [h2] at h1
      have h3 := hO.usd
      omega
  · exact hB61.trans (hc7.below (fun k e => by omega) hB61.size)
set_option maxRecDepth 100000 in
theorem copy_any {w : World} {base d m : Nat} {room : Int} {L : List Fv} (hb : base ≤ w.heap.size) (h : Dk w base d m room L) :
    Calls Try.prog 14 #[.pointer (some ⟨d, 0, none⟩)] w fun e w' => ∃ d' F', e = .returned (.pointer (some ⟨d', 0, none⟩)) ∧ F'.Perm (L.map Prod.fst) ∧ Dsk w' w.heap.size d' room F' (fun k => w.heap.size ≤ k ∧ k < w'.heap.size) ∧ Below w.heap.size w w' := by
  have hc0 := cell_at h.cell 0
  have hc1 := cell_at h.cell 1
  simp at hc0 hc1
  have hrm := h.rm
  go_enter Try.func14, Try.ntmps14
  go_wp2_with fail
  refine (there_any hc0).mono ?_
  rintro e w1 ⟨rfl, rfl⟩
  go_wp2_with fail
  refine (new_any room (by omega) _).mono ?_
  rintro e w2 ⟨rfl, hn2, hB2⟩
  rw [show max room 0 = room by omega] at hn2
  obtain ⟨m2, L2, hL2, hD2, hx2, hS2⟩ := hn2
  have hnil : L2 = [] := List.map_eq_nil_iff.1 hL2
  subst hnil
  have hDo := h.below hB2
  have hc2 := cell_at hDo.cell 0
  simp at hc2
  have hm := hDo.map
  clear hc0 hc1 hL2
  go_wp2_with (first
    | (at_range; refine wpList_rng rfl _ rfl rfl hm ?_; intro w3 hr3 hc3 hs3)
    | fail)
  go_frame
  have HR : Hid (Ranges w3 m w2.heap.size L (L.map fun p => p.1.nm)) := hr3
  have HB3 : Hid (Below w1.heap.size w1 w3) := hB2.trans (hc3.below (fun _ e => e.elim) hB2.size)
  have HO : Hid (Dk w1 base d m room L) := h
  have HD3 : Hid (Dk w3 w1.heap.size (w1.heap.size + 1) m2 room []) := hD2.keep hc3 (fun _ _ => id)
  have HZ : Hid (w1.heap.size ≤ w2.heap.size) := hB2.size
  clear hr3 hc3 hs3 hm h hDo hD2 hx2 hS2 hc2
  go_loopw [19] (fun _ wr => ∃ (left : List (List UInt8)) (Lc : List Fv), (Lc.map Prod.fst ++ filesOf (L.map Prod.fst) left).Perm (L.map Prod.fst) ∧ Ranges wr m w2.heap.size L left ∧ Dk wr w1.heap.size (w1.heap.size + 1) m2 room Lc ∧ Below w1.heap.size w1 wr) (fun _ wr => wr.rangeLeft m w2.heap.size)
  case atStart =>
    refine ⟨_, [], ?_, HR.out, HD3.out, HB3.out⟩
    have := HO.out.map.names
    rw [names_eq] at this ⊢
    rw [filesOf_all _ this]
    exact List.Perm.refl _
  case round =>
    obtain ⟨left, Lc, hperm, hrg, hDc, hB⟩ := hrel
    go_wp2_with (first
      | (at_next; refine wpList_nxt rfl _ rfl rfl hrg HO.out.form ?_ ?_)
      | fail)
    · intro hl0
      subst hl0
      go_wp2_with fail
      go_ret
      refine ⟨_, Lc.map Prod.fst, rfl, by simpa [filesOf] using hperm, ⟨m2, Lc, rfl, hDc, fun k hk => ?_, fun k hk => hk⟩, hB⟩
      exact hDc.lt k hk
    · intro l1 l2 f A C w4 hl hlk hrg4 hc4 hs4 hen
      have hnr : ¬ Sx (w1.heap.size + 1) m2 Lc w2.heap.size := by
        obtain ⟨es, cl, si, se, c0, _, _, _, h4, _⟩ := hrg
        exact hDc.other h4 (fun _ _ e => by cases e) (fun _ _ e => by cases e) (fun _ _ e => by cases e)
      have hD4 := hDc.keep hc4 (fun k hk e => hnr (e ▸ hk))
      obtain ⟨w5, hw5⟩ : ∃ X, X = (w4.alloc (.cells #[.slice A f.b.length C, .int .i64 (f.sy : Int)] 58)).drew := ⟨_, rfl⟩
      have hD5 : Dk w5 w1.heap.size (w1.heap.size + 1) m2 room Lc := by rw [hw5]; exact (hD4.alloc _).keep (Chg.drew Non _) (fun _ _ => id)
      have hrg5 : Ranges w5 m w2.heap.size L (l1 ++ l2) := by rw [hw5]; exact (hrg4.alloc _).keep (Chg.drew Non _) id id
      have hB5 : Below w1.heap.size w1 w5 := by
        rw [hw5]
        exact ((hB.trans (hc4.below (fun k e => by have := HZ.out; omega) hB.size)).alloc (by rw [hs4]; exact hB.size) _).drew
      have hfo := (HO.out.below hB5).rows _ (look_some hlk).1
      have hfit := HO.out.fits _ (look_some hlk).1
      have HCL : Hid (∀ {w6 : World} {A6 : Option Addr} {C6 : Nat}, Below w5.heap.size w5 w6 → w6.ownsRow w5.heap.size 5 1 (.slice A6 f.b.length C6) f.b.length (bv f.b) → _) :=
        fun hB6 ho6 => copy_round HO.out (by rw [← hl]; exact hperm) hrg5 (fun e => hnr (e ▸ .inr (.inl rfl))) HO.out.map.lt hD5 hB5 hlk hB6 ho6
      have hcall := clone_row hfo hfit.2
      have HW : Hid (w5 = (w4.alloc (.cells #[.slice A f.b.length C, .int .i64 (f.sy : Int)] 58)).drew) := hw5
      have HM6 : Hid (∀ {w6 : World}, Below w5.heap.size w5 w6 → w1.heap.size + 1 < w6.heap.size ∧ w1.heap.size + 1 ≠ m2 ∧ w4.heap.size < w6.heap.size ∧ w4.heap.size ≠ m2) := by
        intro w6 hB6
        have h1 := hB6.size
        have h2 := heap_lt hD5.cell
        have h3 := hD4.map.lt
        have h4 : w5.heap.size = w4.heap.size + 1 := by rw [hw5]; simp
        exact ⟨by omega, hD5.ne, by omega, by omega⟩
      have hcd := cell_at (hD4.alloc (.cells #[.slice A f.b.length C, .int .i64 (f.sy : Int)] 58)).cell 0
      simp at hcd
      have HLL : Hid (left.length = (l1 ++ l2).length + 1) := by rw [hl]; simp; unfold Hid; omega
      have HRG : Hid (Ranges wr m w2.heap.size L left) := hrg
      rw [hw5] at hcall
      clear hw5 hD5 hrg5 hB5 hD4 hrg4 hc4 hs4 hlk hl hperm hrg hDc hfo hfit hnr
      have hq0 : (w4.alloc (.cells #[.slice A f.b.length C, .int .i64 (f.sy : Int)] 58)).cell? ⟨w4.heap.size, 0, none⟩ = some (.slice A f.b.length C) := by simp
      have hq1 : (w4.alloc (.cells #[.slice A f.b.length C, .int .i64 (f.sy : Int)] 58)).cell? ⟨w4.heap.size, 1, none⟩ = some (.int .i64 (f.sy : Int)) := by simp
      go_wp2_with fail
      go_region_held3 (fun w' => w'.cell? ⟨w1.heap.size + 1, 0, none⟩ = some (.map (some m2)) ∧ w'.cell? ⟨w4.heap.size, 0, none⟩ = some (.slice A f.b.length C) ∧ w'.cell? ⟨w4.heap.size, 1, none⟩ = some (.int .i64 (f.sy : Int)))
        (first | exact ⟨hcd, hq0, hq1⟩ | exact ⟨hc6, hk50, hk51⟩ | exact ⟨hk60, hk61, hk62⟩ | go_keep)
        ((go_at_call 34; refine hcall.mono ?_; rintro e w6 ⟨A6, C6, rfl, ho6, hB6⟩; have hk50 := (hB6.cell (p := ⟨w4.heap.size, 0, none⟩) (by simp)).trans hq0; have hk51 := (hB6.cell (p := ⟨w4.heap.size, 1, none⟩) (by simp)).trans hq1; rw [← HW.out] at ho6 hB6; obtain ⟨hc6, w7, hrun7, HC7, HN7⟩ := HCL.out hB6 ho6; have hk60 := (HC7.out.cell (a := ⟨w1.heap.size + 1, 0, none⟩) (HM6.out hB6).1 (HM6.out hB6).2.1).trans hc6; have hk61 := (HC7.out.cell (a := ⟨w4.heap.size, 0, none⟩) (HM6.out hB6).2.2.1 (HM6.out hB6).2.2.2).trans hk50; have hk62 := (HC7.out.cell (a := ⟨w4.heap.size, 1, none⟩) (HM6.out hB6).2.2.1 (HM6.out hB6).2.2.2).trans hk51))
      go_wp2_with fail
      go_roundw
      case rel =>
        obtain ⟨Ln, g1, g2, g3, g4⟩ := HN7.out
        exact ⟨_, Ln, g1, g2, g3, g4⟩
      case measure =>
        obtain ⟨Ln, g1, g2, g3, g4⟩ := HN7.out
        rw [HRG.out.left_eq, g2.left_eq, HLL.out]; omega
end Go.Proofs.Ytndjlnlmlgimlaa
