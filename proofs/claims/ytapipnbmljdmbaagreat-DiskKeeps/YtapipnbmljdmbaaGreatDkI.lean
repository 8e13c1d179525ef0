/- The walk of Copy. -/
import Derived.Test.YtapipnbmljdmbaaGreatDkF
import Derived.Deep.RegionHeld3
namespace Go.Proofs.YtapipnbmljdmbaaGreat
open Go.RowKit Go.MapKept

/- The files of names. -/
def filesOf (F : List Fi) (l : List (List UInt8)) : List Fi := l.filterMap fun k => lookF k F
theorem filesOf_app (F : List Fi) (a b : List (List UInt8)) : filesOf F (a ++ b) = filesOf F a ++ filesOf F b := by simp [filesOf]
theorem filesOf_cons (F : List Fi) (k : List UInt8) (l : List (List UInt8)) : filesOf F (k :: l) = (lookF k F).toList ++ filesOf F l := by
  unfold filesOf
  rw [List.filterMap_cons]
  cases lookF k F <;> rfl
theorem filesOf_skip (q : Fi) (F : List Fi) : ∀ (l : List (List UInt8)), (∀ k ∈ l, k ≠ q.nm) → filesOf (q :: F) l = filesOf F l
  | [], _ => rfl
  | k :: l, h => by
    have h1 : ¬ q.nm = k := fun e => h k (.head _) e.symm
    rw [filesOf_cons, filesOf_cons, filesOf_skip q F l (fun k hk => h k (.tail _ hk))]
    simp [lookF, h1]
theorem filesOf_all : ∀ (F : List Fi), (F.map (·.nm)).Nodup → filesOf F (F.map (·.nm)) = F
  | [], _ => rfl
  | q :: F, h => by
    simp only [List.map_cons, List.nodup_cons] at h
    rw [List.map_cons, filesOf_cons, filesOf_skip q F _ (fun k hk e => h.1 (by rw [← e]; exact hk)), filesOf_all F h.2]
    simp [lookF]
theorem look_none_of : ∀ {F : List Fi} {k : List UInt8}, k ∉ F.map (·.nm) → lookF k F = none
  | [], _, _ => rfl
  | q :: F, k, h => by
    simp only [List.map_cons, List.mem_cons, not_or] at h
    unfold lookF
    rw [if_neg (fun e => h.1 e.symm)]
    exact look_none_of h.2
theorem put_new : ∀ {F : List Fi} {f : Fi}, f.nm ∉ F.map (·.nm) → putF f F = F ++ [f]
  | [], _, _ => rfl
  | q :: F, f, h => by
    simp only [List.map_cons, List.mem_cons, not_or] at h
    unfold putF
    rw [if_neg (fun e => h.1 e.symm), put_new h.2]; rfl
theorem used_perm : ∀ {F G : List Fi}, F.Perm G → used F = used G := by
  intro F G h
  induction h with
  | nil => rfl
  | cons x _ ih => simp [used, ih]
  | swap x y l => simp [used]; omega
  | trans _ _ h1 h2 => rw [h1, h2]

theorem clone_row {w : World} {base : Nat} {A : Option Addr} {C : Nat} {l : List UInt8} (h : w.ownsRow base 5 1 (.slice A l.length C) l.length (bv l)) (hl : l.length ≤ 4194304) :
    Calls Tryz.prog 25 #[.slice A l.length C] w fun e w' => ∃ A' C', e = .returned (.slice A' l.length C') ∧ w'.ownsRow w.heap.size 5 1 (.slice A' l.length C') l.length (bv l) ∧ Below w.heap.size w w' := by
  obtain ⟨_, ⟨rfl, rfl, rfl⟩ | ⟨g, rfl, hC, hb⟩⟩ := owns_some h
  · refine (clone_nil w).mono ?_
    rintro e w' ⟨rfl, rfl⟩
    exact ⟨none, 0, rfl, World.ownsRow_nil _ _ _ _, Below.refl _ _⟩
  · exact clone_some hb (by omega)
theorem copy_round {w1 w5 w6 : World} {d' m m2 r : Nat} {room : Int} {L Lc : List Fv} {l1 l2 : List (List UInt8)} {f : Fi} {A A6 : Option Addr} {C C6 : Nat} {base : Nat} (hO : Dk w1 base d' m room L) {e : Nat} (hperm : (Lc.map Prod.fst ++ filesOf (L.map Prod.fst) (l1 ++ f.nm :: l2)).Perm (L.map Prod.fst))
    (hrg : Ranges w5 m r L (l1 ++ l2)) (hmr : m2 ≠ r) (hml : m < w1.heap.size) (hD : Dk w5 w1.heap.size e m2 room Lc) (hB : Below w1.heap.size w1 w5) (hlk : look f.nm L = some (f, .slice A f.b.length C))
    (hB6 : Below w5.heap.size w5 w6) (ho6 : w6.ownsRow w5.heap.size 5 1 (.slice A6 f.b.length C6) f.b.length (bv f.b)) :
    w6.cell? ⟨e, 0, none⟩ = some (.map (some m2)) ∧ ∃ w7, (Instr.mapUpdate 43 (.map (some m2)) (.string (mkS f.nm)) (.agg #[.slice A6 f.b.length C6, .int .i64 (f.sy : Int)])).run Tryz.prog w6 = .ok () w7 ∧ Hid (Chg (fun k => k = m2) w6 w7) ∧
      Hid (∃ Ln : List Fv, (Ln.map Prod.fst ++ filesOf (L.map Prod.fst) (l1 ++ l2)).Perm (L.map Prod.fst) ∧ Ranges w7 m r L (l1 ++ l2) ∧ Dk w7 w1.heap.size e m2 room Ln ∧ Below w1.heap.size w1 w7) := by
  have hD6 := hD.below hB6
  have hc := cell_at hD6.cell 0
  simp at hc
  have hlf : lookF f.nm (L.map Prod.fst) = some f := by rw [← look_F, hlk]; rfl
  have hnN := hO.map.names
  rw [names_eq] at hnN
  have hfit := hO.fits _ (look_some hlk).1
  simp only at hfit
  rw [filesOf_app, filesOf_cons, hlf] at hperm
  have hperm2 : ((Lc.map Prod.fst ++ [f]) ++ filesOf (L.map Prod.fst) (l1 ++ l2)).Perm (L.map Prod.fst) := by
    refine List.Perm.trans ?_ hperm
    rw [List.append_assoc, filesOf_app]
    refine List.Perm.append_left _ ?_
    exact (List.perm_middle (a := f) (l₁ := filesOf (L.map Prod.fst) l1) (l₂ := filesOf (L.map Prod.fst) l2)).symm
  have hnew : f.nm ∉ (Lc.map Prod.fst).map (·.nm) := by
    have h1 := (hperm2.map (·.nm)).symm.nodup hnN
    simp only [List.map_append, List.append_assoc] at h1
    intro hmem
    have h2 := (List.nodup_append.1 h1).2.2 f.nm hmem f.nm (by simp)
    exact h2 rfl
  obtain ⟨w7, hrun, hm7, hc7, hs7⟩ := hD6.map.update (f, .slice A6 f.b.length C6)
  have hput : (putL (f, .slice A6 f.b.length C6) Lc).map Prod.fst = Lc.map Prod.fst ++ [f] := by rw [put_F]; exact put_new hnew
  have hB61 : Below w1.heap.size w1 w6 := hB.trans (hB6.mono hB.size)
  have hm2 := hD.low.2
  refine ⟨hc, w7, hrun, hc7, putL (f, .slice A6 f.b.length C6) Lc, by rw [hput]; exact hperm2, ?_, ?_, ?_⟩
  · exact (hrg.keep (Chg.of_below hB6) id id).keep hc7 (by omega) (fun e => hmr e.symm)
  · refine hD.put (f, .slice A6 f.b.length C6) (Chg.of_below hB6) (fun _ _ e => e.elim) (owns_low ho6 hB.size) (fun i hi => ?_) hm7 hc7 hfit ?_
    · obtain ⟨_, _, hle⟩ := owns_block ho6 hi
      exact .inr hle
    · show ((used (putF f (Lc.map Prod.fst)) : Nat) : Int) ≤ room
      rw [put_new hnew]
      have h1 := used_perm hperm2
      have h2 : ∀ (a b : List Fi), used (a ++ b) = used a + used b := by
        intro a b
        induction a with
        | nil => simp [used]
        | cons x a ih => simp [used, ih]; omega
      rw [h2] at h1
      have h3 := hO.usd
      omega
  · exact hB61.trans (hc7.below (fun k e => by omega) hB61.size)
end Go.Proofs.YtapipnbmljdmbaaGreat
