/- The mathematics of DiskCrashes: files fa, fb and so on. -/
import Derived.Test.YtniopcfjekpnjaaDkP
namespace Go.Proofs.Ytniopcfjekpnjaa
open Go.RowKit Go.MapKept

def nmI (i : Nat) : List UInt8 := [102, UInt8.ofNat (97 + i)]
theorem nmI_name : ∀ i, i < 20 → nameB (nmI i) = true := by decide +kernel
theorem nmI_sorted : ((List.range 20).map nmI).Pairwise (fun x y => decide (x ≤ y) = true ∧ x ≠ y) := by decide +kernel
theorem names_sorted {n : Nat} (h : n ≤ 20) : ((List.range n).map nmI).Pairwise (fun x y => decide (x ≤ y) = true ∧ x ≠ y) := by
  have hs : ((List.range n).map nmI).Sublist ((List.range 20).map nmI) := by
    refine List.Sublist.map _ ?_
    have : List.range n = (List.range 20).take n := by rw [List.take_range]; congr 1; omega
    rw [this]; exact List.take_sublist _ _
  exact nmI_sorted.sublist hs
theorem names_sort {n : Nat} (h : n ≤ 20) : sortN ((List.range n).map nmI) = (List.range n).map nmI := by
  unfold sortN
  exact List.mergeSort_of_pairwise ((names_sorted h).imp fun h => h.1)
theorem nmI_inj {n i j : Nat} (h : n ≤ 20) (hi : i < n) (hj : j < n) (e : nmI i = nmI j) : i = j := by
  have : ∀ i j : Fin 20, nmI i = nmI j → i = j := by decide +kernel
  have := this ⟨i, by omega⟩ ⟨j, by omega⟩ e
  simpa using this
/- The files behind k rounds; behind j more. -/
def fAt (R M : List (List UInt8)) (j i : Nat) : Fi := ⟨nmI i, R.getD i [] ++ (if i < j then M.getD i [] else []), (R.getD i []).length⟩
def FA (R M : List (List UInt8)) (j k : Nat) : List Fi := (List.range k).map (fAt R M j)
theorem FA_names (R M : List (List UInt8)) (j k : Nat) : (FA R M j k).map (·.nm) = (List.range k).map nmI := by
  unfold FA; rw [List.map_map]; rfl
theorem FA_nodup (R M : List (List UInt8)) (j : Nat) {k : Nat} (h : k ≤ 20) : ((FA R M j k).map (·.nm)).Nodup := by
  rw [FA_names]; exact (names_sorted h).imp fun h => h.2
theorem FA_look (R M : List (List UInt8)) (j : Nat) {k i : Nat} (h : k ≤ 20) (hi : i < k) : lookF (nmI i) (FA R M j k) = some (fAt R M j i) :=
  lookF_of (FA_nodup R M j h) (List.mem_map.2 ⟨i, List.mem_range.2 hi, rfl⟩)
theorem FA_none (R M : List (List UInt8)) (j : Nat) {k i : Nat} (h : i < 20) (hi : k ≤ i) : lookF (nmI i) (FA R M j k) = none := by
  apply look_none_of
  rw [FA_names]
  intro hm
  obtain ⟨x, hx, e⟩ := List.mem_map.1 hm
  have hx := List.mem_range.1 hx
  have := nmI_inj (n := 20) (Nat.le_refl _) (i := x) (j := i) (by omega) h e
  omega
theorem used_app : ∀ (a b : List Fi), used (a ++ b) = used a + used b
  | [], b => by simp [used]
  | x :: a, b => by simp [used, used_app a b]; omega
theorem FA_succ (R M : List (List UInt8)) (j k : Nat) : FA R M j (k + 1) = FA R M j k ++ [fAt R M j k] := by
  unfold FA; rw [List.range_succ, List.map_append]; rfl
theorem FA_used (R M : List (List UInt8)) (j : Nat) : ∀ k, (∀ i, i < k → (R.getD i []).length ≤ 2000 ∧ (i < j → (M.getD i []).length ≤ 2000)) → used (FA R M j k) ≤ 4000 * k
  | 0, _ => by simp [FA, used]
  | k + 1, h => by
    have ih := FA_used R M j k (fun i hi => h i (by omega))
    rw [FA_succ, used_app]
    have h1 := h k (by omega)
    have : (fAt R M j k).b.length ≤ 4000 := by
      simp only [fAt, List.length_append]
      split
      · have := h1.2 (by assumption); omega
      · simp only [List.length_nil]; omega
    simp only [used]; omega
theorem putF_map {n i : Nat} (h : n ≤ 20) (hi : i < n) (g : Nat → Fi) (hg : ∀ x, (g x).nm = nmI x) (p : Fi) (hp : p.nm = nmI i) : putF p ((List.range n).map g) = (List.range n).map (fun x => if x = i then p else g x) := by
  have key : ∀ (l : List Nat), l.Nodup → i ∈ l → (∀ x ∈ l, x < n) → putF p (l.map g) = l.map (fun x => if x = i then p else g x) := by
    intro l
    induction l with
    | nil => intro _ hm; cases hm
    | cons a l ih =>
      intro hn hm hx
      simp only [List.nodup_cons] at hn
      simp only [List.map_cons]
      unfold putF
      by_cases ha : a = i
      · subst ha
        rw [if_pos (by rw [hg, hp]), if_pos rfl]
        congr 1
        apply List.map_congr_left
        intro x hxl
        rw [if_neg (show ¬ x = a from fun e => hn.1 (e ▸ hxl))]
      · have hne : ¬ (g a).nm = p.nm := by
          rw [hg, hp]
          exact fun e => ha (nmI_inj h (hx a (.head _)) hi e)
        rw [if_neg hne, if_neg ha]
        have him : i ∈ l := by
          rcases List.mem_cons.1 hm with e | e
          · exact absurd e.symm ha
          · exact e
        rw [ih hn.2 him (fun x hxl => hx x (.tail _ hxl))]
  exact key (List.range n) List.nodup_range (List.mem_range.2 hi) (fun x hx => List.mem_range.1 hx)
/- One row more: put and synced. -/
theorem FA_put (R M : List (List UInt8)) {k : Nat} (h : k < 20) (hl : ∀ i, i < k + 1 → (R.getD i []).length ≤ 2000) :
    appE 1073741824 (FA R M 0 k) (nmI k) (R.getD k []) = 0 ∧ synE (appR 1073741824 (FA R M 0 k) (nmI k) (R.getD k [])) (nmI k) = 0 ∧ synR (appR 1073741824 (FA R M 0 k) (nmI k) (R.getD k [])) (nmI k) = FA R M 0 (k + 1) := by
  have hno := FA_none R M 0 h (Nat.le_refl k)
  have hg : getF (nmI k) (FA R M 0 k) = ⟨[], [], 0⟩ := by rw [getF, hno]; rfl
  have hu := FA_used R M 0 k (fun i hi => ⟨hl i (by omega), fun h => by omega⟩)
  have hk := hl k (by omega)
  obtain ⟨a, b⟩ := appE_ok (room := 1073741824) (F := FA R M 0 k) (k := nmI k) (l := R.getD k []) (nmI_name k h) (by rw [hg]; simp only [List.length_nil]; omega) (by omega)
  have hnm : nmI k ∉ (FA R M 0 k).map (·.nm) := by
    intro hm
    obtain ⟨f, hf, e⟩ := List.mem_map.1 hm
    have := lookF_of (FA_nodup R M 0 (by omega)) hf
    rw [e, hno] at this; cases this
  have hF : appR 1073741824 (FA R M 0 k) (nmI k) (R.getD k []) = FA R M 0 k ++ [⟨nmI k, R.getD k [], 0⟩] := by
    rw [b, appF, hg, put_new (by exact hnm)]; rfl
  have hlk : ∀ (F : List Fi), lookF (nmI k) F = none → lookF (nmI k) (F ++ [⟨nmI k, R.getD k [], 0⟩]) = some ⟨nmI k, R.getD k [], 0⟩ ∧ putF ⟨nmI k, R.getD k [], (R.getD k []).length⟩ (F ++ [⟨nmI k, R.getD k [], 0⟩]) = F ++ [⟨nmI k, R.getD k [], (R.getD k []).length⟩] := by
    intro F
    induction F with
    | nil => intro _; simp [lookF, putF]
    | cons q F ih =>
      intro hq
      unfold lookF at hq
      split at hq
      · cases hq
      · next hne =>
        obtain ⟨i1, i2⟩ := ih hq
        constructor
        · simp only [List.cons_append, lookF, if_neg hne]; exact i1
        · simp only [List.cons_append, putF, if_neg hne]; rw [i2]
  obtain ⟨l1, l2⟩ := hlk _ hno
  refine ⟨a, by rw [hF, synE, l1]; rfl, ?_⟩
  rw [hF, synR, l1]
  simp only
  rw [l2, FA_succ]
  congr 1
  simp [fAt]
/- More bytes to one file. -/
theorem FA_more (R M : List (List UInt8)) {n j : Nat} (h : n ≤ 20) (hj : j < n) (hl : ∀ i, i < n → (R.getD i []).length ≤ 2000) (hm : ∀ i, i < j + 1 → (M.getD i []).length ≤ 2000) :
    appE 1073741824 (FA R M j n) (nmI j) (M.getD j []) = 0 ∧ appR 1073741824 (FA R M j n) (nmI j) (M.getD j []) = FA R M (j + 1) n := by
  have hlk := FA_look R M j h hj
  have hg : getF (nmI j) (FA R M j n) = ⟨nmI j, R.getD j [], (R.getD j []).length⟩ := by
    rw [getF, hlk]; simp [fAt]
  have hu := FA_used R M j n (fun i hi => ⟨hl i hi, fun h => hm i (by omega)⟩)
  have h1 := hl j hj
  have h2 := hm j (by omega)
  obtain ⟨a, b⟩ := appE_ok (room := 1073741824) (F := FA R M j n) (k := nmI j) (l := M.getD j []) (nmI_name j (by omega)) (by rw [hg]; simp only; omega) (by omega)
  refine ⟨a, ?_⟩
  rw [b, appF, hg]
  unfold FA
  rw [putF_map h hj (fAt R M j) (fun x => rfl) _ rfl]
  apply List.map_congr_left
  intro x hx
  by_cases e : x = j
  · subst e
    simp [fAt]
  · rw [if_neg e]
    unfold fAt
    have : (x < j) ↔ (x < j + 1) := by omega
    simp only [this]
/- Behind the crash. -/
def gAt (R M : List (List UInt8)) (keep : Int) (i : Nat) : List UInt8 := R.getD i [] ++ (M.getD i []).take (min (max keep 0).toNat (M.getD i []).length)
def FC (R M : List (List UInt8)) (keep : Int) (n : Nat) : List Fi := (List.range n).map fun i => ⟨nmI i, gAt R M keep i, (gAt R M keep i).length⟩
theorem FA_crash (R M : List (List UInt8)) (keep : Int) (n j : Nat) (hj : ∀ i, i < n → i < j ∨ M.getD i [] = []) : (FA R M j n).map (crash1 keep) = FC R M keep n := by
  unfold FA FC
  rw [List.map_map]
  apply List.map_congr_left
  intro i hi
  have hi := List.mem_range.1 hi
  have hb : (R.getD i [] ++ (if i < j then M.getD i [] else [])) = R.getD i [] ++ M.getD i [] := by
    rcases hj i hi with h | h
    · rw [if_pos h]
    · rw [h]; simp
  simp only [Function.comp_apply, fAt, hb, crash1, keepN, gAt]
  have e1 : (R.getD i [] ++ M.getD i []).length - (R.getD i []).length = (M.getD i []).length := by simp
  rw [e1]
  have e2 : (R.getD i [] ++ M.getD i []).take ((R.getD i []).length + min (max keep 0).toNat (M.getD i []).length) = R.getD i [] ++ (M.getD i []).take (min (max keep 0).toNat (M.getD i []).length) := by
    rw [List.take_append, List.take_of_length_le (by omega)]
    congr 1
    congr 1
    omega
  rw [e2]
  congr 1
  simp
theorem FC_crash (R M : List (List UInt8)) (keep again : Int) (n : Nat) : (FC R M keep n).map (crash1 again) = FC R M keep n := by
  have : ∀ f ∈ FC R M keep n, crash1 again f = f := by
    intro f hf
    obtain ⟨i, _, rfl⟩ := List.mem_map.1 hf
    exact crash_synced again _ rfl
  exact (List.map_congr_left this).trans (List.map_id _)
theorem FC_names (R M : List (List UInt8)) (keep : Int) (n : Nat) : (FC R M keep n).map (·.nm) = (List.range n).map nmI := by
  unfold FC; rw [List.map_map]; rfl
theorem FC_look (R M : List (List UInt8)) (keep : Int) {k i : Nat} (h : k ≤ 20) (hi : i < k) : lookF (nmI i) (FC R M keep k) = some ⟨nmI i, gAt R M keep i, (gAt R M keep i).length⟩ := by
  have hn : ((FC R M keep k).map (·.nm)).Nodup := by rw [FC_names]; exact (names_sorted h).imp fun h => h.2
  exact lookF_of (f := ⟨nmI i, gAt R M keep i, (gAt R M keep i).length⟩) hn (List.mem_map.2 ⟨i, List.mem_range.2 hi, rfl⟩)
theorem FC_succ (R M : List (List UInt8)) (keep : Int) (k : Nat) : used (FC R M keep (k + 1)) = used (FC R M keep k) + (gAt R M keep k).length := by
  unfold FC; rw [List.range_succ, List.map_append, used_app]; simp [used]
theorem gAt_le (R M : List (List UInt8)) (keep : Int) (i : Nat) (h : (R.getD i []).length ≤ 2000) (hm : (M.getD i []).length ≤ 2000) : (gAt R M keep i).length ≤ 4000 := by
  simp only [gAt, List.length_append, List.length_take]; omega
theorem FC_used (R M : List (List UInt8)) (keep : Int) : ∀ k, (∀ i, i < k → (R.getD i []).length ≤ 2000 ∧ (M.getD i []).length ≤ 2000) → used (FC R M keep k) ≤ 4000 * k
  | 0, _ => by simp [FC, used]
  | k + 1, h => by
    have ih := FC_used R M keep k (fun i hi => h i (by omega))
    rw [FC_succ]
    have := gAt_le R M keep k (h k (by omega)).1 (h k (by omega)).2
    omega
end Go.Proofs.Ytniopcfjekpnjaa
