/- Plain mathematics of a config's bytes; no program in this text. -/
import Derived.Test.YtbcfeeahlhoggaaDoorNums
import Derived.Test.YtbcfeeahlhoggaaDoorCfg
namespace Go.Proofs.YtbcfeeahlhoggaaDoor

def memB (m : Mem) : List UInt8 := numB m.id ++ (numB m.role ++ (numB m.weight ++ numB m.group))
def memsB : List Mem → List UInt8
  | [] => []
  | m :: l => memB m ++ memsB l
def cfgB (ver : Int) (l : List Mem) : List UInt8 := numB ver ++ (numB l.length ++ memsB l)

/- As the program reads it. -/
def rdMem (r : Rd) : Mem × Rd :=
  (⟨(rdCount r 7).1, (rdCount (rdCount r 7).2 2).1, (rdCount (rdCount (rdCount r 7).2 2).2 1000).1, (rdCount (rdCount (rdCount (rdCount r 7).2 2).2 1000).2 6).1⟩,
    (rdCount (rdCount (rdCount (rdCount r 7).2 2).2 1000).2 6).2)
def rdMems : Nat → Rd → List Mem × Rd
  | 0, r => ([], r)
  | n + 1, r => ((rdMem r).1 :: (rdMems n (rdMem r).2).1, (rdMems n (rdMem r).2).2)
def cfgOf (b : List UInt8) : Option (Int × List Mem) :=
  let r1 := rdInt (some b)
  let r2 := rdCount r1.2 7
  let r3 := rdMems r2.1.toNat r2.2
  if r3.2 = some [] ∧ chk r1.1 r3.1 = 0 then some (r1.1, r3.1) else none
/- As the document reads it. -/
def rdSmall (r : Rd) (most : Int) : Int × Rd := (if (rdInt r).1 < 0 ∨ most < (rdInt r).1 then most + 1 else (rdInt r).1, (rdInt r).2)
def rfMem (r : Rd) : Mem × Rd :=
  (⟨(rdSmall r 7).1, (rdSmall (rdSmall r 7).2 2).1, (rdSmall (rdSmall (rdSmall r 7).2 2).2 1000).1, (rdSmall (rdSmall (rdSmall (rdSmall r 7).2 2).2 1000).2 7).1⟩,
    (rdSmall (rdSmall (rdSmall (rdSmall r 7).2 2).2 1000).2 7).2)
def rfMems : Nat → Rd → List Mem × Rd
  | 0, r => ([], r)
  | n + 1, r => ((rfMem r).1 :: (rfMems n (rfMem r).2).1, (rfMems n (rfMem r).2).2)
def cfgRf (b : List UInt8) : Option (Int × List Mem) :=
  let r1 := rdInt (some b)
  let r2 := rdCount r1.2 7
  let r3 := rfMems r2.1.toNat r2.2
  if r3.2 = some [] ∧ chk r1.1 r3.1 = 0 then some (r1.1, r3.1) else none

theorem rdInt_none : rdInt none = (0, none) := rfl
theorem rdInt_inv {r : Rd} {n : Int} {t : List UInt8} (h : rdInt r = (n, some t)) : r = some (numB n ++ t) ∧ -9223372036854775808 ≤ n ∧ n < 9223372036854775808 := by
  cases r with
  | none => rw [rdInt_none] at h; cases h
  | some l =>
    unfold rdInt at h
    dsimp only at h
    cases hd : dec 0 l with
    | none => rw [hd] at h; cases h
    | some p =>
      obtain ⟨u, s⟩ := p
      rw [hd] at h
      simp only [Prod.mk.injEq, Option.some.injEq] at h
      obtain ⟨rfl, rfl⟩ := h
      obtain ⟨d1, _, d3, _⟩ := dec_some l 0 u s (by omega) hd
      rw [cap_vals.1] at d1
      refine ⟨?_, unzz_range u d1⟩
      unfold numB
      rw [zz_unzz, ← d3, List.take_append_drop]
theorem rdCount_none (m : Int) : rdCount none m = (0, none) := by
  unfold rdCount
  rw [rdInt_none]
  split <;> rfl
theorem rdCount_inv {r : Rd} {n m : Int} {t : List UInt8} (h : rdCount r m = (n, some t)) : r = some (numB n ++ t) ∧ 0 ≤ n ∧ n ≤ m := by
  unfold rdCount at h
  split at h
  · cases h
  · next hn =>
    obtain ⟨h1, _⟩ := rdInt_inv h
    rw [h] at hn
    exact ⟨h1, by omega, by omega⟩
theorem rdCount_num (n m : Int) (h0 : 0 ≤ n) (h1 : n ≤ m) (h2 : n < 9223372036854775808) (t : List UInt8) : rdCount (some (numB n ++ t)) m = (n, some t) := by
  unfold rdCount
  rw [rdInt_num n (by omega) h2, if_neg (by simp; omega)]
theorem pair_some {α : Type} {p : α × Rd} {t : List UInt8} (h : p.2 = some t) : p = (p.1, some t) := by rw [← h]
theorem rdSmall_none (m : Int) : (rdSmall none m).2 = none := rfl
theorem rdMem_none : (rdMem none).2 = none := by
  unfold rdMem
  simp only [rdCount_none]
theorem rdMem_inv {r : Rd} {t : List UInt8} (h : (rdMem r).2 = some t) : r = some (memB (rdMem r).1 ++ t) := by
  have h4 : (rdCount (rdCount (rdCount (rdCount r 7).2 2).2 1000).2 6).2 = some t := h
  obtain ⟨e4, _⟩ := rdCount_inv (pair_some h4)
  obtain ⟨e3, _⟩ := rdCount_inv (pair_some e4)
  obtain ⟨e2, _⟩ := rdCount_inv (pair_some e3)
  obtain ⟨e1, _⟩ := rdCount_inv (pair_some e2)
  show r = some (memB (rdMem r).1 ++ t)
  rw [e1]
  congr 1
  rw [← e1]
  unfold memB rdMem
  simp only [List.append_assoc]
theorem rdMems_none : ∀ n, (rdMems n none).2 = none
  | 0 => rfl
  | n + 1 => by rw [rdMems, rdMem_none]; exact rdMems_none n
theorem rdMems_inv : ∀ (n : Nat) {r : Rd} {t : List UInt8}, (rdMems n r).2 = some t → r = some (memsB (rdMems n r).1 ++ t) ∧ (rdMems n r).1.length = n
  | 0, r, t, h => ⟨h, rfl⟩
  | n + 1, r, t, h => by
    have h1 : (rdMems n (rdMem r).2).2 = some t := h
    obtain ⟨e1, e2⟩ := rdMems_inv n h1
    have e3 := rdMem_inv e1
    refine ⟨?_, ?_⟩
    · rw [rdMems]
      show r = some (memB (rdMem r).1 ++ memsB (rdMems n (rdMem r).2).1 ++ t)
      rw [List.append_assoc]; exact e3
    · show ((rdMem r).1 :: (rdMems n (rdMem r).2).1).length = n + 1
      rw [List.length_cons, e2]
theorem rfMem_inv {r : Rd} {t : List UInt8} (h : (rfMem r).2 = some t) (hf : fitRole (rfMem r).1 = true) (hi : (rfMem r).1.id ≤ 7) : r = some (memB (rfMem r).1 ++ t) := by
  have hs : ∀ (r : Rd) (m : Int) (t : List UInt8), (rdSmall r m).2 = some t → (rdSmall r m).1 ≤ m → r = some (numB (rdSmall r m).1 ++ t) := by
    intro r m t h hm
    have h1 : (rdInt r).2 = some t := h
    obtain ⟨e, _⟩ := rdInt_inv (pair_some h1)
    have : (rdSmall r m).1 = (rdInt r).1 := by
      unfold rdSmall at hm ⊢
      dsimp only at hm ⊢
      split
      · next hh => rw [if_pos hh] at hm; omega
      · rfl
    rw [this]; exact e
  have hr := fitRole_weight hf
  have h4 : (rdSmall (rdSmall (rdSmall (rdSmall r 7).2 2).2 1000).2 7).2 = some t := h
  have g4 : (rdSmall (rdSmall (rdSmall (rdSmall r 7).2 2).2 1000).2 7).1 < 7 := hr.2.2.2.1
  have g3 : (rdSmall (rdSmall (rdSmall r 7).2 2).2 1000).1 ≤ 1000 := hr.2.1
  have g2 : (rdSmall (rdSmall r 7).2 2).1 ≤ 2 := by
    have : (rfMem r).1.role = 1 ∨ (rfMem r).1.role = 2 := hr.2.2.2.2.2
    have e : (rfMem r).1.role = (rdSmall (rdSmall r 7).2 2).1 := rfl
    omega
  have g1 : (rdSmall r 7).1 ≤ 7 := hi
  have e4 := hs _ _ _ h4 (by omega)
  have e3 := hs _ _ _ e4 g3
  have e2 := hs _ _ _ e3 g2
  have e1 := hs _ _ _ e2 g1
  rw [e1]
  congr 1
  rw [← e1]
  unfold memB rfMem
  simp only [List.append_assoc]
theorem rfMems_inv : ∀ (n : Nat) {r : Rd} {t : List UInt8}, (rfMems n r).2 = some t → (∀ m ∈ (rfMems n r).1, fitRole m = true ∧ m.id ≤ 7) → r = some (memsB (rfMems n r).1 ++ t) ∧ (rfMems n r).1.length = n
  | 0, r, t, h, _ => ⟨h, rfl⟩
  | n + 1, r, t, h, hf => by
    have h1 : (rfMems n (rfMem r).2).2 = some t := h
    have hf' : ∀ m ∈ (rfMem r).1 :: (rfMems n (rfMem r).2).1, fitRole m = true ∧ m.id ≤ 7 := hf
    obtain ⟨e1, e2⟩ := rfMems_inv n h1 (fun m hm => hf' m (List.mem_cons_of_mem _ hm))
    have e3 := rfMem_inv e1 (hf' _ List.mem_cons_self).1 (hf' _ List.mem_cons_self).2
    refine ⟨?_, ?_⟩
    · rw [rfMems]
      show r = some (memB (rfMem r).1 ++ memsB (rfMems n (rfMem r).2).1 ++ t)
      rw [List.append_assoc]; exact e3
    · show ((rfMem r).1 :: (rfMems n (rfMem r).2).1).length = n + 1
      rw [List.length_cons, e2]
theorem rdMem_put (m : Mem) (hf : fitRole m = true) (h0 : 0 < m.id) (h7 : m.id ≤ 7) (t : List UInt8) : rdMem (some (memB m ++ t)) = (m, some t) := by
  have hr := fitRole_weight hf
  have hrole : 0 ≤ m.role ∧ m.role ≤ 2 := by rcases hr.2.2.2.2.2 with h | h <;> omega
  have e1 : rdCount (some (memB m ++ t)) 7 = (m.id, some (numB m.role ++ (numB m.weight ++ numB m.group) ++ t)) := by
    unfold memB
    rw [List.append_assoc]
    exact rdCount_num _ _ (by omega) h7 (by omega) _
  have e2 : rdCount (some (numB m.role ++ (numB m.weight ++ numB m.group) ++ t)) 2 = (m.role, some (numB m.weight ++ numB m.group ++ t)) := by
    rw [List.append_assoc]
    exact rdCount_num _ _ hrole.1 hrole.2 (by omega) _
  have e3 : rdCount (some (numB m.weight ++ numB m.group ++ t)) 1000 = (m.weight, some (numB m.group ++ t)) := by
    rw [List.append_assoc]
    exact rdCount_num _ _ hr.1 hr.2.1 (by omega) _
  have e4 : rdCount (some (numB m.group ++ t)) 6 = (m.group, some t) := rdCount_num _ _ hr.2.2.1 (by omega) (by omega) _
  unfold rdMem
  simp only [e1, e2, e3, e4]
theorem rfMem_put (m : Mem) (hf : fitRole m = true) (h0 : 0 < m.id) (h7 : m.id ≤ 7) (t : List UInt8) : rfMem (some (memB m ++ t)) = (m, some t) := by
  have hr := fitRole_weight hf
  have hrole : 0 ≤ m.role ∧ m.role ≤ 2 := by rcases hr.2.2.2.2.2 with h | h <;> omega
  have hs : ∀ (n m : Int) (t : List UInt8), 0 ≤ n → n ≤ m → n < 9223372036854775808 → rdSmall (some (numB n ++ t)) m = (n, some t) := by
    intro n m t h0 h1 h2
    unfold rdSmall
    rw [rdInt_num n (by omega) h2]
    dsimp only
    rw [if_neg (by omega)]
  have e1 : rdSmall (some (memB m ++ t)) 7 = (m.id, some (numB m.role ++ (numB m.weight ++ numB m.group) ++ t)) := by
    unfold memB
    rw [List.append_assoc]
    exact hs _ _ _ (by omega) h7 (by omega)
  have e2 : rdSmall (some (numB m.role ++ (numB m.weight ++ numB m.group) ++ t)) 2 = (m.role, some (numB m.weight ++ numB m.group ++ t)) := by
    rw [List.append_assoc]
    exact hs _ _ _ hrole.1 hrole.2 (by omega)
  have e3 : rdSmall (some (numB m.weight ++ numB m.group ++ t)) 1000 = (m.weight, some (numB m.group ++ t)) := by
    rw [List.append_assoc]
    exact hs _ _ _ hr.1 hr.2.1 (by omega)
  have e4 : rdSmall (some (numB m.group ++ t)) 7 = (m.group, some t) := hs _ _ _ hr.2.2.1 (by omega) (by omega)
  unfold rfMem
  simp only [e1, e2, e3, e4]
theorem rdMems_put : ∀ (l : List Mem), (∀ m ∈ l, fitRole m = true ∧ 0 < m.id ∧ m.id ≤ 7) → ∀ t, rdMems l.length (some (memsB l ++ t)) = (l, some t)
  | [], _, t => rfl
  | m :: l, h, t => by
    have h1 := h m List.mem_cons_self
    rw [List.length_cons, rdMems, memsB, List.append_assoc, rdMem_put m h1.1 h1.2.1 h1.2.2]
    dsimp only
    rw [rdMems_put l (fun x hx => h x (List.mem_cons_of_mem _ hx)) t]
theorem rfMems_put : ∀ (l : List Mem), (∀ m ∈ l, fitRole m = true ∧ 0 < m.id ∧ m.id ≤ 7) → ∀ t, rfMems l.length (some (memsB l ++ t)) = (l, some t)
  | [], _, t => rfl
  | m :: l, h, t => by
    have h1 := h m List.mem_cons_self
    rw [List.length_cons, rfMems, memsB, List.append_assoc, rfMem_put m h1.1 h1.2.1 h1.2.2]
    dsimp only
    rw [rfMems_put l (fun x hx => h x (List.mem_cons_of_mem _ hx)) t]
/- A config is read of just its bytes. -/
theorem cfgOf_iff (b : List UInt8) (ver : Int) (l : List Mem) : cfgOf b = some (ver, l) ↔ b = cfgB ver l ∧ chk ver l = 0 := by
  constructor
  · intro h
    unfold cfgOf at h
    dsimp only at h
    split at h
    · next hh =>
      simp only [Option.some.injEq, Prod.mk.injEq] at h
      obtain ⟨e1, e2⟩ := rdMems_inv _ hh.1
      obtain ⟨e3, h0, h7⟩ := rdCount_inv (pair_some e1)
      obtain ⟨e4, _⟩ := rdInt_inv (pair_some e3)
      have hl : (rdCount (rdInt (some b)).2 7).1 = (((rdMems (rdCount (rdInt (some b)).2 7).1.toNat (rdCount (rdInt (some b)).2 7).2).1.length : Nat) : Int) := by rw [e2]; omega
      obtain ⟨rfl, rfl⟩ := h
      refine ⟨?_, hh.2⟩
      have e5 := Option.some.inj e4
      rw [List.append_nil] at e5
      unfold cfgB
      rw [← hl]
      exact e5
    · cases h
  · rintro ⟨rfl, hc⟩
    obtain ⟨h7, h0, hv, hf, _⟩ := chk_ok hc
    have e1 : rdInt (some (cfgB ver l)) = (ver, some (numB l.length ++ memsB l)) := rdInt_num ver (by omega) (by omega) _
    have e2 : rdCount (some (numB l.length ++ memsB l)) 7 = ((l.length : Int), some (memsB l)) := rdCount_num _ _ (by omega) (by omega) (by omega) _
    have e3 := rdMems_put l (fun m hm => ⟨(fitAll_mem hf m hm).1, (fitAll_mem hf m hm).2⟩) []
    rw [List.append_nil] at e3
    unfold cfgOf
    simp only [e1, e2, Int.toNat_natCast, e3, hc, and_self, if_true]
theorem cfgRf_iff (b : List UInt8) (ver : Int) (l : List Mem) : cfgRf b = some (ver, l) ↔ b = cfgB ver l ∧ chk ver l = 0 := by
  constructor
  · intro h
    unfold cfgRf at h
    dsimp only at h
    split at h
    · next hh =>
      simp only [Option.some.injEq, Prod.mk.injEq] at h
      obtain ⟨_, _, _, hf, _⟩ := chk_ok hh.2
      obtain ⟨e1, e2⟩ := rfMems_inv _ hh.1 (fun m hm => ⟨(fitAll_mem hf m hm).1, (fitAll_mem hf m hm).2.2⟩)
      obtain ⟨e3, h0, h7⟩ := rdCount_inv (pair_some e1)
      obtain ⟨e4, _⟩ := rdInt_inv (pair_some e3)
      have hl : (rdCount (rdInt (some b)).2 7).1 = (((rfMems (rdCount (rdInt (some b)).2 7).1.toNat (rdCount (rdInt (some b)).2 7).2).1.length : Nat) : Int) := by rw [e2]; omega
      obtain ⟨rfl, rfl⟩ := h
      refine ⟨?_, hh.2⟩
      have e5 := Option.some.inj e4
      rw [List.append_nil] at e5
      unfold cfgB
      rw [← hl]
      exact e5
    · cases h
  · rintro ⟨rfl, hc⟩
    obtain ⟨h7, h0, hv, hf, _⟩ := chk_ok hc
    have e1 : rdInt (some (cfgB ver l)) = (ver, some (numB l.length ++ memsB l)) := rdInt_num ver (by omega) (by omega) _
    have e2 : rdCount (some (numB l.length ++ memsB l)) 7 = ((l.length : Int), some (memsB l)) := rdCount_num _ _ (by omega) (by omega) (by omega) _
    have e3 := rfMems_put l (fun m hm => ⟨(fitAll_mem hf m hm).1, (fitAll_mem hf m hm).2⟩) []
    rw [List.append_nil] at e3
    unfold cfgRf
    simp only [e1, e2, Int.toNat_natCast, e3, hc, and_self, if_true]
theorem cfg_same (b : List UInt8) : cfgOf b = cfgRf b := by
  cases h : cfgOf b with
  | some p =>
    obtain ⟨ver, l⟩ := p
    exact ((cfgRf_iff b ver l).2 ((cfgOf_iff b ver l).1 h)).symm
  | none =>
    cases h2 : cfgRf b with
    | none => rfl
    | some p =>
      obtain ⟨ver, l⟩ := p
      rw [(cfgOf_iff b ver l).2 ((cfgRf_iff b ver l).1 h2)] at h
      cases h
end Go.Proofs.YtbcfeeahlhoggaaDoor
