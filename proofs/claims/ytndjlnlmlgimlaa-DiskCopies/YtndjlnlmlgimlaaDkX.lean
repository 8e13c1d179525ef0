/- The calls of a disk, whatever they answer: what they tell, which files they leave; T: blocks that are not the disk's own. -/
import Derived.Test.YtndjlnlmlgimlaaDkG
import Derived.Test.YtndjlnlmlgimlaaDkH
import Derived.Test.YtndjlnlmlgimlaaDkI
import Derived.Test.YtndjlnlmlgimlaaDkS
namespace Go.Proofs.Ytndjlnlmlgimlaa
open Go.RowKit Go.MapKept

def Dx (w : World) (d : Nat) (room : Int) (F : List Fi) (T : Nat → Prop) : Prop := ∃ base S, base ≤ w.heap.size ∧ Dsk w base d room F S ∧ (∀ k, T k → ¬ S k) ∧ (∀ k, T k → k < w.heap.size)
/- Nothing of T has turned. -/
abbrev Kp (T : Nat → Prop) (w w' : World) : Prop := Chg (fun k => ¬ T k) w w'
theorem Kp.of_below {T : Nat → Prop} {w w' : World} (h : Below w.heap.size w w') : Kp T w w' := (Chg.of_below h).weak (fun _ _ e => e.elim)
theorem Kp.below {T : Nat → Prop} {w w' : World} {B : Nat} (h : Kp T w w') (hT : ∀ k, k < B → T k) (hB : B ≤ w.heap.size) : Below B w w' :=
  Chg.below (S := fun k => ¬ T k) h (fun k hk => Nat.le_of_not_lt fun hlt => hk (hT k hlt)) hB
theorem Bs.kp {T : Nat → Prop} {w w' : World} {v : Value} {l : List UInt8} (h : Bs w v l) (hc : Kp T w w') (hT : ∀ k, bk v = some k → T k) : Bs w' v l := h.keep hc (fun k hk e => e (hT k hk))
theorem Dx.below {w w' : World} {d : Nat} {room : Int} {F : List Fi} {T : Nat → Prop} (h : Dx w d room F T) (hB : Below w.heap.size w w') : Dx w' d room F T := by
  obtain ⟨base, S, h1, h2, h3, h4⟩ := h
  exact ⟨base, S, Nat.le_trans h1 hB.size, h2.keep (Chg.of_below hB) (fun _ _ => id), h3, fun k hk => Nat.lt_of_lt_of_le (h4 k hk) hB.size⟩
theorem Dx.alloc {w : World} {d : Nat} {room : Int} {F : List Fi} {T : Nat → Prop} (h : Dx w d room F T) (o : Obj) : Dx (w.alloc o) d room F T := h.below ((Below.refl _ _).alloc (Nat.le_refl _) o)
theorem Dx.drew {w : World} {d : Nat} {room : Int} {F : List Fi} {T : Nat → Prop} (h : Dx w d room F T) : Dx w.drew d room F T := h.below (Below.refl _ _).drew
theorem Dx.drewN {w : World} {d : Nat} {room : Int} {F : List Fi} {T : Nat → Prop} (h : Dx w d room F T) (n : Nat) : Dx (w.drewN n) d room F T := h.below (below_drewN (Below.refl _ _) n)
/- What is new may be set apart. -/
theorem Dx.more {w w' : World} {d : Nat} {room : Int} {F : List Fi} {T : Nat → Prop} (h : Dx w d room F T) (hB : Below w.heap.size w w') : Dx w' d room F (fun k => T k ∨ (w.heap.size ≤ k ∧ k < w'.heap.size)) := by
  obtain ⟨base, S, h1, h2, h3, h4⟩ := h
  refine ⟨base, S, Nat.le_trans h1 hB.size, h2.keep (Chg.of_below hB) (fun _ _ => id), fun k hk => ?_, fun k hk => ?_⟩
  · rcases hk with hk | hk
    · exact h3 k hk
    · intro e; have := (h2.bound k e).2; omega
  · rcases hk with hk | hk
    · exact Nat.lt_of_lt_of_le (h4 k hk) hB.size
    · exact hk.2
theorem Dx.fewer {w : World} {d : Nat} {room : Int} {F : List Fi} {T T' : Nat → Prop} (h : Dx w d room F T) (hT : ∀ k, T' k → T k) : Dx w d room F T' := by
  obtain ⟨base, S, h1, h2, h3, h4⟩ := h
  exact ⟨base, S, h1, h2, fun k hk => h3 k (hT k hk), fun k hk => h4 k (hT k hk)⟩
theorem Dx.of_nxt {w w' : World} {base d : Nat} {room : Int} {F : List Fi} {S T : Nat → Prop} (h : Nxt base d room S w w' F) (hb : base ≤ w.heap.size) (hT : ∀ k, T k → ¬ S k) (hl : ∀ k, T k → k < w.heap.size) : Dx w' d room F T ∧ Kp T w w' := by
  obtain ⟨hc, hd⟩ := h
  refine ⟨⟨base, _, Nat.le_trans hb hc.size, hd, fun k hk e => ?_, fun k hk => hc.lt_of (hl k hk)⟩, hc.weak (fun k _ e f => hT k f e)⟩
  rcases e with e | e
  · exact hT k hk e
  · have := hl k hk; omega
/- What a disk is sure of. -/
theorem Dx.facts {w : World} {d : Nat} {room : Int} {F : List Fi} {T : Nat → Prop} (h : Dx w d room F T) : (0 ≤ room ∧ room < 9223372036854775808) ∧ (used F : Int) ≤ room ∧ (∀ f ∈ F, f.sy ≤ f.b.length ∧ f.b.length ≤ 4194304) ∧ (F.map (·.nm)).Nodup := by
  obtain ⟨base, S, h1, ⟨m, L, rfl, hD, _⟩, _⟩ := h
  refine ⟨hD.rm, hD.usd, fun f hf => ?_, by have := hD.map.names; rw [names_eq] at this; exact this⟩
  obtain ⟨p, hp, rfl⟩ := List.mem_map.1 hf
  exact hD.fits p hp
theorem Dx.lt {w : World} {d : Nat} {room : Int} {F : List Fi} {T : Nat → Prop} (h : Dx w d room F T) : ∀ k, T k → k < w.heap.size := by
  obtain ⟨base, S, h1, _, _, h4⟩ := h; exact h4

theorem new_dx (room : Int) (h : -9223372036854775808 ≤ room ∧ room < 9223372036854775808) (w : World) : Calls Try.prog 5 #[.int .i64 room] w fun e w' => ∃ p, e = .returned (.pointer (some ⟨p, 0, none⟩)) ∧ Dx w' p (max room 0) [] (fun k => k < w.heap.size) ∧ Below w.heap.size w w' := by
  refine (new_any room h w).mono ?_
  rintro e w1 ⟨rfl, h1, hB⟩
  exact ⟨_, rfl, ⟨w.heap.size, _, hB.size, h1, fun k hk e => by omega, fun k hk => Nat.lt_of_lt_of_le hk hB.size⟩, hB⟩
def appR (room : Int) (F : List Fi) (k l : List UInt8) : List Fi := if appE room F k l = 0 then appF F k l else F
theorem append_dx {w : World} {d : Nat} {room : Int} {F : List Fi} {T : Nat → Prop} (h : Dx w d room F T) (k : List UInt8) {X : Option Addr} {n c : Nat} {l : List UInt8} (hX : Bs w (.slice X n c) l) (hn : n = l.length) :
    Calls Try.prog 18 #[.pointer (some ⟨d, 0, none⟩), .string (mkS k), .slice X n c] w fun e w' => e = .returned (.int .i64 (appE room F k l)) ∧ Dx w' d room (appR room F k l) T ∧ Kp T w w' := by
  have h0 := h
  obtain ⟨base, S, h1, h2, h3, h4⟩ := h
  by_cases c1 : nameB k = false
  · obtain ⟨m, L, rfl, hD, _⟩ := h2
    refine (append_arg hD k c1 _).mono ?_
    rintro e w' ⟨rfl, hB⟩
    have : appE room (L.map Prod.fst) k l = 2 := by simp [appE, c1]
    rw [appR, this, if_neg (by decide)]
    exact ⟨rfl, h0.below hB, Kp.of_below hB⟩
  have c1' : nameB k = true := by simpa using c1
  by_cases c2 : 4194304 < (getF k F).b.length + l.length
  · obtain ⟨m, L, rfl, hD, _⟩ := h2
    refine (append_long hD k c1' (by rw [hn]; exact c2)).mono ?_
    rintro e w' ⟨rfl, hB⟩
    have : appE room (L.map Prod.fst) k l = 3 := by simp [appE, c1', c2]
    rw [appR, this, if_neg (by decide)]
    exact ⟨rfl, h0.below hB, Kp.of_below hB⟩
  by_cases c3 : room < (used F : Int) + (l.length : Int)
  · obtain ⟨m, L, rfl, hD, _⟩ := h2
    refine (append_full hD k c1' (by rw [hn]; exact c2) (by rw [hn]; exact c3)).mono ?_
    rintro e w' ⟨rfl, hB⟩
    have : appE room (L.map Prod.fst) k l = 5 := by simp [appE, c1', c2, c3]
    rw [appR, this, if_neg (by decide)]
    exact ⟨rfl, h0.below hB, Kp.of_below hB⟩
  · refine (append_ok h1 h2 k c1' hX hn c2 c3).mono ?_
    rintro e w' ⟨rfl, hN⟩
    have : appE room F k l = 0 := by simp [appE, c1', c2, c3]
    rw [appR, this, if_pos rfl]
    exact ⟨rfl, Dx.of_nxt hN h1 h3 h4⟩
def synE (F : List Fi) (k : List UInt8) : Int := if (lookF k F).isSome then 0 else 6
def synR (F : List Fi) (k : List UInt8) : List Fi := match lookF k F with
  | none => F
  | some f => putF ⟨f.nm, f.b, f.b.length⟩ F
theorem sync_dx {w : World} {d : Nat} {room : Int} {F : List Fi} {T : Nat → Prop} (h : Dx w d room F T) (k : List UInt8) :
    Calls Try.prog 20 #[.pointer (some ⟨d, 0, none⟩), .string (mkS k)] w fun e w' => e = .returned (.int .i64 (synE F k)) ∧ Dx w' d room (synR F k) T ∧ Kp T w w' := by
  have h0 := h
  obtain ⟨base, S, h1, h2, h3, h4⟩ := h
  unfold synE synR
  cases hl : lookF k F with
  | none =>
    obtain ⟨m, L, rfl, hD, _⟩ := h2
    refine (sync_none hD hl).mono ?_
    rintro e w' ⟨rfl, hB⟩
    exact ⟨rfl, h0.below hB, Kp.of_below hB⟩
  | some f =>
    refine (sync_some h1 h2 hl).mono ?_
    rintro e w' ⟨rfl, hN⟩
    exact ⟨rfl, Dx.of_nxt hN h1 h3 h4⟩
theorem read_dx {w : World} {d : Nat} {room : Int} {F : List Fi} {T : Nat → Prop} (h : Dx w d room F T) (k : List UInt8) :
    Calls Try.prog 9 #[.pointer (some ⟨d, 0, none⟩), .string (mkS k)] w fun e w' => ∃ A C, e = .returned (.tuple #[.slice A (getF k F).b.length C, .int .i64 (synE F k)]) ∧ w'.ownsRow w.heap.size 5 1 (.slice A (getF k F).b.length C) (getF k F).b.length (bv (getF k F).b) ∧ Below w.heap.size w w' := by
  obtain ⟨base, S, h1, ⟨m, L, rfl, hD, _⟩, h3, h4⟩ := h
  unfold synE getF
  cases hl : lookF k (L.map Prod.fst) with
  | none =>
    refine (read_none hD hl).mono ?_
    rintro e w' ⟨rfl, hB⟩
    exact ⟨none, 0, rfl, World.ownsRow_nil _ _ _ _, hB⟩
  | some f =>
    refine (read_some hD hl).mono ?_
    rintro e w' ⟨A, C, rfl, ho, hB⟩
    exact ⟨A, C, rfl, ho, hB⟩
def cutE (F : List Fi) (k : List UInt8) (n : Int) : Int := if (lookF k F).isSome then (if n < 0 ∨ ((getF k F).b.length : Int) < n then 2 else 0) else 6
def cutR (F : List Fi) (k : List UInt8) (n : Int) : List Fi := match lookF k F with
  | none => F
  | some f => if n < 0 ∨ (f.b.length : Int) < n then F else putF ⟨f.nm, f.b.take n.toNat, n.toNat⟩ F
theorem cut_dx {w : World} {d : Nat} {room : Int} {F : List Fi} {T : Nat → Prop} (h : Dx w d room F T) (k : List UInt8) (n : Int) :
    Calls Try.prog 22 #[.pointer (some ⟨d, 0, none⟩), .string (mkS k), .int .i64 n] w fun e w' => e = .returned (.int .i64 (cutE F k n)) ∧ Dx w' d room (cutR F k n) T ∧ Kp T w w' := by
  have h0 := h
  obtain ⟨base, S, h1, h2, h3, h4⟩ := h
  unfold cutE cutR getF
  cases hl : lookF k F with
  | none =>
    obtain ⟨m, L, rfl, hD, _⟩ := h2
    refine (cut_none hD hl _).mono ?_
    rintro e w' ⟨rfl, hB⟩
    exact ⟨rfl, h0.below hB, Kp.of_below hB⟩
  | some f =>
    by_cases hn : n < 0 ∨ (f.b.length : Int) < n
    · obtain ⟨m, L, rfl, hD, _⟩ := h2
      refine (cut_bad hD hl n hn).mono ?_
      rintro e w' ⟨rfl, hB⟩
      simp only [Option.isSome_some, if_true, Option.getD_some, hn]
      exact ⟨trivial, h0.below hB, Kp.of_below hB⟩
    · have hc := cut_some h1 h2 hl n.toNat (by omega)
      rw [show ((n.toNat : Nat) : Int) = n by omega] at hc
      refine hc.mono ?_
      rintro e w' ⟨rfl, hN⟩
      simp only [Option.isSome_some, if_true, Option.getD_some, hn, if_false]
      exact ⟨trivial, Dx.of_nxt hN h1 h3 h4⟩
def renE (F : List Fi) (a b : List UInt8) : Int := if nameB a = false ∨ nameB b = false then 2 else if (lookF a F).isSome then 0 else 6
def renR (F : List Fi) (a b : List UInt8) : List Fi := if nameB a = false ∨ nameB b = false then F else match lookF a F with
  | none => F
  | some f => putF ⟨b, f.b, f.sy⟩ (delF a F)
theorem rename_dx {w : World} {d : Nat} {room : Int} {F : List Fi} {T : Nat → Prop} (h : Dx w d room F T) (a b : List UInt8) :
    Calls Try.prog 24 #[.pointer (some ⟨d, 0, none⟩), .string (mkS a), .string (mkS b)] w fun e w' => e = .returned (.int .i64 (renE F a b)) ∧ Dx w' d room (renR F a b) T ∧ Kp T w w' := by
  have h0 := h
  obtain ⟨base, S, h1, h2, h3, h4⟩ := h
  unfold renE renR
  by_cases hn : nameB a = false ∨ nameB b = false
  · obtain ⟨m, L, rfl, hD, _⟩ := h2
    refine (rename_arg hD a b hn).mono ?_
    rintro e w' ⟨rfl, hB⟩
    rw [if_pos hn, if_pos hn]
    exact ⟨rfl, h0.below hB, Kp.of_below hB⟩
  rw [if_neg hn, if_neg hn]
  have ha : nameB a = true := by cases h : nameB a <;> simp_all
  have hb : nameB b = true := by cases h : nameB b <;> simp_all
  cases hl : lookF a F with
  | none =>
    obtain ⟨m, L, rfl, hD, _⟩ := h2
    refine (rename_none hD a b ha hb hl).mono ?_
    rintro e w' ⟨rfl, hB⟩
    exact ⟨rfl, h0.below hB, Kp.of_below hB⟩
  | some f =>
    refine (rename_some h1 h2 a b ha hb hl).mono ?_
    rintro e w' ⟨rfl, hN⟩
    exact ⟨rfl, Dx.of_nxt hN h1 h3 h4⟩
theorem del_none : ∀ {F : List Fi} {k : List UInt8}, lookF k F = none → delF k F = F
  | [], _, _ => rfl
  | q :: F, k, h => by
    unfold lookF at h
    split at h
    · cases h
    · next hq => unfold delF; rw [if_neg hq, del_none h]
theorem remove_dx {w : World} {d : Nat} {room : Int} {F : List Fi} {T : Nat → Prop} (h : Dx w d room F T) (k : List UInt8) :
    Calls Try.prog 26 #[.pointer (some ⟨d, 0, none⟩), .string (mkS k)] w fun e w' => e = .returned (.int .i64 (synE F k)) ∧ Dx w' d room (delF k F) T ∧ Kp T w w' := by
  have h0 := h
  obtain ⟨base, S, h1, h2, h3, h4⟩ := h
  unfold synE
  cases hl : lookF k F with
  | none =>
    obtain ⟨m, L, rfl, hD, _⟩ := h2
    refine (remove_none hD hl).mono ?_
    rintro e w' ⟨rfl, hB⟩
    rw [del_none hl]
    exact ⟨rfl, h0.below hB, Kp.of_below hB⟩
  | some f =>
    refine (remove_some h1 h2 hl).mono ?_
    rintro e w' ⟨rfl, hN⟩
    exact ⟨rfl, Dx.of_nxt hN h1 h3 h4⟩
theorem crash_dx {w : World} {d : Nat} {room : Int} {F : List Fi} {T : Nat → Prop} (h : Dx w d room F T) (keep : Int) (hk : -9223372036854775808 ≤ keep ∧ keep < 9223372036854775808) :
    Calls Try.prog 16 #[.pointer (some ⟨d, 0, none⟩), .int .i64 keep] w fun e w' => e = .returned (.tuple #[]) ∧ Dx w' d room (F.map (crash1 keep)) T ∧ Kp T w w' := by
  obtain ⟨base, S, h1, h2, h3, h4⟩ := h
  refine (crash_any h1 h2 keep hk).mono ?_
  rintro e w' ⟨rfl, hN⟩
  exact ⟨rfl, Dx.of_nxt hN h1 h3 h4⟩
theorem used_dx {w : World} {d : Nat} {room : Int} {F : List Fi} {T : Nat → Prop} (h : Dx w d room F T) : Calls Try.prog 31 #[.pointer (some ⟨d, 0, none⟩)] w fun e w' => e = .returned (.int .i64 (used F : Nat)) ∧ Below w.heap.size w w' := by
  obtain ⟨base, S, h1, ⟨m, L, rfl, hD, _⟩, _⟩ := h; exact used_any hD
theorem list_dx {w : World} {d : Nat} {room : Int} {F : List Fi} {T : Nat → Prop} (h : Dx w d room F T) (hl : F.length ≤ 1000000) : Calls Try.prog 30 #[.pointer (some ⟨d, 0, none⟩)] w fun e w' => ∃ A C, e = .returned (.slice A F.length C) ∧ w'.ownsRow w.heap.size 9 1 (.slice A F.length C) F.length ((sortN (F.map (·.nm))).map fun x => Value.string (mkS x)) ∧ Below w.heap.size w w' := by
  obtain ⟨base, S, h1, ⟨m, L, rfl, hD, _⟩, _⟩ := h
  have := list_any hD (by simpa using hl)
  rw [names_eq] at this
  refine this.mono ?_
  rintro e w' ⟨A, C, rfl, ho, hB⟩
  refine ⟨A, C, by simp, ?_, hB⟩
  rw [List.length_map]
  exact ho
theorem copy_dx {w : World} {d : Nat} {room : Int} {F : List Fi} {T : Nat → Prop} (h : Dx w d room F T) : Calls Try.prog 14 #[.pointer (some ⟨d, 0, none⟩)] w fun e w' => ∃ d' F', e = .returned (.pointer (some ⟨d', 0, none⟩)) ∧ F'.Perm F ∧ Dx w' d' room F' (fun k => k < w.heap.size) ∧ Below w.heap.size w w' := by
  obtain ⟨base, S, h1, ⟨m, L, rfl, hD, _⟩, _⟩ := h
  refine (copy_any h1 hD).mono ?_
  rintro e w' ⟨d', F', rfl, hp, hd, hB⟩
  exact ⟨d', F', rfl, hp, ⟨w.heap.size, _, hB.size, hd, fun k hk e => by omega, fun k hk => Nat.lt_of_lt_of_le hk hB.size⟩, hB⟩
end Go.Proofs.Ytndjlnlmlgimlaa
