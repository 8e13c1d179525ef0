/- The document's disk and the program's, beside one another. -/
import Derived.Test.YtndjlnlmlgimlaaDfH
import Derived.Test.YtndjlnlmlgimlaaDfI
import Derived.Test.YtndjlnlmlgimlaaDfJ
import Derived.Test.YtndjlnlmlgimlaaDfK
namespace Go.Proofs.Ytndjlnlmlgimlaa
open Go.RowKit Go.MapKept

abbrev Gw (B : Nat → Prop) (w w' : World) : Nat → Prop := fun g => B g ∨ (w.heap.size ≤ g ∧ g < w'.heap.size)
/- The document's disk with what it reaches. -/
def Rx (w : World) (r : Nat) (v : Value) (room : Int) (F : List Fi) (B : Nat → Prop) : Prop :=
  ∃ base L, base ≤ w.heap.size ∧ Rk w base r room v L ∧ L.map Prod.fst = F ∧ (∀ g, Bx r v L g → B g) ∧ ∀ g, B g → g < w.heap.size
theorem Rx.keep {S : Nat → Prop} {w w' : World} {r : Nat} {v : Value} {room : Int} {F : List Fi} {B : Nat → Prop} (h : Rx w r v room F B) (hc : Chg S w w') (hS : ∀ g, B g → ¬ S g) : Rx w' r v room F B := by
  obtain ⟨base, L, h1, h2, h3, h4, h5⟩ := h
  exact ⟨base, L, Nat.le_trans h1 hc.size, h2.keep hc (fun g hg => hS g (h4 g hg)), h3, h4, fun g hg => hc.lt_of (h5 g hg)⟩
theorem Rx.below {w w' : World} {r : Nat} {v : Value} {room : Int} {F : List Fi} {B : Nat → Prop} (h : Rx w r v room F B) (hb : Below w.heap.size w w') : Rx w' r v room F B := h.keep (Chg.of_below hb) (fun _ _ => id)
theorem Rx.lt {w : World} {r : Nat} {v : Value} {room : Int} {F : List Fi} {B : Nat → Prop} (h : Rx w r v room F B) : ∀ g, B g → g < w.heap.size := by
  obtain ⟨base, L, h1, h2, h3, h4, h5⟩ := h; exact h5
theorem Rx.wr {w : World} {r : Nat} {v : Value} {room : Int} {F : List Fi} {B : Nat → Prop} (h : Rx w r v room F B) : ∀ g, Wr r v g → B g := by
  obtain ⟨base, L, h1, h2, h3, h4, h5⟩ := h
  intro g hg
  exact h4 g (hg.elim (fun e => .inl e) (fun e => .inr (.inl e)))
/- What a call of it leaves. -/
def Rxn (r : Nat) (v : Value) (room : Int) (B : Nat → Prop) (w w' : World) (F : List Fi) : Prop :=
  ∃ v', Rx w' r v' room F (Gw B w w') ∧ Chg (Wr r v) w w' ∧ ∀ g, Wr r v' g → Wr r v g ∨ w.heap.size ≤ g
theorem Rxn.of {w w' : World} {base r : Nat} {v : Value} {room : Int} {L : List Fv} {F' : List Fi} {B : Nat → Prop} (hb : base ≤ w.heap.size) (h4 : ∀ g, Bx r v L g → B g) (h5 : ∀ g, B g → g < w.heap.size) (hn : Rn base r room v L w w' F') : Rxn r v room B w w' F' := by
  obtain ⟨v', L', e1, k1, k2, k3, k4⟩ := hn
  refine ⟨v', ⟨base, L', Nat.le_trans hb k2.size, k1, e1, fun g hg => ?_, fun g hg => ?_⟩, k2, fun g hg => ?_⟩
  · have hlt := (k1.lt g hg).2
    rcases hg with e | e | ⟨p, hp, e⟩
    · exact .inl (h4 g (.inl e))
    · rcases k3 g e with e | e
      · exact .inl (h4 g (.inr (.inl e)))
      · exact .inr ⟨e, hlt⟩
    · rcases k4 p hp g e with ⟨q, hq, e⟩ | e
      · exact .inl (h4 g (.inr (.inr ⟨q, hq, e⟩)))
      · exact .inr ⟨e, hlt⟩
  · rcases hg with hg | hg
    · exact k2.lt_of (h5 g hg)
    · exact hg.2
  · rcases hg with e | e
    · exact .inl (.inl e)
    · exact (k3 g e).imp (fun e => .inr e) id
/- The program's disk with what may be its own. -/
def Dy (w : World) (d : Nat) (room : Int) (F : List Fi) (S : Nat → Prop) : Prop := Dx w d room F (fun k => k < w.heap.size ∧ ¬ S k) ∧ ∀ k, S k → k < w.heap.size
theorem Dy.keep {X S : Nat → Prop} {w w' : World} {d : Nat} {room : Int} {F : List Fi} (h : Dy w d room F S) (hc : Chg X w w') (hX : ∀ g, S g → ¬ X g) : Dy w' d room F S := by
  obtain ⟨⟨base, S0, h1, h2, h3, h4⟩, h5⟩ := h
  have hs : ∀ k, S0 k → S k := fun k hk => Classical.byContradiction fun e => h3 k ⟨(h2.bound k hk).2, e⟩ hk
  exact ⟨⟨base, S0, Nat.le_trans h1 hc.size, h2.keep hc (fun k hk => hX k (hs k hk)), fun k hk e => hk.2 (hs k e), fun k hk => hk.1⟩, fun k hk => hc.lt_of (h5 k hk)⟩
theorem Dy.below {S : Nat → Prop} {w w' : World} {d : Nat} {room : Int} {F : List Fi} (h : Dy w d room F S) (hb : Below w.heap.size w w') : Dy w' d room F S := h.keep (Chg.of_below hb) (fun _ _ => id)
theorem Dy.next {S : Nat → Prop} {w w' : World} {d : Nat} {room : Int} {F F' : List Fi} (h : Dy w d room F S) (h' : Dx w' d room F' (fun k => k < w.heap.size ∧ ¬ S k) ∧ Kp (fun k => k < w.heap.size ∧ ¬ S k) w w') : Dy w' d room F' (Gw S w w') ∧ Chg S w w' := by
  obtain ⟨h1, h2⟩ := h'
  refine ⟨⟨h1.fewer fun k hk => ?_, fun k hk => ?_⟩, h2.weak fun k hk e => Classical.byContradiction fun f => e ⟨hk, f⟩⟩
  · have := h2.size
    refine ⟨Nat.lt_of_not_le fun e => hk.2 (.inr ⟨e, hk.1⟩), fun e => hk.2 (.inl e)⟩
  · rcases hk with hk | hk
    · exact h2.lt_of (h.2 k hk)
    · exact hk.2
/- Both, beside one another; D: blocks that neither writes. -/
structure TB (D E : Nat → Prop) (w0 w : World) (d r : Nat) (room : Int) (G F : List Fi) (S : Nat → Prop) (v : Value) (B : Nat → Prop) : Prop where
  dy : Dy w d room G S
  perm : G.Perm F
  up : Up F
  rx : Rx w r v room F B
  ap : ∀ g, S g → ¬ B g
  low : ∀ g, D g → ¬ S g ∧ ¬ Wr r v g
  bel : Kp D w0 w
  dl : ∀ g, D g → g < w0.heap.size
  nb : ∀ g, E g → ¬ B g ∧ g < w0.heap.size
def Two (D E : Nat → Prop) (w0 w : World) (d r : Nat) (room : Int) (F : List Fi) : Prop := ∃ G S v B, TB D E w0 w d r room G F S v B
theorem TB.below {D E : Nat → Prop} {w0 w w' : World} {d r : Nat} {room : Int} {G F : List Fi} {S : Nat → Prop} {v : Value} {B : Nat → Prop} (h : TB D E w0 w d r room G F S v B) (hb : Below w.heap.size w w') : TB D E w0 w' d r room G F S v B :=
  ⟨h.dy.below hb, h.perm, h.up, h.rx.below hb, h.ap, h.low, h.bel.trans (Kp.of_below hb), h.dl, h.nb⟩
theorem Two.below {D E : Nat → Prop} {w0 w w' : World} {d r : Nat} {room : Int} {F : List Fi} (h : Two D E w0 w d r room F) (hb : Below w.heap.size w w') : Two D E w0 w' d r room F := by
  obtain ⟨G, S, v, B, h⟩ := h; exact ⟨G, S, v, B, h.below hb⟩
theorem Two.bel {D E : Nat → Prop} {w0 w : World} {d r : Nat} {room : Int} {F : List Fi} (h : Two D E w0 w d r room F) : Kp D w0 w := by
  obtain ⟨G, S, v, B, h⟩ := h; exact h.bel
/- What is new is neither's. -/
theorem Two.more {D E : Nat → Prop} {w0 w w' : World} {d r : Nat} {room : Int} {F : List Fi} (h : Two D E w0 w d r room F) (hb : Below w.heap.size w w') : Two (fun g => D g ∨ (w.heap.size ≤ g ∧ g < w'.heap.size)) E w' w' d r room F := by
  obtain ⟨G, S, v, B, h⟩ := h
  have h' := h.below hb
  refine ⟨G, S, v, B, h'.dy, h'.perm, h'.up, h'.rx, h'.ap, fun g hg => ?_, Chg.refl _ _, fun g hg => ?_, fun g hg => ⟨(h.nb g hg).1, Nat.lt_of_lt_of_le (h.bel.lt_of (h.nb g hg).2) hb.size⟩⟩
  · rcases hg with hg | hg
    · exact h.low g hg
    · refine ⟨fun e => ?_, fun e => ?_⟩
      · have := h.dy.2 g e; omega
      · have := h.rx.lt g (h.rx.wr g e); omega
  · rcases hg with hg | hg
    · exact Nat.lt_of_lt_of_le (h.bel.lt_of (h.dl g hg)) hb.size
    · exact hg.2
theorem Two.back {D D' E : Nat → Prop} {w0 w1 w : World} {d r : Nat} {room : Int} {F : List Fi} (h : Two D' E w1 w d r room F) (hD : ∀ g, D g → D' g) (hk : Kp D w0 w1) (hd : ∀ g, D g → g < w0.heap.size) (hE : ∀ g, E g → g < w0.heap.size) : Two D E w0 w d r room F := by
  obtain ⟨G, S, v, B, h⟩ := h
  exact ⟨G, S, v, B, h.dy, h.perm, h.up, h.rx, h.ap, fun g hg => h.low g (hD g hg), hk.trans (h.bel.weak fun g _ e f => e (hD g f)), hd, fun g hg => ⟨(h.nb g hg).1, hE g hg⟩⟩
/- Behind a call of the program's disk. -/
theorem TB.mid {D E : Nat → Prop} {w0 w wa : World} {d r : Nat} {room : Int} {G F : List Fi} {S : Nat → Prop} {v : Value} {B : Nat → Prop} (h : TB D E w0 w d r room G F S v B) (a2 : Chg S w wa) : Rx wa r v room F B ∧ Kp D w0 wa :=
  ⟨h.rx.keep a2 (fun g hg e => h.ap g e hg), h.bel.trans (a2.weak fun g _ e f => (h.low g f).1 e)⟩
/- .. and then one of the document's. -/
theorem TB.fin {D E : Nat → Prop} {w0 w wa wb : World} {d r : Nat} {room : Int} {G F G' F' : List Fi} {S : Nat → Prop} {v : Value} {B : Nat → Prop} (h : TB D E w0 w d r room G F S v B) (a1 : Dy wa d room G' (Gw S w wa)) (a2 : Chg S w wa) (b : Rxn r v room B wa wb F') (hp : G'.Perm F') (hu : Up F') : Two D E w0 wb d r room F' := by
  obtain ⟨v', b1, b2, b3⟩ := b
  have h5a := (h.mid a2).2
  have hBl := h.rx.lt
  have hSl := h.dy.2
  have s1 := a2.size
  have s0 := h.bel.size
  refine ⟨G', _, v', _, a1.keep b2 (fun g hg e => ?_), hp, hu, b1, fun g hg e => ?_, fun g hg => ⟨fun e => ?_, fun e => ?_⟩, h5a.trans (b2.weak fun g _ e f => (h.low g f).2 e), h.dl, fun g hg => ⟨fun e => ?_, (h.nb g hg).2⟩⟩
  · have hB := h.rx.wr g e
    rcases hg with hg | hg
    · exact h.ap g hg hB
    · have := hBl g hB; omega
  · rcases hg with hg | hg
    · rcases e with e | e
      · exact h.ap g hg e
      · have := hSl g hg; omega
    · rcases e with e | e
      · have := hBl g e; omega
      · omega
  · have := h.dl g hg
    rcases e with e | e
    · exact (h.low g hg).1 e
    · omega
  · have := h.dl g hg
    rcases b3 g e with e | e
    · exact (h.low g hg).2 e
    · omega
  · have := (h.nb g hg).2
    rcases e with e | e
    · exact (h.nb g hg).1 e
    · omega
theorem Bs.dk {D : Nat → Prop} {w0 w w' : World} {v : Value} {l : List UInt8} (h : Bs w v l) (hv : ∀ k, bk v = some k → D k) (hd : ∀ g, D g → g < w0.heap.size) (h0 : Kp D w0 w) (h1 : Kp D w0 w') : Bs w' v l := by
  rcases h with h | h | ⟨hp, b, o, c, rfl, q1, q2, q3⟩
  · exact .inl h
  · exact .inr (.inl h)
  · have hb := hv b (bk_pos hp)
    have hbl := hd b hb
    refine .inr (.inr ⟨hp, b, o, c, rfl, q1, h1.lt_of hbl, fun j hj => ?_⟩)
    have e0 := h0.cell (a := ⟨b, o + j, none⟩) hbl (fun e => e hb)
    have e1 := h1.cell (a := ⟨b, o + j, none⟩) hbl (fun e => e hb)
    rw [e1, ← e0]; exact q3 j hj
/- The document's calls, by what they reach. -/
theorem rappend_rx {w : World} {r : Nat} {v : Value} {room : Int} {F : List Fi} {B : Nat → Prop} (h : Rx w r v room F B) (hL : F.length ≤ 999999) (k : List UInt8) (hlk : Len63 k.length) {X : Option Addr} {m c : Nat} {l : List UInt8} (hX : Bs w (.slice X m c) l) (hm : m = l.length) (hll : l.length ≤ 140737488355328) :
    Calls Try.prog 19 #[.pointer (some ⟨r, 0, none⟩), .string (mkS k), .slice X m c] w fun e w' => e = .returned (.int .i64 (appE room F k l)) ∧ Rxn r v room B w w' (rappR room F k l) := by
  obtain ⟨base, L, h1, h2, rfl, h4, h5⟩ := h
  refine (rappend_any h1 h2 (by simpa using hL) k hlk hX hm hll).mono ?_
  rintro e w' ⟨rfl, hn⟩
  exact ⟨rfl, Rxn.of h1 h4 h5 hn⟩
theorem rsync_rx {w : World} {r : Nat} {v : Value} {room : Int} {F : List Fi} {B : Nat → Prop} (h : Rx w r v room F B) (hL : F.length ≤ 999999) (k : List UInt8) :
    Calls Try.prog 21 #[.pointer (some ⟨r, 0, none⟩), .string (mkS k)] w fun e w' => e = .returned (.int .i64 (synE F k)) ∧ Rxn r v room B w w' (synR F k) := by
  obtain ⟨base, L, h1, h2, rfl, h4, h5⟩ := h
  refine (rsync_any h2 (by simp at hL; omega) k).mono ?_
  rintro e w' ⟨rfl, hn⟩
  exact ⟨rfl, Rxn.of h1 h4 h5 hn⟩
theorem rcut_rx {w : World} {r : Nat} {v : Value} {room : Int} {F : List Fi} {B : Nat → Prop} (h : Rx w r v room F B) (hL : F.length ≤ 999999) (k : List UInt8) (n : Int) :
    Calls Try.prog 23 #[.pointer (some ⟨r, 0, none⟩), .string (mkS k), .int .i64 n] w fun e w' => e = .returned (.int .i64 (cutE F k n)) ∧ Rxn r v room B w w' (cutR F k n) := by
  obtain ⟨base, L, h1, h2, rfl, h4, h5⟩ := h
  refine (rcut_any h1 h2 (by simp at hL; omega) k n).mono ?_
  rintro e w' ⟨rfl, hn⟩
  exact ⟨rfl, Rxn.of h1 h4 h5 hn⟩
theorem rrename_rx {w : World} {r : Nat} {v : Value} {room : Int} {F : List Fi} {B : Nat → Prop} (h : Rx w r v room F B) (hL : F.length ≤ 999999) (a b : List UInt8) (hla : Len63 a.length) (hlb : Len63 b.length) :
    Calls Try.prog 25 #[.pointer (some ⟨r, 0, none⟩), .string (mkS a), .string (mkS b)] w fun e w' => e = .returned (.int .i64 (renE F a b)) ∧ Rxn r v room B w w' (rrenR F a b) := by
  obtain ⟨base, L, h1, h2, rfl, h4, h5⟩ := h
  refine (rrename_any h1 h2 (by simpa using hL) a b hla hlb).mono ?_
  rintro e w' ⟨rfl, hn⟩
  exact ⟨rfl, Rxn.of h1 h4 h5 hn⟩
theorem rremove_rx {w : World} {r : Nat} {v : Value} {room : Int} {F : List Fi} {B : Nat → Prop} (h : Rx w r v room F B) (hL : F.length ≤ 999999) (k : List UInt8) :
    Calls Try.prog 27 #[.pointer (some ⟨r, 0, none⟩), .string (mkS k)] w fun e w' => e = .returned (.int .i64 (synE F k)) ∧ Rxn r v room B w w' (delF k F) := by
  obtain ⟨base, L, h1, h2, rfl, h4, h5⟩ := h
  refine (rremove_any h1 h2 (by simp at hL; omega) k).mono ?_
  rintro e w' ⟨rfl, hn⟩
  exact ⟨rfl, Rxn.of h1 h4 h5 hn⟩
theorem rcrash_rx {w : World} {r : Nat} {v : Value} {room : Int} {F : List Fi} {B : Nat → Prop} (h : Rx w r v room F B) (hL : F.length ≤ 999999) (keep : Int) (hk : -9223372036854775808 ≤ keep ∧ keep < 9223372036854775808) :
    Calls Try.prog 17 #[.pointer (some ⟨r, 0, none⟩), .int .i64 keep] w fun e w' => e = .returned (.tuple #[]) ∧ Rxn r v room B w w' (F.map (crash1 keep)) := by
  obtain ⟨base, L, h1, h2, rfl, h4, h5⟩ := h
  refine (rcrash_any h1 h2 (by simp at hL; omega) keep hk).mono ?_
  rintro e w' ⟨rfl, hn⟩
  exact ⟨rfl, Rxn.of h1 h4 h5 hn⟩
/- The mathematics: what is permuted stays so, names go on rising. -/
theorem getF_perm {F G : List Fi} (h : G.Perm F) (hn : (F.map (·.nm)).Nodup) (k : List UInt8) : getF k G = getF k F := by unfold getF; rw [lookF_perm h hn]
theorem appE_perm {F G : List Fi} (h : G.Perm F) (hu : Up F) (room : Int) (k l : List UInt8) : appE room G k l = appE room F k l := by
  unfold appE; rw [getF_perm h hu.nodup, used_perm h]
theorem app_next {F G : List Fi} (h : G.Perm F) (hu : Up F) (room : Int) (k l : List UInt8) : (appR room G k l).Perm (rappR room F k l) ∧ Up (rappR room F k l) := by
  unfold appR rappR
  rw [appE_perm h hu]
  split
  · unfold appF
    rw [getF_perm h hu.nodup]
    by_cases hl : (lookF k F).isSome = true
    · rw [if_pos hl]
      exact ⟨put_perm h hu.nodup _, hu.names (putF_names hl)⟩
    · rw [if_neg hl]
      have hl0 : lookF k F = none := by simpa using hl
      have hg : getF k F = ⟨[], [], 0⟩ := by simp [getF, hl0]
      rw [hg]
      exact ⟨ins_perm h hu.nodup _ hl0, hu.ins (lookF_none hl0)⟩
  · exact ⟨h, hu⟩
theorem app_len (room : Int) (F : List Fi) (k l : List UInt8) : (rappR room F k l).length ≤ F.length + 1 := by
  unfold rappR
  split
  · split
    · next h => have := congrArg List.length (putF_names (F := F) (p := ⟨k, (getF k F).b ++ l, (getF k F).sy⟩) h); simp at this; unfold appF; omega
    · have := (insF_perm ⟨k, l, 0⟩ F).length_eq; simp at this; omega
  · omega
theorem synE_perm {F G : List Fi} (h : G.Perm F) (hu : Up F) (k : List UInt8) : synE G k = synE F k := by unfold synE; rw [lookF_perm h hu.nodup]
theorem lookF_nm : ∀ {F : List Fi} {k : List UInt8} {f : Fi}, lookF k F = some f → f.nm = k := fun h => (lookF_mem h).2
theorem syn_next {F G : List Fi} (h : G.Perm F) (hu : Up F) (k : List UInt8) : (synR G k).Perm (synR F k) ∧ Up (synR F k) ∧ (synR F k).length = F.length := by
  unfold synR
  rw [lookF_perm h hu.nodup]
  cases hl : lookF k F with
  | none => exact ⟨h, hu, rfl⟩
  | some f =>
    have hs : (lookF (⟨f.nm, f.b, f.b.length⟩ : Fi).nm F).isSome := by rw [lookF_nm hl, hl]; rfl
    have hn := putF_names hs
    exact ⟨put_perm h hu.nodup _, hu.names hn, by have := congrArg List.length hn; simpa using this⟩
theorem cutE_perm {F G : List Fi} (h : G.Perm F) (hu : Up F) (k : List UInt8) (n : Int) : cutE G k n = cutE F k n := by unfold cutE; rw [lookF_perm h hu.nodup, getF_perm h hu.nodup]
theorem cut_next {F G : List Fi} (h : G.Perm F) (hu : Up F) (k : List UInt8) (n : Int) : (cutR G k n).Perm (cutR F k n) ∧ Up (cutR F k n) ∧ (cutR F k n).length = F.length := by
  unfold cutR
  rw [lookF_perm h hu.nodup]
  cases hl : lookF k F with
  | none => exact ⟨h, hu, rfl⟩
  | some f =>
    simp only
    split
    · exact ⟨h, hu, rfl⟩
    · have hs : (lookF (⟨f.nm, f.b.take n.toNat, n.toNat⟩ : Fi).nm F).isSome := by rw [lookF_nm hl, hl]; rfl
      have hn := putF_names hs
      exact ⟨put_perm h hu.nodup _, hu.names hn, by have := congrArg List.length hn; simpa using this⟩
theorem renE_perm {F G : List Fi} (h : G.Perm F) (hu : Up F) (a b : List UInt8) : renE G a b = renE F a b := by unfold renE; rw [lookF_perm h hu.nodup]
theorem del_nodup {F : List Fi} (k : List UInt8) (h : (F.map (·.nm)).Nodup) : ((delF k F).map (·.nm)).Nodup := ((delF_sub k F).map _).nodup h
theorem del_not {F : List Fi} (k : List UInt8) (h : (F.map (·.nm)).Nodup) : ∀ f ∈ delF k F, f.nm ≠ k := by
  intro f hf
  rw [delF_filter k h] at hf
  simpa using (List.mem_filter.1 hf).2
theorem ren_next {F G : List Fi} (h : G.Perm F) (hu : Up F) (a b : List UInt8) : (renR G a b).Perm (rrenR F a b) ∧ Up (rrenR F a b) ∧ (rrenR F a b).length ≤ F.length + 1 := by
  unfold renR rrenR
  split
  · exact ⟨h, hu, by omega⟩
  · rw [lookF_perm h hu.nodup]
    cases hl : lookF a F with
    | none => exact ⟨h, hu, by simp⟩
    | some f =>
      simp only
      have hu1 : Up (delF a F) := hu.sub (delF_sub a F)
      have hu2 : Up (delF b (delF a F)) := hu1.sub (delF_sub b _)
      refine ⟨?_, hu2.ins (del_not b hu1.nodup), ?_⟩
      · refine (put_perm (del_perm h hu.nodup a) hu1.nodup _).trans ((putF_perm _ _).trans (insF_perm _ _).symm)
      · have e1 := (insF_perm ⟨b, f.b, f.sy⟩ (delF b (delF a F))).length_eq
        have e2 := (delF_sub b (delF a F)).length_le
        have e3 := (delF_sub a F).length_le
        simp at e1
        omega
theorem rem_next {F G : List Fi} (h : G.Perm F) (hu : Up F) (k : List UInt8) : (delF k G).Perm (delF k F) ∧ Up (delF k F) ∧ (delF k F).length ≤ F.length :=
  ⟨del_perm h hu.nodup k, hu.sub (delF_sub k F), (delF_sub k F).length_le⟩
theorem crash_next {F G : List Fi} (h : G.Perm F) (hu : Up F) (keep : Int) : (G.map (crash1 keep)).Perm (F.map (crash1 keep)) ∧ Up (F.map (crash1 keep)) ∧ (F.map (crash1 keep)).length = F.length :=
  ⟨h.map _, hu.names (by rw [List.map_map]; rfl), by simp⟩
end Go.Proofs.Ytndjlnlmlgimlaa
