/- Plain mathematics: what the document's own answer reads of a deed's bytes is what the program reads; no program in this text. -/
import Derived.Test.YtbbllgpocjipjaaGreatDoorRe5
import Derived.Test.YtbbllgpocjipjaaGreatDoorDdJa
import Derived.Test.YtbbllgpocjipjaaGreatDoorGtR
namespace Go.Proofs.YtbbllgpocjipjaaGreatDoor.DD
set_option linter.unusedVariables false

def rfParts : Nat → Rd → List Fl × Rd
  | 0, r => ([], r)
  | _ + 1, none => ([], none)
  | n + 1, some s => ((rdPart (some s)).1 :: (rfParts n (rdPart (some s)).2).1, (rfParts n (rdPart (some s)).2).2)
theorem rfParts_none : ∀ n, rfParts n none = ([], none)
  | 0 => rfl
  | _ + 1 => rfl
theorem rfParts_rd : ∀ n r, (rfParts n r).2 = (rdParts n r).2
  | 0, r => by cases r <;> rfl
  | n + 1, none => by rw [rdParts_none]; rfl
  | n + 1, some s => by rw [rdParts]; exact rfParts_rd n _
theorem rfParts_eq : ∀ n r {t : List UInt8}, (rfParts n r).2 = some t → (rfParts n r).1 = (rdParts n r).1
  | 0, r, _, _ => by cases r <;> rfl
  | n + 1, none, _, h => by cases h
  | n + 1, some s, _, h => by
    rw [rdParts]
    show (rdPart (some s)).1 :: _ = _
    rw [rfParts_eq n _ h]
def mostOf (k : Int) : Int := if k = 8 then 16 else 500
def rfTail (k : Int) (r : Rd) : List Fl × Rd := if hasParts k = true then rfParts (rdCount r (mostOf k)).1.toNat (rdCount r (mostOf k)).2 else ([], r)
def rfAll (b : List UInt8) : Fl × List Fl × Rd :=
  let k : Int := (rdByte (some b)).1.toNat
  let h := rdHead (rdByte (some b)).2
  let f := rdBody k h.2
  let t := rfTail k f.2
  (withHead h.1 f.1 t.1.length, t.1, t.2)
def deedRf (b : List UInt8) : Option (Fl × List Fl) :=
  if (rfAll b).2.2 = some [] ∧ rightD (rfAll b).1 (rfAll b).2.1 = true then some ((rfAll b).1, (rfAll b).2.1) else none
theorem tail_same (k : Int) (r : Rd) : ((rfTail k r).2 = some [] → rfTail k r = rdTail k r) ∧ ((rdTail k r).2 = some [] → rfTail k r = rdTail k r ∨ (k = 8 ∧ 16 < (rdTail k r).1.length)) := by
  unfold rfTail rdTail
  cases hp : hasParts k with
  | false => simp
  | true =>
    rw [if_pos rfl, if_pos rfl]
    have key : ∀ n r', (rfParts n r').2 = some [] → rfParts n r' = rdParts n r' := fun n r' h => Prod.ext (rfParts_eq n r' h) (rfParts_rd n r')
    by_cases h8 : k = 8
    · subst h8
      rw [show mostOf 8 = 16 from rfl]
      unfold rdCount
      by_cases c1 : (rdInt r).1 < 0 ∨ 16 < (rdInt r).1
      · rw [if_pos c1]
        refine ⟨fun h => (by rw [rfParts_none] at h; cases h), fun h => ?_⟩
        by_cases c2 : (rdInt r).1 < 0 ∨ 500 < (rdInt r).1
        · rw [if_pos c2] at h
          rw [rdParts_none] at h
          cases h
        · right
          refine ⟨rfl, ?_⟩
          rw [if_neg c2, rdParts_len]
          omega
      · rw [if_neg c1, if_neg (by omega)]
        exact ⟨key _ _, fun h => .inl (key _ _ (by rw [rfParts_rd]; exact h))⟩
    · rw [show mostOf k = 500 by unfold mostOf; rw [if_neg h8]]
      exact ⟨key _ _, fun h => .inl (key _ _ (by rw [rfParts_rd]; exact h))⟩
theorem multi_many {f : Fl} {ps : List Fl} (hk : f.kind = 8) (hl : 16 < ps.length) : rightD f ps = false := by
  cases h : rightD f ps with
  | false => rfl
  | true =>
    have hf := rightD_fits h
    unfold fitsB at hf
    rw [show isNode f.kind = false by rw [hk]; rfl] at hf
    simp only [Bool.false_eq_true, if_false, Bool.and_eq_true, kindB, hk, Int.reduceEq, if_true, decide_eq_true_eq] at hf
    omega
theorem deedRf_eq (b : List UInt8) : deedRf b = deedOf b := by
  obtain ⟨k, hk0⟩ : ∃ k : Int, k = ((rdByte (some b)).1.toNat : Int) := ⟨_, rfl⟩
  obtain ⟨F, hF⟩ : ∃ F, F = rdBody k (rdHead (rdByte (some b)).2).2 := ⟨_, rfl⟩
  have hk : F.1.kind = k := by rw [hF]; exact rdBody_kind _ _
  have e1 : rfAll b = (withHead (rdHead (rdByte (some b)).2).1 F.1 (rfTail k F.2).1.length, (rfTail k F.2).1, (rfTail k F.2).2) := by rw [hF, hk0]; rfl
  have e2 : rdAll b = (withHead (rdHead (rdByte (some b)).2).1 F.1 (rdTail k F.2).1.length, (rdTail k F.2).1, (rdTail k F.2).2) := by rw [hF, hk0]; rfl
  obtain ⟨h1, h2⟩ := tail_same k F.2
  by_cases c : (rfTail k F.2).2 = some []
  · have e : rfAll b = rdAll b := by rw [e1, e2, h1 c]
    unfold deedRf deedOf
    rw [e]
  · have n1 : deedRf b = none := by
      unfold deedRf
      rw [if_neg]
      rintro ⟨h, _⟩
      rw [e1] at h
      exact c h
    have n2 : deedOf b = none := by
      unfold deedOf
      rw [if_neg]
      rintro ⟨h, hr⟩
      rw [e2] at h hr
      rcases h2 h with e | ⟨e, hl⟩
      · rw [e] at c; exact c h
      · rw [multi_many (by show F.1.kind = 8; rw [hk, e]) hl] at hr
        cases hr
    rw [n1, n2]
end Go.Proofs.YtbbllgpocjipjaaGreatDoor.DD
/- What serves the walks of the document's own read. -/
namespace Go.Proofs.YtbbllgpocjipjaaGreatDoor.DD
set_option linter.unusedVariables false
open Go.RowKit
set_option linter.unusedVariables false

/- While a deed is read: the reader at g, the deed at block p, what is answered at block p + 1; nothing of what was there before has turned but the reader. -/
structure GR (w0 w : World) (g : Nat) (q : Option Nat) (r : Rd) (cs : Array Value) : Prop where
  rd : Rdf w g q r
  d : w.heap[w0.heap.size]? = some (.cells cs 31 (0, 0))
  res : w.heap[w0.heap.size + 1]? = some (.cells #[.int .i64 0, .int .u8 0, .int .i64 0, .int .i64 0, .int .i64 0, .int .i64 0, .string ⟨#[]⟩, .slice none 0 0, .int .i64 0, .int .i64 0, .int .i64 0, .int .i64 0, .int .i64 0, .int .i64 0, .slice none 0 0, .slice none 0 0] 31 (0, 0))
  chg : Chg (One g) w0 w
  g : g < w0.heap.size
  q : ∀ k, q = some k → k < w0.heap.size
theorem GR.read {w0 w w' : World} {g : Nat} {q : Option Nat} {r r' : Rd} {cs : Array Value} (h : GR w0 w g q r cs) (hr : Rdf w' g q r') (hc : Chg (One g) w w') : GR w0 w' g q r' cs :=
  ⟨hr, by rw [hc.block _ (heap_lt h.d) (fun e => by have := h.g; unfold One at e; omega)]; exact h.d, by rw [hc.block _ (heap_lt h.res) (fun e => by have := h.g; unfold One at e; omega)]; exact h.res, h.chg.trans hc, h.g, h.q⟩
theorem GR.below {w0 w w' : World} {g : Nat} {q : Option Nat} {r : Rd} {cs : Array Value} (h : GR w0 w g q r cs) (hb : Below w.heap.size w w') : GR w0 w' g q r cs :=
  h.read (RdAt.keep h.rd (Chg.of_below hb) (fun e => e) (fun _ _ e => e)) ((Chg.of_below hb).weak fun _ _ e => e.elim)
theorem GR.set {w0 w : World} {g : Nat} {q : Option Nat} {r : Rd} {cs : Array Value} (h : GR w0 w g q r cs) (j : Nat) (v : Value) : GR w0 (w.setCell ⟨w0.heap.size, j, none⟩ v) g q r (cs.setIfInBounds j v) := by
  have hc : Chg (fun k => k = w0.heap.size) w (w.setCell ⟨w0.heap.size, j, none⟩ v) := Chg.setCell w ⟨w0.heap.size, j, none⟩ v rfl
  exact ⟨RdAt.keep h.rd hc (fun e => by have := h.g; omega) (fun k hk e => by have := h.q k hk; omega), heap_set h.d j v, by rw [hc.block _ (heap_lt h.res) (by omega)]; exact h.res, h.chg.trans' hc (fun i hi e => by omega), h.g, h.q⟩
theorem sixteenR {w0 w : World} {g : Nat} {q : Option Nat} {r : Rd} {cs : Array Value} (h : GR w0 w g q r cs) {w' : World} (hc : Chg (fun k => k = w0.heap.size + 1) w w') : Rdf w' g q r ∧ Chg (One g) w0 w' :=
  ⟨RdAt.keep h.rd hc (fun e => by have := h.g; omega) (fun k hk e => by have := h.q k hk; omega), h.chg.trans' hc (fun i hi e => by omega)⟩
/- What a body that is read leaves. -/
def GotG (w w' : World) (g : Nat) (q : Option Nat) (e : Ending) (f : Fl) (r : Rd) : Prop :=
  ∃ A1 c1 A2 c2, e = .returned (.agg #[.int .i64 f.zxid, .int .u8 f.kind, .int .i64 f.session, .int .i64 f.turn, .int .i64 f.xid, .int .i64 f.time, .string (mkS f.path), .slice A1 f.data.length c1, .int .i64 f.owner, .int .i64 f.version, .int .i64 f.cversion, .int .i64 f.timeout, .int .i64 f.err, .int .i64 f.cver, .slice A2 f.mems.length c2, .slice none 0 0]) ∧ Rdf w' g q r ∧ Chg (One g) w w' ∧
    Bs w' (.slice A1 f.data.length c1) f.data ∧ (∀ k, bk (.slice A1 f.data.length c1) = some k → w.heap.size ≤ k) ∧ Mems w' (.slice A2 f.mems.length c2) f.mems ∧ (∀ k, bk (.slice A2 f.mems.length c2) = some k → w.heap.size ≤ k)
def hd5 (f : Fl) (zx se tu xi ti : Int) : Fl := { f with zxid := zx, session := se, turn := tu, xid := xi, time := ti }
theorem rf4Get_or {w : World} {x : Value} {b : List UInt8} (hx : Bs w x b) (hb : b.length ≤ 140737488355328) :
    Calls Tryz.prog 78 #[x] w fun e w' => (cfgOf b = none ∧ e = .returned (.tuple #[.agg #[.int .i64 0, .slice none 0 0], .int .i64 4]) ∧ Below w.heap.size w w') ∨ (∃ ver ml AM CM, cfgOf b = some (ver, ml) ∧ e = .returned (.tuple #[.agg #[.int .i64 ver, .slice AM ml.length CM], .int .i64 0]) ∧ Mems w' (.slice AM ml.length CM) ml ∧ (∀ k, bk (.slice AM ml.length CM) = some k → w.heap.size ≤ k ∧ k < w'.heap.size) ∧ Below w.heap.size w w') := by
  refine (rf4Get_any hx hb).mono ?_
  intro e w' h
  rw [← cfg_same] at h
  cases hc : cfgOf b with
  | none =>
    rw [hc] at h
    obtain ⟨rfl, hB⟩ := h
    exact .inl ⟨rfl, rfl, hB⟩
  | some y =>
    rw [hc] at h
    obtain ⟨ver, ml⟩ := y
    obtain ⟨v, rfl, ho, hB⟩ := h
    have hm := mems_of_owns ho
    have hl : ∀ k, bk v = some k → w.heap.size ≤ k ∧ k < w'.heap.size := fun k hk => ho.lt k (bk_blk hk)
    obtain ⟨A, C, rfl⟩ := hm.form
    exact .inr ⟨ver, ml, A, C, rfl, rfl, hm, hl, hB⟩
end Go.Proofs.YtbbllgpocjipjaaGreatDoor.DD
