/- Plain mathematics of deeds: what a deed is, which are right, their bytes, and what is read of bytes; no program in this text. -/
import Derived.Test.YtkbmbnfpadllmaaDoorEnsE
import Derived.Test.YtkbmbnfpadllmaaDoorPathM
namespace Go.Proofs.YtkbmbnfpadllmaaDoor

/- A deed but for its parts; np: how many these are. -/
structure Fl where
  zxid : Int
  kind : Int
  session : Int
  turn : Int
  xid : Int
  time : Int
  path : List UInt8
  data : List UInt8
  owner : Int
  version : Int
  cversion : Int
  timeout : Int
  err : Int
  cver : Int
  mems : List Mem
  np : Nat
  deriving DecidableEq
theorem Fl.ext' {a b : Fl} (h0 : a.zxid = b.zxid) (h1 : a.kind = b.kind) (h2 : a.session = b.session) (h3 : a.turn = b.turn) (h4 : a.xid = b.xid) (h5 : a.time = b.time) (h6 : a.path = b.path) (h7 : a.data = b.data) (h8 : a.owner = b.owner) (h9 : a.version = b.version) (h10 : a.cversion = b.cversion) (h11 : a.timeout = b.timeout) (h12 : a.err = b.err) (h13 : a.cver = b.cver) (h14 : a.mems = b.mems) (h15 : a.np = b.np) : a = b := by
  cases a; cases b; simp_all
/- Which fields say something, and which a kind names. -/
def flags (f : Fl) : List Bool := [decide (f.path ≠ []), decide (0 < f.data.length), decide (f.owner ≠ 0), decide (f.version ≠ 0), decide (f.cversion ≠ 0), decide (f.timeout ≠ 0), decide (f.err ≠ 0), decide (f.cver ≠ 0) || decide (0 < f.mems.length), decide (0 < f.np)]
def allow (k : Int) : List Bool :=
  if k = 1 then [true, true, true, false, true, false, false, false, false]
  else if k = 2 then [true, false, false, false, true, false, false, false, false]
  else if k = 3 then [true, true, false, true, false, false, false, false, false]
  else if k = 4 then [false, false, false, false, false, true, false, false, false]
  else if k = 5 then [false, false, true, false, false, false, false, false, true]
  else if k = 7 then [false, false, false, false, false, false, false, true, false]
  else if k = 8 then [false, false, false, false, false, false, false, false, true]
  else if k = 9 then [false, false, false, false, false, false, true, false, false]
  else [false, false, false, false, false, false, false, false, false]
def under : List Bool → List Bool → Bool
  | a :: l, b :: r => (!a || b) && under l r
  | _, _ => true
def bareB (f : Fl) : Bool := under (flags f) (allow f.kind)
def numsB (f : Fl) : Bool := decide (0 ≤ f.owner) && decide (0 ≤ f.version) && decide (0 ≤ f.cversion) && decide (0 ≤ f.timeout) && decide (0 ≤ f.err)
def isNode (k : Int) : Bool := decide (k = 1) || decide (k = 2) || decide (k = 3)
/- What holds of the fields in all kinds. -/
def comB (f : Fl) : Bool := bareB f && decide (f.data.length ≤ 1000) && numsB f
def leafB (f : Fl) : Bool := isNode f.kind && comB f && PA.right f.path && (decide (f.kind = 3) || decide (f.path ≠ [47]))
def headZ (f : Fl) : Bool := decide (f.zxid = 0) && decide (f.session = 0) && decide (f.turn = 0) && decide (f.xid = 0) && decide (f.time = 0)
def partB (all : Bool) (p : Fl) : Bool := (if all = true then isNode p.kind else decide (p.kind = 2)) && headZ p && leafB p
def kindB (f : Fl) (ps : List Fl) : Bool :=
  if f.kind = 4 then decide (0 < f.timeout) && decide (f.timeout ≤ 1000)
  else if f.kind = 5 then decide (0 < f.owner) && decide (ps.length ≤ 500) && ps.all (partB false)
  else if f.kind = 6 then true
  else if f.kind = 7 then decide (f.cver = f.zxid) && decide (chk f.cver f.mems = 0)
  else if f.kind = 8 then decide (0 < ps.length) && decide (ps.length ≤ 16) && ps.all (partB true)
  else if f.kind = 9 then decide (0 < f.err)
  else false
def fitsB (f : Fl) (ps : List Fl) : Bool := if isNode f.kind = true then leafB f else comB f && kindB f ps
def headB (f : Fl) : Bool := decide (0 ≤ f.zxid) && decide (0 ≤ f.session) && decide (0 ≤ f.turn) && decide (0 ≤ f.xid) && decide (0 ≤ f.time)
def rightD (f : Fl) (ps : List Fl) : Bool := headB f && decide (0 < f.zxid) && decide (f.zxid / 4294967296 ≤ 1073741824) && fitsB f ps

/- The bytes. -/
def bodyB (f : Fl) : List UInt8 :=
  if f.kind = 1 then textB f.path ++ (textB f.data ++ (numB f.owner ++ numB f.cversion))
  else if f.kind = 2 then textB f.path ++ numB f.cversion
  else if f.kind = 3 then textB f.path ++ (textB f.data ++ numB f.version)
  else if f.kind = 4 then numB f.timeout
  else if f.kind = 5 then numB f.owner
  else if f.kind = 7 then textB (cfgB f.cver f.mems)
  else if f.kind = 9 then numB f.err
  else []
def prtB (p : Fl) : List UInt8 := u8 p.kind :: bodyB p
def prtsB (ps : List Fl) : List UInt8 := (ps.map prtB).flatten
def hasParts (k : Int) : Bool := decide (k = 5) || decide (k = 8)
def tailB (f : Fl) (ps : List Fl) : List UInt8 := if hasParts f.kind = true then numB ps.length ++ prtsB ps else []
def deedB (f : Fl) (ps : List Fl) : List UInt8 := u8 f.kind :: (numB f.zxid ++ (numB f.session ++ (numB f.turn ++ (numB f.xid ++ (numB f.time ++ (bodyB f ++ tailB f ps))))))

/- What is read. -/
def fl0 (k : Int) : Fl := ⟨0, k, 0, 0, 0, 0, [], [], 0, 0, 0, 0, 0, 0, [], 0⟩
def cfgOr (o : Option (Int × List Mem)) : Int × List Mem := o.getD (0, [])
def rdBody (k : Int) (r : Rd) : Fl × Rd :=
  if k = 1 then ({ fl0 k with path := (rdText r 200).1, data := (rdText (rdText r 200).2 1000).1, owner := (rdInt (rdText (rdText r 200).2 1000).2).1, cversion := (rdInt (rdInt (rdText (rdText r 200).2 1000).2).2).1 }, (rdInt (rdInt (rdText (rdText r 200).2 1000).2).2).2)
  else if k = 2 then ({ fl0 k with path := (rdText r 200).1, cversion := (rdInt (rdText r 200).2).1 }, (rdInt (rdText r 200).2).2)
  else if k = 3 then ({ fl0 k with path := (rdText r 200).1, data := (rdText (rdText r 200).2 1000).1, version := (rdInt (rdText (rdText r 200).2 1000).2).1 }, (rdInt (rdText (rdText r 200).2 1000).2).2)
  else if k = 4 then ({ fl0 k with timeout := (rdInt r).1 }, (rdInt r).2)
  else if k = 5 then ({ fl0 k with owner := (rdInt r).1 }, (rdInt r).2)
  else if k = 7 then ({ fl0 k with cver := (cfgOr (cfgOf (rdText r 1048576).1)).1, mems := (cfgOr (cfgOf (rdText r 1048576).1)).2 }, (rdText r 1048576).2)
  else if k = 9 then ({ fl0 k with err := (rdInt r).1 }, (rdInt r).2)
  else (fl0 k, r)
def rdPart (r : Rd) : Fl × Rd := rdBody ((rdByte r).1.toNat : Int) (rdByte r).2
def rdParts : Nat → Rd → List Fl × Rd
  | 0, r => ([], r)
  | n + 1, r => ((rdPart r).1 :: (rdParts n (rdPart r).2).1, (rdParts n (rdPart r).2).2)
structure Hd where
  zxid : Int
  session : Int
  turn : Int
  xid : Int
  time : Int
def rdHead (r : Rd) : Hd × Rd :=
  (⟨(rdInt r).1, (rdInt (rdInt r).2).1, (rdInt (rdInt (rdInt r).2).2).1, (rdInt (rdInt (rdInt (rdInt r).2).2).2).1, (rdInt (rdInt (rdInt (rdInt (rdInt r).2).2).2).2).1⟩, (rdInt (rdInt (rdInt (rdInt (rdInt r).2).2).2).2).2)
def withHead (h : Hd) (f : Fl) (n : Nat) : Fl := { f with zxid := h.zxid, session := h.session, turn := h.turn, xid := h.xid, time := h.time, np := n }
def rdTail (k : Int) (r : Rd) : List Fl × Rd := if hasParts k = true then rdParts (rdCount r 500).1.toNat (rdCount r 500).2 else ([], r)
def rdAll (b : List UInt8) : Fl × List Fl × Rd :=
  let k : Int := (rdByte (some b)).1.toNat
  let h := rdHead (rdByte (some b)).2
  let f := rdBody k h.2
  let t := rdTail k f.2
  (withHead h.1 f.1 t.1.length, t.1, t.2)
def deedOf (b : List UInt8) : Option (Fl × List Fl) :=
  if (rdAll b).2.2 = some [] ∧ rightD (rdAll b).1 (rdAll b).2.1 = true then some ((rdAll b).1, (rdAll b).2.1) else none

/- Numbers that fit their fields. -/
def I64 (n : Int) : Prop := -9223372036854775808 ≤ n ∧ n < 9223372036854775808
structure FlFit (f : Fl) : Prop where
  zxid : I64 f.zxid
  kind : 0 ≤ f.kind ∧ f.kind < 256
  session : I64 f.session
  turn : I64 f.turn
  xid : I64 f.xid
  time : I64 f.time
  owner : I64 f.owner
  version : I64 f.version
  cversion : I64 f.cversion
  timeout : I64 f.timeout
  err : I64 f.err
  cver : I64 f.cver

theorem rdByte_inv {r : Rd} {t : List UInt8} (h : (rdByte r).2 = some t) : r = some ((rdByte r).1 :: t) := by
  match r with
  | none => simp [rdByte] at h
  | some [] => simp [rdByte] at h
  | some (x :: l) => simp [rdByte] at h; subst h; rfl
theorem rdByte_none : (rdByte none).2 = none := rfl
theorem rdInt_inv' {r : Rd} {t : List UInt8} (h : (rdInt r).2 = some t) : r = some (numB (rdInt r).1 ++ t) ∧ I64 (rdInt r).1 := rdInt_inv (pair_some h)
theorem rdTake_inv {r : Rd} {n : Nat} {t : List UInt8} (h : (rdTake r n).2 = some t) : r = some ((rdTake r n).1 ++ t) ∧ (rdTake r n).1.length = n := by
  cases r with
  | none => simp [rdTake] at h
  | some l =>
    simp only [rdTake] at h ⊢
    split at h
    · cases h
    · next hl =>
      simp only [Option.some.injEq] at h
      subst h
      rw [if_neg hl]
      simp; omega
theorem rdTake_none (n : Nat) : (rdTake none n).2 = none := rfl
theorem rdText_inv {r : Rd} {m : Int} {t : List UInt8} (h : (rdText r m).2 = some t) : r = some (textB (rdText r m).1 ++ t) ∧ ((rdText r m).1.length : Int) ≤ m := by
  unfold rdText at h
  obtain ⟨h1, h2⟩ := rdTake_inv h
  obtain ⟨h3, h4, h5⟩ := rdCount_inv (pair_some h1)
  have e : (rdText r m).1 = (rdTake (rdCount r m).2 (rdCount r m).1.toNat).1 := rfl
  rw [e]
  have h6 : ((rdTake (rdCount r m).2 (rdCount r m).1.toNat).1.length : Int) = (rdCount r m).1 := by rw [h2]; omega
  refine ⟨?_, by omega⟩
  rw [textB, h6, List.append_assoc]
  exact h3
theorem rdText_none (m : Int) : (rdText none m).2 = none := by
  unfold rdText; rw [rdCount_none]; rfl
theorem rdInt_none' : (rdInt none).2 = none := rfl
theorem some_of {α : Type} {f : Rd → α × Rd} (hf : (f none).2 = none) {r : Rd} {t : List UInt8} (h : (f r).2 = some t) : ∃ s, r = some s := by
  cases r with
  | none => rw [hf] at h; cases h
  | some s => exact ⟨s, rfl⟩
theorem fl0_z (k : Int) : headZ (fl0 k) = true := rfl
theorem rdText_inv2 {r : Rd} {m : Int} {p t : List UInt8} (h : rdText r m = (p, some t)) : r = some (textB p ++ t) ∧ (p.length : Int) ≤ m := by
  have := rdText_inv (show (rdText r m).2 = some t by rw [h])
  rwa [h] at this
theorem rdByte_inv2 {r : Rd} {x : UInt8} {t : List UInt8} (h : rdByte r = (x, some t)) : r = some (x :: t) := by
  have := rdByte_inv (show (rdByte r).2 = some t by rw [h])
  rwa [h] at this
theorem heavy_nil : heavy [] = false := rfl
theorem cfg_read {b : List UInt8} (h : chk (cfgOr (cfgOf b)).1 (cfgOr (cfgOf b)).2 = 0) : b = cfgB (cfgOr (cfgOf b)).1 (cfgOr (cfgOf b)).2 := by
  cases e : cfgOf b with
  | none =>
    rw [e] at h
    obtain ⟨_, _, _, _, hh⟩ := chk_ok h
    cases hh
  | some x => exact ((cfgOf_iff b x.1 x.2).1 e).1
/- A body that was read is put as what was read. -/
theorem rdBody_inv {k : Int} {r : Rd} {t : List UInt8} (h : (rdBody k r).2 = some t) (hc : k = 7 → chk (rdBody k r).1.cver (rdBody k r).1.mems = 0) : r = some (bodyB (rdBody k r).1 ++ t) := by
  unfold rdBody at h hc ⊢
  split at h
  · next e =>
    subst e
    clear hc
    simp only [if_true, bodyB, fl0] at h ⊢
    generalize e1 : rdText r 200 = x1 at h ⊢
    obtain ⟨p, r1⟩ := x1
    generalize e2 : rdText r1 1000 = x2 at h ⊢
    obtain ⟨d, r2⟩ := x2
    generalize e3 : rdInt r2 = x3 at h ⊢
    obtain ⟨o, r3⟩ := x3
    generalize e4 : rdInt r3 = x4 at h ⊢
    obtain ⟨c, r4⟩ := x4
    dsimp only at h
    subst h
    obtain rfl := (rdInt_inv e4).1
    obtain rfl := (rdInt_inv e3).1
    obtain rfl := (rdText_inv2 e2).1
    obtain rfl := (rdText_inv2 e1).1
    simp
  · next n1 =>
    rw [if_neg n1] at hc ⊢
    split at h
    · next e =>
      subst e
      clear hc
      simp only [if_true, bodyB, fl0] at h ⊢
      generalize e1 : rdText r 200 = x1 at h ⊢
      obtain ⟨p, r1⟩ := x1
      generalize e3 : rdInt r1 = x3 at h ⊢
      obtain ⟨c, r3⟩ := x3
      dsimp only at h
      subst h
      obtain rfl := (rdInt_inv e3).1
      obtain rfl := (rdText_inv2 e1).1
      simp
    · next n2 =>
      rw [if_neg n2] at hc ⊢
      split at h
      · next e =>
        subst e
        clear hc
        simp only [if_true, bodyB, fl0] at h ⊢
        generalize e1 : rdText r 200 = x1 at h ⊢
        obtain ⟨p, r1⟩ := x1
        generalize e2 : rdText r1 1000 = x2 at h ⊢
        obtain ⟨d, r2⟩ := x2
        generalize e3 : rdInt r2 = x3 at h ⊢
        obtain ⟨o, r3⟩ := x3
        dsimp only at h
        subst h
        obtain rfl := (rdInt_inv e3).1
        obtain rfl := (rdText_inv2 e2).1
        obtain rfl := (rdText_inv2 e1).1
        simp
      · next n3 =>
        rw [if_neg n3] at hc ⊢
        split at h
        · next e =>
          subst e
          clear hc
          simp only [if_true, bodyB, fl0] at h ⊢
          have := (rdInt_inv' h).1
          simpa using this
        · next n4 =>
          rw [if_neg n4] at hc ⊢
          split at h
          · next e =>
            subst e
            clear hc
            simp only [if_true, bodyB, fl0] at h ⊢
            have := (rdInt_inv' h).1
            simpa using this
          · next n5 =>
            rw [if_neg n5] at hc ⊢
            split at h
            · next e =>
              rw [if_pos e] at hc ⊢
              have hc := hc e
              subst e
              simp only [fl0] at h hc ⊢
              simp only [bodyB]
              rw [if_neg (by omega), if_neg (by omega), if_neg (by omega), if_neg (by omega), if_neg (by omega), if_pos trivial]
              have := (rdText_inv h).1
              rw [← cfg_read hc]
              exact this
            · next n7 =>
              rw [if_neg n7] at hc ⊢
              split at h
              · next e =>
                subst e
                clear hc
                simp only [if_true, bodyB, fl0] at h ⊢
                have := (rdInt_inv' h).1
                simpa using this
              · next n9 =>
                rw [if_neg n9]
                dsimp only at h
                subst h
                simp [bodyB, fl0, n1, n2, n3, n4, n5, n7, n9]
theorem rdBody_none (k : Int) : (rdBody k none).2 = none := by
  unfold rdBody
  repeat' split
  all_goals simp [rdInt_none', rdText_none]
theorem rdBody_kind (k : Int) (r : Rd) : (rdBody k r).1.kind = k := by
  unfold rdBody
  repeat' split
  all_goals rfl
theorem rdBody_np (k : Int) (r : Rd) : (rdBody k r).1.np = 0 := by
  unfold rdBody
  repeat' split
  all_goals rfl
theorem rdPart_none : (rdPart none).2 = none := by unfold rdPart; rw [rdByte_none]; exact rdBody_none _
theorem u8_toNat (x : UInt8) : u8 (x.toNat : Int) = x := by
  unfold u8
  have := x.toNat_lt
  rw [show ((x.toNat : Int) % 256).toNat = x.toNat by omega]
  exact UInt8.ofNat_toNat
theorem rdPart_inv {r : Rd} {t : List UInt8} (h : (rdPart r).2 = some t) (hc : isNode (rdPart r).1.kind = true) : r = some (prtB (rdPart r).1 ++ t) := by
  unfold rdPart at h hc ⊢
  obtain ⟨s, e⟩ := some_of (f := rdBody _) (rdBody_none _) h
  have h1 := rdByte_inv e
  rw [rdBody_kind] at hc
  have h2 := rdBody_inv h (fun e => by rw [e] at hc; simp [isNode] at hc)
  rw [prtB, rdBody_kind, u8_toNat, List.cons_append]
  rw [h2] at e
  cases e
  exact h1
theorem rdParts_none : ∀ n, (rdParts n none).2 = none
  | 0 => rfl
  | n + 1 => by rw [rdParts, rdPart_none]; exact rdParts_none n
theorem rdParts_len : ∀ n r, (rdParts n r).1.length = n
  | 0, _ => rfl
  | n + 1, r => by rw [rdParts]; simp [rdParts_len n]
theorem rdParts_inv : ∀ (n : Nat) {r : Rd} {t : List UInt8}, (rdParts n r).2 = some t → (∀ p ∈ (rdParts n r).1, isNode p.kind = true) → r = some (prtsB (rdParts n r).1 ++ t)
  | 0, r, t, h, _ => by rw [rdParts] at h ⊢; simpa [prtsB] using h
  | n + 1, r, t, h, hk => by
    rw [rdParts] at h hk ⊢
    dsimp only at h hk ⊢
    obtain ⟨s, e⟩ := some_of (f := rdParts n) (rdParts_none n) h
    have h1 := rdPart_inv e (hk _ List.mem_cons_self)
    have h2 := rdParts_inv n h (fun p hp => hk p (List.mem_cons_of_mem _ hp))
    rw [h2] at e
    cases e
    refine h1.trans ?_
    simp [prtsB]
theorem rdHead_none : (rdHead none).2 = none := rfl
theorem rdHead_inv {r : Rd} {t : List UInt8} (h : (rdHead r).2 = some t) : r = some (numB (rdHead r).1.zxid ++ (numB (rdHead r).1.session ++ (numB (rdHead r).1.turn ++ (numB (rdHead r).1.xid ++ (numB (rdHead r).1.time ++ t))))) := by
  unfold rdHead at h ⊢
  dsimp only at h ⊢
  generalize e1 : rdInt r = x1 at h ⊢
  obtain ⟨n1, r1⟩ := x1
  generalize e2 : rdInt r1 = x2 at h ⊢
  obtain ⟨n2, r2⟩ := x2
  generalize e3 : rdInt r2 = x3 at h ⊢
  obtain ⟨n3, r3⟩ := x3
  generalize e4 : rdInt r3 = x4 at h ⊢
  obtain ⟨n4, r4⟩ := x4
  generalize e5 : rdInt r4 = x5 at h ⊢
  obtain ⟨n5, r5⟩ := x5
  dsimp only at h
  subst h
  obtain rfl := (rdInt_inv e5).1
  obtain rfl := (rdInt_inv e4).1
  obtain rfl := (rdInt_inv e3).1
  obtain rfl := (rdInt_inv e2).1
  obtain rfl := (rdInt_inv e1).1
  simp

/- What is right. -/
theorem partB_node {a : Bool} {p : Fl} (h : partB a p = true) : isNode p.kind = true ∧ headZ p = true ∧ leafB p = true := by
  unfold partB at h
  cases a with
  | true => simp only [if_true, Bool.and_eq_true] at h; exact ⟨h.1.1, h.1.2, h.2⟩
  | false =>
    simp only [Bool.false_eq_true, if_false, Bool.and_eq_true, decide_eq_true_eq] at h
    exact ⟨by rw [h.1.1]; rfl, h.1.2, h.2⟩
theorem fits_parts {f : Fl} {ps : List Fl} (h : fitsB f ps = true) (hp : hasParts f.kind = true) : ps.length ≤ 500 ∧ ∀ p ∈ ps, isNode p.kind = true ∧ headZ p = true ∧ leafB p = true := by
  unfold hasParts at hp
  simp only [Bool.or_eq_true, decide_eq_true_eq] at hp
  rcases hp with e | e
  · have hn : isNode f.kind = false := by rw [e]; rfl
    unfold fitsB at h
    rw [hn] at h
    simp only [Bool.false_eq_true, if_false, Bool.and_eq_true, kindB, e, Int.reduceEq, if_true, decide_eq_true_eq, List.all_eq_true] at h
    exact ⟨h.2.1.2, fun p hp => partB_node (h.2.2 p hp)⟩
  · have hn : isNode f.kind = false := by rw [e]; rfl
    unfold fitsB at h
    rw [hn] at h
    simp only [Bool.false_eq_true, if_false, Bool.and_eq_true, kindB, e, Int.reduceEq, if_true, decide_eq_true_eq, List.all_eq_true] at h
    exact ⟨by omega, fun p hp => partB_node (h.2.2 p hp)⟩
theorem fits_cfg {f : Fl} {ps : List Fl} (h : fitsB f ps = true) (e : f.kind = 7) : f.cver = f.zxid ∧ chk f.cver f.mems = 0 := by
  have hn : isNode f.kind = false := by rw [e]; rfl
  unfold fitsB at h
  rw [hn] at h
  simp only [Bool.false_eq_true, if_false, Bool.and_eq_true, kindB, e, Int.reduceEq, if_true, decide_eq_true_eq] at h
  exact h.2

/- The fields that a right body has, one by one. -/
theorem under_at : ∀ (a b : List Bool) (j : Nat), under a b = true → b[j]? = some false → a[j]? = some false ∨ a[j]? = none
  | [], b, j, _, _ => .inr rfl
  | a :: l, [], j, _, h => by simp at h
  | a :: l, b :: r, 0, h, hb => by
    simp at hb
    subst hb
    simp [under] at h
    left; simp [h.1]
  | a :: l, b :: r, j + 1, h, hb => by
    simp only [under, Bool.and_eq_true] at h
    simpa using under_at l r j h.2 (by simpa using hb)
theorem com_parts {f : Fl} (h : comB f = true) : bareB f = true ∧ f.data.length ≤ 1000 ∧ 0 ≤ f.owner ∧ 0 ≤ f.version ∧ 0 ≤ f.cversion ∧ 0 ≤ f.timeout ∧ 0 ≤ f.err := by
  unfold comB numsB at h
  simp only [Bool.and_eq_true, decide_eq_true_eq] at h
  exact ⟨h.1.1, h.1.2, h.2.1.1.1.1, h.2.1.1.1.2, h.2.1.1.2, h.2.1.2, h.2.2⟩
theorem leaf_parts {f : Fl} (h : leafB f = true) : isNode f.kind = true ∧ comB f = true ∧ PA.right f.path = true := by
  unfold leafB at h
  simp only [Bool.and_eq_true] at h
  exact ⟨h.1.1.1, h.1.1.2, h.1.2⟩
theorem fits_com {f : Fl} {ps : List Fl} (h : fitsB f ps = true) : comB f = true ∧ (isNode f.kind = true → leafB f = true) := by
  unfold fitsB at h
  split at h
  · exact ⟨(leaf_parts h).2.1, fun _ => h⟩
  · next hn => exact ⟨(Bool.and_eq_true _ _ ▸ h).1, fun e => absurd e hn⟩
/- What a body says, put and read again: the rest of the fields says nothing. -/
def bodyOf (f : Fl) : Fl := { f with zxid := 0, session := 0, turn := 0, xid := 0, time := 0, np := 0 }
theorem bare_fields {f : Fl} (h : bareB f = true) (k : Int) (hk : f.kind = k) :
    ((allow k)[0]? = some false → f.path = []) ∧ ((allow k)[1]? = some false → f.data = []) ∧ ((allow k)[2]? = some false → f.owner = 0) ∧ ((allow k)[3]? = some false → f.version = 0) ∧ ((allow k)[4]? = some false → f.cversion = 0) ∧
    ((allow k)[5]? = some false → f.timeout = 0) ∧ ((allow k)[6]? = some false → f.err = 0) ∧ ((allow k)[7]? = some false → f.cver = 0 ∧ f.mems = []) ∧ ((allow k)[8]? = some false → f.np = 0) := by
  unfold bareB at h
  rw [hk] at h
  refine ⟨fun e => ?_, fun e => ?_, fun e => ?_, fun e => ?_, fun e => ?_, fun e => ?_, fun e => ?_, fun e => ?_, fun e => ?_⟩
  all_goals
    have := under_at _ _ _ h e
    simp [flags] at this
    first | exact this | exact ⟨this.1, List.length_eq_zero_iff.1 (by simpa using this.2)⟩ | skip
theorem right_len200 {p : List UInt8} (h : PA.right p = true) : p.length ≤ 200 := PA.right_len h
theorem cfgB_len' {ver : Int} {l : List Mem} (h : chk ver l = 0) : (cfgB ver l).length ≤ 1048576 := by
  have := cfgB_len h; omega
theorem rdBody_put {f : Fl} {ps : List Fl} (hf : FlFit f) (h : fitsB f ps = true) (t : List UInt8) : rdBody f.kind (some (bodyB f ++ t)) = (bodyOf f, some t) := by
  obtain ⟨hc, hl⟩ := fits_com h
  obtain ⟨hb, hd, _, _, _, _, _⟩ := com_parts hc
  unfold rdBody bodyB
  by_cases e1 : f.kind = 1
  · have e := e1
    rw [if_pos e, if_pos e]
    have hr := right_len200 (leaf_parts (hl (by rw [e]; rfl))).2.2
    obtain ⟨b0, b1, b2, b3, b4, b5, b6, b7, b8⟩ := bare_fields hb 1 e
    have b3 := b3 rfl; have b5 := b5 rfl; have b6 := b6 rfl; have b7 := b7 rfl
    simp only [List.append_assoc]
    rw [rdText_text _ (by omega) 200 (by omega)]
    dsimp only
    rw [rdText_text _ (by omega) 1000 (by omega)]
    dsimp only
    rw [rdInt_num _ hf.owner.1 hf.owner.2]
    dsimp only
    rw [rdInt_num _ hf.cversion.1 hf.cversion.2]
    simp [bodyOf, fl0, b3, b5, b6, b7]
  · have n1 := e1
    rw [if_neg n1, if_neg n1]
    by_cases e2 : f.kind = 2
    · have e := e2
      rw [if_pos e, if_pos e]
      have hr := right_len200 (leaf_parts (hl (by rw [e]; rfl))).2.2
      obtain ⟨b0, b1, b2, b3, b4, b5, b6, b7, b8⟩ := bare_fields hb 2 e
      have b1 := b1 rfl; have b2 := b2 rfl; have b3 := b3 rfl; have b5 := b5 rfl; have b6 := b6 rfl; have b7 := b7 rfl
      simp only [List.append_assoc]
      rw [rdText_text _ (by omega) 200 (by omega)]
      dsimp only
      rw [rdInt_num _ hf.cversion.1 hf.cversion.2]
      simp [bodyOf, fl0, b1, b2, b3, b5, b6, b7]
    · have n2 := e2
      rw [if_neg n2, if_neg n2]
      by_cases e3 : f.kind = 3
      · have e := e3
        rw [if_pos e, if_pos e]
        have hr := right_len200 (leaf_parts (hl (by rw [e]; rfl))).2.2
        obtain ⟨b0, b1, b2, b3, b4, b5, b6, b7, b8⟩ := bare_fields hb 3 e
        have b2 := b2 rfl; have b4 := b4 rfl; have b5 := b5 rfl; have b6 := b6 rfl; have b7 := b7 rfl
        simp only [List.append_assoc]
        rw [rdText_text _ (by omega) 200 (by omega)]
        dsimp only
        rw [rdText_text _ (by omega) 1000 (by omega)]
        dsimp only
        rw [rdInt_num _ hf.version.1 hf.version.2]
        simp [bodyOf, fl0, b2, b4, b5, b6, b7]
      · have n3 := e3
        rw [if_neg n3, if_neg n3]
        by_cases e4 : f.kind = 4
        · have e := e4
          rw [if_pos e, if_pos e]
          obtain ⟨b0, b1, b2, b3, b4, b5, b6, b7, b8⟩ := bare_fields hb 4 e
          have b0 := b0 rfl; have b1 := b1 rfl; have b2 := b2 rfl; have b3 := b3 rfl; have b4 := b4 rfl; have b6 := b6 rfl; have b7 := b7 rfl
          rw [rdInt_num _ hf.timeout.1 hf.timeout.2]
          simp [bodyOf, fl0, b0, b1, b2, b3, b4, b6, b7]
        · have n4 := e4
          rw [if_neg n4, if_neg n4]
          by_cases e5 : f.kind = 5
          · have e := e5
            rw [if_pos e, if_pos e]
            obtain ⟨b0, b1, b2, b3, b4, b5, b6, b7, b8⟩ := bare_fields hb 5 e
            have b0 := b0 rfl; have b1 := b1 rfl; have b3 := b3 rfl; have b4 := b4 rfl; have b5 := b5 rfl; have b6 := b6 rfl; have b7 := b7 rfl
            rw [rdInt_num _ hf.owner.1 hf.owner.2]
            simp [bodyOf, fl0, b0, b1, b3, b4, b5, b6, b7]
          · have n5 := e5
            rw [if_neg n5, if_neg n5]
            by_cases e7 : f.kind = 7
            · have e := e7
              rw [if_pos e, if_pos e]
              obtain ⟨b0, b1, b2, b3, b4, b5, b6, b7, b8⟩ := bare_fields hb 7 e
              have b0 := b0 rfl; have b1 := b1 rfl; have b2 := b2 rfl; have b3 := b3 rfl; have b4 := b4 rfl; have b5 := b5 rfl; have b6 := b6 rfl
              have hk := (fits_cfg h e).2
              have hcl := cfgB_len' hk
              rw [rdText_text _ (by omega) 1048576 (by omega)]
              dsimp only
              rw [(cfgOf_iff _ _ _).2 ⟨rfl, hk⟩]
              simp [bodyOf, fl0, cfgOr, b0, b1, b2, b3, b4, b5, b6]
            · have n7 := e7
              rw [if_neg n7, if_neg n7]
              by_cases e9 : f.kind = 9
              · have e := e9
                rw [if_pos e, if_pos e]
                obtain ⟨b0, b1, b2, b3, b4, b5, b6, b7, b8⟩ := bare_fields hb 9 e
                have b0 := b0 rfl; have b1 := b1 rfl; have b2 := b2 rfl; have b3 := b3 rfl; have b4 := b4 rfl; have b5 := b5 rfl; have b7 := b7 rfl
                rw [rdInt_num _ hf.err.1 hf.err.2]
                simp [bodyOf, fl0, b0, b1, b2, b3, b4, b5, b7]
              · have n9 := e9
                rw [if_neg n9, if_neg n9]
                by_cases e : f.kind = 8
                · obtain ⟨b0, b1, b2, b3, b4, b5, b6, b7, b8⟩ := bare_fields hb 8 e
                  have b0 := b0 rfl; have b1 := b1 rfl; have b2 := b2 rfl; have b3 := b3 rfl; have b4 := b4 rfl; have b5 := b5 rfl; have b6 := b6 rfl; have b7 := b7 rfl
                  simp [bodyOf, fl0, b0, b1, b2, b3, b4, b5, b6, b7]
                · have ea : allow f.kind = [false, false, false, false, false, false, false, false, false] := by simp [allow, n1, n2, n3, n4, n5, n7, n9, e]
                  obtain ⟨b0, b1, b2, b3, b4, b5, b6, b7, b8⟩ := bare_fields hb f.kind rfl
                  rw [ea] at b0 b1 b2 b3 b4 b5 b6 b7
                  have b0 := b0 rfl; have b1 := b1 rfl; have b2 := b2 rfl; have b3 := b3 rfl; have b4 := b4 rfl; have b5 := b5 rfl; have b6 := b6 rfl; have b7 := b7 rfl
                  simp [bodyOf, fl0, b0, b1, b2, b3, b4, b5, b6, b7]
end Go.Proofs.YtkbmbnfpadllmaaDoor
/- Plain mathematics of deeds: bytes and what is read of them go tmo and fro; no program in this text. -/
namespace Go.Proofs.YtkbmbnfpadllmaaDoor

theorem node_kind {k : Int} (h : isNode k = true) : k = 1 ∨ k = 2 ∨ k = 3 := by
  unfold isNode at h
  simp only [Bool.or_eq_true, decide_eq_true_eq] at h
  omega
theorem u8_back {k : Int} (h : 0 ≤ k ∧ k < 256) : ((u8 k).toNat : Int) = k := by
  unfold u8
  rw [show (k % 256).toNat = k.toNat by omega, ofNat_small (by omega)]
  omega
theorem np_zero {f : Fl} (hb : bareB f = true) (h : hasParts f.kind = false) : f.np = 0 := by
  refine (bare_fields hb f.kind rfl).2.2.2.2.2.2.2.2 ?_
  unfold hasParts at h
  simp only [Bool.or_eq_false_iff, decide_eq_false_iff_not] at h
  unfold allow
  simp only [h.1, h.2, if_false]
  repeat' split
  all_goals rfl
theorem node_parts {k : Int} (h : isNode k = true) : hasParts k = false := by
  rcases node_kind h with rfl | rfl | rfl <;> rfl
theorem bodyOf_leaf {p : Fl} (hz : headZ p = true) (hl : leafB p = true) : bodyOf p = p := by
  obtain ⟨h1, h2, _⟩ := leaf_parts hl
  have hn := np_zero (com_parts h2).1 (node_parts h1)
  unfold headZ at hz
  simp only [Bool.and_eq_true, decide_eq_true_eq] at hz
  unfold bodyOf
  obtain ⟨⟨⟨⟨z1, z2⟩, z3⟩, z4⟩, z5⟩ := hz
  cases p
  simp_all
theorem rdPart_put {p : Fl} (hf : FlFit p) (hz : headZ p = true) (hl : leafB p = true) (t : List UInt8) : rdPart (some (prtB p ++ t)) = (p, some t) := by
  unfold rdPart prtB
  rw [List.cons_append]
  simp only [rdByte]
  rw [u8_back hf.kind]
  have hfit : fitsB p [] = true := by unfold fitsB; rw [if_pos (leaf_parts hl).1]; exact hl
  rw [rdBody_put hf hfit, bodyOf_leaf hz hl]
theorem rdParts_put : ∀ (ps : List Fl), (∀ p ∈ ps, FlFit p ∧ headZ p = true ∧ leafB p = true) → ∀ t, rdParts ps.length (some (prtsB ps ++ t)) = (ps, some t)
  | [], _, t => by simp [rdParts, prtsB]
  | p :: ps, h, t => by
    have hp := h p List.mem_cons_self
    rw [List.length_cons, rdParts]
    have e : prtsB (p :: ps) ++ t = prtB p ++ (prtsB ps ++ t) := by simp [prtsB]
    rw [e, rdPart_put hp.1 hp.2.1 hp.2.2]
    dsimp only
    rw [rdParts_put ps (fun q hq => h q (List.mem_cons_of_mem _ hq))]
theorem rdInt_I64 (r : Rd) : I64 (rdInt r).1 := by
  cases h : (rdInt r).2 with
  | some t => exact (rdInt_inv' h).2
  | none =>
    cases r with
    | none => exact ⟨by decide, by decide⟩
    | some l =>
      simp only [rdInt] at h ⊢
      split at h
      · cases h
      · exact ⟨by decide, by decide⟩
theorem cfgOr_I64 (b : List UInt8) : I64 (cfgOr (cfgOf b)).1 := by
  cases h : cfgOf b with
  | none => exact ⟨by decide, by decide⟩
  | some x =>
    have h1 := ((cfgOf_iff b x.1 x.2).1 h).2
    obtain ⟨_, h2, h3, _⟩ := chk_ok h1
    show I64 x.1
    exact ⟨by omega, by omega⟩
theorem I64_0 : I64 0 := ⟨by decide, by decide⟩
theorem rdBody_fit (k : Int) (r : Rd) (hk : 0 ≤ k ∧ k < 256) : FlFit (rdBody k r).1 := by
  unfold rdBody
  by_cases e1 : k = 1
  · rw [if_pos e1]; exact ⟨I64_0, hk, I64_0, I64_0, I64_0, I64_0, rdInt_I64 _, I64_0, rdInt_I64 _, I64_0, I64_0, I64_0⟩
  · rw [if_neg e1]
    by_cases e2 : k = 2
    · rw [if_pos e2]; exact ⟨I64_0, hk, I64_0, I64_0, I64_0, I64_0, I64_0, I64_0, rdInt_I64 _, I64_0, I64_0, I64_0⟩
    · rw [if_neg e2]
      by_cases e3 : k = 3
      · rw [if_pos e3]; exact ⟨I64_0, hk, I64_0, I64_0, I64_0, I64_0, I64_0, rdInt_I64 _, I64_0, I64_0, I64_0, I64_0⟩
      · rw [if_neg e3]
        by_cases e4 : k = 4
        · rw [if_pos e4]; exact ⟨I64_0, hk, I64_0, I64_0, I64_0, I64_0, I64_0, I64_0, I64_0, rdInt_I64 _, I64_0, I64_0⟩
        · rw [if_neg e4]
          by_cases e5 : k = 5
          · rw [if_pos e5]; exact ⟨I64_0, hk, I64_0, I64_0, I64_0, I64_0, rdInt_I64 _, I64_0, I64_0, I64_0, I64_0, I64_0⟩
          · rw [if_neg e5]
            by_cases e7 : k = 7
            · rw [if_pos e7]; exact ⟨I64_0, hk, I64_0, I64_0, I64_0, I64_0, I64_0, I64_0, I64_0, I64_0, I64_0, cfgOr_I64 _⟩
            · rw [if_neg e7]
              by_cases e9 : k = 9
              · rw [if_pos e9]; exact ⟨I64_0, hk, I64_0, I64_0, I64_0, I64_0, I64_0, I64_0, I64_0, I64_0, rdInt_I64 _, I64_0⟩
              · rw [if_neg e9]; exact ⟨I64_0, hk, I64_0, I64_0, I64_0, I64_0, I64_0, I64_0, I64_0, I64_0, I64_0, I64_0⟩
theorem byte_kind (x : UInt8) : 0 ≤ (x.toNat : Int) ∧ (x.toNat : Int) < 256 := by have := x.toNat_lt; omega
theorem rdParts_fit : ∀ n r, ∀ p ∈ (rdParts n r).1, FlFit p
  | 0, r, p, h => by simp [rdParts] at h
  | n + 1, r, p, h => by
    rw [rdParts] at h
    rcases List.mem_cons.1 h with rfl | h
    · exact rdBody_fit _ _ (byte_kind _)
    · exact rdParts_fit n _ p h
theorem withHead_fit (h : Hd) (f : Fl) (n : Nat) (h1 : I64 h.zxid) (h2 : I64 h.session) (h3 : I64 h.turn) (h4 : I64 h.xid) (h5 : I64 h.time) (hf : FlFit f) : FlFit (withHead h f n) :=
  ⟨h1, hf.kind, h2, h3, h4, h5, hf.owner, hf.version, hf.cversion, hf.timeout, hf.err, hf.cver⟩
theorem bodyB_head (h : Hd) (f : Fl) (n : Nat) : bodyB (withHead h f n) = bodyB f := rfl
structure DedFit (f : Fl) (ps : List Fl) : Prop where
  top : FlFit f
  all : ∀ p ∈ ps, FlFit p
  len : f.np = ps.length
theorem rdAll_fit (b : List UInt8) : DedFit (rdAll b).1 (rdAll b).2.1 := by
  refine ⟨withHead_fit _ _ _ (rdInt_I64 _) (rdInt_I64 _) (rdInt_I64 _) (rdInt_I64 _) (rdInt_I64 _) (rdBody_fit _ _ (byte_kind _)), fun p hp => ?_, rfl⟩
  have : p ∈ (rdTail ((rdByte (some b)).1.toNat : Int) (rdBody ((rdByte (some b)).1.toNat : Int) (rdHead (rdByte (some b)).2).2).2).1 := hp
  unfold rdTail at this
  split at this
  · exact rdParts_fit _ _ p this
  · simp at this
theorem rdTail_none (k : Int) : (rdTail k none).2 = none := by
  unfold rdTail
  split
  · rw [rdCount_none]; exact rdParts_none _
  · rfl
theorem rightD_fits {f : Fl} {ps : List Fl} (h : rightD f ps = true) : fitsB f ps = true := by
  unfold rightD at h
  simp only [Bool.and_eq_true] at h
  exact h.2
theorem rdAll_inv {b : List UInt8} (h : (rdAll b).2.2 = some []) (hr : rightD (rdAll b).1 (rdAll b).2.1 = true) : b = deedB (rdAll b).1 (rdAll b).2.1 := by
  have hfit := rightD_fits hr
  unfold rdAll at h hfit ⊢
  dsimp only at h hfit ⊢
  generalize e1 : rdByte (some b) = x1 at h hfit ⊢
  obtain ⟨kb, r1⟩ := x1
  generalize e2 : rdHead r1 = x2 at h hfit ⊢
  obtain ⟨hd, r2⟩ := x2
  dsimp only at h hfit ⊢
  generalize e3 : rdBody (kb.toNat : Int) r2 = x3 at h hfit ⊢
  obtain ⟨f, r3⟩ := x3
  dsimp only at h hfit ⊢
  generalize e4 : rdTail (kb.toNat : Int) r3 = x4 at h hfit ⊢
  obtain ⟨ps, r4⟩ := x4
  dsimp only at h hfit ⊢
  subst h
  have hkind : f.kind = (kb.toNat : Int) := by have := rdBody_kind (kb.toNat : Int) r2; rwa [e3] at this
  have hkw : (withHead hd f ps.length).kind = (kb.toNat : Int) := hkind
  have t4 : r3 = some (tailB (withHead hd f ps.length) ps) := by
    unfold tailB
    rw [hkw]
    unfold rdTail at e4
    split at e4
    · next hp =>
      rw [if_pos hp]
      have hps := fits_parts hfit (by rw [hkw]; exact hp)
      generalize e5 : rdCount r3 500 = x5 at e4
      obtain ⟨n, r5⟩ := x5
      dsimp only at e4
      have q1 : (rdParts n.toNat r5).1 = ps := by rw [e4]
      have q2 : (rdParts n.toNat r5).2 = some [] := by rw [e4]
      have q3 := rdParts_inv n.toNat q2 (fun p hp => (hps.2 p (by rw [← q1]; exact hp)).1)
      rw [q1, List.append_nil] at q3
      subst q3
      obtain ⟨c1, c2, c3⟩ := rdCount_inv e5
      have q4 : (ps.length : Int) = n := by rw [← q1, rdParts_len]; omega
      rw [c1, q4]
    · next hp =>
      rw [if_neg hp]
      cases e4; rfl
  subst t4
  have t3 : r2 = some (bodyB f ++ tailB (withHead hd f ps.length) ps) := by
    have := rdBody_inv (k := (kb.toNat : Int)) (r := r2) (t := tailB (withHead hd f ps.length) ps) (by rw [e3]) (fun e => by
      rw [e3]
      exact (fits_cfg hfit (by rw [hkw]; exact e)).2)
    rwa [e3] at this
  subst t3
  have t2 := rdHead_inv (show (rdHead r1).2 = some (bodyB f ++ tailB (withHead hd f ps.length) ps) by rw [e2])
  rw [e2] at t2
  dsimp only at t2
  subst t2
  have t1 := rdByte_inv2 e1
  unfold deedB
  rw [hkw, u8_toNat, bodyB_head]
  cases t1
  rfl
theorem rdAll_put {f : Fl} {ps : List Fl} (hf : DedFit f ps) (hr : rightD f ps = true) : rdAll (deedB f ps) = (f, ps, some []) := by
  have hfit := rightD_fits hr
  unfold rdAll deedB
  simp only [rdByte]
  rw [u8_back hf.top.kind]
  unfold rdHead
  rw [rdInt_num _ hf.top.zxid.1 hf.top.zxid.2]
  dsimp only
  rw [rdInt_num _ hf.top.session.1 hf.top.session.2]
  dsimp only
  rw [rdInt_num _ hf.top.turn.1 hf.top.turn.2]
  dsimp only
  rw [rdInt_num _ hf.top.xid.1 hf.top.xid.2]
  dsimp only
  rw [rdInt_num _ hf.top.time.1 hf.top.time.2]
  dsimp only
  rw [rdBody_put hf.top hfit]
  dsimp only
  have ht : rdTail f.kind (some (tailB f ps)) = (ps, some []) := by
    unfold rdTail tailB
    cases hp : hasParts f.kind with
    | true =>
      have hps := fits_parts hfit hp
      rw [if_pos rfl, if_pos rfl, rdCount_num _ 500 (by omega) (by omega) (by omega)]
      dsimp only
      rw [Int.toNat_natCast]
      have := rdParts_put ps (fun p hp => ⟨hf.all p hp, (hps.2 p hp).2.1, (hps.2 p hp).2.2⟩) []
      rwa [List.append_nil] at this
    | false =>
      have h0 := np_zero (com_parts (fits_com hfit).1).1 hp
      have : ps = [] := List.length_eq_zero_iff.1 (by rw [← hf.len]; exact h0)
      rw [if_neg (by simp), if_neg (by simp), this]
  rw [ht]
  dsimp only
  refine Prod.ext ?_ rfl
  show withHead _ (bodyOf f) ps.length = f
  unfold withHead bodyOf
  have := hf.len
  cases f
  simp_all
theorem deedOf_put {f : Fl} {ps : List Fl} (hf : DedFit f ps) (hr : rightD f ps = true) : deedOf (deedB f ps) = some (f, ps) := by
  unfold deedOf
  rw [rdAll_put hf hr, if_pos ⟨rfl, hr⟩]
theorem deedOf_iff (b : List UInt8) (f : Fl) (ps : List Fl) : deedOf b = some (f, ps) ↔ b = deedB f ps ∧ rightD f ps = true ∧ DedFit f ps := by
  constructor
  · intro h
    unfold deedOf at h
    split at h
    · next hh =>
      cases h
      exact ⟨rdAll_inv hh.1 hh.2, hh.2, rdAll_fit b⟩
    · cases h
  · rintro ⟨rfl, h1, h2⟩
    exact deedOf_put h2 h1
end Go.Proofs.YtkbmbnfpadllmaaDoor
/- No beginning of a deed's bytes, and nothing behind them, is a deed's. -/
namespace Go.Proofs.YtkbmbnfpadllmaaDoor

theorem rdAll_more {f : Fl} {ps : List Fl} (hf : DedFit f ps) (hr : rightD f ps = true) (t : List UInt8) : rdAll (deedB f ps ++ t) = (f, ps, some t) := by
  have hfit := rightD_fits hr
  unfold rdAll deedB
  simp only [rdByte, List.cons_append, List.append_assoc]
  rw [u8_back hf.top.kind]
  unfold rdHead
  rw [rdInt_num _ hf.top.zxid.1 hf.top.zxid.2]
  dsimp only
  rw [rdInt_num _ hf.top.session.1 hf.top.session.2]
  dsimp only
  rw [rdInt_num _ hf.top.turn.1 hf.top.turn.2]
  dsimp only
  rw [rdInt_num _ hf.top.xid.1 hf.top.xid.2]
  dsimp only
  rw [rdInt_num _ hf.top.time.1 hf.top.time.2]
  dsimp only
  rw [rdBody_put hf.top hfit]
  dsimp only
  have ht : rdTail f.kind (some (tailB f ps ++ t)) = (ps, some t) := by
    unfold rdTail tailB
    cases hp : hasParts f.kind with
    | true =>
      have hps := fits_parts hfit hp
      rw [if_pos rfl, if_pos rfl, List.append_assoc, rdCount_num _ 500 (by omega) (by omega) (by omega)]
      dsimp only
      rw [Int.toNat_natCast]
      exact rdParts_put ps (fun p hp => ⟨hf.all p hp, (hps.2 p hp).2.1, (hps.2 p hp).2.2⟩) t
    | false =>
      have h0 := np_zero (com_parts (fits_com hfit).1).1 hp
      have : ps = [] := List.length_eq_zero_iff.1 (by rw [← hf.len]; exact h0)
      rw [if_neg (by simp), if_neg (by simp), this, List.nil_append]
  rw [ht]
  dsimp only
  refine Prod.ext ?_ rfl
  show withHead _ (bodyOf f) ps.length = f
  unfold withHead bodyOf
  have := hf.len
  cases f
  simp_all
theorem deedOf_more {f : Fl} {ps : List Fl} (hf : DedFit f ps) (hr : rightD f ps = true) {t : List UInt8} (ht : t ≠ []) : deedOf (deedB f ps ++ t) = none := by
  unfold deedOf
  rw [rdAll_more hf hr, if_neg (fun h => ht (by simpa using h.1))]
theorem deedOf_less {f : Fl} {ps : List Fl} (hf : DedFit f ps) (hr : rightD f ps = true) {k : Nat} (hk : k < (deedB f ps).length) : deedOf ((deedB f ps).take k) = none := by
  cases h : deedOf ((deedB f ps).take k) with
  | none => rfl
  | some p =>
    obtain ⟨g, qs⟩ := p
    obtain ⟨h1, h2, h3⟩ := (deedOf_iff _ _ _).1 h
    have e1 := rdAll_more h3 h2 ((deedB f ps).drop k)
    rw [← h1, List.take_append_drop, rdAll_put hf hr] at e1
    have e2 : (deedB f ps).drop k = [] := by
      have := congrArg (fun x => x.2.2) e1
      simpa using this.symm
    have e3 := congrArg List.length e2
    simp at e3
    omega
end Go.Proofs.YtkbmbnfpadllmaaDoor
/- A right deed's config, and its parts', are small. -/
namespace Go.Proofs.YtkbmbnfpadllmaaDoor.DD

theorem mems_zero {f : Fl} (hb : bareB f = true) (h : ¬ f.kind = 7) : f.mems = [] := by
  refine ((bare_fields hb f.kind rfl).2.2.2.2.2.2.2.1 ?_).2
  unfold allow
  simp only [h, if_false]
  repeat' split
  all_goals rfl
theorem right_mems {f : Fl} {ps : List Fl} (hf : DedFit f ps) (hr : rightD f ps = true) : f.mems.length ≤ 140737488355328 ∧ ∀ p ∈ ps, p.mems.length ≤ 140737488355328 := by
  have h := rightD_fits hr
  have hc := com_parts (fits_com h).1
  constructor
  · by_cases h7 : f.kind = 7
    · unfold fitsB at h
      have hn : ¬ isNode f.kind = true := by rw [h7]; decide
      rw [if_neg hn] at h
      unfold kindB at h
      simp only [h7] at h
      simp at h
      have hk := h.2.2
      unfold chk at hk
      split at hk
      · simp at hk
      · omega
    · rw [mems_zero hc.1 h7]; simp
  · intro p hp
    cases hh : hasParts f.kind with
    | false =>
      have h0 := np_zero hc.1 hh
      have : ps = [] := List.length_eq_zero_iff.1 (by rw [← hf.len]; exact h0)
      subst this
      simp at hp
    | true =>
      obtain ⟨h1, h2, h3⟩ := (fits_parts h hh).2 p hp
      rw [mems_zero (com_parts (leaf_parts h3).2.1).1 (by have := node_kind h1; omega)]
      simp
end Go.Proofs.YtkbmbnfpadllmaaDoor.DD
