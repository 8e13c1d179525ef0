/- Plain mathematics of calls: what a call is, which are right, their bytes, and what is read of bytes; no program in this text. -/
import Derived.Test.YtmojplgoohnmdaaDoorBase
namespace Go.Proofs.YtmojplgoohnmdaaDoor.AK

def I64 (n : Int) : Prop := -9223372036854775808 ≤ n ∧ n < 9223372036854775808
theorem I64_0 : I64 0 := ⟨by decide, by decide⟩
/- A call but for its parts; np: how many these are. -/
structure Qf where
  kind : Int
  xid : Int
  session : Int
  turn : Int
  path : List UInt8
  data : List UInt8
  flags : Int
  version : Int
  watch : Bool
  sort : Int
  last : Int
  timeout : Int
  frm : Int
  mems : List Mem
  np : Nat
  deriving DecidableEq
/- Which fields a kind names: a bit each. -/
def kindsQ : List Int := [0, 2240, 2048, 6151, 6153, 6155, 4105, 2065, 2065, 2065, 2048, 3072, 2816, 2048, 2145]
def kQ (k : Nat) : Int := kindsQ.getD k 0
def has (k : Int) (i : Nat) : Bool := (kQ k.toNat).toNat.testBit i
def idleB (f : Qf) : Bool := (decide (f.path = []) || has f.kind 0) && ((decide (f.data.length = 0) || has f.kind 1) && ((decide (f.flags = 0) || has f.kind 2) && ((decide (f.version = 0) || has f.kind 3) && ((!f.watch || has f.kind 4) && ((decide (f.sort = 0) != has f.kind 5) && ((decide (f.last = 0) || has f.kind 6) && ((decide (f.timeout = 0) != has f.kind 7) && ((decide (f.frm = 0) || has f.kind 8) && ((decide (f.mems.length = 0) || has f.kind 9) && (decide (f.np = 0) != has f.kind 10))))))))))
def withinB (f : Qf) : Bool := (decide (0 ≤ f.flags) && (decide (0 ≤ f.last) && (decide (0 ≤ f.timeout) && decide (0 ≤ f.frm)))) && (decide (-1 ≤ f.version) && (decide (f.flags ≤ 3) && (decide (f.sort ≤ 3) && (decide (f.timeout ≤ 1000) && (decide (f.path.length ≤ 220) && (decide (f.data.length ≤ 1000) && (decide (f.mems.length ≤ 7) && decide (f.np ≤ 16))))))))
def fitQ (f : Qf) : Bool := idleB f && withinB f
def partQ (p : Qf) : Bool := has p.kind 12 && (decide (p.xid = 0) && (decide (p.session = 0) && (decide (p.turn = 0) && fitQ p)))
def rightQ (f : Qf) (ps : List Qf) : Bool := has f.kind 11 && ((decide (0 ≤ f.xid) && (decide (0 ≤ f.session) && decide (0 ≤ f.turn))) && (fitQ f && ps.all partQ))

/- The bytes. -/
def oB (b : Bool) (l : List UInt8) : List UInt8 := if b = true then l else []
def wb (b : Bool) : UInt8 := if b = true then 1 else 0
def memsQ (l : List Mem) : List UInt8 := numB l.length ++ memsB l
def bodyQ (f : Qf) : List UInt8 :=
  oB (has f.kind 0) (textB f.path) ++ (oB (has f.kind 1) (textB f.data) ++ (oB (has f.kind 2) (numB f.flags) ++ (oB (has f.kind 3) (numB f.version) ++ (oB (has f.kind 4) [wb f.watch] ++ (oB (has f.kind 5) [u8 f.sort] ++ (oB (has f.kind 6) (numB f.last) ++ (oB (has f.kind 7) (numB f.timeout) ++ (oB (has f.kind 8) (numB f.frm) ++ oB (has f.kind 9) (memsQ f.mems)))))))))
def prtQ (p : Qf) : List UInt8 := u8 p.kind :: bodyQ p
def prtsQ (ps : List Qf) : List UInt8 := (ps.map prtQ).flatten
def tailQ (f : Qf) (ps : List Qf) : List UInt8 := oB (has f.kind 10) (numB ps.length ++ prtsQ ps)
def askB (f : Qf) (ps : List Qf) : List UInt8 := u8 f.kind :: (numB f.xid ++ (numB f.session ++ (numB f.turn ++ (bodyQ f ++ tailQ f ps))))

/- What is read. -/
def oR {α : Type} (b : Bool) (d : α) (f : Rd → α × Rd) (r : Rd) : α × Rd := if b = true then f r else (d, r)
def rdWatch (r : Rd) : Bool × Rd := (decide ((rdByte r).1 = 1), (rdByte r).2)
def rdSort (r : Rd) : Int × Rd := (((rdByte r).1.toNat : Int), (rdByte r).2)
def rdMemQ (r : Rd) : Mem × Rd :=
  (⟨(rdInt r).1, (rdInt (rdInt r).2).1 % 256, (rdInt (rdInt (rdInt r).2).2).1, (rdInt (rdInt (rdInt (rdInt r).2).2).2).1⟩, (rdInt (rdInt (rdInt (rdInt r).2).2).2).2)
def rdMemsQ : Nat → Rd → List Mem × Rd
  | 0, r => ([], r)
  | n + 1, r => ((rdMemQ r).1 :: (rdMemsQ n (rdMemQ r).2).1, (rdMemsQ n (rdMemQ r).2).2)
def rdMems7 (r : Rd) : List Mem × Rd := rdMemsQ (rdCount r 7).1.toNat (rdCount r 7).2
def rdBodyQ (k : Int) (r : Rd) : Qf × Rd :=
  let p := oR (has k 0) [] (fun r => rdText r 220) r
  let d := oR (has k 1) [] (fun r => rdText r 1000) p.2
  let fl := oR (has k 2) 0 rdInt d.2
  let v := oR (has k 3) 0 rdInt fl.2
  let wa := oR (has k 4) false rdWatch v.2
  let so := oR (has k 5) 0 rdSort wa.2
  let la := oR (has k 6) 0 rdInt so.2
  let ti := oR (has k 7) 0 rdInt la.2
  let fr := oR (has k 8) 0 rdInt ti.2
  let ms := oR (has k 9) [] rdMems7 fr.2
  (⟨k, 0, 0, 0, p.1, d.1, fl.1, v.1, wa.1, so.1, la.1, ti.1, fr.1, ms.1, 0⟩, ms.2)
def rdPartQ (r : Rd) : Qf × Rd := rdBodyQ ((rdByte r).1.toNat : Int) (rdByte r).2
def rdPartsQ : Nat → Rd → List Qf × Rd
  | 0, r => ([], r)
  | n + 1, r => ((rdPartQ r).1 :: (rdPartsQ n (rdPartQ r).2).1, (rdPartsQ n (rdPartQ r).2).2)
def rdParts16 (r : Rd) : List Qf × Rd := rdPartsQ (rdCount r 16).1.toNat (rdCount r 16).2
def withHead (f : Qf) (x s t : Int) (n : Nat) : Qf := { f with xid := x, session := s, turn := t, np := n }
def rdQ (b : List UInt8) : Qf × List Qf × Rd :=
  let k := rdByte (some b)
  let x := rdInt k.2
  let s := rdInt x.2
  let t := rdInt s.2
  let f := rdBodyQ (k.1.toNat : Int) t.2
  let ps := oR (has (k.1.toNat : Int) 10) [] rdParts16 f.2
  (withHead f.1 x.1 s.1 t.1 ps.1.length, ps.1, ps.2)
def askOf (b : List UInt8) : Option (Qf × List Qf) :=
  if rightQ (rdQ b).1 (rdQ b).2.1 = true ∧ askB (rdQ b).1 (rdQ b).2.1 = b then some ((rdQ b).1, (rdQ b).2.1) else none

/- Numbers that fit their fields. -/
structure MFit (m : Mem) : Prop where
  id : I64 m.id
  role : 0 ≤ m.role ∧ m.role < 256
  weight : I64 m.weight
  group : I64 m.group
structure QFit (f : Qf) : Prop where
  kind : 0 ≤ f.kind ∧ f.kind < 256
  xid : I64 f.xid
  session : I64 f.session
  turn : I64 f.turn
  flags : I64 f.flags
  version : I64 f.version
  sort : 0 ≤ f.sort ∧ f.sort < 256
  last : I64 f.last
  timeout : I64 f.timeout
  frm : I64 f.frm
  mems : ∀ m ∈ f.mems, MFit m
structure AskFit (f : Qf) (ps : List Qf) : Prop where
  top : QFit f
  all : ∀ p ∈ ps, QFit p
  len : f.np = ps.length

theorem oR_oB {α : Type} {b : Bool} {d x : α} {rd : Rd → α × Rd} {e t : List UInt8} (h : b = true → rd (some (e ++ t)) = (x, some t)) (hz : b = false → d = x) : oR b d rd (some (oB b e ++ t)) = (x, some t) := by
  unfold oR oB
  cases b with
  | true => simpa using h rfl
  | false => simp [hz rfl]
theorem rdWatch_put (b : Bool) (t : List UInt8) : rdWatch (some (wb b :: t)) = (b, some t) := by cases b <;> rfl
theorem u8_back {k : Int} (h : 0 ≤ k ∧ k < 256) : ((u8 k).toNat : Int) = k := by
  unfold u8
  rw [show (k % 256).toNat = k.toNat by omega, ofNat_small (by omega)]
  omega
theorem u8_toNat (x : UInt8) : u8 (x.toNat : Int) = x := by
  unfold u8
  have := x.toNat_lt
  rw [show ((x.toNat : Int) % 256).toNat = x.toNat by omega]
  exact UInt8.ofNat_toNat
theorem rdMemQ_put {m : Mem} (h : MFit m) (t : List UInt8) : rdMemQ (some (memB m ++ t)) = (m, some t) := by
  unfold rdMemQ memB
  simp only [List.append_assoc]
  rw [rdInt_num _ h.id.1 h.id.2]
  dsimp only
  rw [rdInt_num m.role (by have := h.role; omega) (by have := h.role; omega)]
  dsimp only
  rw [rdInt_num _ h.weight.1 h.weight.2]
  dsimp only
  rw [rdInt_num _ h.group.1 h.group.2]
  have : m.role % 256 = m.role := by have := h.role; omega
  cases m
  simp_all
theorem rdMemsQ_put : ∀ (l : List Mem), (∀ m ∈ l, MFit m) → ∀ t, rdMemsQ l.length (some (memsB l ++ t)) = (l, some t)
  | [], _, t => by simp [rdMemsQ, memsB]
  | m :: l, h, t => by
    rw [List.length_cons, rdMemsQ, memsB, List.append_assoc, rdMemQ_put (h m List.mem_cons_self)]
    dsimp only
    rw [rdMemsQ_put l (fun q hq => h q (List.mem_cons_of_mem _ hq))]
theorem rdMems7_put {l : List Mem} (h : ∀ m ∈ l, MFit m) (h7 : l.length ≤ 7) (t : List UInt8) : rdMems7 (some (memsQ l ++ t)) = (l, some t) := by
  unfold rdMems7 memsQ
  rw [List.append_assoc, rdCount_num _ 7 (by omega) (by omega) (by omega)]
  dsimp only
  rw [Int.toNat_natCast]
  exact rdMemsQ_put l h t
structure Idle (f : Qf) : Prop where
  path : has f.kind 0 = false → [] = f.path
  data : has f.kind 1 = false → [] = f.data
  flags : has f.kind 2 = false → 0 = f.flags
  version : has f.kind 3 = false → 0 = f.version
  watch : has f.kind 4 = false → false = f.watch
  sort : has f.kind 5 = false → 0 = f.sort
  last : has f.kind 6 = false → 0 = f.last
  timeout : has f.kind 7 = false → 0 = f.timeout
  frm : has f.kind 8 = false → 0 = f.frm
  mems : has f.kind 9 = false → [] = f.mems
  np : has f.kind 10 = false → f.np = 0
  npT : has f.kind 10 = true → f.np ≠ 0
theorem idle_of {f : Qf} (h : idleB f = true) : Idle f := by
  unfold idleB at h
  simp only [Bool.and_eq_true, Bool.or_eq_true, decide_eq_true_eq, Bool.not_eq_true', bne_iff_ne, ne_eq] at h
  obtain ⟨h0, h1, h2, h3, h4, h5, h6, h7, h8, h9, h10⟩ := h
  refine ⟨fun e => ?_, fun e => ?_, fun e => ?_, fun e => ?_, fun e => ?_, fun e => ?_, fun e => ?_, fun e => ?_, fun e => ?_, fun e => ?_, fun e => ?_, fun e => ?_⟩
  · rw [e] at h0; rcases h0 with h | h
    · exact h.symm
    · cases h
  · rw [e] at h1; rcases h1 with h | h
    · exact (List.length_eq_zero_iff.1 h).symm
    · cases h
  · rw [e] at h2; rcases h2 with h | h
    · exact h.symm
    · cases h
  · rw [e] at h3; rcases h3 with h | h
    · exact h.symm
    · cases h
  · rw [e] at h4; rcases h4 with h | h
    · exact h.symm
    · cases h
  · rw [e] at h5
    by_cases q : f.sort = 0
    · exact q.symm
    · exact absurd (decide_eq_false q) h5
  · rw [e] at h6; rcases h6 with h | h
    · exact h.symm
    · cases h
  · rw [e] at h7
    by_cases q : f.timeout = 0
    · exact q.symm
    · exact absurd (decide_eq_false q) h7
  · rw [e] at h8; rcases h8 with h | h
    · exact h.symm
    · cases h
  · rw [e] at h9; rcases h9 with h | h
    · exact (List.length_eq_zero_iff.1 h).symm
    · cases h
  · rw [e] at h10
    by_cases q : f.np = 0
    · exact q
    · exact absurd (decide_eq_false q) h10
  · rw [e] at h10
    intro q
    exact h10 (decide_eq_true q)
structure Within (f : Qf) : Prop where
  flags0 : 0 ≤ f.flags
  last : 0 ≤ f.last
  timeout0 : 0 ≤ f.timeout
  frm : 0 ≤ f.frm
  version : -1 ≤ f.version
  flags : f.flags ≤ 3
  sort : f.sort ≤ 3
  timeout : f.timeout ≤ 1000
  path : f.path.length ≤ 220
  data : f.data.length ≤ 1000
  mems : f.mems.length ≤ 7
  np : f.np ≤ 16
theorem within_of {f : Qf} (h : withinB f = true) : Within f := by
  unfold withinB at h
  simp only [Bool.and_eq_true, decide_eq_true_eq] at h
  obtain ⟨⟨a, b, c, d⟩, e, g, i, j, k, l, m, n⟩ := h
  exact ⟨a, b, c, d, e, g, i, j, k, l, m, n⟩
theorem fit_of {f : Qf} (h : fitQ f = true) : Idle f ∧ Within f := by
  unfold fitQ at h
  rw [Bool.and_eq_true] at h
  exact ⟨idle_of h.1, within_of h.2⟩
def bodyOfQ (f : Qf) : Qf := { f with xid := 0, session := 0, turn := 0, np := 0 }
theorem rdBodyQ_put {f : Qf} (hf : QFit f) (h : fitQ f = true) (t : List UInt8) : rdBodyQ f.kind (some (bodyQ f ++ t)) = (bodyOfQ f, some t) := by
  obtain ⟨hi, hw⟩ := fit_of h
  unfold rdBodyQ bodyQ
  simp only [List.append_assoc]
  have p1 := hw.path
  have p2 := hw.data
  rw [oR_oB (fun _ => rdText_text f.path (by omega) 220 (by omega) _) hi.path]
  dsimp only
  rw [oR_oB (fun _ => rdText_text f.data (by omega) 1000 (by omega) _) hi.data]
  dsimp only
  rw [oR_oB (fun _ => rdInt_num _ hf.flags.1 hf.flags.2 _) hi.flags]
  dsimp only
  rw [oR_oB (fun _ => rdInt_num _ hf.version.1 hf.version.2 _) hi.version]
  dsimp only
  rw [oR_oB (x := f.watch) (fun _ => rdWatch_put f.watch _) hi.watch]
  dsimp only
  rw [oR_oB (x := f.sort) (fun _ => by simp [rdSort, rdByte, u8_back hf.sort]) hi.sort]
  dsimp only
  rw [oR_oB (fun _ => rdInt_num _ hf.last.1 hf.last.2 _) hi.last]
  dsimp only
  rw [oR_oB (fun _ => rdInt_num _ hf.timeout.1 hf.timeout.2 _) hi.timeout]
  dsimp only
  rw [oR_oB (fun _ => rdInt_num _ hf.frm.1 hf.frm.2 _) hi.frm]
  dsimp only
  rw [oR_oB (fun _ => rdMems7_put hf.mems hw.mems _) hi.mems]
  rfl
theorem part_of {p : Qf} (h : partQ p = true) : has p.kind 12 = true ∧ p.xid = 0 ∧ p.session = 0 ∧ p.turn = 0 ∧ fitQ p = true := by
  unfold partQ at h
  simpa only [Bool.and_eq_true, decide_eq_true_eq] using h
theorem has_part : ∀ k : Fin 15, has (k.val : Int) 12 = true → has (k.val : Int) 10 = false ∧ has (k.val : Int) 9 = false := by decide +kernel
theorem has_big {k : Int} (h : 15 ≤ k) (i : Nat) : has k i = false := by
  unfold has kQ
  rw [List.getD_eq_getElem?_getD, List.getElem?_eq_none (by simp [kindsQ]; omega)]
  simp
theorem part_np {p : Qf} (hk : 0 ≤ p.kind) (h : partQ p = true) : p.np = 0 ∧ p.mems = [] := by
  obtain ⟨h1, _, _, _, h2⟩ := part_of h
  have hi := (fit_of h2).1
  by_cases hb : 15 ≤ p.kind
  · rw [has_big hb] at h1; cases h1
  · have h3 := has_part ⟨p.kind.toNat, by omega⟩
    simp only [Int.toNat_of_nonneg hk] at h3
    obtain ⟨h4, h5⟩ := h3 h1
    exact ⟨hi.np h4, (hi.mems h5).symm⟩
theorem bodyOf_part {p : Qf} (hk : 0 ≤ p.kind) (h : partQ p = true) : bodyOfQ p = p := by
  obtain ⟨_, h2, h3, h4, _⟩ := part_of h
  have h5 := (part_np hk h).1
  cases p
  simp_all [bodyOfQ]
theorem rdPartQ_put {p : Qf} (hf : QFit p) (h : partQ p = true) (t : List UInt8) : rdPartQ (some (prtQ p ++ t)) = (p, some t) := by
  unfold rdPartQ prtQ
  rw [List.cons_append]
  simp only [rdByte]
  rw [u8_back hf.kind, rdBodyQ_put hf (part_of h).2.2.2.2, bodyOf_part hf.kind.1 h]
theorem rdPartsQ_put : ∀ (ps : List Qf), (∀ p ∈ ps, QFit p ∧ partQ p = true) → ∀ t, rdPartsQ ps.length (some (prtsQ ps ++ t)) = (ps, some t)
  | [], _, t => by simp [rdPartsQ, prtsQ]
  | p :: ps, h, t => by
    have hp := h p List.mem_cons_self
    have e : prtsQ (p :: ps) ++ t = prtQ p ++ (prtsQ ps ++ t) := by simp [prtsQ]
    rw [List.length_cons, rdPartsQ, e, rdPartQ_put hp.1 hp.2]
    dsimp only
    rw [rdPartsQ_put ps (fun q hq => h q (List.mem_cons_of_mem _ hq))]
theorem right_of {f : Qf} {ps : List Qf} (h : rightQ f ps = true) : has f.kind 11 = true ∧ 0 ≤ f.xid ∧ 0 ≤ f.session ∧ 0 ≤ f.turn ∧ fitQ f = true ∧ ∀ p ∈ ps, partQ p = true := by
  unfold rightQ at h
  simp only [Bool.and_eq_true, decide_eq_true_eq, List.all_eq_true] at h
  exact ⟨h.1, h.2.1.1, h.2.1.2.1, h.2.1.2.2, h.2.2.1, h.2.2.2⟩
theorem rdQ_more {f : Qf} {ps : List Qf} (hf : AskFit f ps) (hr : rightQ f ps = true) (t : List UInt8) : rdQ (askB f ps ++ t) = (f, ps, some t) := by
  obtain ⟨_, _, _, _, hfit, hps⟩ := right_of hr
  obtain ⟨hi, hw⟩ := fit_of hfit
  unfold rdQ askB
  simp only [rdByte, List.cons_append, List.append_assoc]
  rw [u8_back hf.top.kind]
  rw [rdInt_num _ hf.top.xid.1 hf.top.xid.2]
  dsimp only
  rw [rdInt_num _ hf.top.session.1 hf.top.session.2]
  dsimp only
  rw [rdInt_num _ hf.top.turn.1 hf.top.turn.2]
  dsimp only
  rw [rdBodyQ_put hf.top hfit]
  dsimp only
  have hn := hf.len
  have hnp := hw.np
  rw [show tailQ f ps = oB (has f.kind 10) (numB ps.length ++ prtsQ ps) from rfl, oR_oB (x := ps) (fun _ => by
    unfold rdParts16
    rw [List.append_assoc, rdCount_num _ 16 (by omega) (by omega) (by omega)]
    dsimp only
    rw [Int.toNat_natCast]
    exact rdPartsQ_put ps (fun p hp => ⟨hf.all p hp, hps p hp⟩) t) (fun e => by
    have := hi.np e
    exact (List.length_eq_zero_iff.1 (by omega)).symm)]
  dsimp only
  refine Prod.ext ?_ rfl
  show withHead (bodyOfQ f) _ _ _ ps.length = f
  unfold withHead bodyOfQ
  cases f
  simp_all
theorem rdQ_put {f : Qf} {ps : List Qf} (hf : AskFit f ps) (hr : rightQ f ps = true) : rdQ (askB f ps) = (f, ps, some []) := by
  have := rdQ_more hf hr []
  rwa [List.append_nil] at this
theorem rdInt_I64 (r : Rd) : I64 (rdInt r).1 := by
  cases h : (rdInt r).2 with
  | some t => exact (rdInt_inv (pair_some h)).2
  | none =>
    cases r with
    | none => exact ⟨by decide, by decide⟩
    | some l =>
      simp only [rdInt] at h ⊢
      split at h
      · cases h
      · exact ⟨by decide, by decide⟩
theorem oR_of {α : Type} {P : α → Prop} {b : Bool} {d : α} {rd : Rd → α × Rd} (h0 : P d) (h : ∀ r, P (rd r).1) (r : Rd) : P (oR b d rd r).1 := by
  unfold oR
  split
  · exact h r
  · exact h0
theorem byte_kind (x : UInt8) : 0 ≤ (x.toNat : Int) ∧ (x.toNat : Int) < 256 := by have := x.toNat_lt; omega
theorem rdMemsQ_fit : ∀ n r, ∀ m ∈ (rdMemsQ n r).1, MFit m
  | 0, r, m, h => by simp [rdMemsQ] at h
  | n + 1, r, m, h => by
    rw [rdMemsQ] at h
    rcases List.mem_cons.1 h with rfl | h
    · exact ⟨rdInt_I64 _, ⟨Int.emod_nonneg _ (by decide), Int.emod_lt_of_pos _ (by decide)⟩, rdInt_I64 _, rdInt_I64 _⟩
    · exact rdMemsQ_fit n _ m h
theorem rdBodyQ_fit (k : Int) (r : Rd) (hk : 0 ≤ k ∧ k < 256) : QFit (rdBodyQ k r).1 := by
  unfold rdBodyQ
  exact ⟨hk, I64_0, I64_0, I64_0, oR_of (P := I64) I64_0 rdInt_I64 _, oR_of (P := I64) I64_0 rdInt_I64 _, oR_of (P := fun x => 0 ≤ x ∧ x < 256) (by decide) (fun r => byte_kind _) _, oR_of (P := I64) I64_0 rdInt_I64 _, oR_of (P := I64) I64_0 rdInt_I64 _, oR_of (P := I64) I64_0 rdInt_I64 _, oR_of (P := fun l => ∀ m ∈ l, MFit m) (by simp) (fun r => rdMemsQ_fit _ _) _⟩
theorem rdPartsQ_fit : ∀ n r, ∀ p ∈ (rdPartsQ n r).1, QFit p
  | 0, r, p, h => by simp [rdPartsQ] at h
  | n + 1, r, p, h => by
    rw [rdPartsQ] at h
    rcases List.mem_cons.1 h with rfl | h
    · exact rdBodyQ_fit _ _ (byte_kind _)
    · exact rdPartsQ_fit n _ p h
theorem rdQ_fit (b : List UInt8) : AskFit (rdQ b).1 (rdQ b).2.1 := by
  have hb := rdBodyQ_fit ((rdByte (some b)).1.toNat : Int) (rdInt (rdInt (rdInt (rdByte (some b)).2).2).2).2 (byte_kind _)
  refine ⟨⟨hb.kind, rdInt_I64 _, rdInt_I64 _, rdInt_I64 _, hb.flags, hb.version, hb.sort, hb.last, hb.timeout, hb.frm, hb.mems⟩, ?_, rfl⟩
  exact oR_of (P := fun l => ∀ p ∈ l, QFit p) (by simp) (fun r => rdPartsQ_fit _ _) _
theorem askOf_put {f : Qf} {ps : List Qf} (hf : AskFit f ps) (hr : rightQ f ps = true) : askOf (askB f ps) = some (f, ps) := by
  unfold askOf
  rw [rdQ_put hf hr, if_pos ⟨hr, rfl⟩]
theorem askOf_iff (b : List UInt8) (f : Qf) (ps : List Qf) : askOf b = some (f, ps) ↔ b = askB f ps ∧ rightQ f ps = true ∧ AskFit f ps := by
  constructor
  · intro h
    unfold askOf at h
    split at h
    · next hh =>
      cases h
      exact ⟨hh.2.symm, hh.1, rdQ_fit b⟩
    · cases h
  · rintro ⟨rfl, h1, h2⟩
    exact askOf_put h2 h1
theorem askOf_more {f : Qf} {ps : List Qf} (hf : AskFit f ps) (hr : rightQ f ps = true) {t : List UInt8} (ht : t ≠ []) : askOf (askB f ps ++ t) = none := by
  cases h : askOf (askB f ps ++ t) with
  | none => rfl
  | some p =>
    obtain ⟨g, qs⟩ := p
    obtain ⟨h1, h2, h3⟩ := (askOf_iff _ _ _).1 h
    have e1 := rdQ_more hf hr t
    rw [h1, rdQ_put h3 h2] at e1
    have := congrArg (fun x => x.2.2) e1
    simp at this
    exact absurd this ht
theorem askOf_less {f : Qf} {ps : List Qf} (hf : AskFit f ps) (hr : rightQ f ps = true) {k : Nat} (hk : k < (askB f ps).length) : askOf ((askB f ps).take k) = none := by
  cases h : askOf ((askB f ps).take k) with
  | none => rfl
  | some p =>
    obtain ⟨g, qs⟩ := p
    obtain ⟨h1, h2, h3⟩ := (askOf_iff _ _ _).1 h
    have e1 := rdQ_more h3 h2 ((askB f ps).drop k)
    rw [← h1, List.take_append_drop, rdQ_put hf hr] at e1
    have e2 : (askB f ps).drop k = [] := by
      have := congrArg (fun x => x.2.2) e1
      simpa using this.symm
    have e3 := congrArg List.length e2
    simp at e3
    omega
/- How long the bytes are. -/
theorem numB_len {n : Int} (h : I64 n) : (numB n).length ≤ 10 := by
  have hz := zz_lt n h.1 h.2
  have key : ∀ (i u : Nat), u < 128 ^ (i + 1) → (digs u).length ≤ i + 1 := by
    intro i
    induction i with
    | zero => intro u hu; rw [digs_small (by omega)]; simp
    | succ i ih =>
      intro u hu
      by_cases hs : u < 128
      · rw [digs_small hs]; simp
      · rw [digs_big hs, List.length_cons]
        have := ih (u / 128) (by rw [Nat.div_lt_iff_lt_mul (by decide)]; rw [Nat.pow_succ] at hu; exact hu)
        omega
  exact key 9 (zz n) (by omega)
theorem oB_len (b : Bool) (l : List UInt8) : (oB b l).length ≤ l.length := by unfold oB; split <;> simp
theorem I64_nat {n : Nat} (h : n ≤ 1000000) : I64 (n : Int) := ⟨by omega, by omega⟩
theorem textB_len {l : List UInt8} (h : l.length ≤ 1000000) : (textB l).length ≤ l.length + 10 := by
  unfold textB
  have := numB_len (I64_nat h)
  simp; omega
theorem memB_len {m : Mem} (h : MFit m) : (memB m).length ≤ 40 := by
  have h1 := numB_len h.id
  have h2 := numB_len (n := m.role) ⟨by have := h.role; omega, by have := h.role; omega⟩
  have h3 := numB_len h.weight
  have h4 := numB_len h.group
  unfold memB
  simp; omega
theorem memsB_len : ∀ (l : List Mem), (∀ m ∈ l, MFit m) → (memsB l).length ≤ 40 * l.length
  | [], _ => by simp [memsB]
  | m :: l, h => by
    have h1 := memB_len (h m List.mem_cons_self)
    have h2 := memsB_len l (fun q hq => h q (List.mem_cons_of_mem _ hq))
    simp [memsB]; omega
theorem bodyQ_len {f : Qf} (hf : QFit f) (h : fitQ f = true) : (bodyQ f).length ≤ 1700 := by
  obtain ⟨hi, hw⟩ := fit_of h
  have p1 := hw.path
  have p2 := hw.data
  have p3 := hw.mems
  have a0 := oB_len (has f.kind 0) (textB f.path)
  have a1 := oB_len (has f.kind 1) (textB f.data)
  have a2 := oB_len (has f.kind 2) (numB f.flags)
  have a3 := oB_len (has f.kind 3) (numB f.version)
  have a4 := oB_len (has f.kind 4) [wb f.watch]
  have a5 := oB_len (has f.kind 5) [u8 f.sort]
  have a6 := oB_len (has f.kind 6) (numB f.last)
  have a7 := oB_len (has f.kind 7) (numB f.timeout)
  have a8 := oB_len (has f.kind 8) (numB f.frm)
  have a9 := oB_len (has f.kind 9) (memsQ f.mems)
  have b0 := textB_len (l := f.path) (by omega)
  have b1 := textB_len (l := f.data) (by omega)
  have b2 := numB_len hf.flags
  have b3 := numB_len hf.version
  have b6 := numB_len hf.last
  have b7 := numB_len hf.timeout
  have b8 := numB_len hf.frm
  have b9 : (memsQ f.mems).length ≤ 10 + 280 := by
    unfold memsQ
    have := numB_len (I64_nat (n := f.mems.length) (by omega))
    have := memsB_len f.mems hf.mems
    simp; omega
  simp only [List.length_cons, List.length_nil] at a4 a5
  unfold bodyQ
  simp only [List.length_append]
  omega
theorem prtsQ_len : ∀ (ps : List Qf), (∀ p ∈ ps, QFit p ∧ partQ p = true) → (prtsQ ps).length ≤ 1701 * ps.length
  | [], _ => by simp [prtsQ]
  | p :: ps, h => by
    have h1 := bodyQ_len (h p List.mem_cons_self).1 (part_of (h p List.mem_cons_self).2).2.2.2.2
    have h2 := prtsQ_len ps (fun q hq => h q (List.mem_cons_of_mem _ hq))
    have e : prtsQ (p :: ps) = u8 p.kind :: (bodyQ p ++ prtsQ ps) := by simp [prtsQ, prtQ]
    rw [e]
    simp only [List.length_cons, List.length_append]; omega
theorem askB_len {f : Qf} {ps : List Qf} (hf : AskFit f ps) (hr : rightQ f ps = true) : (askB f ps).length ≤ 30000 := by
  obtain ⟨_, _, _, _, hfit, hps⟩ := right_of hr
  have hw := (fit_of hfit).2.np
  have hn := hf.len
  have h0 := bodyQ_len hf.top hfit
  have h1 := numB_len hf.top.xid
  have h2 := numB_len hf.top.session
  have h3 := numB_len hf.top.turn
  have h4 := prtsQ_len ps (fun p hp => ⟨hf.all p hp, hps p hp⟩)
  have h5 := numB_len (I64_nat (n := ps.length) (by omega))
  have h6 := oB_len (has f.kind 10) (numB ps.length ++ prtsQ ps)
  simp only [List.length_append] at h6
  unfold askB tailQ
  simp only [List.length_cons, List.length_append]
  omega
theorem prts_snoc (ps : List Qf) {k : Nat} (h : k < ps.length) : prtsQ (ps.take (k + 1)) = prtsQ (ps.take k) ++ (u8 (ps[k]'h).kind :: bodyQ (ps[k]'h)) := by
  rw [List.take_succ_eq_append_getElem h]
  unfold prtsQ
  rw [List.map_append, List.flatten_append]
  simp [prtQ]
end Go.Proofs.YtmojplgoohnmdaaDoor.AK
