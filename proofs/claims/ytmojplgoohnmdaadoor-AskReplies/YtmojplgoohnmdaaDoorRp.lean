/- Plain mathematics of replies: what a reply is, which are right, and their bytes; no program in this text. -/
import Derived.Test.YtmojplgoohnmdaaDoorAkR
namespace Go.Proofs.YtmojplgoohnmdaaDoor.AK
open Go.RowKit

/- A reply but for its parts; np: how many these are. -/
structure Rf where
  kind : Int
  xid : Int
  zxid : Int
  err : Int
  session : Int
  timeout : Int
  path : List UInt8
  data : List UInt8
  s0 : Int
  s1 : Int
  s2 : Int
  s3 : Int
  s4 : Int
  s5 : Int
  s6 : Int
  s7 : Int
  s8 : Int
  s9 : Int
  list : List (List UInt8)
  cver : Int
  cmems : List Mem
  np : Nat
  deriving DecidableEq
def headR (f : Rf) : List Int := [f.xid, f.zxid, f.err, f.session, f.timeout]
def statR (f : Rf) : List Int := [f.s0, f.s1, f.s2, f.s3, f.s4, f.s5, f.s6, f.s7, f.s8, f.s9]
def pos (l : List Int) : Bool := l.all fun n => decide (0 ≤ n)
def listB (l : List (List UInt8)) : Bool := decide (l.length ≤ 500) && l.all fun t => decide (t.length ≤ 220)
def noneB (v : Int) (l : List Mem) : Bool := decide (v = 0) && decide (l.length = 0)
def fitR (f : Rf) : Bool := decide (0 < f.kind) && (decide (f.kind ≤ 14) && (pos (headR f) && (pos (statR f) && (decide (f.timeout ≤ 1000) && (decide (f.path.length ≤ 220) && (decide (f.data.length ≤ 1000) && (listB f.list && (noneB f.cver f.cmems || decide (chk f.cver f.cmems = 0)))))))))
def partR (p : Rf) : Bool := decide (p.np = 0) && (decide (p.list.length = 0) && fitR p)
def rightR (f : Rf) (ps : List Rf) : Bool := fitR f && (decide (f.np ≤ 16) && ps.all partR)
/- The bytes. -/
def cfgR (f : Rf) : List UInt8 := if chk f.cver f.cmems = 0 then cfgB f.cver f.cmems else []
def textsB (l : List (List UInt8)) : List UInt8 := (l.map textB).flatten
def bodyR (f : Rf) : List UInt8 := u8 f.kind :: (numsB (headR f) ++ (textB f.path ++ (textB f.data ++ (numsB (statR f) ++ (numB f.list.length ++ (textsB f.list ++ textB (cfgR f)))))))
def prtR (p : Rf) : List UInt8 := bodyR p ++ numB 0
def prtsR (ps : List Rf) : List UInt8 := (ps.map prtR).flatten
def replyB (f : Rf) (ps : List Rf) : List UInt8 := bodyR f ++ (numB ps.length ++ prtsR ps)
structure RFit (f : Rf) : Prop where
  kind : 0 ≤ f.kind ∧ f.kind < 256
  head : ∀ n ∈ headR f, I64 n
  stat : ∀ n ∈ statR f, I64 n
structure RepFit (f : Rf) (ps : List Rf) : Prop where
  top : RFit f
  all : ∀ p ∈ ps, RFit p
  len : f.np = ps.length
structure FitR (f : Rf) : Prop where
  k0 : 0 < f.kind
  k1 : f.kind ≤ 14
  head : ∀ n ∈ headR f, 0 ≤ n
  stat : ∀ n ∈ statR f, 0 ≤ n
  timeout : f.timeout ≤ 1000
  path : f.path.length ≤ 220
  data : f.data.length ≤ 1000
  ln : f.list.length ≤ 500
  ls : ∀ t ∈ f.list, t.length ≤ 220
  cfg : noneB f.cver f.cmems = true ∨ chk f.cver f.cmems = 0
theorem fitR_of {f : Rf} (h : fitR f = true) : FitR f := by
  unfold fitR pos listB at h
  simp only [Bool.and_eq_true, Bool.or_eq_true, decide_eq_true_eq, List.all_eq_true] at h
  obtain ⟨a, b, c, d, e, g, i, ⟨j, k⟩, l⟩ := h
  exact ⟨a, b, c, d, e, g, i, j, k, l⟩
theorem rightR_of {f : Rf} {ps : List Rf} (h : rightR f ps = true) : fitR f = true ∧ f.np ≤ 16 ∧ ∀ p ∈ ps, p.np = 0 ∧ p.list = [] ∧ fitR p = true := by
  unfold rightR partR at h
  simp only [Bool.and_eq_true, decide_eq_true_eq, List.all_eq_true] at h
  refine ⟨h.1, h.2.1, fun p hp => ?_⟩
  obtain ⟨a, b, c⟩ := h.2.2 p hp
  exact ⟨a, List.eq_nil_of_length_eq_zero b, c⟩
theorem textsB_snoc (l : List (List UInt8)) {k : Nat} (h : k < l.length) : textsB (l.take (k + 1)) = textsB (l.take k) ++ textB (l[k]'h) := by
  unfold textsB
  rw [List.take_succ_eq_append_getElem h, List.map_append, List.flatten_append]
  congr 1
  simp
theorem textsB_len : ∀ (l : List (List UInt8)), (∀ t ∈ l, t.length ≤ 220) → (textsB l).length ≤ 230 * l.length
  | [], _ => by simp [textsB]
  | t :: l, h => by
    have h1 := textB_len (l := t) (by have := h t List.mem_cons_self; omega)
    have h2 := textsB_len l (fun m hm => h m (List.mem_cons_of_mem _ hm))
    have h3 := h t List.mem_cons_self
    have e : textsB (t :: l) = textB t ++ textsB l := by simp [textsB]
    rw [e]
    simp only [List.length_append, List.length_cons]; omega
theorem cfgR_len (f : Rf) : (cfgR f).length ≤ 1000 := by
  unfold cfgR
  split
  · next h => have := cfgB_len h; omega
  · simp
theorem bodyR_len {f : Rf} (hf : RFit f) (h : FitR f) : (bodyR f).length ≤ 2500 + 230 * f.list.length := by
  have h1 := numsB_len (headR f) hf.head
  have h2 := numsB_len (statR f) hf.stat
  have h3 := textB_len (l := f.path) (by have := h.path; omega)
  have h4 := textB_len (l := f.data) (by have := h.data; omega)
  have h5 := textsB_len f.list h.ls
  have h6 := textB_len (l := cfgR f) (by have := cfgR_len f; omega)
  have h7 := cfgR_len f
  have h8 := numB_len (n := (f.list.length : Int)) (I64_nat (by have := h.ln; omega))
  have h9 : (headR f).length = 5 := rfl
  have h10 : (statR f).length = 10 := rfl
  have := h.path
  have := h.data
  unfold bodyR
  simp only [List.length_append, List.length_cons]
  omega
theorem prtsR_snoc (ps : List Rf) {k : Nat} (h : k < ps.length) : prtsR (ps.take (k + 1)) = prtsR (ps.take k) ++ (bodyR (ps[k]'h) ++ numB 0) := by
  unfold prtsR
  rw [List.take_succ_eq_append_getElem h, List.map_append, List.flatten_append]
  congr 1
  simp [prtR]
theorem prtsR_len : ∀ (ps : List Rf), (∀ p ∈ ps, RFit p ∧ p.list = [] ∧ fitR p = true) → (prtsR ps).length ≤ 2600 * ps.length
  | [], _ => by simp [prtsR]
  | p :: ps, h => by
    obtain ⟨a, b, c⟩ := h p List.mem_cons_self
    have h1 := bodyR_len a (fitR_of c)
    rw [b] at h1
    have h2 := prtsR_len ps (fun m hm => h m (List.mem_cons_of_mem _ hm))
    have h3 := numB_len (n := 0) I64_0
    have e : prtsR (p :: ps) = prtR p ++ prtsR ps := by simp [prtsR]
    rw [e]
    simp only [List.length_append, List.length_cons, List.length_nil, prtR] at *; omega
theorem replyB_len {f : Rf} {ps : List Rf} (hf : RepFit f ps) (hr : rightR f ps = true) : (replyB f ps).length ≤ 170000 := by
  obtain ⟨h1, h2, h3⟩ := rightR_of hr
  have h4 := bodyR_len hf.top (fitR_of h1)
  have h5 := prtsR_len ps (fun p hp => ⟨hf.all p hp, (h3 p hp).2⟩)
  have h6 := (fitR_of h1).ln
  have h7 := hf.len
  have h8 := numB_len (n := (ps.length : Int)) (I64_nat (by omega))
  unfold replyB
  simp only [List.length_append]
  omega
end Go.Proofs.YtmojplgoohnmdaaDoor.AK
