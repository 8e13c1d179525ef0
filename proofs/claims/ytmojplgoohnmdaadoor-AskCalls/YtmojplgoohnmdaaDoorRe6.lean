/- The document's own words for right calls, as mathematics, and that they say what rightQ says. -/
import Derived.Test.YtmojplgoohnmdaaDoorAk
namespace Go.Proofs.YtmojplgoohnmdaaDoor.AK
set_option linter.unusedVariables false
open Go.RowKit
set_option linter.unusedVariables false

def okQ (k : Int) : Bool := decide (1 ≤ k) && decide (k ≤ 14)
def docZero (f : Qf) : Bool := (has f.kind 0 || decide (f.path = [])) && ((has f.kind 1 || decide (f.data.length = 0)) && ((has f.kind 2 || decide (f.flags = 0)) && ((has f.kind 3 || decide (f.version = 0)) && (has f.kind 4 || !f.watch))))
def docZero2 (f : Qf) : Bool := (has f.kind 5 || decide (f.sort = 0)) && ((has f.kind 6 || decide (f.last = 0)) && ((has f.kind 7 || decide (f.timeout = 0)) && ((has f.kind 9 || (decide (f.frm = 0) && decide (f.mems.length = 0))) && (has f.kind 10 || decide (f.np = 0)))))
def docLim (f : Qf) : Bool := decide (f.path.length ≤ 220) && (decide (f.data.length ≤ 1000) && (decide (0 ≤ f.flags) && (decide (f.flags ≤ 3) && (decide (-1 ≤ f.version) && (decide (0 ≤ f.last) && (decide (0 ≤ f.frm) && decide (f.mems.length ≤ 7)))))))
def docEnd (f : Qf) : Bool := (!has f.kind 5 || (decide (1 ≤ f.sort) && decide (f.sort ≤ 3))) && (!has f.kind 7 || (decide (1 ≤ f.timeout) && decide (f.timeout ≤ 1000)))
def docFit (f : Qf) : Bool := okQ f.kind && (docZero f && (docZero2 f && (docLim f && docEnd f)))
def docPart (p : Qf) : Bool := docFit p && (decide (p.xid = 0) && (decide (p.session = 0) && (decide (p.turn = 0) && (decide (3 ≤ p.kind) && decide (p.kind ≤ 6)))))
def docRight (f : Qf) (ps : List Qf) : Bool := (docFit f && (!decide (f.kind = 6) && (decide (0 ≤ f.xid) && (decide (0 ≤ f.session) && decide (0 ≤ f.turn))))) && ((!decide (f.kind = 11) || (decide (1 ≤ f.np) && decide (f.np ≤ 16))) && ps.all docPart)
theorem kind_cases {P : Int → Prop} (h0 : P 0) (h1 : P 1) (h2 : P 2) (h3 : P 3) (h4 : P 4) (h5 : P 5) (h6 : P 6) (h7 : P 7) (h8 : P 8) (h9 : P 9) (h10 : P 10) (h11 : P 11) (h12 : P 12) (h13 : P 13) (h14 : P 14) (hb : ∀ k, 15 ≤ k → P k) (k : Int) (hk : 0 ≤ k) : P k := by
  by_cases e : 15 ≤ k
  · exact hb k e
  · obtain rfl | rfl | rfl | rfl | rfl | rfl | rfl | rfl | rfl | rfl | rfl | rfl | rfl | rfl | rfl : k = 0 ∨ k = 1 ∨ k = 2 ∨ k = 3 ∨ k = 4 ∨ k = 5 ∨ k = 6 ∨ k = 7 ∨ k = 8 ∨ k = 9 ∨ k = 10 ∨ k = 11 ∨ k = 12 ∨ k = 13 ∨ k = 14 := by omega
    all_goals assumption
theorem bits0 : has 0 0 = false ∧ has 0 1 = false ∧ has 0 2 = false ∧ has 0 3 = false ∧ has 0 4 = false ∧ has 0 5 = false ∧ has 0 6 = false ∧ has 0 7 = false ∧ has 0 8 = false ∧ has 0 9 = false ∧ has 0 10 = false ∧ has 0 11 = false ∧ has 0 12 = false := by decide +kernel
theorem bits1 : has 1 0 = false ∧ has 1 1 = false ∧ has 1 2 = false ∧ has 1 3 = false ∧ has 1 4 = false ∧ has 1 5 = false ∧ has 1 6 = true ∧ has 1 7 = true ∧ has 1 8 = false ∧ has 1 9 = false ∧ has 1 10 = false ∧ has 1 11 = true ∧ has 1 12 = false := by decide +kernel
theorem bits2 : has 2 0 = false ∧ has 2 1 = false ∧ has 2 2 = false ∧ has 2 3 = false ∧ has 2 4 = false ∧ has 2 5 = false ∧ has 2 6 = false ∧ has 2 7 = false ∧ has 2 8 = false ∧ has 2 9 = false ∧ has 2 10 = false ∧ has 2 11 = true ∧ has 2 12 = false := by decide +kernel
theorem bits3 : has 3 0 = true ∧ has 3 1 = true ∧ has 3 2 = true ∧ has 3 3 = false ∧ has 3 4 = false ∧ has 3 5 = false ∧ has 3 6 = false ∧ has 3 7 = false ∧ has 3 8 = false ∧ has 3 9 = false ∧ has 3 10 = false ∧ has 3 11 = true ∧ has 3 12 = true := by decide +kernel
theorem bits4 : has 4 0 = true ∧ has 4 1 = false ∧ has 4 2 = false ∧ has 4 3 = true ∧ has 4 4 = false ∧ has 4 5 = false ∧ has 4 6 = false ∧ has 4 7 = false ∧ has 4 8 = false ∧ has 4 9 = false ∧ has 4 10 = false ∧ has 4 11 = true ∧ has 4 12 = true := by decide +kernel
theorem bits5 : has 5 0 = true ∧ has 5 1 = true ∧ has 5 2 = false ∧ has 5 3 = true ∧ has 5 4 = false ∧ has 5 5 = false ∧ has 5 6 = false ∧ has 5 7 = false ∧ has 5 8 = false ∧ has 5 9 = false ∧ has 5 10 = false ∧ has 5 11 = true ∧ has 5 12 = true := by decide +kernel
theorem bits6 : has 6 0 = true ∧ has 6 1 = false ∧ has 6 2 = false ∧ has 6 3 = true ∧ has 6 4 = false ∧ has 6 5 = false ∧ has 6 6 = false ∧ has 6 7 = false ∧ has 6 8 = false ∧ has 6 9 = false ∧ has 6 10 = false ∧ has 6 11 = false ∧ has 6 12 = true := by decide +kernel
theorem bits7 : has 7 0 = true ∧ has 7 1 = false ∧ has 7 2 = false ∧ has 7 3 = false ∧ has 7 4 = true ∧ has 7 5 = false ∧ has 7 6 = false ∧ has 7 7 = false ∧ has 7 8 = false ∧ has 7 9 = false ∧ has 7 10 = false ∧ has 7 11 = true ∧ has 7 12 = false := by decide +kernel
theorem bits8 : has 8 0 = true ∧ has 8 1 = false ∧ has 8 2 = false ∧ has 8 3 = false ∧ has 8 4 = true ∧ has 8 5 = false ∧ has 8 6 = false ∧ has 8 7 = false ∧ has 8 8 = false ∧ has 8 9 = false ∧ has 8 10 = false ∧ has 8 11 = true ∧ has 8 12 = false := by decide +kernel
theorem bits9 : has 9 0 = true ∧ has 9 1 = false ∧ has 9 2 = false ∧ has 9 3 = false ∧ has 9 4 = true ∧ has 9 5 = false ∧ has 9 6 = false ∧ has 9 7 = false ∧ has 9 8 = false ∧ has 9 9 = false ∧ has 9 10 = false ∧ has 9 11 = true ∧ has 9 12 = false := by decide +kernel
theorem bits10 : has 10 0 = false ∧ has 10 1 = false ∧ has 10 2 = false ∧ has 10 3 = false ∧ has 10 4 = false ∧ has 10 5 = false ∧ has 10 6 = false ∧ has 10 7 = false ∧ has 10 8 = false ∧ has 10 9 = false ∧ has 10 10 = false ∧ has 10 11 = true ∧ has 10 12 = false := by decide +kernel
theorem bits11 : has 11 0 = false ∧ has 11 1 = false ∧ has 11 2 = false ∧ has 11 3 = false ∧ has 11 4 = false ∧ has 11 5 = false ∧ has 11 6 = false ∧ has 11 7 = false ∧ has 11 8 = false ∧ has 11 9 = false ∧ has 11 10 = true ∧ has 11 11 = true ∧ has 11 12 = false := by decide +kernel
theorem bits12 : has 12 0 = false ∧ has 12 1 = false ∧ has 12 2 = false ∧ has 12 3 = false ∧ has 12 4 = false ∧ has 12 5 = false ∧ has 12 6 = false ∧ has 12 7 = false ∧ has 12 8 = true ∧ has 12 9 = true ∧ has 12 10 = false ∧ has 12 11 = true ∧ has 12 12 = false := by decide +kernel
theorem bits13 : has 13 0 = false ∧ has 13 1 = false ∧ has 13 2 = false ∧ has 13 3 = false ∧ has 13 4 = false ∧ has 13 5 = false ∧ has 13 6 = false ∧ has 13 7 = false ∧ has 13 8 = false ∧ has 13 9 = false ∧ has 13 10 = false ∧ has 13 11 = true ∧ has 13 12 = false := by decide +kernel
theorem bits14 : has 14 0 = true ∧ has 14 1 = false ∧ has 14 2 = false ∧ has 14 3 = false ∧ has 14 4 = false ∧ has 14 5 = true ∧ has 14 6 = true ∧ has 14 7 = false ∧ has 14 8 = false ∧ has 14 9 = false ∧ has 14 10 = false ∧ has 14 11 = true ∧ has 14 12 = false := by decide +kernel
theorem bitsBig {k : Int} (h : 15 ≤ k) : has k 0 = false ∧ has k 1 = false ∧ has k 2 = false ∧ has k 3 = false ∧ has k 4 = false ∧ has k 5 = false ∧ has k 6 = false ∧ has k 7 = false ∧ has k 8 = false ∧ has k 9 = false ∧ has k 10 = false ∧ has k 11 = false ∧ has k 12 = false := ⟨has_big h 0, has_big h 1, has_big h 2, has_big h 3, has_big h 4, has_big h 5, has_big h 6, has_big h 7, has_big h 8, has_big h 9, has_big h 10, has_big h 11, has_big h 12⟩
theorem fit_eq (f : Qf) (hk : 0 ≤ f.kind) (hs : 0 ≤ f.sort) : (okQ f.kind && fitQ f) = (docFit f && (!decide (f.kind = 11) || (decide (1 ≤ f.np) && decide (f.np ≤ 16)))) := by
  obtain ⟨kind, xid, session, turn, path, data, flags, version, watch, sort, last, timeout, frm, mems, np⟩ := f
  dsimp only at hk hs
  unfold fitQ docFit idleB withinB docZero docZero2 docLim docEnd
  dsimp only
  generalize hpl : path.length = pl
  have hpe : decide (path = []) = decide (pl = 0) := by
    rw [← hpl]; cases path <;> simp
  rw [hpe]
  generalize data.length = dl
  generalize mems.length = ml
  clear hpl hpe
  by_cases hb : 15 ≤ kind
  · have e : okQ kind = false := by unfold okQ; simp; omega
    rw [e]; simp
  · have hc : kind = 0 ∨ kind = 1 ∨ kind = 2 ∨ kind = 3 ∨ kind = 4 ∨ kind = 5 ∨ kind = 6 ∨ kind = 7 ∨ kind = 8 ∨ kind = 9 ∨ kind = 10 ∨ kind = 11 ∨ kind = 12 ∨ kind = 13 ∨ kind = 14 := by omega
    rcases hc with rfl | rfl | rfl | rfl | rfl | rfl | rfl | rfl | rfl | rfl | rfl | rfl | rfl | rfl | rfl
    · obtain ⟨b0, b1, b2, b3, b4, b5, b6, b7, b8, b9, b10, b11, b12⟩ := bits0
      simp only [b0, b1, b2, b3, b4, b5, b6, b7, b8, b9, b10]
      rw [Bool.eq_iff_iff]
      cases watch <;> simp [okQ] <;> omega
    · obtain ⟨b0, b1, b2, b3, b4, b5, b6, b7, b8, b9, b10, b11, b12⟩ := bits1
      simp only [b0, b1, b2, b3, b4, b5, b6, b7, b8, b9, b10]
      rw [Bool.eq_iff_iff]
      cases watch <;> simp [okQ] <;> omega
    · obtain ⟨b0, b1, b2, b3, b4, b5, b6, b7, b8, b9, b10, b11, b12⟩ := bits2
      simp only [b0, b1, b2, b3, b4, b5, b6, b7, b8, b9, b10]
      rw [Bool.eq_iff_iff]
      cases watch <;> simp [okQ] <;> omega
    · obtain ⟨b0, b1, b2, b3, b4, b5, b6, b7, b8, b9, b10, b11, b12⟩ := bits3
      simp only [b0, b1, b2, b3, b4, b5, b6, b7, b8, b9, b10]
      rw [Bool.eq_iff_iff]
      cases watch <;> simp [okQ] <;> omega
    · obtain ⟨b0, b1, b2, b3, b4, b5, b6, b7, b8, b9, b10, b11, b12⟩ := bits4
      simp only [b0, b1, b2, b3, b4, b5, b6, b7, b8, b9, b10]
      rw [Bool.eq_iff_iff]
      cases watch <;> simp [okQ] <;> omega
    · obtain ⟨b0, b1, b2, b3, b4, b5, b6, b7, b8, b9, b10, b11, b12⟩ := bits5
      simp only [b0, b1, b2, b3, b4, b5, b6, b7, b8, b9, b10]
      rw [Bool.eq_iff_iff]
      cases watch <;> simp [okQ] <;> omega
    · obtain ⟨b0, b1, b2, b3, b4, b5, b6, b7, b8, b9, b10, b11, b12⟩ := bits6
      simp only [b0, b1, b2, b3, b4, b5, b6, b7, b8, b9, b10]
      rw [Bool.eq_iff_iff]
      cases watch <;> simp [okQ] <;> omega
    · obtain ⟨b0, b1, b2, b3, b4, b5, b6, b7, b8, b9, b10, b11, b12⟩ := bits7
      simp only [b0, b1, b2, b3, b4, b5, b6, b7, b8, b9, b10]
      rw [Bool.eq_iff_iff]
      cases watch <;> simp [okQ] <;> omega
    · obtain ⟨b0, b1, b2, b3, b4, b5, b6, b7, b8, b9, b10, b11, b12⟩ := bits8
      simp only [b0, b1, b2, b3, b4, b5, b6, b7, b8, b9, b10]
      rw [Bool.eq_iff_iff]
      cases watch <;> simp [okQ] <;> omega
    · obtain ⟨b0, b1, b2, b3, b4, b5, b6, b7, b8, b9, b10, b11, b12⟩ := bits9
      simp only [b0, b1, b2, b3, b4, b5, b6, b7, b8, b9, b10]
      rw [Bool.eq_iff_iff]
      cases watch <;> simp [okQ] <;> omega
    · obtain ⟨b0, b1, b2, b3, b4, b5, b6, b7, b8, b9, b10, b11, b12⟩ := bits10
      simp only [b0, b1, b2, b3, b4, b5, b6, b7, b8, b9, b10]
      rw [Bool.eq_iff_iff]
      cases watch <;> simp [okQ] <;> omega
    · obtain ⟨b0, b1, b2, b3, b4, b5, b6, b7, b8, b9, b10, b11, b12⟩ := bits11
      simp only [b0, b1, b2, b3, b4, b5, b6, b7, b8, b9, b10]
      rw [Bool.eq_iff_iff]
      cases watch <;> simp [okQ] <;> omega
    · obtain ⟨b0, b1, b2, b3, b4, b5, b6, b7, b8, b9, b10, b11, b12⟩ := bits12
      simp only [b0, b1, b2, b3, b4, b5, b6, b7, b8, b9, b10]
      rw [Bool.eq_iff_iff]
      cases watch <;> simp [okQ] <;> omega
    · obtain ⟨b0, b1, b2, b3, b4, b5, b6, b7, b8, b9, b10, b11, b12⟩ := bits13
      simp only [b0, b1, b2, b3, b4, b5, b6, b7, b8, b9, b10]
      rw [Bool.eq_iff_iff]
      cases watch <;> simp [okQ] <;> omega
    · obtain ⟨b0, b1, b2, b3, b4, b5, b6, b7, b8, b9, b10, b11, b12⟩ := bits14
      simp only [b0, b1, b2, b3, b4, b5, b6, b7, b8, b9, b10]
      rw [Bool.eq_iff_iff]
      cases watch <;> simp [okQ] <;> omega
theorem ok_call : ∀ k : Fin 15, has (k.val : Int) 11 = (okQ (k.val : Int) && !decide ((k.val : Int) = 6)) := by decide +kernel
theorem ok_part : ∀ k : Fin 15, has (k.val : Int) 12 = (decide (3 ≤ (k.val : Int)) && decide ((k.val : Int) ≤ 6)) := by decide +kernel
theorem call_ok {k : Int} (h : 0 ≤ k) : has k 11 = (okQ k && !decide (k = 6)) := by
  by_cases hb : 15 ≤ k
  · rw [has_big hb]
    have : okQ k = false := by unfold okQ; simp; omega
    rw [this]; rfl
  · have := ok_call ⟨k.toNat, by omega⟩
    simpa only [Int.toNat_of_nonneg h] using this
theorem part_ok {k : Int} (h : 0 ≤ k) : has k 12 = (decide (3 ≤ k) && decide (k ≤ 6)) := by
  by_cases hb : 15 ≤ k
  · rw [has_big hb]
    symm; simp; omega
  · have := ok_part ⟨k.toNat, by omega⟩
    simpa only [Int.toNat_of_nonneg h] using this
theorem docPart_eq (p : Qf) (hk : 0 ≤ p.kind) (hs : 0 ≤ p.sort) : docPart p = partQ p := by
  have h1 := fit_eq p hk hs
  unfold docPart partQ
  rw [part_ok hk]
  by_cases h36 : 3 ≤ p.kind ∧ p.kind ≤ 6
  · have hok : okQ p.kind = true := by unfold okQ; simp; omega
    have h11 : decide (p.kind = 11) = false := by simp; omega
    rw [hok, h11] at h1
    simp only [Bool.true_and, Bool.not_false, Bool.true_or, Bool.and_true] at h1
    rw [← h1]
    rw [Bool.eq_iff_iff]
    simp only [Bool.and_eq_true, decide_eq_true_eq]
    exact ⟨fun h => ⟨h36, h.2.1, h.2.2.1, h.2.2.2.1, h.1⟩, fun h => ⟨h.2.2.2.2, h.2.1, h.2.2.1, h.2.2.2.1, h36⟩⟩
  · rw [Bool.eq_iff_iff]
    simp only [Bool.and_eq_true, decide_eq_true_eq]
    exact ⟨fun h => absurd h.2.2.2.2 h36, fun h => absurd h.1 h36⟩
theorem docRight_eq {f : Qf} {ps : List Qf} (hf : AskFit f ps) : docRight f ps = rightQ f ps := by
  have h1 := fit_eq f hf.top.kind.1 hf.top.sort.1
  have hall : ps.all docPart = ps.all partQ := by
    rw [Bool.eq_iff_iff]
    simp only [List.all_eq_true]
    exact ⟨fun h p hp => by rw [← docPart_eq p (hf.all p hp).kind.1 (hf.all p hp).sort.1]; exact h p hp, fun h p hp => by rw [docPart_eq p (hf.all p hp).kind.1 (hf.all p hp).sort.1]; exact h p hp⟩
  unfold docRight rightQ
  rw [hall, call_ok hf.top.kind.1]
  generalize ps.all partQ = A
  generalize okQ f.kind = B at h1 ⊢
  generalize fitQ f = C at h1 ⊢
  generalize docFit f = D at h1 ⊢
  generalize (!decide (f.kind = 11) || (decide (1 ≤ f.np) && decide (f.np ≤ 16))) = E at h1 ⊢
  generalize (!decide (f.kind = 6)) = F
  generalize (decide (0 ≤ f.xid) && (decide (0 ≤ f.session) && decide (0 ≤ f.turn))) = G
  revert h1
  cases A <;> cases B <;> cases C <;> cases D <;> cases E <;> cases F <;> cases G <;> decide
end Go.Proofs.YtmojplgoohnmdaaDoor.AK
