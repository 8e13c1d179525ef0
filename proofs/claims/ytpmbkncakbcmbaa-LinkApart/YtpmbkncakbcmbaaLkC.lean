/- Links: what they hold, and how they lie in memory. -/
import Derived.Test.YtpmbkncakbcmbaaLkB
namespace Go.Proofs.Ytpmbkncakbcmbaa
open Go.RowKit

/- What a link holds. -/
structure St where
  inc : Int
  peer : Int
  acked : Int
  got : Int
  loads : List (List UInt8)
/- A packet. -/
structure Pkt where
  fr : Int
  to : Int
  seq : Int
  ack : Int
  load : List UInt8
def news (inc : Int) : St := ⟨inc, 0, 0, 0, []⟩
def sendE (s : St) (b : List UInt8) : Int := if b.length = 0 then 2 else if 1048476 < b.length then 3 else if 1000 ≤ s.loads.length then 5 else 0
def sendS (s : St) (b : List UInt8) : St := if sendE s b = 0 then { s with loads := s.loads ++ [b] } else s
def outK (s : St) : Bool := decide (0 < s.peer) && decide (0 < s.loads.length)
def outP (s : St) : Pkt := if outK s then ⟨s.inc, s.peer, s.acked + 1, s.got, s.loads.headD []⟩ else ⟨s.inc, s.peer, 0, s.got, []⟩
def resetS (s : St) (inc : Int) : St := if s.inc < inc ∧ inc ≤ 1099511627776 then news inc else s
def metS (s : St) (fr : Int) : St := if 0 < s.peer then ⟨s.inc, fr, 0, 0, []⟩ else ⟨s.inc, fr, 0, 0, s.loads⟩
def ackS (s : St) (ack : Int) : St := if ack = s.acked + 1 ∧ 0 < s.loads.length then { s with acked := s.acked + 1, loads := s.loads.drop 1 } else s
/- What comes of a packet: the load, whether there is one, whether the connection broke, the link then. -/
structure Tk where
  load : List UInt8
  ok : Bool
  broke : Bool
  st : St
def takeK (s : St) (p : Pkt) (b : Bool) : Tk :=
  if p.to ≠ s.inc then ⟨[], false, b, s⟩
  else if p.seq ≠ (ackS s p.ack).got + 1 then ⟨[], false, b, ackS s p.ack⟩
  else ⟨p.load, true, b, { ackS s p.ack with got := (ackS s p.ack).got + 1 }⟩
def takeR (s : St) (p : Pkt) : Tk :=
  if p.fr < 1 ∨ p.fr < s.peer then ⟨[], false, false, s⟩
  else if s.peer < p.fr then takeK (metS s p.fr) p (decide (0 < s.peer)) else takeK s p false
def St.fit (s : St) : Prop := (1 ≤ s.inc ∧ s.inc ≤ 1099511627776) ∧ (0 ≤ s.peer ∧ s.peer < 9223372036854775808) ∧ (0 ≤ s.acked ∧ 0 ≤ s.got) ∧ s.loads.length ≤ 1000 ∧ ∀ x ∈ s.loads, 0 < x.length ∧ x.length ≤ 1048476

/- The block of a link: the program's (false), the document's (true). -/
def box : Bool → St → Value → Obj
  | false, s, v => .cells #[.int .i64 s.inc, .int .i64 s.peer, .int .i64 s.acked, .int .i64 s.got, v] 54 (0, 0)
  | true, s, v => .cells #[.int .i64 s.inc, .int .i64 s.peer, v, .int .i64 s.acked, .int .i64 s.got] 49 (0, 0)
structure Lk (D : Bool) (w : World) (n : Nat) (s : St) (v : Value) (L : List (List UInt8 × Value)) : Prop where
  cell : w.heap[n]? = some (box D s v)
  row : Ro w 30 v (L.map Prod.snd)
  els : ∀ x ∈ L, w.ownsRow 0 5 1 x.2 x.1.length (bv x.1)
  loads : L.map Prod.fst = s.loads
  fit : s.fit
def Sx (n : Nat) (v : Value) (L : List (List UInt8 × Value)) (g : Nat) : Prop := g = n ∨ blk v = some g ∨ ∃ x ∈ L, blk x.2 = some g
/- A link with what it hides; T: blocks that are not its own. -/
def Lx (D : Bool) (w : World) (n : Nat) (s : St) (T : Nat → Prop) : Prop := ∃ v L, Lk D w n s v L ∧ (∀ g, T g → ¬ Sx n v L g) ∧ ∀ g, T g → g < w.heap.size
theorem Lk.keep {D : Bool} {S : Nat → Prop} {w w' : World} {n : Nat} {s : St} {v : Value} {L : List (List UInt8 × Value)} (h : Lk D w n s v L) (hc : Chg S w w') (hn : ∀ g, Sx n v L g → ¬ S g) : Lk D w' n s v L :=
  ⟨by rw [hc.block n (heap_lt h.cell) (hn n (.inl rfl))]; exact h.cell, h.row.keep hc (fun k hk => hn k (.inr (.inl hk))), fun x hx => owns_keepT (h.els x hx) hc (fun k hk => hn k (.inr (.inr ⟨x, hx, hk⟩))), h.loads, h.fit⟩
theorem Lk.lt {D : Bool} {w : World} {n : Nat} {s : St} {v : Value} {L : List (List UInt8 × Value)} (h : Lk D w n s v L) : ∀ g, Sx n v L g → g < w.heap.size := by
  rintro g (rfl | hk | ⟨x, hx, hk⟩)
  · exact heap_lt h.cell
  · obtain ⟨cur, hc⟩ := h.row.block hk; exact heap_lt hc
  · obtain ⟨cur, hc, _⟩ := owns_blockT (h.els x hx) hk; exact heap_lt hc
theorem Lk.len {D : Bool} {w : World} {n : Nat} {s : St} {v : Value} {L : List (List UInt8 × Value)} (h : Lk D w n s v L) : L.length = s.loads.length := by rw [← h.loads, List.length_map]
theorem Lk.below {D : Bool} {w w' : World} {n : Nat} {s : St} {v : Value} {L : List (List UInt8 × Value)} (h : Lk D w n s v L) (hb : Below w.heap.size w w') : Lk D w' n s v L := h.keep (Chg.of_below hb) (fun _ _ => id)
/- The row and the link lie apart. -/
theorem Lk.row_ne {D : Bool} {w : World} {n : Nat} {s : St} {v : Value} {L : List (List UInt8 × Value)} (h : Lk D w n s v L) {g : Nat} (hk : blk v = some g) : g ≠ n ∧ ∀ x ∈ L, blk x.2 ≠ some g := by
  obtain ⟨cur, hc⟩ := h.row.block hk
  refine ⟨fun e => ?_, fun x hx e => ?_⟩
  · rw [e, h.cell] at hc; cases D <;> cases hc
  · obtain ⟨cur', hc', _⟩ := owns_blockT (h.els x hx) e
    rw [hc'] at hc; cases hc
theorem Lk.els_ne {D : Bool} {w : World} {n : Nat} {s : St} {v : Value} {L : List (List UInt8 × Value)} (h : Lk D w n s v L) : ∀ x ∈ L, blk x.2 ≠ some n := by
  intro x hx e
  obtain ⟨cur', hc', _⟩ := owns_blockT (h.els x hx) e
  rw [h.cell] at hc'; cases D <;> cases hc'
theorem Lx.below {D : Bool} {w w' : World} {n : Nat} {s : St} {T : Nat → Prop} (h : Lx D w n s T) (hB : Below w.heap.size w w') : Lx D w' n s T := by
  obtain ⟨v, L, h1, h2, h3⟩ := h
  exact ⟨v, L, h1.below hB, h2, fun g hg => Nat.lt_of_lt_of_le (h3 g hg) hB.size⟩
theorem Lx.drewN {D : Bool} {w : World} {n : Nat} {s : St} {T : Nat → Prop} (h : Lx D w n s T) (k : Nat) : Lx D (w.drewN k) n s T := h.below (below_drewN (Below.refl _ _) k)
theorem Lx.alloc {D : Bool} {w : World} {n : Nat} {s : St} {T : Nat → Prop} (h : Lx D w n s T) (o : Obj) : Lx D (w.alloc o) n s T := h.below (below1 w o)
theorem Lx.fit {D : Bool} {w : World} {n : Nat} {s : St} {T : Nat → Prop} (h : Lx D w n s T) : s.fit := by obtain ⟨v, L, h1, _⟩ := h; exact h1.fit
theorem Lx.lt {D : Bool} {w : World} {n : Nat} {s : St} {T : Nat → Prop} (h : Lx D w n s T) : ∀ g, T g → g < w.heap.size := by obtain ⟨v, L, _, _, h3⟩ := h; exact h3
theorem Lx.fewer {D : Bool} {w : World} {n : Nat} {s : St} {T T' : Nat → Prop} (h : Lx D w n s T) (hT : ∀ g, T' g → T g) : Lx D w n s T' := by
  obtain ⟨v, L, h1, h2, h3⟩ := h
  exact ⟨v, L, h1, fun g hg => h2 g (hT g hg), fun g hg => h3 g (hT g hg)⟩
/- Something of T has turned, and all that is new may be set apart. -/
theorem Lx.away {D : Bool} {S : Nat → Prop} {w w' : World} {n : Nat} {s : St} {T : Nat → Prop} (h : Lx D w n s T) (hc : Chg S w w') (hS : ∀ g, S g → T g ∨ w.heap.size ≤ g) : Lx D w' n s (fun g => T g ∨ (w.heap.size ≤ g ∧ g < w'.heap.size)) := by
  obtain ⟨v, L, h1, h2, h3⟩ := h
  have hlt := h1.lt
  refine ⟨v, L, h1.keep hc (fun g hg e => ?_), fun g hg e => ?_, fun g hg => ?_⟩
  · rcases hS g e with q | q
    · exact h2 g q hg
    · have := hlt g hg; omega
  · rcases hg with hg | hg
    · exact h2 g hg e
    · have := hlt g e; omega
  · rcases hg with hg | hg
    · exact hc.lt_of (h3 g hg)
    · exact hg.2
theorem Lx.more {D : Bool} {w w' : World} {n : Nat} {s : St} {T : Nat → Prop} (h : Lx D w n s T) (hB : Below w.heap.size w w') : Lx D w' n s (fun g => T g ∨ (w.heap.size ≤ g ∧ g < w'.heap.size)) := h.away (Chg.of_below hB) (fun _ e => e.elim)
/- The end of a call that turned the link's own block and row alone. -/
theorem Lx.of_next {D : Bool} {w w' : World} {n : Nat} {s' : St} {v v' : Value} {L L' : List (List UInt8 × Value)} {T : Nat → Prop} (h2 : ∀ g, T g → ¬ Sx n v L g) (h3 : ∀ g, T g → g < w.heap.size)
    (a : Lk D w' n s' v' L') (hc : Chg (fun g => Sx n v L g) w w') (hs : ∀ g, Sx n v' L' g → Sx n v L g ∨ w.heap.size ≤ g) : Lx D w' n s' T ∧ Kp T w w' := by
  refine ⟨⟨v', L', a, fun g hg e => ?_, fun g hg => hc.lt_of (h3 g hg)⟩, hc.weak fun g _ e f => h2 g f e⟩
  rcases hs g e with e | e
  · exact h2 g hg e
  · have := h3 g hg; omega
theorem news_fit {inc : Int} (h1 : 1 ≤ inc) (h2 : inc ≤ 1099511627776) : (news inc).fit := ⟨⟨h1, h2⟩, ⟨by simp [news], by simp [news]⟩, by simp [news], by simp [news], by simp [news]⟩
theorem Lk.new {D : Bool} {w : World} {n : Nat} {inc : Int} (h1 : 1 ≤ inc) (h2 : inc ≤ 1099511627776) (hc : w.heap[n]? = some (box D (news inc) (.slice none 0 0))) : Lk D w n (news inc) (.slice none 0 0) [] :=
  ⟨hc, Ro.nil _ _, fun x hx => (by cases hx), rfl, news_fit h1 h2⟩
theorem sx_nil {n g : Nat} (h : Sx n (.slice none 0 0) [] g) : g = n := by
  rcases h with rfl | h | ⟨x, hx, _⟩
  · rfl
  · cases h
  · cases hx

theorem set_all {w : World} {n T : Nat} {a b c d e : Value} (h : w.heap[n]? = some (.cells #[a, b, c, d, e] T (0, 0))) (a' b' c' d' e' : Value) :
    (((((w.setCell ⟨n, 0, none⟩ a').setCell ⟨n, 1, none⟩ b').setCell ⟨n, 2, none⟩ c').setCell ⟨n, 3, none⟩ d').setCell ⟨n, 4, none⟩ e').heap[n]? = some (.cells #[a', b', c', d', e'] T (0, 0)) ∧
    Chg (fun g => g = n) w (((((w.setCell ⟨n, 0, none⟩ a').setCell ⟨n, 1, none⟩ b').setCell ⟨n, 2, none⟩ c').setCell ⟨n, 3, none⟩ d').setCell ⟨n, 4, none⟩ e') := by
  have h0 := heap_set h 0 a'
  have h1 := heap_set h0 1 b'
  have h2 := heap_set h1 2 c'
  have h3 := heap_set h2 3 d'
  have h4 := heap_set h3 4 e'
  have k0 : ∀ (W : World) (i : Nat) (u : Value), Chg (fun g => g = n) W (W.setCell ⟨n, i, none⟩ u) := fun W i u => Chg.setCell W ⟨n, i, none⟩ u rfl
  exact ⟨h4, ((((k0 w 0 a').trans (k0 _ 1 b')).trans (k0 _ 2 c')).trans (k0 _ 3 d')).trans (k0 _ 4 e')⟩
/- The program's calls. -/
set_option maxRecDepth 100000 in
theorem new_no (inc : Int) (w : World) (h : ¬ (1 ≤ inc ∧ inc ≤ 1099511627776)) : Calls Try.prog 8 #[.int .i64 inc] w fun e w' => e = .returned (.pointer none) ∧ w' = w := by
  by_cases h1 : inc < 1
  · clear h
    go_enter Try.func8, Try.ntmps8
    go_wp2_with fail
    go_ret
    exact ⟨rfl, rfl⟩
  · have h2 : 1099511627776 < inc := by omega
    clear h
    go_enter Try.func8, Try.ntmps8
    go_wp2_with fail
    go_ret
    exact ⟨rfl, rfl⟩
set_option maxRecDepth 100000 in
theorem new_yes (inc : Int) (w : World) (h : 1 ≤ inc ∧ inc ≤ 1099511627776) : Calls Try.prog 8 #[.int .i64 inc] w fun e w' => ∃ n, e = .returned (.pointer (some ⟨n, 0, none⟩)) ∧ w.heap.size ≤ n ∧ Lx false w' n (news inc) (fun k => k < w.heap.size) ∧ Below w.heap.size w w' := by
  have HH : Hid (1 ≤ inc ∧ inc ≤ 1099511627776) := h
  have h1 : ¬ inc < 1 := by omega
  have h2 : ¬ 1099511627776 < inc := by omega
  clear h
  go_enter Try.func8, Try.ntmps8
  go_wp2_with fail
  go_ret
  refine ⟨w.heap.size, rfl, Nat.le_refl _, ⟨_, [], Lk.new HH.out.1 HH.out.2 (heap_alloc_new w _), fun g hg e => ?_, fun g hg => by simp; omega⟩, below1 _ _⟩
  have := sx_nil e; omega
set_option maxRecDepth 100000 in
theorem there_any {w : World} {n : Nat} {i : Int} (h : w.cell? ⟨n, 0, none⟩ = some (.int .i64 i)) (hi : 0 < i) : Calls Try.prog 30 #[.pointer (some ⟨n, 0, none⟩)] w fun e w' => e = .returned (.bool true) ∧ w' = w := by
  go_enter Try.func30, Try.ntmps30
  go_wp2_with fail
  go_ret
  exact ⟨rfl, rfl⟩
theorem Lk.cells {w : World} {n : Nat} {s : St} {v : Value} {L : List (List UInt8 × Value)} (h : Lk false w n s v L) : w.cell? ⟨n, 0, none⟩ = some (.int .i64 s.inc) ∧ w.cell? ⟨n, 1, none⟩ = some (.int .i64 s.peer) ∧ w.cell? ⟨n, 2, none⟩ = some (.int .i64 s.acked) ∧ w.cell? ⟨n, 3, none⟩ = some (.int .i64 s.got) ∧ w.cell? ⟨n, 4, none⟩ = some v := by
  have hc := h.cell
  simp only [box] at hc
  exact ⟨cell_at hc 0, cell_at hc 1, cell_at hc 2, cell_at hc 3, cell_at hc 4⟩
set_option maxRecDepth 100000 in
theorem wait_any {w : World} {n : Nat} {s : St} {T : Nat → Prop} (h : Lx false w n s T) : Calls Try.prog 26 #[.pointer (some ⟨n, 0, none⟩)] w fun e w' => e = .returned (.int .i64 s.loads.length) ∧ w' = w := by
  obtain ⟨v, L, h1, h2, h3⟩ := h
  obtain ⟨c0, c1, c2, c3, c4⟩ := h1.cells
  have hl := h1.len
  have hi := h1.fit.1
  obtain ⟨A, C, rfl⟩ := h1.row.form
  simp only [List.length_map, hl] at c4
  clear h1 h2 hl
  go_enter Try.func26, Try.ntmps26
  go_wp2_with fail
  refine (there_any c0 (by omega)).mono ?_
  rintro e w1 ⟨rfl, rfl⟩
  go_wp2_with fail
  go_ret
  exact ⟨rfl, rfl⟩
set_option maxRecDepth 100000 in
theorem known_any {w : World} {n : Nat} {s : St} {T : Nat → Prop} (h : Lx false w n s T) : Calls Try.prog 27 #[.pointer (some ⟨n, 0, none⟩)] w fun e w' => e = .returned (.bool (decide (0 < s.peer))) ∧ w' = w := by
  obtain ⟨v, L, h1, h2, h3⟩ := h
  obtain ⟨c0, c1, c2, c3, c4⟩ := h1.cells
  have hi := h1.fit.1
  clear h1 h2 c4
  go_enter Try.func27, Try.ntmps27
  go_wp2_with fail
  refine (there_any c0 (by omega)).mono ?_
  rintro e w1 ⟨rfl, rfl⟩
  go_wp2_with fail
  go_ret
  exact ⟨rfl, rfl⟩
set_option maxRecDepth 100000 in
theorem reset_any {w : World} {n : Nat} {s : St} {T : Nat → Prop} (h : Lx false w n s T) (inc : Int) : Calls Try.prog 21 #[.pointer (some ⟨n, 0, none⟩), .int .i64 inc] w fun e w' => e = .returned (.tuple #[]) ∧ Lx false w' n (resetS s inc) T ∧ Kp T w w' := by
  have hF := h
  obtain ⟨v, L, h1, h2, h3⟩ := h
  obtain ⟨c0, c1, c2, c3, c4⟩ := h1.cells
  have hi := h1.fit.1
  have hfr := fun i => frozen_at (by have := h1.cell; simp only [box] at this; exact this) i
  by_cases hr : s.inc < inc ∧ inc ≤ 1099511627776
  · have hrs : resetS s inc = news inc := if_pos hr
    rw [hrs]
    obtain ⟨hr1, hr2⟩ := hr
    have HF : Hid (∀ w', w'.heap[n]? = some (box false (news inc) (.slice none 0 0)) → Chg (fun g => g = n) w w' → Lx false w' n (news inc) T ∧ Kp T w w') := by
      intro w' hw hc
      exact Lx.of_next h2 h3 (Lk.new (by omega) (by omega) hw) (hc.weak fun g _ e => .inl e) (fun g e => .inl (.inl (sx_nil e)))
    have HC : Hid (w.heap[n]? = some (.cells #[.int .i64 s.inc, .int .i64 s.peer, .int .i64 s.acked, .int .i64 s.got, v] 54 (0, 0))) := h1.cell
    clear hF h1 h2 h3 hrs
    go_enter Try.func21, Try.ntmps21
    go_wp2_with fail
    refine (there_any c0 (by omega)).mono ?_
    rintro e w1 ⟨rfl, rfl⟩
    go_wp2_with fail
    go_end0
    have hA := set_all HC.out (.int .i64 inc) (.int .i64 0) (.int .i64 0) (.int .i64 0) (.slice none 0 0)
    exact ⟨rfl, HF.out _ hA.1 hA.2⟩
  · have hrs : resetS s inc = s := if_neg hr
    rw [hrs]
    have HF : Hid (Lx false w n s T) := hF
    clear hF h1 h2 hrs
    by_cases ha : s.inc < inc
    · have hb : ¬ inc ≤ 1099511627776 := fun e => hr ⟨ha, e⟩
      clear hr
      go_enter Try.func21, Try.ntmps21
      go_wp2_with fail
      refine (there_any c0 (by omega)).mono ?_
      rintro e w1 ⟨rfl, rfl⟩
      go_wp2_with fail
      go_end0
      exact ⟨rfl, HF.out, Chg.refl _ _⟩
    · clear hr
      go_enter Try.func21, Try.ntmps21
      go_wp2_with fail
      refine (there_any c0 (by omega)).mono ?_
      rintro e w1 ⟨rfl, rfl⟩
      go_wp2_with fail
      go_end0
      exact ⟨rfl, HF.out, Chg.refl _ _⟩
end Go.Proofs.Ytpmbkncakbcmbaa
