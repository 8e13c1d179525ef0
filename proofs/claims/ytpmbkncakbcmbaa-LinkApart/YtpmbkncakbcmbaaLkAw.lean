/- What LinkApart does to a side besides: its link begins anew, its number rises, its rows are let go. -/
import Derived.Test.YtpmbkncakbcmbaaLkNs
import Derived.Test.YtpmbkncakbcmbaaLkAm
import Derived.Lib.QuietBelow
import Derived.BigQuiet
import Derived.Deep.RegionWith
namespace Go.Proofs.Ytpmbkncakbcmbaa
set_option linter.unusedVariables false
open Go.RowKit Go.Sort
set_option linter.unusedVariables false

theorem Sm.turned {W W' : World} {col : Nat → Nat} {c h a : Nat} {k k1 : Int} {X : Sd} {vs vt vo vs1 vt1 : Value} {Ls Lt Ls1 Lt1 : List (List UInt8 × Value)} {Lp : List (Pkt × Value)} (m : Sm W col c h a k X vs vt vo Ls Lt Lp) (hc1 : 1 ≤ c) (hc : Chg (fun g => g = h) W W')
    (hb : W'.heap[h]? = some (.cells #[.pointer (some ⟨a, 0, none⟩), .int .i64 k1, vs1, vt1, vo] 60 (0, 0))) (h2 : (vs1 = vs ∧ Ls1 = Ls) ∨ (vs1 = .slice none 0 0 ∧ Ls1 = [])) (h3 : (vt1 = vt ∧ Lt1 = Lt) ∨ (vt1 = .slice none 0 0 ∧ Lt1 = [])) :
    Sm W' col c h a k1 ⟨X.s, Ls1.map Prod.fst, Lt1.map Prod.fst, X.outs⟩ vs1 vt1 vo Ls1 Lt1 Lp := by
  obtain ⟨q1, q2, q3, q4, q5, q6, q7, q8, q9, q10, q11, q12, q13, q14, q15⟩ := m
  have n2 : ∀ g, blk vs = some g → ¬ g = h := fun g hg e => by have := q5 g hg; rw [e, q3] at this; omega
  have n3 : ∀ g, blk vt = some g → ¬ g = h := fun g hg e => by have := q7 g hg; rw [e, q3] at this; omega
  have n4 : ∀ g, blk vo = some g → ¬ g = h := fun g hg e => by have := q9 g hg; rw [e, q3] at this; omega
  have n0 : ∀ g, col g = 0 → ¬ g = h := fun g hg e => by rw [e, q3] at hg; omega
  refine ⟨?_, hb, q3, ?_, ?_, ?_, ?_, owns_keep5 q8 hc n4, q9, ?_, ?_, fun x hx => ⟨(q12 x hx).1.keep hc (fun g hg => n0 g ((q12 x hx).2 g hg)), (q12 x hx).2⟩, rfl, rfl, q15⟩
  · exact (q1.keep hc (fun g e z => by have := z.2; rw [e, q3] at this; omega)).more (fun g hg => ⟨hc.lt_of hg.1, hg.2⟩) (fun g hg => hg.1)
  · rcases h2 with ⟨rfl, rfl⟩ | ⟨rfl, rfl⟩
    · exact q4.keep hc n2
    · exact Ro.nil _ _
  · rcases h2 with ⟨rfl, rfl⟩ | ⟨rfl, rfl⟩
    · exact q5
    · exact fun g e => (by cases e)
  · rcases h3 with ⟨rfl, rfl⟩ | ⟨rfl, rfl⟩
    · exact q6.keep hc n3
    · exact Ro.nil _ _
  · rcases h3 with ⟨rfl, rfl⟩ | ⟨rfl, rfl⟩
    · exact q7
    · exact fun g e => (by cases e)
  · rcases h2 with ⟨rfl, rfl⟩ | ⟨rfl, rfl⟩
    · exact fun x hx => ⟨(q10 x hx).1.keep hc (fun g hg => n0 g ((q10 x hx).2 g hg)), (q10 x hx).2⟩
    · exact fun x hx => (by cases hx)
  · rcases h3 with ⟨rfl, rfl⟩ | ⟨rfl, rfl⟩
    · exact fun x hx => ⟨(q11 x hx).1.keep hc (fun g hg => n0 g ((q11 x hx).2 g hg)), (q11 x hx).2⟩
    · exact fun x hx => (by cases hx)
theorem PW.setK {w W : World} {h h' a a' : Nat} {k k' : Int} {F : Fs} {X Y : Sd} {H : Hs} (m : PW w W h h' a a' k k' F X Y H) (k1 : Int) : PW w (W.setCell ⟨h, 1, none⟩ (.int .i64 k1)) h h' a a' k1 k' F X Y H := by
  obtain ⟨col, c, d, m⟩ := m
  obtain ⟨vs, vt, vo, Ls, Lt, Lp, q⟩ := id m.me
  have hc : Chg (fun g => g = h) W (W.setCell ⟨h, 1, none⟩ (.int .i64 k1)) := Chg.setCell _ _ _ rfl
  have := q.turned m.ne.2.1 hc (heap_set q.box 1 (.int .i64 k1)) (.inl ⟨rfl, rfl⟩) (.inl ⟨rfl, rfl⟩)
  rw [q.sent, q.told] at this
  exact ⟨col, c, d, m.next hc (fun g _ e => by rw [e, q.ch]; exact ⟨by omega, by omega⟩) (fun _ _ => rfl) ⟨vs, vt, vo, Ls, Lt, Lp, this⟩⟩
theorem PW.noSent {w W : World} {h h' a a' : Nat} {k k' : Int} {F : Fs} {X Y : Sd} {H : Hs} (m : PW w W h h' a a' k k' F X Y H) : PW w (W.setCell ⟨h, 2, none⟩ (.slice none 0 0)) h h' a a' k k' F ⟨X.s, [], X.told, X.outs⟩ Y H := by
  obtain ⟨col, c, d, m⟩ := m
  obtain ⟨vs, vt, vo, Ls, Lt, Lp, q⟩ := id m.me
  have hc : Chg (fun g => g = h) W (W.setCell ⟨h, 2, none⟩ (.slice none 0 0)) := Chg.setCell _ _ _ rfl
  have := q.turned m.ne.2.1 hc (heap_set q.box 2 (.slice none 0 0)) (.inr ⟨rfl, rfl⟩) (.inl ⟨rfl, rfl⟩)
  rw [q.told] at this
  exact ⟨col, c, d, m.next hc (fun g _ e => by rw [e, q.ch]; exact ⟨by omega, by omega⟩) (fun _ _ => rfl) ⟨_, vt, vo, [], Lt, Lp, this⟩⟩
theorem PW.noTold {w W : World} {h h' a a' : Nat} {k k' : Int} {F : Fs} {X Y : Sd} {H : Hs} (m : PW w W h h' a a' k k' F X Y H) : PW w (W.setCell ⟨h, 3, none⟩ (.slice none 0 0)) h h' a a' k k' F ⟨X.s, X.sent, [], X.outs⟩ Y H := by
  obtain ⟨col, c, d, m⟩ := m
  obtain ⟨vs, vt, vo, Ls, Lt, Lp, q⟩ := id m.me
  have hc : Chg (fun g => g = h) W (W.setCell ⟨h, 3, none⟩ (.slice none 0 0)) := Chg.setCell _ _ _ rfl
  have := q.turned m.ne.2.1 hc (heap_set q.box 3 (.slice none 0 0)) (.inl ⟨rfl, rfl⟩) (.inr ⟨rfl, rfl⟩)
  rw [q.sent] at this
  exact ⟨col, c, d, m.next hc (fun g _ e => by rw [e, q.ch]; exact ⟨by omega, by omega⟩) (fun _ _ => rfl) ⟨vs, _, vo, Ls, [], Lp, this⟩⟩
/- Both rows are let go. -/
theorem PW.noRows {w W : World} {h h' a a' : Nat} {k k' : Int} {F : Fs} {X Y : Sd} {H : Hs} (m : PW w W h h' a a' k k' F X Y H) : PW w ((W.setCell ⟨h, 2, none⟩ (.slice none 0 0)).setCell ⟨h, 3, none⟩ (.slice none 0 0)) h h' a a' k k' F ⟨X.s, [], [], X.outs⟩ Y H := m.noSent.noTold
theorem pw_reset {w W : World} {h h' a a' : Nat} {k k' : Int} {F : Fs} {X Y : Sd} {H : Hs} (m : PW w W h h' a a' k k' F X Y H) (inc : Int) :
    Calls Try.prog 21 #[.pointer (some ⟨a, 0, none⟩), .int .i64 inc] W fun e W' => e = .returned (.tuple #[]) ∧ Hid (PW w W' h h' a a' k k' F ⟨resetS X.s inc, X.sent, X.told, X.outs⟩ Y H) := by
  obtain ⟨col, c, d, m⟩ := m
  obtain ⟨vs, vt, vo, Ls, Lt, Lp, q⟩ := id m.me
  refine (reset_lo q.lk inc).mono ?_
  rintro e W' ⟨rfl, hl, hc⟩
  exact ⟨rfl, _, c, d, m.link (v := .slice none 0 0) (hl.more (fun g hg => hg.elim .inl (fun e => .inr ⟨e, by intro z; cases z⟩)) (fun g hg => hg.elim (fun e => hc.lt_of e.1) (fun e => e.1.2))) hc⟩
/- How far both are: the numbers that the sides bear, the tag, the packets. -/
structure Mta (e f T n : Nat) (k k' : Int) (X Y : Sd) : Prop where
  me : Ap e T n X
  ot : Ap f T n Y
  tx : Tl f T X Y
  ty : Tl e T Y X
  kx : k = X.s.inc
  ky : k' = Y.s.inc
  tn : T ≤ n
theorem Mta.swap {e f T n : Nat} {k k' : Int} {X Y : Sd} (h : Mta e f T n k k' X Y) : Mta f e T n k' k Y X := ⟨h.ot, h.me, h.ty, h.tx, h.ky, h.kx, h.tn⟩
theorem Mta.send {e f T n : Nat} {k k' : Int} {X Y : Sd} (h : Mta e f T n k k' X Y) (hT : n < 300) (st : List (List UInt8)) (hst : st.length ≤ n + 1) : Mta e f (T + 1) (n + 1) k k' ⟨sendS X.s (ldA e X.s.inc (T + 1)), st, X.told, X.outs⟩ Y := by
  obtain ⟨h1, h2, h3, h4, h5, h6, h7⟩ := h
  refine ⟨h1.send (by omega) st hst, h2.more (by omega) (by omega), (h3.more (Nat.le_succ T)).sent _ _, (h4.more (Nat.le_succ T)).same rfl, ?_, h6, by omega⟩
  rw [h5]; unfold sendS; split <;> rfl
theorem Mta.out {e f T n : Nat} {k k' : Int} {X Y : Sd} (h : Mta e f T n k k' X Y) {p : Pkt} (hp : p = outP X.s) : Mta e f T (n + 1) k k' ⟨X.s, X.sent, X.told, X.outs ++ [p]⟩ Y := by
  subst hp
  obtain ⟨h1, h2, h3, h4, h5, h6, h7⟩ := h
  exact ⟨h1.out, h2.more (by omega) (by omega), h3, h4.out _, h5, h6, by omega⟩
theorem Mta.reset {e f T n : Nat} {k k' : Int} {X Y : Sd} (h : Mta e f T n k k' X Y) (hn : n < 300) : resetS X.s (k + 1) = news (k + 1) ∧ Mta e f T (n + 1) (k + 1) k' ⟨news (k + 1), [], [], X.outs⟩ Y := by
  obtain ⟨h1, h2, h3, h4, h5, h6, h7⟩ := h
  have := h1.inc
  refine ⟨by unfold resetS; rw [if_pos ⟨by omega, by omega⟩], by rw [h5]; exact h1.reset, h2.more (by omega) (by omega), .inl rfl, h4.same rfl, rfl, h6, by omega⟩
theorem takeR_inc (s : St) (p : Pkt) : (takeR s p).st.inc = s.inc := by
  have hk : ∀ (M : St) b, (takeK M p b).st.inc = M.inc := by
    intro M b
    have ha : (ackS M p.ack).inc = M.inc := by unfold ackS; split <;> rfl
    unfold takeK; split
    · rfl
    · split
      · exact ha
      · exact ha
  unfold takeR
  split
  · rfl
  · split
    · rw [hk]; unfold metS; split <;> rfl
    · rw [hk]
theorem Mta.idle {e f T n : Nat} {k k' : Int} {X Y : Sd} (h : Mta e f T n k k' X Y) : Mta e f T (n + 1) k k' X Y := by
  obtain ⟨h1, h2, h3, h4, h5, h6, h7⟩ := h
  exact ⟨h1.more (by omega) (by omega), h2.more (by omega) (by omega), h3, h4, h5, h6, by omega⟩
theorem Mta.took {e f T n : Nat} {k k' : Int} {X Y : Sd} (h : Mta e f T n k k' X Y) {p : Pkt} (hp : p ∈ Y.outs) : Mta e f T (n + 1) k k' (tookA X p) Y ∧ ((takeR X.s p).ok = true → OkA f p.fr T (takeR X.s p).load ∧ (∀ x ∈ brk X p, OkA f p.fr T x) ∧ ∀ x, (brk X p).getLast? = some x → tagA x < tagA (takeR X.s p).load) := by
  obtain ⟨h1, h2, h3, h4, h5, h6, h7⟩ := h
  obtain ⟨t1, t2, t3⟩ := h1.took h2 h3 hp
  exact ⟨⟨t1, h2.more (by omega) (by omega), t2, h4.same rfl, by rw [h5]; exact (takeR_inc _ _).symm, h6, by omega⟩, t3⟩
end Go.Proofs.Ytpmbkncakbcmbaa
