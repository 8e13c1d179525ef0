/- What NetSent's walk wants besides: Twice, an append that stands alone, Clear, Count, Send; how it begins. -/
import Derived.Test.YtjclegiohhbkpaaNtT2
namespace Go.Proofs.Ytjclegiohhbkpaa
open Go.RowKit Go.MapKept

theorem at_twc {w wr : World} {n h : Nat} {p : List Pk} {V : Vs} {T : Nat → Prop} (s : Sn w wr n h p V T) (a b : Nat) (i : Int) :
    Calls Try.prog 22 #[.pointer (some ⟨n, 0, none⟩), .int .i64 a, .int .i64 b, .int .i64 i] wr fun e w' => e = .returned (.bool (twiceR p ((a : Int), (b : Int)) i).1) ∧ Hid (Sn w w' n h (twiceR p ((a : Int), (b : Int)) i).2 V T) ∧ Kp T wr w' := by
  refine (twice_any s.nx ((a : Int), (b : Int)) i).mono ?_
  rintro e w' ⟨rfl, a1, hk⟩
  exact ⟨rfl, s.net a1 (fun _ => id) hk, hk⟩
theorem wpList_appr {w w' : World} {ops : Array Oper} {rest : List Oper} {o : Oper} {a : Act} {Q : Exit → Act → World → Prop} (T : TypeId) (hgd : o.guard = none) (s x : Operand) (ho : o.op = .call { callee := .builtin .append, args := #[s, x], argTypes := #[T, T] })
    (vs vx v' : Value) (hs : a.eval s = vs) (hx : a.eval x = vx) (hrun : (Builtin.append_ #[T, T] o.type #[vs, vx]).run Try.prog w = .ok v' w') (h : wpList Try.prog ops Q rest (a.put o.dst v') w') : wpList Try.prog ops Q (o :: rest) a w := by
  refine wpList_plain hgd fun K hK => ?_
  unfold Oper.wp execOp
  simp only [ho, resolve, invoke, builtin, Sem.run_bind, Sem.run_pure, Result.andThen_ok, List.map_toArray, List.map_cons, List.map_nil, hs, hx, hrun]
  exact hK _ _ h
def V0 : Vs := fun _ => (.slice none 0 0, [])
abbrev nil16 : Array Value := #[.slice none 0 0, .slice none 0 0, .slice none 0 0, .slice none 0 0, .slice none 0 0, .slice none 0 0, .slice none 0 0, .slice none 0 0, .slice none 0 0, .slice none 0 0, .slice none 0 0, .slice none 0 0, .slice none 0 0, .slice none 0 0, .slice none 0 0, .slice none 0 0]
theorem Sn.start {w wa wb : World} {n : Nat} (b0 : Below w.heap.size w wa) (hn : Nx wb n [] (fun k => k < wa.heap.size)) (hb : Below wa.heap.size wa wb) :
    ∃ T, Sn w (wb.alloc (.cells nil16 43)) n wb.heap.size [] V0 T ∧ PermAll [] V0 := by
  have h1 := hn.more (below1 wb (.cells nil16 43))
  refine ⟨_, ⟨h1, ⟨nil16, heap_alloc_new wb _, rfl, fun j hj => ?_⟩, fun j _ => Rw.nil _, fun i j _ _ _ g e => (by cases e), .inr ⟨Nat.le_refl _, by simp⟩, fun j _ g e => (by cases e), fun j _ x hx => (by simp [V0] at hx), fun g hg => .inl (Nat.lt_of_lt_of_le hg b0.size), ⟨Nat.le_trans b0.size hb.size, fun j _ g e => (by cases e)⟩, ?_⟩, fun j _ => List.Perm.refl _⟩
  · have : j = 0 ∨ j = 1 ∨ j = 2 ∨ j = 3 ∨ j = 4 ∨ j = 5 ∨ j = 6 ∨ j = 7 ∨ j = 8 ∨ j = 9 ∨ j = 10 ∨ j = 11 ∨ j = 12 ∨ j = 13 ∨ j = 14 ∨ j = 15 := by omega
    rcases this with rfl | rfl | rfl | rfl | rfl | rfl | rfl | rfl | rfl | rfl | rfl | rfl | rfl | rfl | rfl | rfl <;> rfl
  · exact b0.trans ((hb.trans ((below1 wb _).mono hb.size)).mono b0.size)
theorem at_clr {w wr : World} {n h : Nat} {p : List Pk} {V : Vs} {T : Nat → Prop} (s : Sn w wr n h p V T) (a b : Nat) :
    Calls Try.prog 23 #[.pointer (some ⟨n, 0, none⟩), .int .i64 a, .int .i64 b] wr fun e w' => e = .returned (.tuple #[]) ∧ Hid (Sn w w' n h (clearP p a b) V T) := by
  refine (clear_any s.nx a b).mono ?_
  rintro e w' ⟨rfl, a1, hk⟩
  exact ⟨rfl, s.net a1 (fun _ => id) hk⟩
theorem at_cnt {w wr : World} {n h : Nat} {p : List Pk} {V : Vs} {T : Nat → Prop} (s : Sn w wr n h p V T) (q : Nat) :
    Calls Try.prog 9 #[.pointer (some ⟨n, 0, none⟩), .int .i64 ((q / 4 : Nat) : Int), .int .i64 ((q % 4 : Nat) : Int)] wr fun e w' => e = .returned (.int .i64 (bagOf p (kj q)).length) ∧ Hid (Sn w w' n h p V T) := by
  refine (count_any s.nx (kj q)).mono ?_
  rintro e w' ⟨rfl, hb⟩
  exact ⟨rfl, s.below hb⟩
theorem kj_at (a b : Nat) (hb : b < 4) : kj (4 * a + b) = ((a : Int), (b : Int)) := by
  simp only [kj]
  have h1 : (4 * a + b) / 4 = a := by omega
  have h2 : (4 * a + b) % 4 = b := by omega
  rw [h1, h2]
theorem at_snd {w wr : World} {n h : Nat} {p : List Pk} {V : Vs} {T : Nat → Prop} (s : Sn w wr n h p V T) (a b : Nat) (_ha : a < 4) (hb : b < 4) {x : Value} {bb : List UInt8} (hx : Bs wr x bb) (hl : bb.length ≤ 1000) :
    Calls Try.prog 17 #[.pointer (some ⟨n, 0, none⟩), .int .i64 a, .int .i64 b, x] wr fun e w' =>
      (e = .returned (.bool true) ∧ (bagOf p (kj (4 * a + b))).length < 32 ∧ Hid (Sn w w' n h (p ++ [(kj (4 * a + b), bb)]) V T) ∧ Kp T wr w') ∨
      (e = .returned (.bool false) ∧ 32 ≤ (bagOf p (kj (4 * a + b))).length ∧ Hid (Sn w w' n h p V T) ∧ Kp T wr w') := by
  rw [kj_at a b hb]
  refine (send_any s.nx ((a : Int), (b : Int)) hx).mono ?_
  rintro e w' ⟨rfl, a1, hk⟩
  by_cases hlt : (bagOf p ((a : Int), (b : Int))).length < 32
  · have hs : sendOk p ((a : Int), (b : Int)) bb = true := by simp [sendOk, hlt]; omega
    rw [hs] at a1 ⊢
    simp only [if_true] at a1
    exact .inl ⟨rfl, hlt, s.net a1 (fun _ => id) hk, hk⟩
  · have hs : sendOk p ((a : Int), (b : Int)) bb = false := by simp [sendOk, hlt]
    rw [hs] at a1 ⊢
    simp only [Bool.false_eq_true, if_false] at a1
    exact .inr ⟨rfl, by omega, s.net a1 (fun _ => id) hk, hk⟩
theorem wp_mono' {P : Program} {c : Code} {Q Q' : Exit → Act → World → Prop} {a : Act} {w : World} (h : c.wp P Q a w) (hq : ∀ e a w, Q e a w → Q' e a w) : c.wp P Q' a w := wp_mono h hq
/- A region's plain end, with what is known of the frame and the world there. -/
def FinOk (P : Act → World → Prop) (e : Exit) (a : Act) (w : World) : Prop := e = .normal ∧ P a w
end Go.Proofs.Ytjclegiohhbkpaa
