/- Rows of bytes that the call itself has made, and appending to them: in place, or into a new block. -/
import Derived.Test.YtbehainbggdpeaaGreatBoA
import Derived.Laws.AppendOwnNone
import Derived.Deep.DrawnRows
import Derived.Laws.Rows
import Derived.Deep.DeepAppendRoom
import Derived.Deep.QuietTactic
import Derived.BigQuiet
namespace Go.Proofs.YtbehainbggdpeaaGreat
namespace AN
open Go.RowKit

theorem owns_set {w : World} {base g n cap : Nat} {l : List Int} (h : w.ownsRow base 2 1 (.slice (some ⟨g, 0, none⟩) n cap) n (l.map (Value.int .i64))) (k : Nat) (x : Int) :
    (w.setCell ⟨g, k, none⟩ (.int .i64 x)).ownsRow base 2 1 (.slice (some ⟨g, 0, none⟩) n cap) n ((l.set k x).map (Value.int .i64)) := by
  have := (World.ownsRow.stored h k (.int .i64 x)).1
  rw [List.map_set]; exact this
theorem owns_cell {w : World} {base g n cap : Nat} {l : List Int} (h : w.ownsRow base 2 1 (.slice (some ⟨g, 0, none⟩) n cap) n (l.map (Value.int .i64))) (k : Nat) (hk : k < n) : w.cell? ⟨g, k, none⟩ = some (.int .i64 (l.getD k 0)) := by
  have hl : l.length = n := by simpa using h.1
  rw [World.ownsRow.cellAt h k (by omega)]
  have : k < l.length := by omega
  simp [this]
theorem owns_lt {w : World} {base g n cap : Nat} {xs : List Value} (h : w.ownsRow base 2 1 (.slice (some ⟨g, 0, none⟩) n cap) n xs) : base ≤ g ∧ g < w.heap.size := h.lt g rfl
theorem ints_one (l : List Int) : ∀ u ∈ l.map (Value.int .i64), u.oneCell' = true := by
  intro u hu
  obtain ⟨x, _, rfl⟩ := List.mem_map.1 hu
  rfl
theorem made_list (n : Nat) : (madeCells (Value.int .i64 0).cells (n * 1)).toList = List.replicate n (Value.int .i64 0) := by
  rw [Nat.mul_one]; exact toList_madeCells_one _ _
theorem one_new (v : Value) (hv : v.oneCell' = true) : ∀ u ∈ [v], u.oneCell' = true := by
  intro u hu; simp at hu; subst hu; exact hv
theorem grownBy_set (w : World) (b o : Nat) (v : Value) : w.grownBy (w.setCell ⟨b, o, none⟩ v) (some b) :=
  ⟨rfl, rfl, rfl, by simp, fun k _ hk => heap_setCell_other w ⟨b, o, none⟩ k v (fun e => hk (by simp [e]))⟩
theorem below_grown {w w' : World} (h : Below w.heap.size w w') (r : Option Nat) : w.grownBy w' r := ⟨h.os, h.tape, h.output, h.size, fun k hk _ => h.block k hk⟩
/- A mark, of any list. -/
def mb (x : Int) : Int := x
theorem infoN : (Tryz.prog.info? 2).map (fun i => (i.zero, i.size, i.bytes)) = some (some (.int .i64 0), 1, 8) := by kernel_rfl
theorem markB_any (k i : Int) (w : World) (hk : 0 ≤ k) (hk' : k < 1000000) (hi : 0 ≤ i) (hi' : i < 1000000000000) :
    Calls Tryz.prog 57 #[.int .i64 k, .int .i64 i] w fun e w' => e = .returned (.int .i64 (mb (1000003 * (k + 7) + i))) ∧ w' = w := by
  go_enter Tryz.func57, Tryz.ntmps57
  go_wp2
  go_ret
  exact ⟨rfl, rfl⟩

def ints (l : List Int) : List Value := l.map (Value.int .i64)
/-- The slice of N numbers l at A, with room for C. -/
def R (w : World) (A : Option Addr) (N C : Nat) (l : List Int) : Prop := w.ownsRow 0 2 1 (.slice A N C) N (ints l)
theorem owns_weak {w : World} {base e size n : Nat} {v : Value} {xs : List Value} (h : w.ownsRow base e size v n xs) : w.ownsRow 0 e size v n xs := by
  refine ⟨h.1, ?_⟩
  rcases h.2 with h2 | ⟨g, cap, cur, hv, _, h3⟩
  · exact .inl h2
  · exact .inr ⟨g, cap, cur, hv, Nat.zero_le _, h3⟩
theorem R.len {w : World} {A : Option Addr} {N C : Nat} {l : List Int} (h : R w A N C l) : l.length = N := by
  have := h.1; simpa [ints] using this
theorem R.form {w : World} {A : Option Addr} {N C : Nat} {l : List Int} (h : R w A N C l) : (A = none ∧ N = 0 ∧ C = 0) ∨ ∃ g, A = some ⟨g, 0, none⟩ ∧ g < w.heap.size ∧ N ≤ C := by
  rcases h.2 with ⟨h1, h2⟩ | ⟨g, cap, cur, hv, _, hg, hnc, _⟩
  · cases h1; exact .inl ⟨rfl, rfl, rfl⟩
  · cases hv
    exact .inr ⟨g, rfl, (owns_lt h).2, hnc⟩
theorem R.pos {w : World} {A : Option Addr} {N C : Nat} {l : List Int} (h : R w A N C l) (hN : 0 < N) : ∃ g, A = some ⟨g, 0, none⟩ ∧ g < w.heap.size := by
  rcases h.form with ⟨_, h2, _⟩ | ⟨g, h1, h2, _⟩
  · omega
  · exact ⟨g, h1, h2⟩
theorem R.kept {w w' : World} {A : Option Addr} {N C : Nat} {l : List Int} {r : Option Nat} (h : R w A N C l) (hg : w.grownBy w' r) (hne : ∀ g, A = some ⟨g, 0, none⟩ → r ≠ some g) : R w' A N C l := by
  refine World.ownsRow.kept h hg ?_
  rcases h.form with ⟨h1, _⟩ | ⟨g, h1, _⟩
  · subst h1; exact .inl rfl
  · subst h1; exact .inr (fun e => hne g rfl e.symm)
theorem R.cell {w : World} {g N C : Nat} {l : List Int} (h : R w (some ⟨g, 0, none⟩) N C l) (i : Nat) (hi : i < N) : w.cell? ⟨g, i, none⟩ = some (.int .i64 (l.getD i 0)) := owns_cell h i hi
theorem R.thaw {w : World} {g N C : Nat} {l : List Int} (h : R w (some ⟨g, 0, none⟩) N C l) (i : Nat) : w.frozen? ⟨g, i, none⟩ = false := World.ownsRow.frozenAt h i
theorem R.set {w : World} {g N C : Nat} {l : List Int} (h : R w (some ⟨g, 0, none⟩) N C l) (i : Nat) (x : Int) : R (w.setCell ⟨g, i, none⟩ (.int .i64 x)) (some ⟨g, 0, none⟩) N C (l.set i x) := owns_set h i x
/-- What begins alike, in the same block. -/
theorem R.head {w : World} {g N N' C : Nat} {l : List Int} (h : R w (some ⟨g, 0, none⟩) N' C l) (hN : N ≤ N') : R w (some ⟨g, 0, none⟩) N C (l.take N) := by
  have hl := h.len
  rcases h.2 with ⟨h1, h2⟩ | ⟨g', cap, cur, hv, hb, hg, hnc, hcm, hcs, ht⟩
  · cases h1
  · cases hv
    refine ⟨by simp [ints]; omega, .inr ⟨g, C, cur, rfl, hb, hg, by omega, hcm, hcs, ?_⟩⟩
    unfold ints at *
    rw [List.map_take, ← ht]
    simp only [Nat.mul_one]
    rw [List.take_take, Nat.min_eq_left hN]

theorem grown_drew_alloc (w : World) (o : Obj) : w.grownBy (w.drew.alloc o) none :=
  have h := World.grownBy_alloc w.drew o none
  ⟨h.os, h.tape, h.output, h.size, h.block⟩
theorem append_two {w : World} {A : Option Addr} {N C : Nat} {l news : List Int} (h : R w A N C l) (ad : Addr) (c ty : Nat)
    (hn : 0 < news.length) (hs : N + news.length ≤ 100000000) (hnews : ∀ j u, (ints news)[j]? = some u → w.cell? (ad.add j) = some u) :
    ∃ A' C' w', (Builtin.append_ #[31, 31] ty #[.slice A N C, .slice (some ad) news.length c]).run Tryz.prog w = .ok (.slice A' (N + news.length) C') w' ∧ R w' A' (N + news.length) C' (l ++ news) ∧
      ((∃ g, A = some ⟨g, 0, none⟩ ∧ A' = A ∧ C' = C ∧ w.grownBy w' (some g)) ∨ (A' = some ⟨w.heap.size, 0, none⟩ ∧ w.grownBy w' none)) := by
  obtain ⟨i0, hi, hz0, hz1, hz2⟩ := info_parts infoN
  have hlen : (ints news).length = news.length := by simp [ints]
  have h1 : ∀ u ∈ ints news, u.oneCell' = true := ints_one news
  have hmap : ints (l ++ news) = ints l ++ ints news := by simp [ints]
  rcases h.form with ⟨rfl, rfl, rfl⟩ | ⟨g, rfl, hgl, hNC⟩
  · have hr := run_append_nil (P := Tryz.prog) w 31 ty 2 i0 (.int .i64 0) Tryz.underlying31 hi hz0 ad news.length c (ints news) (by rw [hz1, hlen, Nat.mul_one]) hnews (by omega) (by omega) (by rw [hz2]; omega)
    obtain ⟨v', w', hr', ho, _, _⟩ := run_append_own (P := Tryz.prog) w 0 31 ty 2 i0 (.int .i64 0) 1 8 Tryz.underlying31 hi hz0 hz1 hz2 rfl (by decide) (.slice none 0 0) 0 (ints l) h ad news.length c (ints news) (by rw [hlen, Nat.mul_one]) hnews h1 (by unfold maxLen; omega) (by omega) (Nat.zero_le _)
    rw [hr] at hr'
    simp only [Result.ok.injEq] at hr'
    obtain ⟨rfl, rfl⟩ := hr'
    refine ⟨some ⟨w.heap.size, 0, none⟩, grownCap w news.length 0 2, _, by rw [Nat.zero_add]; exact hr, ?_, .inr ⟨rfl, ?_⟩⟩
    · rw [← hmap] at ho
      simp only [Nat.zero_add] at ho ⊢
      exact ho
    · exact grown_drew_alloc w _
  · by_cases hroom : N + news.length ≤ C
    · obtain ⟨w', hr, ho, hg⟩ := run_append_own_spare (P := Tryz.prog) w 0 31 ty 2 i0 1 Tryz.underlying31 hi hz1 g N C (ints l) h ad news.length c (ints news) (by rw [hlen, Nat.mul_one]) hnews h1 hroom
      rw [← hmap] at ho
      exact ⟨_, _, w', hr, ho, .inl ⟨g, rfl, rfl, rfl, hg⟩⟩
    · have holds : ∀ j u, (ints l)[j]? = some u → w.cell? ((⟨g, 0, none⟩ : Addr).add j) = some u := World.ownsRow.cells (g := g) h rfl
      have hr := run_append_grow (P := Tryz.prog) w 31 ty 2 i0 (.int .i64 0) Tryz.underlying31 hi hz0 ⟨g, 0, none⟩ N C (ints l) (by rw [hz1]; exact h.1) holds ad news.length c (ints news) (by rw [hz1, hlen, Nat.mul_one]) hnews (by omega) (by omega) (growslice_fits (by omega) (by rw [hz2]; omega))
      obtain ⟨v', w', hr', ho, _, _⟩ := run_append_own (P := Tryz.prog) w 0 31 ty 2 i0 (.int .i64 0) 1 8 Tryz.underlying31 hi hz0 hz1 hz2 rfl (by decide) (.slice (some ⟨g, 0, none⟩) N C) N (ints l) h ad news.length c (ints news) (by rw [hlen, Nat.mul_one]) hnews h1 (by unfold maxLen; omega) (by omega) (Nat.zero_le _)
      rw [hr] at hr'
      simp only [Result.ok.injEq] at hr'
      obtain ⟨rfl, rfl⟩ := hr'
      rw [← hmap] at ho
      exact ⟨_, _, _, hr, ho, .inr ⟨rfl, grown_drew_alloc w _⟩⟩

theorem wpList_app {w : World} {ops : Array Oper} {rest : List Oper} {o : Oper} {a : Act} {Q : Exit → Act → World → Prop} (hgd : o.guard = none) (s x : Operand)
    (ho : o.op = .call { callee := .builtin .append, args := #[s, x], argTypes := #[31, 31] })
    {A : Option Addr} {N C : Nat} {l news : List Int} (hsv : a.eval s = .slice A N C) (h : R w A N C l) (ad : Addr) (c : Nat) (hx : a.eval x = .slice (some ad) news.length c)
    (hn : 0 < news.length) (hs : N + news.length ≤ 100000000) (hnews : ∀ j u, (ints news)[j]? = some u → w.cell? (ad.add j) = some u)
    (hk : ∀ A' C' w', R w' A' (N + news.length) C' (l ++ news) → ((∃ g, A = some ⟨g, 0, none⟩ ∧ A' = A ∧ C' = C ∧ w.grownBy w' (some g)) ∨ (A' = some ⟨w.heap.size, 0, none⟩ ∧ w.grownBy w' none)) → wpList Tryz.prog ops Q rest (a.put o.dst (.slice A' (N + news.length) C')) w') :
    wpList Tryz.prog ops Q (o :: rest) a w := by
  refine wpList_plain hgd fun K hK => ?_
  obtain ⟨A', C', w', hr, h2, h3⟩ := append_two h ad c o.type hn hs hnews
  unfold Oper.wp
  simp [execOp, ho, resolve, invoke, builtin, hsv, hx, hr, Result.andThen]
  exact hK _ _ (hk A' C' w' h2 h3)
end AN
end Go.Proofs.YtbehainbggdpeaaGreat
