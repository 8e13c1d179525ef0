/- The walks of a config's bytes: put and got. -/
import Derived.Deep.AppendLies
import Derived.Deep.RegionLaw
import Derived.Test.YtkbmbnfpadllmaaDoorBase
import Derived.Test.YtkbmbnfpadllmaaDoorEnsB
import Derived.Test.YtkbmbnfpadllmaaDoorWalksS
namespace Go.Proofs.YtkbmbnfpadllmaaDoor
open Go.RowKit

theorem memsB_snoc : ∀ (a : List Mem) (m : Mem), memsB (a ++ [m]) = memsB a ++ memB m
  | [], m => by simp [memsB]
  | x :: a, m => by rw [List.cons_append, memsB, memsB_snoc a m, memsB, List.append_assoc]
theorem numB_len (n : Int) (h1 : -9223372036854775808 ≤ n) (h2 : n < 9223372036854775808) : (numB n).length ≤ 10 := by
  have := dec_num n h1 h2 []
  rw [List.append_nil] at this
  have := dec_some _ 0 _ _ (by omega) this
  omega
theorem memsB_len : ∀ (l : List Mem), (∀ m ∈ l, fitRole m = true ∧ 0 < m.id ∧ m.id ≤ 7) → (memsB l).length ≤ 40 * l.length
  | [], _ => by simp [memsB]
  | m :: l, h => by
    have h1 := memsB_len l (fun x hx => h x (List.mem_cons_of_mem _ hx))
    have h2 := h m List.mem_cons_self
    have hr := fitRole_weight h2.1
    have hro : 0 ≤ m.role ∧ m.role ≤ 2 := by rcases hr.2.2.2.2.2 with h | h <;> omega
    have b1 := numB_len m.id (by omega) (by omega)
    have b2 := numB_len m.role (by omega) (by omega)
    have b3 := numB_len m.weight (by omega) (by omega)
    have b4 := numB_len m.group (by omega) (by omega)
    rw [memsB, List.length_append, List.length_cons, memB]
    simp only [List.length_append]
    omega
theorem owns_base {w : World} {base base' n : Nat} {v : Value} {xs : List Value} (h : w.ownsRow base 5 1 v n xs) (hb : base' ≤ base) : w.ownsRow base' 5 1 v n xs := by
  refine ⟨h.1, ?_⟩
  rcases h.2 with h2 | ⟨g, cap, cur, hv, hg, h3⟩
  · exact .inl h2
  · exact .inr ⟨g, cap, cur, hv, Nat.le_trans hb hg, h3⟩
theorem New.over {w0 w w' : World} {v : Value} {l : List UInt8} (h : New w w' v l) (hb : Below w0.heap.size w0 w) : New w0 w' v l := ⟨owns_base h.owns hb.size, hb.trans (h.below.mono hb.size)⟩
theorem rdCount_le (r : Rd) (m : Int) (hm : 0 ≤ m) : 0 ≤ (rdCount r m).1 ∧ (rdCount r m).1 ≤ m := by
  unfold rdCount
  split
  · exact ⟨Int.le_refl _, hm⟩
  · omega
/- Members in a row of one's own. -/
def mvs : List Mem → List Value
  | [] => []
  | m :: l => .int .i64 m.id :: .int .u8 m.role :: .int .i64 m.weight :: .int .i64 m.group :: mvs l
theorem mvs_len : ∀ l, (mvs l).length = l.length * 4
  | [] => rfl
  | m :: l => by simp only [mvs, List.length_cons, mvs_len l]; omega
theorem mvs_app : ∀ a b, mvs (a ++ b) = mvs a ++ mvs b
  | [], b => rfl
  | m :: a, b => by simp only [List.cons_append, mvs, mvs_app a b]
theorem mvs_at : ∀ (l : List Mem) (j : Nat) (h : j < l.length), (mvs l)[j * 4]? = some (.int .i64 (l[j]'h).id) ∧ (mvs l)[j * 4 + 1]? = some (.int .u8 (l[j]'h).role) ∧ (mvs l)[j * 4 + 2]? = some (.int .i64 (l[j]'h).weight) ∧ (mvs l)[j * 4 + 3]? = some (.int .i64 (l[j]'h).group)
  | [], j, h => by simp at h
  | m :: l, 0, h => ⟨rfl, rfl, rfl, rfl⟩
  | m :: l, j + 1, h => by
    have := mvs_at l j (by simpa using h)
    have e : (j + 1) * 4 = j * 4 + 4 := by omega
    rw [e]
    exact this
theorem info30 : (Tryd.prog.info? 140).map (fun i => (i.zero, i.size, i.bytes)) = some (some (.agg #[.int .i64 0, .int .u8 0, .int .i64 0, .int .i64 0]), 4, 32) := by kernel_rfl
theorem mems_of_owns {w : World} {base : Nat} {v : Value} {l : List Mem} (h : w.ownsRow base 140 4 v l.length (mvs l)) : Mems w v l := by
  rcases h.2 with ⟨rfl, h0⟩ | ⟨g, cap, cur, rfl, hb, hg, hc, hm, hs, ht⟩
  · exact .inl ⟨rfl, List.length_eq_zero_iff.1 h0⟩
  · by_cases h0 : 0 < l.length
    · refine .inr (.inr ⟨h0, g, 0, cap, rfl, hc, heap_lt hg, fun j hj => ?_⟩)
      have hcell : ∀ i u, (mvs l)[i]? = some u → w.cell? ⟨g, i, none⟩ = some u := by
        intro i u hu
        have hil : i < (mvs l).length := (List.getElem?_eq_some_iff.1 hu).1
        rw [cell_at hg i]
        have : cur.toList[i]? = some u := by
          rw [← hu, ← ht, List.getElem?_take]
          rw [if_pos (by rw [mvs_len] at hil; exact hil)]
        simpa using this
      obtain ⟨c0, c1, c2, c3⟩ := mvs_at l j hj
      rw [Nat.zero_add]
      exact ⟨hcell _ _ c0, hcell _ _ c1, hcell _ _ c2, hcell _ _ c3⟩
    · have : l = [] := List.length_eq_zero_iff.1 (by omega)
      subst this
      exact .inr (.inl ⟨_, cap, rfl, rfl⟩)
theorem owns_keep {S : Nat → Prop} {w w' : World} {base e size n : Nat} {v : Value} {xs : List Value} (h : w.ownsRow base e size v n xs) (hc : Chg S w w') (hn : ∀ k, v.ownBlock = some k → ¬ S k) : w'.ownsRow base e size v n xs := by
  refine ⟨h.1, ?_⟩
  rcases h.2 with h2 | ⟨b, cap, cur, rfl, hb, hb2, hr⟩
  · exact .inl h2
  · exact .inr ⟨b, cap, cur, rfl, hb, by rw [hc.block b (heap_lt hb2) (hn b rfl)]; exact hb2, hr⟩
theorem owns_form' {w : World} {base e size n : Nat} {v : Value} {xs : List Value} (h : w.ownsRow base e size v n xs) : ∃ A C, v = .slice A n C := by
  rcases h.2 with ⟨rfl, rfl⟩ | ⟨g, cap, cur, rfl, _⟩
  · exact ⟨none, 0, rfl⟩
  · exact ⟨_, cap, rfl⟩
theorem mem_step (n : Nat) (r : Rd) : rdMems (n + 1) r = ((rdMem r).1 :: (rdMems n (rdMem r).2).1, (rdMems n (rdMem r).2).2) := rfl
/- What Get tells: the config, or that there is none. -/
def Got (w w' : World) (e : Ending) (o : Option (Int × List Mem)) : Prop :=
  match o with
  | none => e = .returned (.tuple #[.agg #[.int .i64 0, .slice none 0 0], .int .i64 4]) ∧ Below w.heap.size w w'
  | some (ver, l) => ∃ v, e = .returned (.tuple #[.agg #[.int .i64 ver, v], .int .i64 0]) ∧ w'.ownsRow w.heap.size 140 4 v l.length (mvs l) ∧ Below w.heap.size w w'
theorem Got.no {w w' : World} (h : Below w.heap.size w w') : Got w w' (.returned (.tuple #[.agg #[.int .i64 0, .slice none 0 0], .int .i64 4])) none := ⟨rfl, h⟩
theorem Got.yes {w w' : World} {ver : Int} {l : List Mem} (v : Value) (h1 : w'.ownsRow w.heap.size 140 4 v l.length (mvs l)) (h2 : Below w.heap.size w w') : Got w w' (.returned (.tuple #[.agg #[.int .i64 ver, v], .int .i64 0])) (some (ver, l)) := ⟨v, rfl, h1, h2⟩
end Go.Proofs.YtkbmbnfpadllmaaDoor
