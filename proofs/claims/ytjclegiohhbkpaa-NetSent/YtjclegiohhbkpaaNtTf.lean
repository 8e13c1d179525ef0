/- NetSent is true, of whatever steps. -/
import Derived.Test.YtjclegiohhbkpaaNtTa
import Derived.Test.YtjclegiohhbkpaaNtTb
namespace Go.Proofs.Ytjclegiohhbkpaa
open Go.RowKit Go.MapKept

theorem Dos.take {w : World} {A : Option Addr} {n C : Nat} {l : List Do1} (h : Dos w (.slice A n C) l) (m : Nat) (hm : m ≤ l.length) : Dos w (.slice A m C) (l.take m) ∧ n = l.length ∧ m ≤ C := by
  obtain ⟨A', C', e, h1, h2, h3⟩ := h
  injection e with e1 e2 e3
  subst e1 e3
  refine ⟨⟨A, C, by rw [List.length_take, Nat.min_eq_left hm], by rw [List.length_take]; omega, fun x hx => h2 x (List.mem_of_mem_take hx), fun j hj => ?_⟩, e2, by omega⟩
  have hj' : j < l.length := by rw [List.length_take] at hj; omega
  have := h3 j hj'
  simpa using this
theorem sent_any {w : World} {v : Value} {l : List Do1} (h : Dos w v l) : Calls Try.prog 5 #[v] w fun e w' => e = .returned (.bool true) ∧ Below w.heap.size w w' := by
  have h' := h
  obtain ⟨A, C, rfl, hC, _, _⟩ := h'
  by_cases hl : l.length ≤ 200
  · exact sent_short h hl
  · have ht := h.take 200 (by omega)
    have e : (l.take 200).length = 200 := by rw [List.length_take]; omega
    exact sent_long (l := l.take 200) (by rw [e]; exact ht.1) e (by omega) (by omega)
end Go.Proofs.Ytjclegiohhbkpaa
