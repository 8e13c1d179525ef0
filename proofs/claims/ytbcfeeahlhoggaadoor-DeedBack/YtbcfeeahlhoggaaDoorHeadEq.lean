/- The comparison of five numbers with five noughts. -/
import Derived.Test.YtbcfeeahlhoggaaDoorDdW
import Derived.Laws.StructEq
namespace Go.Proofs.YtbcfeeahlhoggaaDoor.DD
open Go.RowKit

theorem headNeq (w : World) (a b c d e : Int) : (binOp .neq 55 (.agg #[.int .i64 a, .int .i64 b, .int .i64 c, .int .i64 d, .int .i64 e]) (.agg #[.int .i64 0, .int .i64 0, .int .i64 0, .int .i64 0, .int .i64 0])).run Tryd.prog w = .ok (.bool (!(decide (a = 0) && decide (b = 0) && decide (c = 0) && decide (d = 0) && decide (e = 0)))) w := by
  have u2 := Tryd.underlying2
  have z2 := Tryd.sizeOf2
  have a2 := Tryd.isAgg2
  have hq : ∀ (x y : Int) (w : World), (Op.equalIn 9999 2 (.int .i64 x) (.int .i64 y)).run Tryd.prog w = .ok (x == y) w := fun x y w => run_equalIn_int w 9998 2 .i64 .i64 x y u2
  rw [run_neq_struct, show (10000 : Nat) = 9999 + 1 from rfl, Op.equalIn]
  simp only [Sem.run_bind, run_underlying Tryd.underlying55, Result.andThen_ok]
  go_simp
  rw [show List.range' 0 5 = [0, 1, 2, 3, 4] from rfl]
  by_cases h1 : a = 0
  · subst h1
    by_cases h2 : b = 0
    · subst h2
      by_cases h3 : c = 0
      · subst h3
        by_cases h4 : d = 0
        · subst h4
          by_cases h5 : e = 0
          · subst h5
            simp [List.forIn_cons, Sem.run_bind, a2, hq]
          · simp [List.forIn_cons, Sem.run_bind, a2, hq, h5]
        · simp [List.forIn_cons, Sem.run_bind, a2, hq, h4]
      · simp [List.forIn_cons, Sem.run_bind, a2, hq, h3]
    · simp [List.forIn_cons, Sem.run_bind, a2, hq, h2]
  · simp [List.forIn_cons, Sem.run_bind, a2, hq, h1]
end Go.Proofs.YtbcfeeahlhoggaaDoor.DD
