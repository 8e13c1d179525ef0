/- The contract of Get: what is got is new: whatever older block turns, it stays. -/
import Derived.Test.YtogikhondibifaaDoorDdJ1
import Derived.Test.YtogikhondibifaaDoorDdJ2
import Derived.Test.YtogikhondibifaaDoorSgJ3
import Derived.Test.YtogikhondibifaaDoorDdJ4
import Derived.Test.YtogikhondibifaaDoorDdJ5
import Derived.Test.YtogikhondibifaaDoorSgJ6
namespace Go.Proofs.YtogikhondibifaaDoor.DD
open Go.RowKit

def GotF' (w w' : World) (e : Ending) (o : Option (Fl × List Fl)) : Prop :=
  match o with
  | none => e = .returned (.tuple #[.agg #[.int .i64 0, .int .u8 0, .int .i64 0, .int .i64 0, .int .i64 0, .int .i64 0, .string ⟨#[]⟩, .slice none 0 0, .int .i64 0, .int .i64 0, .int .i64 0, .int .i64 0, .int .i64 0, .int .i64 0, .slice none 0 0, .slice none 0 0], .int .i64 4]) ∧ Below w.heap.size w w'
  | some (f, ps) => ∃ A1 c1 A2 c2 A3 c3, e = .returned (.tuple #[.agg #[.int .i64 f.zxid, .int .u8 f.kind, .int .i64 f.session, .int .i64 f.turn, .int .i64 f.xid, .int .i64 f.time, .string (mkS f.path), .slice A1 f.data.length c1, .int .i64 f.owner, .int .i64 f.version, .int .i64 f.cversion, .int .i64 f.timeout, .int .i64 f.err, .int .i64 f.cver, .slice A2 f.mems.length c2, .slice A3 f.np c3], .int .i64 0]) ∧ DVal w' f ps A1 c1 A2 c2 A3 c3 ∧ Below w.heap.size w w' ∧ ∀ (w'' : World) (S : Nat → Prop), Chg S w' w'' → (∀ k, w.heap.size ≤ k → ¬ S k) → DVal w'' f ps A1 c1 A2 c2 A3 c3
theorem dgetf_any {w : World} {x : Value} {b : List UInt8} (hx : Bs w x b) (hb : b.length ≤ 140737488355328) (hL : PA.Laid w) :
    Calls Tryd.prog 14 #[x] w fun e w' => GotF' w w' e (deedOf b) := by
  obtain ⟨AX, CX, rfl⟩ := bs_form hx
  by_cases hw : (rdAll b).2.2 = some []
  · cases hr : rightD (rdAll b).1 (rdAll b).2.1 with
    | true =>
      have e : deedOf b = some ((rdAll b).1, (rdAll b).2.1) := by unfold deedOf; rw [if_pos ⟨hw, hr⟩]
      rw [e]
      cases hp : hasParts ((rdByte (some b)).1.toNat : Int) with
      | false => exact get_3f hx hb hL hp hw hr
      | true => exact get_6f hx hb hL hp hw hr
    | false =>
      have e : deedOf b = none := by unfold deedOf; rw [if_neg (fun h => by rw [hr] at h; exact absurd h.2 (by simp))]
      rw [e]
      cases hp : hasParts ((rdByte (some b)).1.toNat : Int) with
      | false => exact get_2 hx hb hL hp hw hr
      | true => exact get_5 hx hb hL hp hw hr
  · have e : deedOf b = none := by unfold deedOf; rw [if_neg (fun h => hw h.1)]
    rw [e]
    cases hp : hasParts ((rdByte (some b)).1.toNat : Int) with
    | false => exact get_1 hx hb hL hp hw
    | true => exact get_4 hx hb hL hp hw
end Go.Proofs.YtogikhondibifaaDoor.DD
