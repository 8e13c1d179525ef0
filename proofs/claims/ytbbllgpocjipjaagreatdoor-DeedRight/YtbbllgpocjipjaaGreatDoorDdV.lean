/- The walks of zxids, of the document's, and of what wakes the statements on deeds. -/
import Derived.Test.YtbbllgpocjipjaaGreatDoorDdT
import Derived.Test.YtbbllgpocjipjaaGreatDoorDdU
import Derived.Test.YtbbllgpocjipjaaGreatDoorDdS
namespace Go.Proofs.YtbbllgpocjipjaaGreatDoor.DD
open Go.RowKit
set_option linter.unusedVariables false

def F0 : Fl := ⟨1, 2, 3, 0, 0, 0, [47, 97], [], 0, 0, 2, 0, 0, 0, [], 0⟩
def want0 : List UInt8 := [2, 2, 6, 0, 0, 0, 4, 47, 97, 4]
theorem F0_right : rightD F0 [] = true := by decide +kernel
theorem F0_fit : DedFit F0 [] := by
  refine ⟨⟨?_, ?_, ?_, ?_, ?_, ?_, ?_, ?_, ?_, ?_, ?_, ?_⟩, fun p hp => by simp at hp, rfl⟩
  all_goals (unfold F0; first | exact ⟨by decide, by decide⟩)
theorem F0_bytes : deedB F0 [] = want0 := by
  have n0 : numB 0 = [0] := by unfold numB; rw [digs_small (by decide)]; rfl
  have n1 : numB 1 = [2] := by unfold numB; rw [digs_small (by decide)]; rfl
  have n2 : numB 2 = [4] := by unfold numB; rw [digs_small (by decide)]; rfl
  have n3 : numB 3 = [6] := by unfold numB; rw [digs_small (by decide)]; rfl
  simp [deedB, F0, bodyB, tailB, hasParts, textB, n0, n1, n2, n3, want0, u8]
theorem F0_got : deedOf want0 = some (F0, []) := by rw [← F0_bytes]; exact deedOf_put F0_fit F0_right
def Fz : Fl := fl0 0
theorem Fz_not : rightD Fz [] = false := by decide +kernel
theorem Fz_fit : DedFit Fz [] := by
  refine ⟨⟨?_, ?_, ?_, ?_, ?_, ?_, ?_, ?_, ?_, ?_, ?_, ?_⟩, fun p hp => by simp at hp, rfl⟩
  all_goals (unfold Fz fl0; first | exact ⟨by decide, by decide⟩)
theorem dval_nil {w : World} {f : Fl} (h1 : f.data = []) (h2 : f.mems = []) (h3 : f.np = 0) : DVal w f [] none 0 none 0 none 0 := by
  refine ⟨?_, ?_, ?_⟩
  · rw [h1]; exact .inl ⟨rfl, rfl⟩
  · rw [h2]; exact .inl ⟨rfl, rfl⟩
  · rw [h3]; exact .inl ⟨rfl, rfl⟩
set_option maxRecDepth 100000 in
theorem small_any (w : World) : Calls Tryz.prog 15 #[] w fun e w' => ∃ A C, e = .returned (.tuple #[.agg #[.int .i64 1, .int .u8 2, .int .i64 3, .int .i64 0, .int .i64 0, .int .i64 0, .string ⟨#[47, 97]⟩, .slice none 0 0, .int .i64 0, .int .i64 0, .int .i64 2, .int .i64 0, .int .i64 0, .int .i64 0, .slice none 0 0, .slice none 0 0], .slice A 10 C]) ∧ Bs w' (.slice A 10 C) want0 ∧ Below w.heap.size w w' := by
  go_enter Tryz.func15, Tryz.ntmps15
  go_wp2
  refine bodyPost_ret (v := .tuple #[.agg #[.int .i64 1, .int .u8 2, .int .i64 3, .int .i64 0, .int .i64 0, .int .i64 0, .string ⟨#[47, 97]⟩, .slice none 0 0, .int .i64 0, .int .i64 0, .int .i64 2, .int .i64 0, .int .i64 0, .int .i64 0, .slice none 0 0, .slice none 0 0], .slice (some ⟨w.heap.size + 1, 0, none⟩) 10 10]) (by simp [results, Tryz.results15, go_sem]) rfl ⟨some ⟨w.heap.size + 1, 0, none⟩, 10, rfl, ?_, below2 _ _ _⟩
  have h := Bs_new (w.alloc (.cells #[.int .i64 1, .int .u8 2, .int .i64 3, .int .i64 0, .int .i64 0, .int .i64 0, .string ⟨#[47, 97]⟩, .slice none 0 0, .int .i64 0, .int .i64 0, .int .i64 2, .int .i64 0, .int .i64 0, .int .i64 0, .slice none 0 0, .slice none 0 0] 31)) want0 #[.int .u8 2, .int .u8 2, .int .u8 6, .int .u8 0, .int .u8 0, .int .u8 0, .int .u8 4, .int .u8 47, .int .u8 97, .int .u8 4] (0, 0) 10 (by decide) (by
    intro j hj
    have hj' : j < 10 := hj
    rcases j with _ | _ | _ | _ | _ | _ | _ | _ | _ | _ | j <;> first | rfl | omega)
  rw [World.size_alloc] at h
  exact h
set_option maxRecDepth 100000 in
theorem make_any (e c : Int) (he : I64 e) (hc : I64 c) (w : World) : Calls Tryz.prog 16 #[.int .i64 e, .int .i64 c] w fun x w' => x = .returned (.int .i64 (if 0 ≤ e ∧ e ≤ 1073741824 ∧ 0 ≤ c ∧ c < 4294967296 then e * 4294967296 + c else 0)) ∧ w' = w := by
  unfold I64 at he hc
  by_cases h1 : e < 0
  · rw [if_neg (by omega)]
    go_enter Tryz.func16, Tryz.ntmps16
    go_wp2
    go_ret
    exact ⟨rfl, rfl⟩
  by_cases h2 : 1073741824 < e
  · rw [if_neg (by omega)]
    go_enter Tryz.func16, Tryz.ntmps16
    go_wp2
    go_ret
    exact ⟨rfl, rfl⟩
  by_cases h3 : c < 0
  · rw [if_neg (by omega)]
    go_enter Tryz.func16, Tryz.ntmps16
    go_wp2
    go_ret
    exact ⟨rfl, rfl⟩
  by_cases h4 : 4294967296 ≤ c
  · rw [if_neg (by omega)]
    go_enter Tryz.func16, Tryz.ntmps16
    go_wp2
    go_ret
    exact ⟨rfl, rfl⟩
  rw [if_pos (by omega)]
  go_enter Tryz.func16, Tryz.ntmps16
  go_wp2
  go_ret
  exact ⟨rfl, rfl⟩
def epochI (z : Int) : Int := if 0 ≤ z ∧ z / 4294967296 ≤ 1073741824 then z / 4294967296 else 0
def counterI (z : Int) : Int := if 0 ≤ z ∧ z / 4294967296 ≤ 1073741824 then z % 4294967296 else 0
end Go.Proofs.YtbbllgpocjipjaaGreatDoor.DD
