/- The contract of getFields. -/
import Derived.Test.YtaeoafedfgbcaaaGreatDoorDdGb
import Derived.Test.YtaeoafedfgbcaaaGreatDoorDdGc
import Derived.Test.YtaeoafedfgbcaaaGreatDoorDdGd
import Derived.Test.YtaeoafedfgbcaaaGreatDoorDdGe
import Derived.Test.YtaeoafedfgbcaaaGreatDoorDdF
namespace Go.Proofs.YtaeoafedfgbcaaaGreatDoor.DD
set_option linter.unusedVariables false
open Go.RowKit
set_option linter.unusedVariables false

def btG (T : Int) (k : Nat) : Bool := bits BinOp.and IntKind.u16 T (4 * 2 ^ k) != 0
theorem GotF.cast {w w' : World} {g : Nat} {q : Option Nat} {e : Ending} {f f' : Fl} {r r' : Rd} (h : GotF w w' g q e f r) (hf : f = f') (hr : r = r') : GotF w w' g q e f' r' := by subst hf; subst hr; exact h
theorem getFields_any {w : World} {g : Nat} {q : Option Nat} {r : Rd} (h : Rdr w g q r) (hq : ∀ k, q = some k → k < w.heap.size) (k : Int) (hk : 0 ≤ k ∧ k < 256) (hL : PA.Laid w) :
    Calls Tryz.prog 25 #[.pointer (some ⟨g, 0, none⟩), .int .u8 k] w fun e w' => GotF w w' g q e (rdBody k r).1 (rdBody k r).2 := by
  by_cases h1 : k = 1
  · subst h1
    refine (getF_both h hq 1 hk hL 2071 (btG 2071) rfl (by decide) (by decide) (by decide) (fun _ _ => rfl)).mono fun e w' hg => hg.cast ?_ ?_
    · simp [numAt, rdSt, show btG 2071 0 = true by decide, show btG 2071 1 = false by decide, show btG 2071 2 = true by decide, show btG 2071 3 = false by decide, show btG 2071 4 = false by decide, rdBody, fl0]
    · simp [rdSt, show btG 2071 0 = true by decide, show btG 2071 1 = false by decide, show btG 2071 2 = true by decide, show btG 2071 3 = false by decide, show btG 2071 4 = false by decide, rdBody]
  by_cases h2 : k = 2
  · subst h2
    refine (getF_path h hq 2 hk hL 3089 (btG 3089) rfl (by decide) (by decide) (by decide) (fun _ _ => rfl)).mono fun e w' hg => hg.cast ?_ ?_
    · simp [numAt, rdSt, show btG 3089 0 = false by decide, show btG 3089 1 = false by decide, show btG 3089 2 = true by decide, show btG 3089 3 = false by decide, show btG 3089 4 = false by decide, rdBody, fl0]
    · simp [rdSt, show btG 3089 0 = false by decide, show btG 3089 1 = false by decide, show btG 3089 2 = true by decide, show btG 3089 3 = false by decide, show btG 3089 4 = false by decide, rdBody]
  by_cases h3 : k = 3
  · subst h3
    refine (getF_both h hq 3 hk hL 2059 (btG 2059) rfl (by decide) (by decide) (by decide) (fun _ _ => rfl)).mono fun e w' hg => hg.cast ?_ ?_
    · simp [numAt, rdSt, show btG 2059 0 = false by decide, show btG 2059 1 = true by decide, show btG 2059 2 = false by decide, show btG 2059 3 = false by decide, show btG 2059 4 = false by decide, rdBody, fl0]
    · simp [rdSt, show btG 2059 0 = false by decide, show btG 2059 1 = true by decide, show btG 2059 2 = false by decide, show btG 2059 3 = false by decide, show btG 2059 4 = false by decide, rdBody]
  by_cases h4 : k = 4
  · subst h4
    refine (getF_none h hq 4 hk hL 32 (btG 32) rfl (by decide) (by decide) (by decide) (fun _ _ => rfl)).mono fun e w' hg => hg.cast ?_ ?_
    · simp [numAt, rdSt, show btG 32 0 = false by decide, show btG 32 1 = false by decide, show btG 32 2 = false by decide, show btG 32 3 = true by decide, show btG 32 4 = false by decide, rdBody, fl0]
    · simp [rdSt, show btG 32 0 = false by decide, show btG 32 1 = false by decide, show btG 32 2 = false by decide, show btG 32 3 = true by decide, show btG 32 4 = false by decide, rdBody]
  by_cases h5 : k = 5
  · subst h5
    refine (getF_none h hq 5 hk hL 260 (btG 260) rfl (by decide) (by decide) (by decide) (fun _ _ => rfl)).mono fun e w' hg => hg.cast ?_ ?_
    · simp [numAt, rdSt, show btG 260 0 = true by decide, show btG 260 1 = false by decide, show btG 260 2 = false by decide, show btG 260 3 = false by decide, show btG 260 4 = false by decide, rdBody, fl0]
    · simp [rdSt, show btG 260 0 = true by decide, show btG 260 1 = false by decide, show btG 260 2 = false by decide, show btG 260 3 = false by decide, show btG 260 4 = false by decide, rdBody]
  by_cases h7 : k = 7
  · subst h7
    refine (getF_cfg h hq 7 hk hL 128 (btG 128) rfl (by decide) (by decide) (by decide) (fun _ _ => rfl)).mono fun e w' hg => hg.cast ?_ ?_
    · simp [numAt, rdSt, show btG 128 0 = false by decide, show btG 128 1 = false by decide, show btG 128 2 = false by decide, show btG 128 3 = false by decide, show btG 128 4 = false by decide, rdBody, fl0]
    · simp [rdSt, show btG 128 0 = false by decide, show btG 128 1 = false by decide, show btG 128 2 = false by decide, show btG 128 3 = false by decide, show btG 128 4 = false by decide, rdBody]
  by_cases h9 : k = 9
  · subst h9
    refine (getF_none h hq 9 hk hL 64 (btG 64) rfl (by decide) (by decide) (by decide) (fun _ _ => rfl)).mono fun e w' hg => hg.cast ?_ ?_
    · simp [numAt, rdSt, show btG 64 0 = false by decide, show btG 64 1 = false by decide, show btG 64 2 = false by decide, show btG 64 3 = false by decide, show btG 64 4 = true by decide, rdBody, fl0]
    · simp [rdSt, show btG 64 0 = false by decide, show btG 64 1 = false by decide, show btG 64 2 = false by decide, show btG 64 3 = false by decide, show btG 64 4 = true by decide, rdBody]
  have eb : rdBody k r = (fl0 k, r) := by unfold rdBody; rw [if_neg h1, if_neg h2, if_neg h3, if_neg h4, if_neg h5, if_neg h7, if_neg h9]
  rw [eb]
  by_cases h6 : k = 6
  · subst h6
    refine (getF_none h hq 6 hk hL 512 (btG 512) rfl (by decide) (by decide) (by decide) (fun _ _ => rfl)).mono fun e w' hg => hg.cast ?_ ?_
    · simp [numAt, show btG 512 0 = false by decide, show btG 512 1 = false by decide, show btG 512 2 = false by decide, show btG 512 3 = false by decide, show btG 512 4 = false by decide, fl0]
    · simp [rdSt, show btG 512 0 = false by decide, show btG 512 1 = false by decide, show btG 512 2 = false by decide, show btG 512 3 = false by decide, show btG 512 4 = false by decide]
  by_cases h8 : k = 8
  · subst h8
    refine (getF_none h hq 8 hk hL 256 (btG 256) rfl (by decide) (by decide) (by decide) (fun _ _ => rfl)).mono fun e w' hg => hg.cast ?_ ?_
    · simp [numAt, show btG 256 0 = false by decide, show btG 256 1 = false by decide, show btG 256 2 = false by decide, show btG 256 3 = false by decide, show btG 256 4 = false by decide, fl0]
    · simp [rdSt, show btG 256 0 = false by decide, show btG 256 1 = false by decide, show btG 256 2 = false by decide, show btG 256 3 = false by decide, show btG 256 4 = false by decide]
  have hz := kTab_zero hk.1 (show ¬ (1 ≤ k ∧ k ≤ 9) by omega)
  refine (getF_none h hq k hk hL 0 (btG 0) hz (by decide) (by decide) (by decide) (fun _ _ => rfl)).mono fun e w' hg => hg.cast ?_ ?_
  · simp [numAt, show btG 0 0 = false by decide, show btG 0 1 = false by decide, show btG 0 2 = false by decide, show btG 0 3 = false by decide, show btG 0 4 = false by decide, fl0]
  · simp [rdSt, show btG 0 0 = false by decide, show btG 0 1 = false by decide, show btG 0 2 = false by decide, show btG 0 3 = false by decide, show btG 0 4 = false by decide]
end Go.Proofs.YtaeoafedfgbcaaaGreatDoor.DD
