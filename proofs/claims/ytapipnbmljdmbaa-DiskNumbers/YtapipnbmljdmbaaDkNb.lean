/- Rows of noughts, and what else DiskNumbers asks. -/
import Derived.Test.YtapipnbmljdmbaaDkP
namespace Go.Proofs.Ytapipnbmljdmbaa
open Go.RowKit Go.MapKept

theorem zeros_bv (n : Nat) : (bv (List.replicate n 0)).toArray = madeCells #[.int .u8 0] n := by
  apply Array.ext
  · simp [bv, madeCells]
  · intro i h1 h2
    simp [bv, madeCells, Nat.mod_one]
theorem zerosB (w : World) (n : Nat) (Z : List UInt8) (hZ : Z = List.replicate n 0) : Bs (w.alloc (.cells (madeCells #[.int .u8 0] n) 5)) (.slice (some ⟨w.heap.size, 0, none⟩) n n) Z := by
  subst hZ
  exact litB w (List.replicate n 0) (zeros_bv n) (by simp)
theorem appE_long {room : Int} {F : List Fi} {k l : List UInt8} (hn : nameB k = true) (h1 : 4194304 < (getF k F).b.length + l.length) : appE room F k l = 3 ∧ appR room F k l = F := by
  have a : appE room F k l = 3 := by
    unfold appE
    rw [if_neg (by rw [hn]; decide), if_pos h1]
  exact ⟨a, by rw [appR, a, if_neg (by decide)]⟩
theorem Dx.away {w w' : World} {d : Nat} {room : Int} {F : List Fi} {T T' : Nat → Prop} (h : Dx w d room F T) (hc : Kp T' w w') (hT : ∀ k, k < w.heap.size → ¬ T k → T' k) : Dx w' d room F T := by
  obtain ⟨base, S, h1, h2, h3, h4⟩ := h
  exact ⟨base, S, Nat.le_trans h1 hc.size, h2.keep hc (fun k hk e => e (hT k (h2.bound k hk).2 (fun t => h3 k t hk))), h3, fun k hk => hc.lt_of (h4 k hk)⟩
def longL : List UInt8 := List.replicate 30 97
def yesL : List (List UInt8) := [[97], [122], [48], [57], [46], [45], [46, 46], longL]
def noL : List (List UInt8) := [[], [65], [97, 32, 98], [97, 47, 98], [95], [0], [255], longL ++ [97], [96], [123], [58]]
def FY (k : Nat) : List Fi := (yesL.take k).map fun n => ⟨n, [1], 0⟩
theorem yes_step : ∀ k : Fin 8, appE 1073741824 (FY k) (yesL.getD k []) [1] = 0 ∧ appR 1073741824 (FY k) (yesL.getD k []) [1] = FY (k + 1) := by decide +kernel
theorem no_step : ∀ k : Fin 11, appE 1073741824 (FY 8) (noL.getD k []) [1] = 2 ∧ appR 1073741824 (FY 8) (noL.getD k []) [1] = FY 8 ∧ renE (FY 8) (noL.getD k []) [97] = 2 ∧ renR (FY 8) (noL.getD k []) [97] = FY 8 ∧ renE (FY 8) [97] (noL.getD k []) = 2 ∧ renR (FY 8) [97] (noL.getD k []) = FY 8 ∧
    synE (FY 8) (noL.getD k []) = 6 ∧ synR (FY 8) (noL.getD k []) = FY 8 ∧ delF (noL.getD k []) (FY 8) = FY 8 ∧ cutE (FY 8) (noL.getD k []) 0 = 6 ∧ cutR (FY 8) (noL.getD k []) 0 = FY 8 := by decide +kernel
theorem longS : (⟨(Lib.repeatL (⟨#[97]⟩ : ByteArray).data.toList 30).toArray⟩ : ByteArray) = mkS longL := by rfl
end Go.Proofs.Ytapipnbmljdmbaa
