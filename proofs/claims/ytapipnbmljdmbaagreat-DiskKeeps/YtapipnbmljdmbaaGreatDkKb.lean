/- Two rows that lie apart: of bytes, of texts. The disk with one file. -/
import Derived.Test.YtapipnbmljdmbaaGreatDkAp
import Derived.Test.YtapipnbmljdmbaaGreatDkTp
import Derived.Test.YtapipnbmljdmbaaGreatDkOv
import Derived.Test.YtapipnbmljdmbaaGreatDkTn
import Derived.Test.YtapipnbmljdmbaaGreatDkP
namespace Go.Proofs.YtapipnbmljdmbaaGreat
open Go.RowKit Go.MapKept

theorem bv_ints (l : List UInt8) : bv l = AB.ints (l.map fun x => (x.toNat : Int)) := by simp [bv, AB.ints]
def ab2 {α : Type} (x y : α) (j : Nat) : α := if j = 0 then x else y
theorem lt2 {j : Nat} (h : j < 2) : j = 0 ∨ j = 1 := by omega
theorem apart_two {w : World} {A0 A1 : Option Addr} {n0 n1 C0 C1 : Nat} {l0 l1 : List Int} (h0 : AB.R w A0 n0 C0 l0) (h1 : AB.R w A1 n1 C1 l1) (hne : ∀ g, A0 = some ⟨g, 0, none⟩ → A1 ≠ some ⟨g, 0, none⟩) (hn0 : n0 ≤ 1000000) (hn1 : n1 ≤ 1000000) :
    Calls Tryz.prog 13 #[.slice (some ⟨w.heap.size, 0, none⟩) 2 2] (w.alloc (.cells #[.slice A0 n0 C0, .slice A1 n1 C1] 22)) fun e w' => e = .returned (.bool true) ∧ (∃ l, AB.R w' A0 n0 C0 l) ∧ Chg (fun k => A0 = some ⟨k, 0, none⟩ ∨ A1 = some ⟨k, 0, none⟩) w w' := by
  have g := World.grownBy_alloc w (.cells #[.slice A0 n0 C0, .slice A1 n1 C1] 22) none
  refine (AB.apartBytes_any w.heap.size 2 2 (ab2 A0 A1) (ab2 n0 n1) (ab2 C0 C1) _ (by omega) (by omega) ?_ ?_ ?_ (by simp) ?_).mono ?_
  · intro k hk; rcases lt2 hk with rfl | rfl <;> simp [ab2] <;> omega
  · intro j k x hj hk hjk e1 e2
    rcases lt2 hj with rfl | rfl <;> rcases lt2 hk with rfl | rfl
    · exact hjk rfl
    · exact hne x e1 e2
    · exact hne x e2 e1
    · exact hjk rfl
  · intro k hk
    rw [cell_of_row _ w.heap.size k _ _ _ (heap_alloc_new w _)]
    rcases lt2 hk with rfl | rfl <;> rfl
  · intro j hj
    rcases lt2 hj with rfl | rfl
    · exact ⟨l0, h0.kept g (by simp)⟩
    · exact ⟨l1, h1.kept g (by simp)⟩
  · rintro e w' ⟨rfl, hc, hr⟩
    refine ⟨rfl, hr 0 (by omega), hc.os.trans g.os, hc.tape.trans g.tape, hc.output.trans g.output, Nat.le_trans g.size hc.size, fun k hk hn => ?_⟩
    rw [hc.block k (Nat.lt_of_lt_of_le hk g.size) ?_, g.block k hk (by simp)]
    intro j hj e
    rcases lt2 hj with rfl | rfl
    · exact hn (.inl e)
    · exact hn (.inr e)
theorem apartT_two {w : World} {A0 A1 : Option Addr} {n0 n1 C0 C1 : Nat} {l0 l1 : List (List UInt8)} (h0 : AT.R w A0 n0 C0 l0) (h1 : AT.R w A1 n1 C1 l1) (hne : ∀ g, A0 = some ⟨g, 0, none⟩ → A1 ≠ some ⟨g, 0, none⟩) (hn0 : n0 ≤ 1000000) (hn1 : n1 ≤ 1000000) :
    Calls Tryz.prog 14 #[.slice (some ⟨w.heap.size, 0, none⟩) 2 2] (w.alloc (.cells #[.slice A0 n0 C0, .slice A1 n1 C1] 33)) fun e w' => e = .returned (.bool true) ∧ Chg (fun k => A0 = some ⟨k, 0, none⟩ ∨ A1 = some ⟨k, 0, none⟩) w w' := by
  have g := World.grownBy_alloc w (.cells #[.slice A0 n0 C0, .slice A1 n1 C1] 33) none
  refine (AT.apartTexts_any w.heap.size 2 2 (ab2 A0 A1) (ab2 n0 n1) (ab2 C0 C1) _ (by omega) (by omega) ?_ ?_ ?_ (by simp) ?_).mono ?_
  · intro k hk; rcases lt2 hk with rfl | rfl <;> simp [ab2] <;> omega
  · intro j k x hj hk hjk e1 e2
    rcases lt2 hj with rfl | rfl <;> rcases lt2 hk with rfl | rfl
    · exact hjk rfl
    · exact hne x e1 e2
    · exact hne x e2 e1
    · exact hjk rfl
  · intro k hk
    rw [cell_of_row _ w.heap.size k _ _ _ (heap_alloc_new w _)]
    rcases lt2 hk with rfl | rfl <;> rfl
  · intro j hj
    rcases lt2 hj with rfl | rfl
    · exact ⟨l0, h0.kept g (by simp)⟩
    · exact ⟨l1, h1.kept g (by simp)⟩
  · rintro e w' ⟨rfl, hc⟩
    refine ⟨rfl, hc.os.trans g.os, hc.tape.trans g.tape, hc.output.trans g.output, Nat.le_trans g.size hc.size, fun k hk hn => ?_⟩
    rw [hc.block k (Nat.lt_of_lt_of_le hk g.size) ?_, g.block k hk (by simp)]
    intro j hj e
    rcases lt2 hj with rfl | rfl
    · exact hn (.inl e)
    · exact hn (.inr e)
/-- The disk with the file "a" alone. -/
def FA (l : List UInt8) : List Fi := [⟨[97], l, 0⟩]
theorem FA_syn (l : List UInt8) : synE (FA l) [97] = 0 := by simp [synE, FA, lookF]
theorem FA_get (l : List UInt8) : getF [97] (FA l) = ⟨[97], l, 0⟩ := by simp [getF, FA, lookF]
theorem FA_names (l : List UInt8) : sortN ((FA l).map (·.nm)) = [[97]] := by simp [FA, sortN]
theorem FA_first (l : List UInt8) (h : l.length ≤ 10000) : appE 1048576 [] [97] l = 0 ∧ appR 1048576 [] [97] l = FA l := by
  have := appE_ok (room := 1048576) (F := []) (k := [97]) (l := l) (by decide) (by simp [getF, lookF]; omega) (by simp [used]; omega)
  exact ⟨this.1, by rw [this.2]; simp [appF, getF, lookF, putF, FA]⟩
theorem FA_next (l m : List UInt8) (h : l.length ≤ 10000) (h2 : m.length ≤ 10000) : appE 1048576 (FA l) [97] m = 0 ∧ appR 1048576 (FA l) [97] m = FA (l ++ m) := by
  have := appE_ok (room := 1048576) (F := FA l) (k := [97]) (l := m) (by decide) (by simp [getF, lookF, FA]; omega) (by simp [used, FA]; omega)
  exact ⟨this.1, by rw [this.2]; simp [appF, getF, lookF, putF, FA]⟩
end Go.Proofs.YtapipnbmljdmbaaGreat
