/- The contract of ApartLongs. -/
import Derived.Test.YtbehainbggdpeaaGreatBgA
namespace Go.Proofs.YtbehainbggdpeaaGreat
namespace AN
open Go.RowKit


def vals (a : Nat → Option Addr) (n c : Nat → Nat) (k : Nat) : List Value := (List.range k).map fun j => .slice (a j) (n j) (c j)
theorem vals_succ (a : Nat → Option Addr) (n c : Nat → Nat) (k : Nat) : vals a n c (k + 1) = vals a n c k ++ [.slice (a k) (n k) (c k)] := by simp [vals, List.range_succ]
theorem bag_new (w : World) : BagAt (w.alloc (.cells #[.slice none 0 0, .slice none 0 0, .slice none 0 0, .slice none 0 0, .slice none 0 0, .slice none 0 0, .slice none 0 0, .slice none 0 0, .slice none 0 0, .slice none 0 0, .slice none 0 0, .slice none 0 0, .slice none 0 0, .slice none 0 0, .slice none 0 0, .slice none 0 0, .slice none 0 0, .slice none 0 0, .slice none 0 0, .slice none 0 0] 77)) w.heap.size (.slice none 0 0) := heap_alloc_new w _
theorem out_of_owns {w : World} {H m G cV : Nat} {a : Nat → Option Addr} {n c : Nat → Nat} (h : w.ownsRow H 31 1 (.slice (some ⟨G, 0, none⟩) m cV) m (vals a n c m)) : Outer G m a n c w := by
  intro k hk
  rw [World.ownsRow.cellAt h k (by omega)]
  simp [vals, hk]
theorem own_pos {w : World} {H m : Nat} {a1 : Option Addr} {c1 : Nat} {xs : List Value} (h : w.ownsRow H 31 1 (.slice a1 m c1) m xs) (hm : 0 < m) : ∃ G, a1 = some ⟨G, 0, none⟩ ∧ H ≤ G ∧ G < w.heap.size := by
  rcases h.2 with ⟨h0, h1⟩ | ⟨g, cap, cur, hv, hb, hg, _⟩
  · omega
  · cases hv
    exact ⟨g, rfl, h.lt g rfl⟩

set_option maxRecDepth 100000 in
set_option maxHeartbeats 2000000 in
theorem apartLongs_any (G0 m cL : Nat) (a : Nat → Option Addr) (n c : Nat → Nat) (w : World) (hm : m ≤ 1000) (hm1 : 1 ≤ m) (hn : ∀ k, k < m → n k ≤ 2000000)
    (hne : ∀ j k g, j < m → k < m → j ≠ k → a j = some ⟨g, 0, none⟩ → a k ≠ some ⟨g, 0, none⟩) (ho : Outer G0 m a n c w) (hG0 : G0 < w.heap.size) (hr : ∀ j, j < m → ∃ l, R w (a j) (n j) (c j) l) :
    Calls Tryz.prog 10 #[.slice (some ⟨G0, 0, none⟩) m cL] w fun e w' => e = .returned (.bool true) ∧ Chg m a w w' ∧ ∀ j, j < m → ∃ l, R w' (a j) (n j) (c j) l := by
  have HN : Hid (∀ k, k < m → n k ≤ 2000000) := hn
  have HE : Hid (∀ j k g, j < m → k < m → j ≠ k → a j = some ⟨g, 0, none⟩ → a k ≠ some ⟨g, 0, none⟩) := hne
  have HO : Hid (Outer G0 m a n c w) := ho
  have HR : Hid (∀ j, j < m → ∃ l, R w (a j) (n j) (c j) l) := hr
  clear hn hne ho hr
  go_enter Tryz.func10, Tryz.ntmps10
  go_wp2
  have HB0 : Hid (BagAt (w.alloc (.cells #[.slice none 0 0, .slice none 0 0, .slice none 0 0, .slice none 0 0, .slice none 0 0, .slice none 0 0, .slice none 0 0, .slice none 0 0, .slice none 0 0, .slice none 0 0, .slice none 0 0, .slice none 0 0, .slice none 0 0, .slice none 0 0, .slice none 0 0, .slice none 0 0, .slice none 0 0, .slice none 0 0, .slice none 0 0, .slice none 0 0] 77)) w.heap.size (.slice none 0 0)) := bag_new w
  go_loopw [4] (fun s wr => ∃ (k : Nat) (a1 : Option Addr) (c1 : Nat), s = .int .i64 k ∧ k ≤ m ∧ BagAt wr w.heap.size (.slice a1 k c1) ∧ wr.ownsRow w.heap.size 31 1 (.slice a1 k c1) k (vals a n c k) ∧ (∀ x, a1 = some x → x.block ≠ w.heap.size) ∧ Below w.heap.size w wr) (fun s _ => m - (intOf s).toNat)
  case atStart => exact ⟨0, none, 0, rfl, by omega, HB0.out, World.ownsRow_nil _ _ _ _, (fun x h => by cases h), (Below.refl _ _).alloc (Nat.le_refl _) _⟩
  case round =>
    obtain ⟨k, a1, c1, rfl, hk, b1, o1, n1, bl⟩ := hrel
    have HX : Hid (BagAt wr w.heap.size (.slice a1 k c1) ∧ wr.ownsRow w.heap.size 31 1 (.slice a1 k c1) k (vals a n c k) ∧ (∀ x, a1 = some x → x.block ≠ w.heap.size) ∧ Below w.heap.size w wr) := ⟨b1, o1, n1, bl⟩
    clear b1 o1 n1 bl HB0
    by_cases hlt : k < m
    · have cx : wr.cell? ⟨G0, k, none⟩ = some (.slice (a k) (n k) (c k)) := by
        rw [HX.out.2.2.2.cell (p := ⟨G0, k, none⟩) hG0]; exact HO.out k hlt
      go_wp2_with fail
      refine (putLongs_any w.heap.size w.heap.size k a1 c1 (vals a n c k) (a k) (n k) (c k) wr HX.out.1 HX.out.2.1 HX.out.2.2.2.size (Nat.le_refl _) HX.out.2.2.1 (by omega)).mono ?_
      rintro e W2 ⟨rfl, a2, c2, b2, o2, n2, bl2⟩
      have HY : Hid (BagAt W2 w.heap.size (.slice a2 (k + 1) c2) ∧ W2.ownsRow w.heap.size 31 1 (.slice a2 (k + 1) c2) (k + 1) (vals a n c (k + 1)) ∧ (∀ x, a2 = some x → x.block ≠ w.heap.size) ∧ Below w.heap.size w W2) :=
        ⟨b2, by rw [vals_succ]; exact o2, n2, HX.out.2.2.2.trans bl2⟩
      clear b2 o2 n2 bl2 HX cx
      go_wp2
      go_roundw
      case rel => exact ⟨k + 1, a2, c2, by go_num, by omega, HY.out.1, HY.out.2.1, HY.out.2.2.1, HY.out.2.2.2⟩
      case measure => simp [intOf]; omega
    · obtain rfl : k = m := by omega
      obtain ⟨G, rfl, hG1, hG2⟩ := own_pos HX.out.2.1 (by omega)
      have hsz := HX.out.2.2.2.size
      have hrows : ∀ j, j < k → ∃ l, R wr (a j) (n j) (c j) l := fun j hj => by
        obtain ⟨l, hl⟩ := HR.out j hj
        exact ⟨l, hl.kept (below_grown HX.out.2.2.2 none) (by simp)⟩
      have hlt2 : ∀ j g, j < k → a j = some ⟨g, 0, none⟩ → g < w.heap.size := fun j g hj e => by
        obtain ⟨l, hl⟩ := HR.out j hj
        rw [e] at hl
        exact (owns_lt hl).2
      have HL : Hid (Lay wr.heap.size G k a n c) := ⟨hm, HN.out, hG2, fun j g hj e => by have := hlt2 j g hj e; omega, HE.out⟩
      have HRr : Hid (∀ j, j < k → ∃ l, R wr (a j) (n j) (c j) l) := hrows
      clear hrows hlt2
      go_wp2_with fail
      refine (apart_any G k c1 w.heap.size a n c wr HL.out HX.out.1 (out_of_owns HX.out.2.1) HRr.out).mono ?_
      rintro e W3 ⟨rfl, ch, r3⟩
      have HC : Hid (Chg k a w W3 ∧ ∀ j, j < k → ∃ l, R W3 (a j) (n j) (c j) l) := ⟨Chg.trans' (below_grown HX.out.2.2.2 none) ch, r3⟩
      clear ch r3 HX
      go_wp2
      go_ret
      exact ⟨rfl, HC.out⟩
end AN
end Go.Proofs.YtbehainbggdpeaaGreat
