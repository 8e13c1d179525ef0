/- A mark's text. -/
import Derived.Test.YtapipnbmljdmbaaGreatDkFb
import Derived.Test.YtapipnbmljdmbaaGreatDkW
namespace Go.Proofs.YtapipnbmljdmbaaGreat
theorem convert_bytes {w : World} {x : Value} {l : List UInt8} (h : Bs w x l) : (convert 22 9 x).run Tryz.prog w = .ok (.string (mkS l)) w := by
  rcases h with ⟨rfl, rfl⟩ | ⟨ad, c, rfl, rfl⟩ | ⟨_, b, o, c, rfl, _, _, h3⟩
  · rw [run_convert_bytes_string w 22 9 5 none 0 0 Tryz.underlying22 Tryz.underlying5 Tryz.underlying9]
    rfl
  · exact run_convert_bytes_back w 22 9 5 ad c [] Tryz.underlying22 Tryz.underlying5 Tryz.underlying9 (fun j hj => by simp at hj)
  · refine run_convert_bytes_back w 22 9 5 ⟨b, o, none⟩ c l Tryz.underlying22 Tryz.underlying5 Tryz.underlying9 (fun j hj => ?_)
    rw [show (⟨b, o, none⟩ : Addr).add j = ⟨b, o + j, none⟩ by simp only [Addr.add]; split <;> simp_all]
    exact h3 j hj
namespace AT
open Go.RowKit

def u8 (n : Nat) : UInt8 := UInt8.ofNat n
theorem u8_val (n : Nat) (h : n < 256) : ((u8 n).toNat : Int) = n := by
  unfold u8; rw [UInt8.toNat_ofNat']; omega
/-- The mark of place i in list k. -/
def M (k i : Nat) : List UInt8 := [35, u8 (k % 256), u8 (k / 256 % 256), u8 (k / 65536), 47, u8 (i % 256), u8 (i / 256 % 256), u8 (i / 65536 % 256)]

set_option maxRecDepth 100000 in
set_option maxHeartbeats 1000000 in
theorem markC (k i : Nat) (w : World) (hk : k < 1000000) (hi : i < 1000000000) :
    Calls Tryz.prog 66 #[.int .i64 (k : Int), .int .i64 (i : Int)] w fun e w' => e = .returned (.string (mkS (M k i))) ∧ w' = w.alloc (.cells (bv (M k i)).toArray 5) := by
  have hb := litB w (M k i) (cs := (bv (M k i)).toArray) rfl (n := 8) rfl
  have hcv := convert_bytes hb
  have hcs : (bv (M k i)).toArray = #[.int .u8 35, .int .u8 ((k : Int) % 256), .int .u8 ((k : Int) / 256 % 256), .int .u8 ((k : Int) / 65536), .int .u8 47, .int .u8 ((i : Int) % 256), .int .u8 ((i : Int) / 256 % 256), .int .u8 ((i : Int) / 65536 % 256)] := by
    have e1 : ((u8 (k % 256)).toNat : Int) = (k : Int) % 256 := by rw [u8_val _ (by omega)]; omega
    have e2 : ((u8 (k / 256 % 256)).toNat : Int) = (k : Int) / 256 % 256 := by rw [u8_val _ (by omega)]; omega
    have e3 : ((u8 (k / 65536)).toNat : Int) = (k : Int) / 65536 := by rw [u8_val _ (by omega)]; omega
    have e4 : ((u8 (i % 256)).toNat : Int) = (i : Int) % 256 := by rw [u8_val _ (by omega)]; omega
    have e5 : ((u8 (i / 256 % 256)).toNat : Int) = (i : Int) / 256 % 256 := by rw [u8_val _ (by omega)]; omega
    have e6 : ((u8 (i / 65536 % 256)).toNat : Int) = (i : Int) / 65536 % 256 := by rw [u8_val _ (by omega)]; omega
    simp only [bv, M, List.map_cons, List.map_nil, e1, e2, e3, e4, e5, e6]
    rfl
  obtain ⟨T, hT⟩ : ∃ T, T = mkS (M k i) := ⟨_, rfl⟩
  rw [hcs] at hcv
  rw [hcs, ← hT]
  rw [← hT] at hcv
  clear hb hT hcs
  have hi' : (i : Int) < 1000000000 := by omega
  have hk' : (k : Int) < 1000000 := by omega
  go_enter Tryz.func66, Tryz.ntmps66
  go_wp2

  go_ret
  exact ⟨rfl, rfl⟩
end AT
end Go.Proofs.YtapipnbmljdmbaaGreat
