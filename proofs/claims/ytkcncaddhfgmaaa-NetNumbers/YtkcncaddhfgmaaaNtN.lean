/- The walk of NetNumbers. -/
import Derived.Test.YtkcncaddhfgmaaaNtN0
namespace Go.Proofs.Ytkcncaddhfgmaaa
open Go.RowKit Go.MapKept

abbrev kN : Int × Int := (-9223372036854775808, 9223372036854775807)
def sentN (i : Nat) : List Pk := (List.range i).map fun j => (kN, [UInt8.ofNat j])
theorem sent_step (i : Nat) (hi : i < 32) : sendOk (sentN i) kN [UInt8.ofNat i] = true ∧ sentN i ++ [(kN, [UInt8.ofNat i])] = sentN (i + 1) := by
  have e : bagOf (sentN i) kN = (List.range i).map fun j => [UInt8.ofNat j] := by
    unfold bagOf sentN
    rw [List.filter_eq_self.2 (by intro a ha; obtain ⟨j, _, rfl⟩ := List.mem_map.1 ha; simp)]
    simp
  refine ⟨by simp [sendOk, e, hi], by simp [sentN, List.range_succ]⟩
theorem sent_round {w wr : World} {n j : Nat} (h : At w wr n (sentN j) []) (hj : j < 32) :
    Calls Try.prog 8 #[.pointer (some ⟨n, 0, none⟩), .int .i64 (-9223372036854775808), .int .i64 9223372036854775807, .slice (some ⟨wr.heap.size, 0, none⟩) 1 1] (wr.alloc (.cells #[.int .u8 j] 5)) fun e w' => e = .returned (.bool true) ∧ Hid (At w w' n (sentN (j + 1)) []) := by
  have hs := sent_step j hj
  have hx : Bs (wr.alloc (.cells #[.int .u8 j] 5)) (.slice (some ⟨wr.heap.size, 0, none⟩) 1 1) [UInt8.ofNat j] :=
    Bs_new wr [UInt8.ofNat j] _ _ _ (Nat.le_refl _) (fun i hi => by
      have : i = 0 := by simp at hi; omega
      subst this
      have e : (UInt8.ofNat j).toNat = j := by rw [UInt8.toNat_ofNat']; omega
      simp [e])
  exact at_send (h.alloc _) kN hx hs.1 (by simp [hs.2])
set_option maxRecDepth 100000 in
theorem f1 : sendOk (sentN 32) kN [] = false := by decide
set_option maxRecDepth 100000 in
theorem f2 : twiceR (sentN 32) kN 0 = (false, sentN 32) := by decide
set_option maxRecDepth 100000 in
theorem f3 : (bagOf (sentN 32) kN).length = 32 := by decide
set_option maxRecDepth 100000 in
theorem f4 : peek (sentN 32) kN 32 = none := by decide
set_option maxRecDepth 100000 in
theorem f5 : peek (sentN 32) kN (-1) = none := by decide
set_option maxRecDepth 100000 in
theorem f6 : peek (sentN 32) kN 31 = some [31] := by decide
set_option maxRecDepth 100000 in
theorem f6' : takeP (sentN 32) kN (Int.toNat 31) = sentN 31 := by decide
set_option maxRecDepth 100000 in
theorem f7 : twiceR (sentN 31) kN 30 = (true, sentN 31 ++ [(kN, [30])]) := by decide
set_option maxRecDepth 100000 in
theorem f8 : peek (sentN 31 ++ [(kN, [30])]) kN 31 = some [30] := by decide
set_option maxRecDepth 100000 in
theorem f8' : takeP (sentN 31 ++ [(kN, [30])]) kN (Int.toNat 31) = sentN 31 := by decide
theorem g1 {Z : List UInt8} (h : Z.length = 1048577) : sendOk [] (1, 1) Z = false := by simp [sendOk, h]
theorem g2 {Z : List UInt8} (h : Z.length = 1048576) : sendOk [] (1, 1) Z = true := by simp [sendOk, h, bagOf]
theorem g3 (Z : List UInt8) : sendOk [((1, 1), Z)] (1, 1) [] = true := by simp [sendOk, bagOf]
theorem g4 (Z : List UInt8) : sendOk [((1, 1), Z), ((1, 1), [])] (3, 2) [] = true := by simp [sendOk, bagOf]
theorem g5 (Z : List UInt8) : sendOk [((1, 1), Z), ((1, 1), []), ((3, 2), [])] (2, 3) [] = true := by simp [sendOk, bagOf]
theorem g6 (Z : List UInt8) : sendOk [((1, 1), Z), ((1, 1), []), ((3, 2), []), ((2, 3), [])] (2, -3) [] = true := by simp [sendOk, bagOf]
theorem g7 (Z : List UInt8) : sendOk [((1, 1), Z), ((1, 1), []), ((3, 2), []), ((2, 3), []), ((2, -3), [])] (-1, 3) [] = true := by simp [sendOk, bagOf]
def m6 (Z : List UInt8) : List Pk := [((1, 1), Z), ((1, 1), []), ((3, 2), []), ((2, 3), []), ((2, -3), []), ((-1, 3), [])]
theorem g8 (Z : List UInt8) : linksOf (m6 Z) = [(-1, 3), (1, 1), (2, -3), (2, 3), (3, 2)] := rfl
theorem g9 (Z : List UInt8) : clearP (m6 Z) 3 2 = [((1, 1), Z), ((1, 1), []), ((2, -3), []), ((-1, 3), [])] := rfl
theorem g10 (Z : List UInt8) : clearP [((1, 1), Z), ((1, 1), []), ((2, -3), []), ((-1, 3), [])] 1 1 = [((2, -3), []), ((-1, 3), [])] := rfl
theorem g11 : clearP [((2, -3), []), ((-1, 3), [])] 9 9 = [((2, -3), []), ((-1, 3), [])] := rfl
theorem g12 : linksOf [((2, -3), []), ((-1, 3), [])] = [(-1, 3), (2, -3)] := rfl
set_option maxRecDepth 100000 in
set_option maxHeartbeats 1000000 in
theorem numbers_any (w : World) : Calls Try.prog 4 #[] w fun e w' => e = .returned (.bool true) ∧ Below w.heap.size w w' := by
  obtain ⟨M1, Z1, hz1, hm1, hb1⟩ := made_bytes 1048577 (by decide) 1048577 (by decide)
  obtain ⟨M2, Z2, hz2, hm2, hb2⟩ := made_bytes 1048576 (by decide) 1048576 (by decide)
  have HB1 : Hid _ := hb1
  have HB2 : Hid _ := hb2
  have HZ1 : Hid _ := hz1
  have HZ2 : Hid _ := hz2
  clear hb1 hb2 hz1 hz2
  go_enter Try.func4, Try.ntmps4
  go_wp2_with fail
  refine (at_new (Below.refl w.heap.size w)).mono ?_
  rintro e w1 ⟨n, rfl, h1⟩
  have HN : Hid (At w w1 n (sentN 0) []) := h1
  clear h1
  go_wp2_with fail
  go_loopw [2] (fun i wr => ∃ (j : Nat), j ≤ 32 ∧ i = .int .i64 j ∧ Hid (At w wr n (sentN j) [])) (fun i _ => 32 - (intOf i).toNat)
  case atStart => exact ⟨0, by omega, rfl, HN⟩
  case round =>
    obtain ⟨j, hj, rfl, HR⟩ := hrel
    by_cases hlt : j < 32
    · go_wp2_with fail
      refine (sent_round HR.out hlt).mono ?_
      rintro e w2 ⟨rfl, HR2⟩
      go_wp2_with fail
      go_roundw
      case rel => exact ⟨j + 1, by omega, by go_num, HR2⟩
      case measure => simp [intOf]; omega
    · have hj32 : j = 32 := by omega
      subst hj32
      go_wp2_with fail
      refine (at_send HR.out kN (Bs.nil _) f1 (L' := sentN 32) rfl).mono ?_
      rintro e w2 ⟨rfl, h2⟩
      have HR2 : Hid _ := h2
      clear h2 HR HN
      go_wp2_with fail
      refine (at_twice HR2.out kN 0 f2).mono ?_
      rintro e w3 ⟨rfl, h3⟩
      have HR3 : Hid _ := h3
      clear h3 HR2
      go_wp2_with fail
      refine (at_count HR3.out kN f3).mono ?_
      rintro e w4 ⟨rfl, h4⟩
      have HR4 : Hid _ := h4
      clear h4 HR3
      go_wp2_with fail
      refine (at_not HR4.out kN 32 f4).mono ?_
      rintro e w5 ⟨rfl, h5⟩
      have HR5 : Hid _ := h5
      clear h5 HR4
      go_wp2_with fail
      refine (at_not HR5.out kN (-1) f5).mono ?_
      rintro e w6 ⟨rfl, h6⟩
      have HR6 : Hid _ := h6
      clear h6 HR5
      go_wp2_with fail
      refine (at_take HR6.out kN 31 f6 (c := 1) rfl f6').mono ?_
      rintro e w7 ⟨A7, C7, rfl, h7⟩
      have HR7 : Hid _ := h7
      clear h7 HR6
      go_wp2_with fail
      refine (at_twice HR7.out kN 30 f7).mono ?_
      rintro e w8 ⟨rfl, h8⟩
      have HR8 : Hid _ := h8
      clear h8 HR7
      go_wp2_with fail
      refine (at_take HR8.out kN 31 f8 (c := 1) rfl f8').mono ?_
      rintro e w9 ⟨A9, C9, rfl, h9⟩
      have HR9 : Hid (At w w9 n (sentN 31) [(.slice A9 1 C9, [30]), (.slice A7 1 C7, [31])]) := h9
      clear h9 HR8
      go_wp2_with fail
      refine (at_same (HR9.out.alloc _) ((HR9.out.alloc _).bs (List.mem_cons_of_mem _ List.mem_cons_self)) (litM w9 [31] (cs := #[.int .u8 31]) rfl rfl (0, 0)) (by decide)).mono ?_
      rintro e w10 ⟨rfl, h10⟩
      have HR10 : Hid (At w w10 n (sentN 31) [(.slice A9 1 C9, [30]), (.slice A7 1 C7, [31])]) := h10
      clear h10 HR9
      go_wp2_with fail
      refine (at_same (HR10.out.alloc _) ((HR10.out.alloc _).bs List.mem_cons_self) (litM w10 [30] (cs := #[.int .u8 30]) rfl rfl (0, 0)) (by decide)).mono ?_
      rintro e w11 ⟨rfl, h11⟩
      have HR11 : Hid (Below w.heap.size w w11) := At.low h11
      clear h11 HR10
      go_wp2_with fail
      refine (at_new HR11.out).mono ?_
      rintro e w12 ⟨m, rfl, h12⟩
      have HM : Hid (At w w12 m [] []) := h12
      clear h12 HR11
      go_wp2_with fail
      refine (at_send (HM.out.alloc _) (1, 1) (HB1.out w12) (g1 HZ1.out) (L' := []) rfl).mono ?_
      rintro e u1 ⟨rfl, h⟩
      have HU1 : Hid (At w u1 m [] []) := h
      clear h
      go_wp2_with fail
      refine (at_send (HU1.out.alloc _) (1, 1) (HB2.out u1) (g2 HZ2.out) (L' := [((1, 1), Z2)]) rfl).mono ?_
      rintro e u2 ⟨rfl, h⟩
      have HU2 : Hid (At w u2 m [((1, 1), Z2)] []) := h
      clear h
      go_wp2_with fail
      refine (at_send HU2.out (1, 1) (Bs.nil _) (g3 Z2) (L' := [((1, 1), Z2), ((1, 1), [])]) rfl).mono ?_
      rintro e u3 ⟨rfl, h⟩
      have HU3 : Hid (At w u3 m [((1, 1), Z2), ((1, 1), [])] []) := h
      clear h
      go_wp2_with fail
      refine (at_send HU3.out (3, 2) (Bs.nil _) (g4 Z2) (L' := [((1, 1), Z2), ((1, 1), []), ((3, 2), [])]) rfl).mono ?_
      rintro e u4 ⟨rfl, h⟩
      have HU4 : Hid (At w u4 m [((1, 1), Z2), ((1, 1), []), ((3, 2), [])] []) := h
      clear h
      go_wp2_with fail
      refine (at_send HU4.out (2, 3) (Bs.nil _) (g5 Z2) (L' := [((1, 1), Z2), ((1, 1), []), ((3, 2), []), ((2, 3), [])]) rfl).mono ?_
      rintro e u5 ⟨rfl, h⟩
      have HU5 : Hid (At w u5 m [((1, 1), Z2), ((1, 1), []), ((3, 2), []), ((2, 3), [])] []) := h
      clear h
      go_wp2_with fail
      refine (at_send HU5.out (2, -3) (Bs.nil _) (g6 Z2) (L' := [((1, 1), Z2), ((1, 1), []), ((3, 2), []), ((2, 3), []), ((2, -3), [])]) rfl).mono ?_
      rintro e u6 ⟨rfl, h⟩
      have HU6 : Hid (At w u6 m [((1, 1), Z2), ((1, 1), []), ((3, 2), []), ((2, 3), []), ((2, -3), [])] []) := h
      clear h
      go_wp2_with fail
      refine (at_send HU6.out (-1, 3) (Bs.nil _) (g7 Z2) (L' := (m6 Z2)) rfl).mono ?_
      rintro e u7 ⟨rfl, h⟩
      have HU7 : Hid (At w u7 m (m6 Z2) []) := h
      clear h
      go_wp2_with fail
      refine (at_links HU7.out (by simp [m6]) (g8 Z2) (c := 5) rfl).mono ?_
      rintro e u8 ⟨A8, C8, rfl, hl8, h⟩
      have HU8 : Hid (At w u8 m (m6 Z2) [] ∧ Ls u8 (.slice A8 5 C8) [(-1, 3), (1, 1), (2, -3), (2, 3), (3, 2)]) := ⟨h, hl8⟩
      clear h hl8
      go_wp2_with fail
      refine (at_eq (HU8.out.1.alloc _) (HU8.out.2.below (below1 u8 _)) (Ls.lit u8 [(-1, 3), (1, 1), (2, -3), (2, 3), (3, 2)] rfl rfl) (by decide)).mono ?_
      rintro e u9 ⟨rfl, h⟩
      have HU9 : Hid (At w u9 m (m6 Z2) []) := h
      clear h
      go_wp2_with fail
      refine (at_clear HU9.out 3 2 (g9 Z2)).mono ?_
      rintro e u10 ⟨rfl, h⟩
      have HU10 : Hid (At w u10 m [((1, 1), Z2), ((1, 1), []), ((2, -3), []), ((-1, 3), [])] []) := h
      clear h
      go_wp2_with fail
      refine (at_clear HU10.out 1 1 (g10 Z2)).mono ?_
      rintro e u11 ⟨rfl, h⟩
      have HU11 : Hid (At w u11 m [((2, -3), []), ((-1, 3), [])] []) := h
      clear h
      go_wp2_with fail
      refine (at_clear HU11.out 9 9 g11).mono ?_
      rintro e u12 ⟨rfl, h⟩
      have HU12 : Hid (At w u12 m [((2, -3), []), ((-1, 3), [])] []) := h
      clear h
      go_wp2_with fail
      refine (at_links HU12.out (by decide) g12 (c := 2) rfl).mono ?_
      rintro e u13 ⟨A13, C13, rfl, hl, h⟩
      have HU13 : Hid (At w u13 m [((2, -3), []), ((-1, 3), [])] [] ∧ Ls u13 (.slice A13 2 C13) [(-1, 3), (2, -3)]) := ⟨h, hl⟩
      clear h hl
      go_wp2_with fail
      refine (at_eq (HU13.out.1.alloc _) (HU13.out.2.below (below1 u13 _)) (Ls.lit u13 [(-1, 3), (2, -3)] rfl rfl) (by decide)).mono ?_
      rintro e u14 ⟨rfl, h⟩
      have HU14 : Hid (Below w.heap.size w u14) := At.low h
      clear h
      go_wp2_with fail
      refine (awake_any _).mono ?_
      rintro e u15 ⟨rfl, hb⟩
      have HU15 : Hid (Below w.heap.size w u15) := HU14.out.trans (hb.mono HU14.out.size)
      clear hb
      go_wp2_with fail
      go_ret
      exact ⟨rfl, HU15.out⟩
end Go.Proofs.Ytkcncaddhfgmaaa
