/- The walk of the closed statement: paths at their greatest length, each byte as a part, and the chapter's examples. -/
import Derived.Test.YtjgknjlinmcapaaDoorTellsWalk
import Derived.Lib.QuietBelow
import Derived.BigQuiet
namespace Go.Proofs.YtjgknjlinmcapaaDoor
open Go.RowKit Go.Shelf

def longS : List UInt8 := 47 :: Lib.repeatL [97] 199
def hundred : List UInt8 := Lib.repeatL [47, 97] 100
def yesL : List (List UInt8) := [[47], [47, 97], [47, 97, 47, 98], [47, 46, 46, 46], [47, 46, 97], [47, 97, 46], [47, 126], longS, hundred]
def noL : List (List UInt8) := [[], [97], [47, 97, 47], [47, 47, 97], [47, 97, 47, 47, 98], [47, 97, 47, 46, 47, 98], [47, 46, 46], [47, 46], [47, 97, 32, 98], [47, 97, 0], [47, 127], longS ++ [97], hundred ++ [98], [47, 47]]
theorem yes_right : (yesL.all right) = true := by decide +kernel
theorem no_right : (noL.all fun s => !right s) = true := by decide +kernel
theorem yes_under : (yesL.all fun s => underS [47] s && underS s s) = true := by decide +kernel

theorem n_one : numS [47, 97, 47] 0 = ([47, 97, 47, 48, 48, 48, 48, 48, 48, 48, 48, 48, 48], true) := by decide +kernel
theorem n_two : numS [47, 97] (-1) = ([], false) := by decide +kernel
theorem n_three : numS [47, 97] 2147483648 = ([], false) := by decide +kernel
theorem n_four : numS [47, 97] 2147483647 = ([47, 97, 50, 49, 52, 55, 52, 56, 51, 54, 52, 55], true) := by decide +kernel
theorem n_five : numS [] 1 = ([], false) := by decide +kernel
theorem n_six : numS (longS.take 191) 1 = ([], false) := by decide +kernel
def endS : List UInt8 := longS.take 190 ++ [48, 48, 48, 48, 48, 48, 48, 48, 48, 49]
theorem n_seven : numS (longS.take 190) 1 = (endS, true) := by decide +kernel
theorem end_len : endS.length = 200 := by decide +kernel
theorem j_one : joinS (longS.take 198) [97] = longS.take 198 ++ [47, 97] := by decide +kernel
theorem j_two : joinS (longS.take 199) [97] = [] := by decide +kernel
theorem q_one : parentS [47] = [] ∧ lastS [47] = [] ∧ parentS [47, 97] = [47] := by decide +kernel

theorem repeat_k (s : List UInt8) (c : Nat) (hc : s.length * c ≤ 100000) (hc2 : c ≤ 100000) (w0 w : World) (hk : Kept w0 w) :
    Calls Tryd.prog 22 #[.string (mkS s), .int .i64 c] w fun e w' => e = .returned (.string (mkS (Lib.repeatL s c))) ∧ Kept w0 w' := by
  refine (Tryd.strings_Repeat (mkS s) c w (by omega) (by rw [mkS_size]; omega)).mono ?_
  rintro e w' ⟨rfl, hB⟩
  rw [mkS_list]
  exact ⟨rfl, hk.go hB⟩
theorem conv_one (k : Nat) (w : World) :
    (convert 31 9 (.slice (some ⟨w.heap.size, 0, none⟩) 1 1)).run Tryd.prog (w.alloc (.cells #[.int .u8 (k : Int)] 5)) = .ok (.string (mkS [UInt8.ofNat k])) (w.alloc (.cells #[.int .u8 (k : Int)] 5)) := by
  have h := run_convert_bytes_arg (P := Tryd.prog) (w.alloc (.cells #[.int .u8 (k : Int)] 5)) 31 5 Tryd.underlying31 Tryd.underlying5 w.heap.size 0 1 1 [(k : Int)] rfl (by
    intro i hi
    obtain rfl : i = 0 := by omega
    simp [go_sem]) 9 Tryd.underlying9
  rw [h]
  rfl

theorem conv_two (k : Nat) (w : World) (o : Obj) :
    (convert 31 9 (.slice (some ⟨w.heap.size + 1, 0, none⟩) 1 1)).run Tryd.prog ((w.alloc o).alloc (.cells #[.int .u8 (k : Int)] 5)) = .ok (.string (mkS [UInt8.ofNat k])) ((w.alloc o).alloc (.cells #[.int .u8 (k : Int)] 5)) := by
  have := conv_one k (w.alloc o)
  rwa [World.size_alloc] at this
theorem below_trans_size {w w' w'' : World} (h : Below w.heap.size w w') (g : Below w'.heap.size w' w'') : Below w.heap.size w w'' := h.trans (g.mono h.size)
/- A contract in a world of a region's class. -/
theorem in_class {f : FuncId} {args : Array Value} {v : Value} {w : World} (hL : Laid w) (h : ∀ W, Laid W → Calls Tryd.prog f args W fun e w' => e = .returned v ∧ Kept W w') (d : Nat) (os : Array Obj) :
    Calls Tryd.prog f args (Sort.grow (redrawn w d) os) fun e w'' => e = .returned v ∧ ∃ p : Regrown, w'' = Sort.grow (redrawn w p.d) p.os :=
  Calls.regrown_of ((h _ (hL.below (below_regrown w d os))).mono fun _ _ ⟨he, hk⟩ => ⟨he, hk.below⟩)
theorem in_class2 {f : FuncId} {args : Array Value} {v : Value} {w0 w : World} (hT : Tab w0) (hk : Kept w0 w) (h : ∀ W, Tab W → Laid W → Calls Tryd.prog f args W fun e w' => e = .returned v ∧ Kept W w') (d : Nat) (os : Array Obj) :
    Calls Tryd.prog f args (Sort.grow (redrawn w d) os) fun e w'' => e = .returned v ∧ ∃ p : Regrown, w'' = Sort.grow (redrawn w p.d) p.os :=
  Calls.regrown_of ((h _ (hT.kept (hk.go (below_regrown w d os))) (hk.laid.below (below_regrown w d os))).mono fun _ _ ⟨he, hk⟩ => ⟨he, hk.below⟩)
theorem self {W : World} (h : Laid W) : Kept W W := ⟨h, Below.refl _ _⟩

set_option maxRecDepth 100000 in
set_option maxHeartbeats 40000000 in
theorem limits_any (w0 w : World) (hT : Tab w0) (hk : Kept w0 w) :
    Calls Tryd.prog 5 #[] w fun e w' => e = .returned (.bool true) ∧ Kept w0 w' := by
  have hlong : ByteArray.mk #[47] ++ mkS (Lib.repeatL [97] 199) = mkS longS := mkS_append [47] _
  have hb1 : ¬ 9223372036854775807 < 1 + (mkS (Lib.repeatL [97] 199)).size := by rw [mkS_size, Lib.repeatL_length]; decide
  go_enter Tryd.func5, Tryd.ntmps5
  go_wp2_with fail
  refine (repeat_k [97] 199 (by decide) (by decide) w0 _ hk).mono ?_
  rintro e w1 ⟨rfl, hk1⟩
  go_wp2
  go_loopw [2] (fun c wr => ∃ k : Nat, c = .int .i64 k ∧ k ≤ 256 ∧ Kept w0 wr) (fun c _ => 256 - (intOf c).toNat)
  case atStart => exact ⟨0, rfl, by omega, hk1⟩
  case round =>
    obtain ⟨k, rfl, hkl, hkr⟩ := hrel
    by_cases hk256 : k < 256
    · have t1 : (k : Int) < 256 := by omega
      have hconv := fun W => conv_one k W
      have hconv2 := fun W o => conv_two k W o
      obtain ⟨x, hx⟩ : ∃ x, UInt8.ofNat k = x := ⟨_, rfl⟩
      rw [hx] at hconv hconv2
      have hsz : (mkS [x]).size = 1 := mkS_size [x]
      have hx1 : ByteArray.mk #[47, 120] ++ mkS [x] = mkS [47, 120, x] := mkS_append [47, 120] [x]
      have hx2 : ByteArray.mk #[47] ++ mkS [x] = mkS [47, x] := mkS_append [47] [x]
      have hg : ∀ W o, Kept w0 W → Kept w0 (W.alloc o) := fun W o h => h.go (newBelow W o)
      clear hx
      go_wp2_with fail
      refine (tells_any [47, 120, x] [x] w0 _ hT ?hka).mono ?_
      case hka => exact hg _ _ (hg _ _ hkr)
      rintro e w2 ⟨rfl, hk2⟩
      go_wp2_with fail
      refine (tells_any [47, x] [47] w0 _ hT ?hkb).mono ?_
      case hkb => exact hg _ _ hk2
      rintro e w3 ⟨rfl, hk3⟩
      go_wp2
      go_roundw
      case rel => exact ⟨k + 1, by simp, by omega, hk3⟩
      case measure => simp [intOf]; omega
    · have t1 : ¬ (k : Int) < 256 := by omega
      have hz2 : (mkS longS).size = 200 := by rw [mkS_size]; decide
      have hcat1 : mkS longS ++ ByteArray.mk #[97] = mkS (longS ++ [97]) := mkS_append longS [97]
      have hcat2 : mkS hundred ++ ByteArray.mk #[98] = mkS (hundred ++ [98]) := mkS_append hundred [98]
      have hb2 : (mkS hundred).size = 200 := by rw [mkS_size]; decide
      clear hlong hb1
      go_wp2_with fail
      refine (repeat_k [47, 97] 100 (by decide) (by decide) w0 _ hkr).mono ?_
      rintro e w2 ⟨rfl, hk2⟩
      rw [show Lib.repeatL [47, 97] 100 = hundred from rfl]
      go_wp2_with fail
      obtain ⟨W3, hW3⟩ : ∃ W, w2.alloc (.cells (rowOf yesL) 9) = W := ⟨_, rfl⟩
      have hrow1 : W3.heap[w2.heap.size]? = some (.cells (rowOf yesL) 9) := by rw [← hW3]; exact World.alloc_heap_new w2 _
      have hk3 : Kept w0 W3 := by rw [← hW3]; exact hk2.go (newBelow w2 _)
      change Calls _ _ _ (w2.alloc (.cells (rowOf yesL) 9)) _
      rw [hW3]
      clear hW3
      refine (repeat_k [47, 97] 100 (by decide) (by decide) W3 W3 ⟨hk3.laid, Below.refl _ _⟩).mono ?_
      rintro e w4 ⟨rfl, hk4'⟩
      rw [show Lib.repeatL [47, 97] 100 = hundred from rfl]
      have hrow4 : w4.heap[w2.heap.size]? = some (.cells (rowOf yesL) 9) := by rw [hk4'.below.block _ (Array.getElem?_eq_some_iff.1 hrow1).1]; exact hrow1
      have hk4 : Kept w0 w4 := hk3.go hk4'.below
      generalize w2.heap.size = by1 at hrow4
      clear hk4' hrow1 hk3 hk2
      go_wp2
      obtain ⟨W5, hW5⟩ : ∃ W, w4.alloc (.cells (rowOf noL) 9) = W := ⟨_, rfl⟩
      have hrowY : W5.heap[by1]? = some (.cells (rowOf yesL) 9) := by rw [← hW5, Below.heap_alloc w4 _ _ (Array.getElem?_eq_some_iff.1 hrow4).1]; exact hrow4
      have hrowN : W5.heap[w4.heap.size]? = some (.cells (rowOf noL) 9) := by rw [← hW5]; exact World.alloc_heap_new w4 _
      have hk5 : Kept w0 W5 := by rw [← hW5]; exact hk4.go (newBelow w4 _)
      change Code.wp _ _ _ _ (w4.alloc (.cells (rowOf noL) 9))
      rw [hW5]
      clear hW5 hrow4 hk4 hcat1 hcat2
      generalize w4.heap.size = by2 at hrowN ⊢
      have hmx : Tryd.prog.follows .mixedOrders = true := by kernel_rfl
      go_loopw [5] (fun i wr => ∃ pos : Nat, i = .int .i64 pos ∧ pos ≤ 9 ∧ wr.heap[by1]? = some (.cells (rowOf yesL) 9) ∧ wr.heap[by2]? = some (.cells (rowOf noL) 9) ∧ Kept w0 wr) (fun i _ => 9 - (intOf i).toNat)
      case atStart => exact ⟨0, rfl, by omega, hrowY, hrowN, hk5⟩
      case round =>
        obtain ⟨pos, rfl, hpl, hry, hrn, hkr5⟩ := hrel
        by_cases hpos : pos < 9
        · have t5 : (pos : Int) < 9 := by omega
          have hposl : pos < yesL.length := hpos
          have hc0 := row_cell hry pos hposl
          have hmem : yesL[pos]'hposl ∈ yesL := List.getElem_mem hposl
          have e1 := List.all_eq_true.1 yes_right _ hmem
          have e2 := List.all_eq_true.1 yes_under _ hmem
          simp only [Bool.and_eq_true] at e2
          generalize yesL[pos]'hposl = s at hc0 e1 e2
          have hc := fun d os => cell_regrown hc0 d os
          have cQ := in_class hkr5.laid (fun W hL => check_k s true e1 W W (self hL))
          have uQ := in_class (v := .bool true) hkr5.laid (fun W hL => by have := under_k [47] s W W (self hL); rwa [e2.1] at this)
          have sQ := in_class (v := .bool true) hkr5.laid (fun W hL => by have := under_k s s W W (self hL); rwa [e2.2] at this)
          clear hc0 e1 e2 hmem
          go_wp2
          refine wp_region_quiet_below hmx (by kernel_rfl) ?_
          repeat (quiet_step (first | (go_at_call 10; exact cQ _ _) | (go_at_call_of 18 (ByteArray.mk #[47]); exact uQ _ _) | (go_at_call 18; exact sQ _ _)))
          refine wpQuiet_nil ?_
          intro _ hw'
          obtain ⟨⟨dq, osq⟩, hw''⟩ := hw'
          subst hw''
          go_wp2
          refine ⟨⟨pos + 1, by simp, by omega, ?_, ?_, hkr5.go (below_regrown wr dq osq)⟩, by simp [intOf]; omega⟩
          · rw [(below_regrown wr dq osq).block _ (Array.getElem?_eq_some_iff.1 hry).1]; exact hry
          · rw [(below_regrown wr dq osq).block _ (Array.getElem?_eq_some_iff.1 hrn).1]; exact hrn
        · have t5 : ¬ (pos : Int) < 9 := by omega
          clear hry hrowY
          go_wp2
          go_loopw [6] (fun i wr => ∃ pos : Nat, i = .int .i64 pos ∧ pos ≤ 14 ∧ wr.heap[by2]? = some (.cells (rowOf noL) 9) ∧ Kept w0 wr) (fun i _ => 14 - (intOf i).toNat)
          case atStart => exact ⟨0, rfl, by omega, hrn, hkr5⟩
          case round =>
            obtain ⟨pos6, rfl, hpl6, hrn6, hkr6⟩ := hrel
            by_cases hpos6 : pos6 < 14
            · have t6 : (pos6 : Int) < 14 := by omega
              have hposl : pos6 < noL.length := hpos6
              have hc0 := row_cell hrn6 pos6 hposl
              have hmem : noL[pos6]'hposl ∈ noL := List.getElem_mem hposl
              have e1 := List.all_eq_true.1 no_right _ hmem
              simp only [Bool.not_eq_true'] at e1
              generalize noL[pos6]'hposl = s at hc0 e1
              have hc := fun d os => cell_regrown hc0 d os
              have e2 := lastS_not e1
              have e3 : parentS s = [] := by rw [parentS, if_pos e2]
              have e4 : joinS s [97] = [] := by simp [joinS, e1]
              have e5 : underS s s = false := by simp [underS, e1]
              have z := mkS_toList []
              have cQ := in_class hkr6.laid (fun W hL => check_k s false e1 W W (self hL))
              have pQ := in_class (v := .string (mkS [])) hkr6.laid (fun W hL => by have := parent_k s W W (self hL); rwa [e3] at this)
              have bQ := in_class (v := .string (mkS [])) hkr6.laid (fun W hL => by have := base_k s W W (self hL); rwa [e2] at this)
              have jQ := in_class (v := .string (mkS [])) hkr6.laid (fun W hL => by have := join_k s [97] (by decide) W W (self hL); rwa [e4] at this)
              have sQ := in_class (v := .bool false) hkr6.laid (fun W hL => by have := under_k s s W W (self hL); rwa [e5] at this)
              clear hc0 e1 e2 e3 e4 e5 hmem
              go_wp2
              refine wp_region_quiet_below hmx (by kernel_rfl) ?_
              repeat (quiet_step (first | (go_at_call 10; exact cQ _ _) | (go_at_call 12; exact pQ _ _) | (go_at_call 14; exact bQ _ _) | (go_at_call 16; exact jQ _ _) | (go_at_call 18; exact sQ _ _)))
              refine wpQuiet_nil ?_
              intro _ hw'
              obtain ⟨⟨dq, osq⟩, hw''⟩ := hw'
              subst hw''
              go_wp2
              refine ⟨⟨pos6 + 1, by simp, by omega, ?_, hkr6.go (below_regrown wr dq osq)⟩, by simp [intOf]; omega⟩
              rw [(below_regrown wr dq osq).block _ (Array.getElem?_eq_some_iff.1 hrn6).1]; exact hrn6
            · have t6 : ¬ (pos6 : Int) < 14 := by omega
              clear hrn6 hrn hrowN hk5 hkr5 hkr
              have k1 := fun w hk => number_k [47, 97, 47] 0 w0 w hT hk
              rw [n_one] at k1
              have k2 := fun w hk => number_k [47, 97] (-1) w0 w hT hk
              rw [n_two] at k2
              have k3 := fun w hk => number_k [47, 97] 2147483648 w0 w hT hk
              rw [n_three] at k3
              have k4 := fun w hk => number_k [47, 97] 2147483647 w0 w hT hk
              rw [n_four] at k4
              have k5 := fun w hk => number_k [] 1 w0 w hT hk
              rw [n_five] at k5
              have k6 := fun w hk => number_k (longS.take 191) 1 w0 w hT hk
              rw [n_six] at k6
              have k7 := fun w hk => number_k (longS.take 190) 1 w0 w hT hk
              rw [n_seven] at k7
              have x1 : (mkS longS).extract 0 191 = mkS (longS.take 191) := by rw [mkS_extract]; rfl
              have x2 : (mkS longS).extract 0 190 = mkS (longS.take 190) := by rw [mkS_extract]; rfl
              have x3 : (mkS longS).extract 0 198 = mkS (longS.take 198) := by rw [mkS_extract]; rfl
              have x4 : (mkS longS).extract 0 199 = mkS (longS.take 199) := by rw [mkS_extract]; rfl
              have x5 : mkS (longS.take 198) ++ ByteArray.mk #[47, 97] = mkS (longS.take 198 ++ [47, 97]) := mkS_append _ _
              have x6 : (mkS endS).size = 200 := by rw [mkS_size, end_len]
              have x7 : (mkS (longS.take 198)).size = 198 := by rw [mkS_size]; decide +kernel
              have y0 := mkS_toList []
              have y1 := mkS_toList [47]
              have y2 := mkS_toList [47, 97, 47, 48, 48, 48, 48, 48, 48, 48, 48, 48, 48]
              have y3 := mkS_toList [47, 97, 50, 49, 52, 55, 52, 56, 51, 54, 52, 55]
              go_wp2_with fail
              refine (k1 _ hkr6).mono ?_
              rintro e v1 ⟨rfl, g1⟩
              go_wp2_with fail
              refine (k2 _ g1).mono ?_
              rintro e v2 ⟨rfl, g2⟩
              go_wp2_with fail
              refine (k3 _ g2).mono ?_
              rintro e v3 ⟨rfl, g3⟩
              go_wp2_with fail
              refine (k4 _ g3).mono ?_
              rintro e v4 ⟨rfl, g4⟩
              go_wp2_with fail
              refine (k5 _ g4).mono ?_
              rintro e v5 ⟨rfl, g5⟩
              go_wp2_with fail
              refine (k6 _ g5).mono ?_
              rintro e v6 ⟨rfl, g6⟩
              go_wp2_with fail
              refine (k7 _ g6).mono ?_
              rintro e v7 ⟨rfl, g7⟩
              have a1 := in_class2 (v := .string (mkS (longS.take 198 ++ [47, 97]))) hT g7 (fun W _ hL => by have := join_k (longS.take 198) [97] (by decide) W W (self hL); rwa [j_one] at this)
              have a2 := in_class2 (v := .string (mkS [])) hT g7 (fun W _ hL => by have := join_k (longS.take 199) [97] (by decide) W W (self hL); rwa [j_two] at this)
              have a3 := in_class2 (v := .string (mkS [])) hT g7 (fun W _ hL => by have := parent_k [47] W W (self hL); rwa [q_one.1] at this)
              have a4 := in_class2 (v := .string (mkS [])) hT g7 (fun W _ hL => by have := base_k [47] W W (self hL); rwa [q_one.2.1] at this)
              have a5 := in_class2 (v := .string (mkS [47])) hT g7 (fun W _ hL => by have := parent_k [47, 97] W W (self hL); rwa [q_one.2.2] at this)
              have a6 := in_class2 (v := .bool true) hT g7 (fun W hTW hL => awake_k W W hTW (self hL))
              clear k1 k2 k3 k4 k5 k6 k7 g1 g2 g3 g4 g5 g6
              go_wp2
              refine wp_region_quiet_below hmx (by kernel_rfl) ?_
              repeat (quiet_step (first | (go_at_call 9; exact a6 _ _) | (go_at_call_of 16 (List.take 198 longS); exact a1 _ _) | (go_at_call 16; exact a2 _ _) | (go_at_call 14; exact a4 _ _) | (go_at_call_of 12 (ByteArray.mk #[47]); exact a3 _ _) | (go_at_call 12; exact a5 _ _)))
              refine wpQuiet_nil ?_
              intro _ hw'
              obtain ⟨⟨dq, osq⟩, hw''⟩ := hw'
              subst hw''
              go_wp2
              go_ret
              exact ⟨rfl, g7.go (below_regrown v7 dq osq)⟩
end Go.Proofs.YtjgknjlinmcapaaDoor
