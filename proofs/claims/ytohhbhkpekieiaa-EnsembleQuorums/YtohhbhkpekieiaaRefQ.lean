/- The walk of the document's Quorum. -/
import Derived.Test.YtohhbhkpekieiaaRefC
namespace Go.Proofs.Ytohhbhkpekieiaa
open Go.RowKit

set_option maxRecDepth 100000 in
set_option maxHeartbeats 2000000 in
theorem rf4has_any {w : World} {v : Value} {l : List Int} (h : Ns w v l) (n : Int) (hl : l.length ≤ 9223372036854775807) :
    Calls Try.prog 40 #[v, .int .i64 n] w fun e w' => e = .returned (.bool (l.contains n)) ∧ w' = w := by
  have HM : Hid (Ns w v l) := h
  obtain ⟨A, C, rfl⟩ := h.form
  clear h
  generalize hO : l.contains n = O
  have HO : Hid (l.contains n = O) := hO
  clear hO
  go_enter Try.func40, Try.ntmps40
  go_wp2_with fail
  go_loop [5] (fun i => ∃ k : Nat, i = .int .i64 k ∧ k ≤ l.length ∧ (l.take k).contains n = false) (fun i => l.length - (intOf i).toNat)
  case atStart => exact ⟨0, rfl, by omega, rfl⟩
  case round =>
    obtain ⟨k, rfl, hk, hn⟩ := hrel
    have HN : Hid ((l.take k).contains n = false) := hn
    clear hn
    by_cases hlt : k < l.length
    · obtain ⟨b, o, rfl, hb, c0⟩ := HM.out.at' k hlt
      have HT : Hid (l.take (k + 1) = l.take k ++ [l[k]'hlt]) := takeN hlt
      have HMM : Hid (l[k]'hlt ∈ l) := List.getElem_mem hlt
      generalize (l[k]'hlt) = x at c0 HT HMM
      by_cases he : x = n
      · have hoo : O = true := by rw [← HO.out, ← he]; simpa using HMM.out
        subst hoo
        have heb : (x == n) = true := by simpa using he
        clear he
        go_wp2
        go_ret
        exact ⟨rfl, rfl⟩
      · have heb : (x == n) = false := by simpa using he
        have HE : Hid ((l.take (k + 1)).contains n = false) := by
          show (l.take (k + 1)).contains n = false
          have := HN.out
          rw [HT.out]
          simp at this ⊢
          exact ⟨this, fun e => he e.symm⟩
        clear he
        go_wp2
        exact ⟨⟨k + 1, by go_num, by omega, HE.out⟩, by simp [intOf]; omega⟩
    · have hkk : k = l.length := by omega
      subst hkk
      have hoo : O = false := by have := HN.out; rw [List.take_length] at this; rw [← HO.out]; exact this
      subst hoo
      go_wp2
      go_ret
      exact ⟨rfl, rfl⟩

theorem whole_bd {l : List Mem} (h7 : l.length ≤ 7) (hw : ∀ m ∈ l, 0 ≤ m.weight ∧ m.weight ≤ 1000) (g : Nat) : 0 ≤ whole l g ∧ whole l g ≤ 7000 := by
  have := wsum_bd (fun m => decide (m.group = (g : Int))) l hw
  unfold whole; omega
theorem part_bd {ids : List Int} {l : List Mem} (h7 : l.length ≤ 7) (hw : ∀ m ∈ l, 0 ≤ m.weight ∧ m.weight ≤ 1000) (g : Nat) : 0 ≤ part ids l g ∧ part ids l g ≤ 7000 := by
  have := wsum_bd (fun m => decide (m.group = (g : Int)) && ids.contains m.id) l hw
  unfold part; omega
set_option maxRecDepth 100000 in
set_option maxHeartbeats 4000000 in
theorem rf4Quorum_any {w : World} {v x : Value} {l : List Mem} {ids : List Int} (h : Mems w v l) (ver : Int) (hx : Ns w x ids) (hl : ids.length ≤ 9223372036854775807) :
    Calls Try.prog 18 #[.agg #[.int .i64 ver, v], x] w fun e w' => e = .returned (.bool (quoB ver l ids)) ∧ Below w.heap.size w w' := by
  have HM : Hid (Mems w v l) := h
  have HX : Hid (Ns w x ids) := hx
  obtain ⟨A, C, rfl⟩ := h.form
  obtain ⟨AX, CX, rfl⟩ := hx.form
  clear h hx
  have hB1 : Below w.heap.size w (w.alloc (.cells #[.int .i64 ver, .slice A l.length C] 25)) := (Below.refl _ _).alloc (Nat.le_refl _) _
  have hck := rf4Check_any (HM.out.below' hB1) ver
  by_cases hc : chk ver l = 0
  · have hq : quoB ver l ids = winsB (whole l) (part ids l) := by simp [quoB, hc]
    rw [hq]
    rw [hc] at hck
    obtain ⟨h7, -, -, hfa, -⟩ := chk_ok hc
    have HALL : Hid (∀ m ∈ l, fitRole m = true) := fun m hm => (fitAll_mem hfa m hm).1
    have HWT : Hid (∀ m ∈ l, 0 ≤ m.weight ∧ m.weight ≤ 1000) := fun m hm => by have := fitRole_weight ((fitAll_mem hfa m hm).1); omega
    clear hc hfa hq
    go_enter Try.func18, Try.ntmps18
    go_wp2_with fail
    refine hck.mono ?_
    rintro e w1 ⟨rfl, hb1⟩
    have hx1 : w1.heap[w.heap.size]? = some (.cells #[.int .i64 ver, .slice A l.length C] 25 (0, 0)) := by rw [hb1.block _ (by simp)]; exact heap_alloc_new w _
    have HX1 : Hid (w1.heap[w.heap.size]? = some (.cells #[.int .i64 ver, .slice A l.length C] 25 (0, 0))) := hx1
    have HB1 : Hid (Below w.heap.size w w1) := hB1.trans (hb1.mono (by simp))
    clear hck hb1 hB1 hx1
    go_wp2_with fail
    go_loopw [5, 6, 7] (fun a c s wr => ∃ k : Nat, s = .int .i64 k ∧ k ≤ 7 ∧ a = .int .i64 (cnt (fun g => decide (0 < whole l g)) k : Nat) ∧ c = .int .i64 (cnt (fun g => decide (whole l g < 2 * part ids l g)) k : Nat) ∧ wr.heap[w.heap.size]? = some (.cells #[.int .i64 ver, .slice A l.length C] 25 (0, 0)) ∧ Below w.heap.size w wr) (fun _ _ s _ => 7 - (intOf s).toNat)
    case atStart => exact ⟨0, rfl, by omega, rfl, rfl, HX1.out, HB1.out⟩
    case round =>
      clear HX1 HB1
      obtain ⟨k, rfl, hk, rfl, rfl, hx2, hb2⟩ := hrel
      have HX2 : Hid (wr.heap[w.heap.size]? = some (.cells #[.int .i64 ver, .slice A l.length C] 25 (0, 0))) := hx2
      have HB2 : Hid (Below w.heap.size w wr) := hb2
      clear hx2 hb2
      have c1 := cnt_le (fun g => decide (0 < whole l g)) k
      have c2 := cnt_le (fun g => decide (whole l g < 2 * part ids l g)) k
      have HS1 : Hid (cnt (fun g => decide (0 < whole l g)) (k + 1) = cnt (fun g => decide (0 < whole l g)) k + if 0 < whole l k then 1 else 0) := by show _ = _; simp [cnt]
      have HS2 : Hid (cnt (fun g => decide (whole l g < 2 * part ids l g)) (k + 1) = cnt (fun g => decide (whole l g < 2 * part ids l g)) k + if whole l k < 2 * part ids l k then 1 else 0) := by show _ = _; simp [cnt]
      by_cases hlt : k < 7
      · generalize cnt (fun g => decide (0 < whole l g)) k = G1 at c1 HS1 ⊢
        generalize cnt (fun g => decide (whole l g < 2 * part ids l g)) k = G2 at c2 HS2 ⊢
        obtain ⟨wA, hwA⟩ : ∃ X, X = wr := ⟨_, rfl⟩
        subst hwA
        go_wp2
        have hd : decide ((k : Int) < 7) = true := decide_eq_true (by omega)
        rw [hd]
        go_hide hQ
        go_loopw [8, 9, 10] (fun a c s wr => ∃ i : Nat, s = .int .i64 i ∧ i ≤ l.length ∧ a = .int .i64 (whole (l.take i) k) ∧ c = .int .i64 (part ids (l.take i) k) ∧ wr.heap[w.heap.size]? = some (.cells #[.int .i64 ver, .slice A l.length C] 25 (0, 0)) ∧ Below w.heap.size w wr) (fun _ _ s _ => l.length - (intOf s).toNat)
        case atStart => exact ⟨0, rfl, by omega, rfl, rfl, HX2.out, HB2.out⟩
        case round =>
          obtain ⟨i, rfl, hi, rfl, rfl, hx3, hb3⟩ := hrel
          have HX3 : Hid (wr.heap[w.heap.size]? = some (.cells #[.int .i64 ver, .slice A l.length C] 25 (0, 0))) := hx3
          have HB3 : Hid (Below w.heap.size w wr) := hb3
          have z1 : wr.cell? ⟨w.heap.size, 1, none⟩ = some (.slice A l.length C) := by rw [cell_at hx3]; rfl
          have hlw : w.heap.size < wr.heap.size := heap_lt hx3
          have wb := whole_bd (l := l.take i) (by rw [List.length_take]; omega) (fun m hm => HWT.out m (List.mem_of_mem_take hm)) k
          have pb := part_bd (ids := ids) (l := l.take i) (by rw [List.length_take]; omega) (fun m hm => HWT.out m (List.mem_of_mem_take hm)) k
          clear hx3 hb3
          by_cases hli : i < l.length
          · obtain ⟨b, o, rfl, hb, x0, x1, x2, x3⟩ := (HM.out.below' HB3.out).at' i hli
            have hf := fitRole_weight (HALL.out _ (List.getElem_mem hli))
            have HT : Hid (l.take (i + 1) = l.take i ++ [l[i]'hli]) := take_snoc hli
            generalize (l[i]'hli) = m at x0 x1 x2 x3 hf HT
            obtain ⟨mi, mr, mw, mg⟩ := m
            dsimp only at x0 x1 x2 x3 hf
            obtain ⟨f1, f2, f3, f4, f5, f6⟩ := hf
            have HWN : Hid (whole (l.take (i + 1)) k = whole (l.take i) k + if mg = (k : Int) then mw else 0) := by show _ = _; rw [HT.out, whole_snoc]
            have HPN : Hid (part ids (l.take (i + 1)) k = part ids (l.take i) k + if mg = (k : Int) ∧ ids.contains mi = true then mw else 0) := by show _ = _; rw [HT.out, part_snoc]
            have HB4 : Hid (Below w.heap.size w (wr.alloc (.cells #[.int .i64 mi, .int .u8 mr, .int .i64 mw, .int .i64 mg] 30))) := HB3.out.alloc HB3.out.size _
            have HX4 : Hid ((wr.alloc (.cells #[.int .i64 mi, .int .u8 mr, .int .i64 mw, .int .i64 mg] 30)).heap[w.heap.size]? = some (.cells #[.int .i64 ver, .slice (some ⟨b, o, none⟩) l.length C] 25 (0, 0))) := by show _ = _; rw [Below.heap_alloc _ _ _ hlw]; exact HX3.out
            generalize whole (l.take i) k = W1 at wb HWN ⊢
            generalize part ids (l.take i) k = W2 at pb HPN ⊢
            clear HX3 HB3 HT
            by_cases hr : mr = 1
            · subst hr
              by_cases hg : mg = (k : Int)
              · subst hg
                have hh := rf4has_any (HX.out.below' HB4.out) mi hl
                simp only [if_true, true_and] at HWN HPN
                have kb : ((k : Int) == (k : Int)) = true := by simp
                clear f5 f6
                cases hcn : ids.contains mi with
                | true =>
                  rw [hcn] at hh
                  have HPN2 : Hid (part ids (l.take (i + 1)) k = W2 + mw) := by have := HPN.out; rw [hcn] at this; simpa [Hid] using this
                  have HWN2 : Hid (whole (l.take (i + 1)) k = W1 + mw) := by have := HWN.out; simpa [Hid] using this
                  clear hcn HPN HWN
                  go_wp2_with fail
                  refine hh.mono ?_
                  rintro e w5 ⟨rfl, rfl⟩
                  go_wp2
                  go_roundw
                  case rel => exact ⟨i + 1, by go_num, by omega, by rw [HWN2.out], by rw [HPN2.out], HX4.out, HB4.out⟩
                  case measure => simp [intOf]; omega
                | false =>
                  rw [hcn] at hh
                  have HPN2 : Hid (part ids (l.take (i + 1)) k = W2) := by have := HPN.out; rw [hcn] at this; simpa [Hid] using this
                  have HWN2 : Hid (whole (l.take (i + 1)) k = W1 + mw) := by have := HWN.out; simpa [Hid] using this
                  clear hcn HPN HWN
                  go_wp2_with fail
                  refine hh.mono ?_
                  rintro e w5 ⟨rfl, rfl⟩
                  go_wp2
                  go_roundw
                  case rel => exact ⟨i + 1, by go_num, by omega, by rw [HWN2.out], by rw [HPN2.out], HX4.out, HB4.out⟩
                  case measure => simp [intOf]; omega
              · have HPN2 : Hid (part ids (l.take (i + 1)) k = W2) := by have := HPN.out; simpa [Hid, hg] using this
                have HWN2 : Hid (whole (l.take (i + 1)) k = W1) := by have := HWN.out; simpa [Hid, hg] using this
                have hgb : (mg == (k : Int)) = false := by simpa using hg
                clear hg HPN HWN f5 f6
                go_wp2
                go_roundw
                case rel => exact ⟨i + 1, by go_num, by omega, by rw [HWN2.out], by rw [HPN2.out], HX4.out, HB4.out⟩
                case measure => simp [intOf]; omega
            · have hw0 : mw = 0 := by
                rcases Int.lt_or_le 0 mw with h | h
                · exact absurd (f5 h) hr
                · omega
              subst hw0
              have HPN2 : Hid (part ids (l.take (i + 1)) k = W2) := by have := HPN.out; simpa [Hid] using this
              have HWN2 : Hid (whole (l.take (i + 1)) k = W1) := by have := HWN.out; simpa [Hid] using this
              have hrb : (mr == 1) = false := by simpa using hr
              clear hr HPN HWN f5 f6
              go_wp2
              go_roundw
              case rel => exact ⟨i + 1, by go_num, by omega, by rw [HWN2.out], by rw [HPN2.out], HX4.out, HB4.out⟩
              case measure => simp [intOf]; omega
          · obtain rfl : i = l.length := by omega
            rw [List.take_length] at wb pb ⊢
            have HNW : Hid (whole l k < 2 * part ids l k → 0 < whole l k) := fun h => by
              have := win_group (l := l) (ids := ids) (fun m hm => (HWT.out m hm).1) k (by simpa using h)
              simpa using this
            generalize whole l k = W1 at wb HS1 HS2 HNW ⊢
            generalize part ids l k = W2 at pb HS2 HNW ⊢
            have HS1' := HS1.out
            have HS2' := HS2.out
            by_cases ha : 0 < W1
            · rw [if_pos ha] at HS1'
              by_cases hbb : W1 < 2 * W2
              · rw [if_pos hbb] at HS2'
                have K1 : Hid (cnt (fun g => decide (0 < whole l g)) (k + 1) = G1 + 1) := HS1'
                have K2 : Hid (cnt (fun g => decide (whole l g < 2 * part ids l g)) (k + 1) = G2 + 1) := HS2'
                clear HS1' HS2' HS1 HS2 HNW
                go_wp2
                subst hQ
                go_wp2
                go_roundw
                case rel => exact ⟨k + 1, by go_num, by omega, by rw [K1.out]; go_num, by rw [K2.out]; go_num, HX3.out, HB3.out⟩
                case measure => simp [intOf]; omega
              · rw [if_neg hbb] at HS2'
                have K1 : Hid (cnt (fun g => decide (0 < whole l g)) (k + 1) = G1 + 1) := HS1'
                have K2 : Hid (cnt (fun g => decide (whole l g < 2 * part ids l g)) (k + 1) = G2 + 0) := HS2'
                clear HS1' HS2' HS1 HS2 HNW
                go_wp2
                subst hQ
                go_wp2
                go_roundw
                case rel => exact ⟨k + 1, by go_num, by omega, by rw [K1.out]; go_num, by rw [K2.out]; go_num, HX3.out, HB3.out⟩
                case measure => simp [intOf]; omega
            · have hbb : ¬ W1 < 2 * W2 := fun h => ha (HNW.out h)
              rw [if_neg ha] at HS1'
              rw [if_neg hbb] at HS2'
              clear hbb
              have K1 : Hid (cnt (fun g => decide (0 < whole l g)) (k + 1) = G1 + 0) := HS1'
              have K2 : Hid (cnt (fun g => decide (whole l g < 2 * part ids l g)) (k + 1) = G2 + 0) := HS2'
              clear HS1' HS2' HS1 HS2 HNW
              go_wp2
              subst hQ
              go_wp2
              go_roundw
              case rel => exact ⟨k + 1, by go_num, by omega, by rw [K1.out]; go_num, by rw [K2.out]; go_num, HX3.out, HB3.out⟩
              case measure => simp [intOf]; omega
      · obtain rfl : k = 7 := by omega
        have HQ : Hid (winsB (whole l) (part ids l) = decide (cnt (fun g => decide (0 < whole l g)) 7 < 2 * cnt (fun g => decide (whole l g < 2 * part ids l g)) 7)) := rfl
        generalize cnt (fun g => decide (0 < whole l g)) 7 = G1 at c1 HQ ⊢
        generalize cnt (fun g => decide (whole l g < 2 * part ids l g)) 7 = G2 at c2 HQ ⊢
        clear HS1 HS2
        go_wp2
        go_ret
        exact ⟨ret_b (by rw [HQ.out]; simp only [decide_eq_decide]; omega), HB2.out⟩
  · have hq : quoB ver l ids = false := by simp [quoB, hc]
    have hcb : (chk ver l != 0) = true := by simpa using hc
    rw [hq]
    generalize chk ver l = K at hck hcb
    clear hc hq
    go_enter Try.func18, Try.ntmps18
    go_wp2_with fail
    refine hck.mono ?_
    rintro e w1 ⟨rfl, hb1⟩
    have HB1 : Hid (Below w.heap.size w w1) := hB1.trans (hb1.mono (by simp))
    clear hck hb1 hB1
    go_wp2
    go_ret
    exact ⟨rfl, HB1.out⟩
end Go.Proofs.Ytohhbhkpekieiaa
