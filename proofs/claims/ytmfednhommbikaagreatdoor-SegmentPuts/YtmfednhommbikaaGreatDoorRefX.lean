/- The walks of the document's configs as bytes: Write, Put. -/
import Derived.Test.YtmfednhommbikaaGreatDoorRefC
import Derived.Test.YtmfednhommbikaaGreatDoorRefW
namespace Go.Proofs.YtmfednhommbikaaGreatDoor
open Go.RowKit

theorem blk_lt {w : World} {bx : Nat} {o : Obj} (h : w.heap[bx]? = some o) : bx < w.heap.size := by
  rcases Nat.lt_or_ge bx w.heap.size with h1 | h1
  · exact h1
  · rw [Array.getElem?_eq_none h1] at h; cases h
theorem box_put {w w' : World} {g bx : Nat} {q q' : Option Nat} {o : Obj} (hp : Put g q w w' q') (h : w.heap[bx]? = some o) (hg : g ≠ bx) (hq : q ≠ some bx) : w'.heap[bx]? = some o ∧ q' ≠ some bx := by
  have hlt := blk_lt h
  refine ⟨?_, ?_⟩
  · rw [hp.chg.block bx hlt (by rintro (e | e); exact hg e.symm; exact hq e)]; exact h
  · rcases hp.lies with rfl | ⟨k, rfl, hk⟩
    · exact hq
    · intro e; cases e; omega
theorem box_al {w : World} {bx : Nat} {o : Obj} (h : w.heap[bx]? = some o) (o' : Obj) : (w.alloc o').heap[bx]? = some o := by
  rw [Below.heap_alloc _ _ _ (blk_lt h)]; exact h
set_option maxRecDepth 100000 in
set_option maxHeartbeats 4000000 in
theorem rf4Write_any {w0 w : World} {base g : Nat} {q : Option Nat} {B : List UInt8} (hB0 : Below w0.heap.size w0 w) (hb : w0.heap.size ≤ base) (hg : base ≤ g) (hw : WrF w base g q B) (hBl : B.length ≤ 1000000) {v : Value} {l : List Mem} (h : Mems w0 v l) (ver : Int) (hc : chk ver l = 0) :
    Calls Tryz.prog 98 #[.pointer (some ⟨g, 0, none⟩), .agg #[.int .i64 ver, v]] w fun e w' => e = .returned (.tuple #[]) ∧ ∃ q', WrF w' base g q' (B ++ cfgB ver l) ∧ Put g q w w' q' := by
  have HM : Hid (Mems w0 v l) := h
  have HB0 : Hid (Below w0.heap.size w0 w) := hB0
  obtain ⟨A, C, rfl⟩ := h.form
  clear h hB0
  obtain ⟨h7, hv1, hv2, hfa, -⟩ := chk_ok hc
  have hall : ∀ m ∈ l, fitRole m = true ∧ 0 < m.id ∧ m.id ≤ 7 := fun m hm => ⟨(fitAll_mem hfa m hm).1, (fitAll_mem hfa m hm).2⟩
  have HALL : Hid (∀ m ∈ l, fitRole m = true ∧ 0 < m.id ∧ m.id ≤ 7) := hall
  have hb1 := numB_len ver (by omega) (by omega)
  have hb2 := numB_len (l.length : Int) (by omega) (by omega)
  have hgl := hw.lt
  have hgn : g ≠ w.heap.size := by omega
  have HBQ := fun i e => (hw.qlt i e).1
  have hqn : q ≠ some w.heap.size := fun e => by have := hw.qlt _ e; omega
  clear hc hfa hall
  go_enter Tryz.func98, Tryz.ntmps98
  go_wp2_with fail
  have hx0 := heap_alloc_new w (.cells #[.int .i64 ver, .slice A l.length C] 28 (0, 0))
  have h1 := rfWInt_any (hw.alloc (.cells #[.int .i64 ver, .slice A l.length C] 28)) ver (by omega) (by omega) (by omega)
  refine h1.mono ?_
  rintro e w1 ⟨rfl, q1, hw1, hp1⟩
  obtain ⟨hx1, hq1⟩ := box_put hp1 hx0 hgn hqn
  have P1 := (Put.alloc g q w _).trans hp1
  have z1 : w1.cell? ⟨w.heap.size, 1, none⟩ = some (.slice A l.length C) := by rw [cell_at hx1]; rfl
  clear h1 hx0 hp1 hw
  go_wp2_with fail
  have h2 := rfWInt_any hw1 (l.length : Int) (by omega) (by omega) (by simp only [List.length_append]; omega)
  refine h2.mono ?_
  rintro e w2 ⟨rfl, q2, hw2, hp2⟩
  obtain ⟨hx2, hq2⟩ := box_put hp2 hx1 hgn hq1
  have P2 := P1.trans hp2
  have HW2 : Hid (WrF w2 base g q2 (B ++ numB ver ++ numB l.length)) := hw2
  clear h2 hx1 hp2 hw1 P1 z1 hw2
  go_wp2_with fail
  go_loopw [4] (fun i wr => ∃ (k : Nat) (q' : Option Nat), i = .int .i64 k ∧ k ≤ l.length ∧ WrF wr base g q' (B ++ (numB ver ++ (numB l.length ++ memsB (l.take k)))) ∧ Put g q w wr q' ∧ q' ≠ some w.heap.size ∧ wr.heap[w.heap.size]? = some (.cells #[.int .i64 ver, .slice A l.length C] 28 (0, 0))) (fun i _ => l.length - (intOf i).toNat)
  case atStart => exact ⟨0, q2, rfl, by omega, by simpa [memsB] using HW2.out, P2, hq2, hx2⟩
  case round =>
    clear P2 hq2 hx2 HW2
    obtain ⟨k, q3, rfl, hk, hw, hp, hqr, hx⟩ := hrel
    have HW : Hid (WrF wr base g q3 (B ++ (numB ver ++ (numB l.length ++ memsB (l.take k))))) := hw
    have HP : Hid (Put g q w wr q3) := hp
    have HX : Hid (wr.heap[w.heap.size]? = some (.cells #[.int .i64 ver, .slice A l.length C] 28 (0, 0))) := hx
    have hln := memsB_len (l.take k) (fun m hm => HALL.out m (List.mem_of_mem_take hm))
    have hlk : (l.take k).length ≤ 7 := by rw [List.length_take]; omega
    have hltx : w.heap.size < wr.heap.size := blk_lt hx
    have hgr := hw.lt
    have z1 : wr.cell? ⟨w.heap.size, 1, none⟩ = some (.slice A l.length C) := by rw [cell_at hx]; rfl
    have HBr : Hid (Below w0.heap.size w0 wr) := by
      refine HB0.out.trans (hp.chg.below ?_ HB0.out.size)
      rintro i (e | e)
      · omega
      · have := HBQ i e
        omega
    clear hw hp hx
    by_cases hlt : k < l.length
    · obtain ⟨b, o, rfl, hbb, c0, c1, c2, c3⟩ := (HM.out.below' HBr.out).at' k hlt
      have hx := HALL.out _ (List.getElem_mem hlt)
      have hr := fitRole_weight hx.1
      have HT : Hid (l.take (k + 1) = l.take k ++ [l[k]'hlt]) := take_snoc hlt
      generalize (l[k]'hlt) = m at c0 c1 c2 c3 HT hx hr
      obtain ⟨mi, mr, mw, mg⟩ := m
      dsimp only at c0 c1 c2 c3 hx hr
      have hro : 0 ≤ mr ∧ mr ≤ 2 := by rcases hr.2.2.2.2.2 with h | h <;> omega
      obtain ⟨-, hi1, hi2⟩ := hx
      obtain ⟨hwt1, hwt2, hg1, hg2, -, -⟩ := hr
      obtain ⟨hr1, hr2⟩ := hro
      have n1 := numB_len mi (by omega) (by omega)
      have n2 := numB_len mr (by omega) (by omega)
      have n3 := numB_len mw (by omega) (by omega)
      have n4 := numB_len mg (by omega) (by omega)
      have hgm : g ≠ wr.heap.size := by omega
      have hqy5 : q3 ≠ some wr.heap.size := fun e => by have := HW.out.qlt _ e; omega
      have hqx5 := hqr
      have hx5 := box_al HX.out (.cells #[.int .i64 mi, .int .u8 mr, .int .i64 mw, .int .i64 mg] 125)
      have hy5 := heap_alloc_new wr (.cells #[.int .i64 mi, .int .u8 mr, .int .i64 mw, .int .i64 mg] 125 (0, 0))
      have P5 := HP.out.trans (Put.alloc g q3 wr (.cells #[.int .i64 mi, .int .u8 mr, .int .i64 mw, .int .i64 mg] 125))
      have HX5 : Hid ((wr.alloc (.cells #[.int .i64 mi, .int .u8 mr, .int .i64 mw, .int .i64 mg] 125)).heap[w.heap.size]? = some (.cells #[.int .i64 ver, .slice (some ⟨b, o, none⟩) l.length C] 28 (0, 0))) := hx5
      have HY5 : Hid ((wr.alloc (.cells #[.int .i64 mi, .int .u8 mr, .int .i64 mw, .int .i64 mg] 125)).heap[wr.heap.size]? = some (.cells #[.int .i64 mi, .int .u8 mr, .int .i64 mw, .int .i64 mg] 125 (0, 0))) := hy5
      clear hx5 hy5
      go_wp2_with fail
      have hx5 := HX5.out
      have hy5 := HY5.out
      have h6 := rfWInt_any (HW.out.alloc (.cells #[.int .i64 mi, .int .u8 mr, .int .i64 mw, .int .i64 mg] 125)) mi (by omega) (by omega) (by simp only [List.length_append]; omega)
      refine h6.mono ?_
      clear h6
      rintro e w6 ⟨rfl, q6, hw6, hp6⟩
      obtain ⟨hx6, hqx6⟩ := box_put hp6 hx5 hgn hqx5
      obtain ⟨hy6, hqy6⟩ := box_put hp6 hy5 hgm hqy5
      have P6 := P5.trans hp6
      have y1_6 : w6.cell? ⟨wr.heap.size, 1, none⟩ = some (.int .u8 mr) := by rw [cell_at hy6]; rfl
      clear c0 c1 c2 c3 z1
      go_wp2_with fail
      have h7 := rfWInt_any hw6 mr (by omega) (by omega) (by simp only [List.length_append]; omega)
      refine h7.mono ?_
      clear h7
      rintro e w7 ⟨rfl, q7, hw7, hp7⟩
      obtain ⟨hx7, hqx7⟩ := box_put hp7 hx6 hgn hqx6
      obtain ⟨hy7, hqy7⟩ := box_put hp7 hy6 hgm hqy6
      have P7 := P6.trans hp7
      have y2_7 : w7.cell? ⟨wr.heap.size, 2, none⟩ = some (.int .i64 mw) := by rw [cell_at hy7]; rfl
      go_wp2_with fail
      have h8 := rfWInt_any hw7 mw (by omega) (by omega) (by simp only [List.length_append]; omega)
      refine h8.mono ?_
      clear h8
      rintro e w8 ⟨rfl, q8, hw8, hp8⟩
      obtain ⟨hx8, hqx8⟩ := box_put hp8 hx7 hgn hqx7
      obtain ⟨hy8, hqy8⟩ := box_put hp8 hy7 hgm hqy7
      have P8 := P7.trans hp8
      have y3_8 : w8.cell? ⟨wr.heap.size, 3, none⟩ = some (.int .i64 mg) := by rw [cell_at hy8]; rfl
      go_wp2_with fail
      have h9 := rfWInt_any hw8 mg (by omega) (by omega) (by simp only [List.length_append]; omega)
      refine h9.mono ?_
      clear h9
      rintro e w9 ⟨rfl, q9, hw9, hp9⟩
      obtain ⟨hx9, hqx9⟩ := box_put hp9 hx8 hgn hqx8
      obtain ⟨hy9, hqy9⟩ := box_put hp9 hy8 hgm hqy8
      have P9 := P8.trans hp9
      have HW9 : Hid (WrF w9 base g q9 (B ++ (numB ver ++ (numB l.length ++ memsB (l.take (k + 1)))))) := by
        show WrF _ _ _ _ _
        rw [HT.out, memsB_snoc]
        simpa [memB] using hw9
      have P9 := P9
      clear hw6 hw7 hw8 hw9
      go_wp2
      exact ⟨⟨k + 1, q9, by go_num, by omega, HW9.out, P9, hqx9, hx9⟩, by simp [intOf]; omega⟩
    · have hkk : k = l.length := by omega
      subst hkk
      rw [List.take_length] at HW
      go_wp2
      go_end0
      exact ⟨rfl, q3, HW.out, HP.out⟩
theorem rf4Put_no {w : World} {v : Value} {l : List Mem} (h : Mems w v l) (ver : Int) (hc : chk ver l ≠ 0) :
    Calls Tryz.prog 77 #[.agg #[.int .i64 ver, v]] w fun e w' => e = .returned (.tuple #[.slice none 0 0, .int .i64 (chk ver l)]) ∧ Below w.heap.size w w' := by
  have HM : Hid (Mems w v l) := h
  obtain ⟨A, C, rfl⟩ := h.form
  clear h
  have hB1 : Below w.heap.size w (w.alloc (.cells #[.int .i64 ver, .slice A l.length C] 28)) := (Below.refl _ _).alloc (Nat.le_refl _) _
  have hck := rf4Check_any (HM.out.below' hB1) ver
  have hcb : (chk ver l != 0) = true := by simpa using hc
  generalize chk ver l = K at hck hcb ⊢
  clear hc
  go_enter Tryz.func77, Tryz.ntmps77
  go_wp2_with fail
  refine hck.mono ?_
  rintro e w2 ⟨rfl, hB2⟩
  have HB2 : Hid (Below w.heap.size w w2) := hB1.trans (hB2.mono (by simp))
  clear hB1 hB2 hck
  go_wp2
  go_ret2
  exact ⟨rfl, HB2.out⟩
theorem rf4Put_yes {w : World} {v : Value} {l : List Mem} (h : Mems w v l) (ver : Int) (hc : chk ver l = 0) :
    Calls Tryz.prog 77 #[.agg #[.int .i64 ver, v]] w fun e w' => ∃ x, e = .returned (.tuple #[x, .int .i64 0]) ∧ New w w' x (cfgB ver l) := by
  have HM : Hid (Mems w v l) := h
  have HCC : Hid (chk ver l = 0) := hc
  obtain ⟨A, C, rfl⟩ := h.form
  clear h
  have hB1 : Below w.heap.size w (w.alloc (.cells #[.int .i64 ver, .slice A l.length C] 28)) := (Below.refl _ _).alloc (Nat.le_refl _) _
  have hck := rf4Check_any (HM.out.below' hB1) ver
  rw [hc] at hck
  clear hc
  go_enter Tryz.func77, Tryz.ntmps77
  go_wp2_with fail
  refine hck.mono ?_
  rintro e w2 ⟨rfl, hB2⟩
  have HB2 : Hid (Below w.heap.size w w2) := hB1.trans (hB2.mono (by simp))
  have hx2 : w2.heap[w.heap.size]? = some (.cells #[.int .i64 ver, .slice A l.length C] 28 (0, 0)) := by rw [hB2.block _ (by simp)]; exact heap_alloc_new w _
  have hs2 := blk_lt hx2
  clear hB1 hB2 hck
  go_wp2_with fail
  refine (rfNewW_any w2 w2.heap.size (Nat.le_refl _)).mono ?_
  rintro e w3 ⟨rfl, hw3, hB3, -⟩
  have HB3 : Hid (Below w.heap.size w w3) := HB2.out.trans (hB3.mono HB2.out.size)
  have hx3 : w3.heap[w.heap.size]? = some (.cells #[.int .i64 ver, .slice A l.length C] 28 (0, 0)) := by rw [hB3.block _ hs2]; exact hx2
  have z0 : w3.cell? ⟨w.heap.size, 0, none⟩ = some (.int .i64 ver) := by rw [cell_at hx3]; rfl
  have z1 : w3.cell? ⟨w.heap.size, 1, none⟩ = some (.slice A l.length C) := by rw [cell_at hx3]; rfl
  have h4 := rf4Write_any HB3.out (base := w2.heap.size) (by have := HB2.out.size; omega) (Nat.le_refl _) hw3 (by simp) HM.out ver HCC.out
  have HW3 : Hid (WrF w3 w2.heap.size w2.heap.size none []) := hw3
  clear hx2 hB3 hx3 hw3
  go_wp2_with fail
  refine h4.mono ?_
  rintro e w4 ⟨rfl, q4, hw4, hp4⟩
  have HB4 : Hid (Below w.heap.size w w4) := HB3.out.trans ((Put.far HW3.out (Nat.le_refl _) hp4).mono (by have := HB2.out.size; omega))
  rw [List.nil_append] at hw4
  have h5 := rfWDone_any hw4 (by have := cfgB_len HCC.out; omega)
  clear h4 hw4 hp4 z0 z1
  go_wp2_with fail
  refine h5.mono ?_
  rintro e w5 ⟨v5, rfl, hn5⟩
  have HN5 : Hid (New w w5 v5 (cfgB ver l)) := hn5.over HB4.out
  obtain ⟨A5, C5, rfl⟩ := bs_form hn5.bs
  clear h5 hn5
  generalize (cfgB ver l).length = N5 at HN5
  go_wp2
  go_ret2
  exact ⟨_, rfl, HN5.out⟩
end Go.Proofs.YtmfednhommbikaaGreatDoor
