/- What wakes every statement on segments. -/
import Derived.Test.YtogikhondibifaaDoorSgY
import Derived.Test.YtogikhondibifaaDoorSgF
namespace Go.Proofs.YtogikhondibifaaDoor.DD
set_option linter.unusedVariables false
open Go.RowKit
set_option linter.unusedVariables false

def Fzz : Fl := ⟨0, 0, 0, 0, 0, 0, [], [], 0, 0, 0, 0, 0, 0, [], 0⟩
theorem Fzz_not : rightD Fzz [] = false := by decide +kernel
theorem Fzz_fit : DedFit Fzz [] := by
  refine ⟨⟨?_, ?_, ?_, ?_, ?_, ?_, ?_, ?_, ?_, ?_, ?_, ?_⟩, fun p hp => by simp at hp, rfl⟩
  all_goals (unfold Fzz; first | exact ⟨by decide, by decide⟩)
def B12 : List UInt8 := catI [Is 1, Is 2]
theorem B12_len : B12.length = 28 := by
  show (itB (Is 1) ++ (itB (Is 2) ++ [])).length = 28
  rw [List.length_append, List.length_append, Fs_len1, Fs_len2]
  rfl
theorem rise12 : risen 0 [Is 1, Is 2] := ⟨by decide, by decide, trivial⟩
theorem ok12 : ∀ p ∈ [Is 1, Is 2], okIt p := by
  intro p hp
  rcases List.mem_cons.1 hp with rfl | hp
  · exact Fs_ok1
  · rw [List.mem_singleton.1 hp]; exact Fs_ok2
theorem scan12 : scanF B12 0 = [Is 1, Is 2] := by
  have := scan_cat [Is 1, Is 2] [] 0 ok12 rise12
  rw [List.append_nil] at this
  exact this
theorem scan27 : scanF (B12.take 27) 0 = [Is 1] := by
  have e : B12.take 27 = itB (Is 1) ++ (itB (Is 2)).take 13 := by
    show (itB (Is 1) ++ (itB (Is 2) ++ [])).take 27 = _
    rw [List.append_nil, List.take_append, Fs_len1, List.take_of_length_le (by rw [Fs_len1]; omega)]
  rw [e, scan_it Fs_ok1 _ (by decide)]
  have hu : unframe ((itB (Is 2)).take 13) = none := unframe_cut _ (Nat.le_trans Fs_ok2.len (by omega)) 13 (by have := Fs_len2; unfold itB at this; omega)
  rw [scanF_none hu]
theorem scan21 : scanF (catI [Is 2, Is 1]) 0 = [Is 2] := by
  show scanF (itB (Is 2) ++ (itB (Is 1) ++ [])) 0 = _
  rw [scan_it Fs_ok2 _ (by decide), scanF_low (unframe_it Fs_ok1 []) (deedOf_it Fs_ok1) (by decide)]
theorem scan0 : scanF [] 0 = [] := rfl

theorem tells1 {X : World} {x : Value} {B : List UInt8} (z tz : Int) (hx : Bs X x B) (hB : B.length ≤ 1000000) (hs : scanF B 0 = [Is z]) (ht : tz = ((catI [Is z]).length : Nat)) (hz : okIt (Is z)) (hL : PA.Laid X) :
    Calls Tryd.prog 5 #[x, .int .i64 tz, .slice (some ⟨X.heap.size, 0, none⟩) 1 1] (X.alloc (.cells #[.int .i64 z] 24)) fun e w' => e = .returned (.bool true) ∧ Below X.heap.size X w' := by
  have hB0 : Below X.heap.size X (X.alloc (.cells #[.int .i64 z] 24)) := (Below.refl _ _).alloc (Nat.le_refl _) _
  refine (tells_any (C := 1) [z] tz (hx.alloc _) hB hs ht (fun y hy => by rw [List.mem_singleton.1 hy]; exact hz) (by simp) (.inr ⟨X.heap.size, rfl, by simp, fun j hj => ?_⟩) (hL.below hB0)).mono ?_
  · have h := heap_alloc_new X (.cells #[.int .i64 z] 24)
    have hj' : j < 1 := hj
    obtain rfl : j = 0 := by omega
    rw [cell_at h]
    rfl
  · rintro e w' ⟨rfl, hb⟩
    exact ⟨rfl, hB0.trans (hb.mono hB0.size)⟩
theorem tells2 {X : World} {x : Value} {B : List UInt8} (y z tz : Int) (hx : Bs X x B) (hB : B.length ≤ 1000000) (hs : scanF B 0 = [Is y, Is z]) (ht : tz = ((catI [Is y, Is z]).length : Nat)) (hy : okIt (Is y)) (hz : okIt (Is z)) (hL : PA.Laid X) :
    Calls Tryd.prog 5 #[x, .int .i64 tz, .slice (some ⟨X.heap.size, 0, none⟩) 2 2] (X.alloc (.cells #[.int .i64 y, .int .i64 z] 24)) fun e w' => e = .returned (.bool true) ∧ Below X.heap.size X w' := by
  have hB0 : Below X.heap.size X (X.alloc (.cells #[.int .i64 y, .int .i64 z] 24)) := (Below.refl _ _).alloc (Nat.le_refl _) _
  refine (tells_any (C := 2) [y, z] tz (hx.alloc _) hB hs ht (fun u hu => by
    rcases List.mem_cons.1 hu with rfl | hu
    · exact hy
    · rw [List.mem_singleton.1 hu]; exact hz) (by simp) (.inr ⟨X.heap.size, rfl, by simp, fun j hj => ?_⟩) (hL.below hB0)).mono ?_
  · have h := heap_alloc_new X (.cells #[.int .i64 y, .int .i64 z] 24)
    have hj' : j < 2 := hj
    rw [cell_at h]
    rcases j with _ | _ | j
    · rfl
    · rfl
    · omega
  · rintro e w' ⟨rfl, hb⟩
    exact ⟨rfl, hB0.trans (hb.mono hB0.size)⟩
theorem rows2 {X : World} (y z : Int) (hy : okIt (Is y)) (hz : okIt (Is z)) (hL : PA.Laid X) :
    Calls Tryd.prog 4 #[.slice (some ⟨X.heap.size, 0, none⟩) 2 2] (X.alloc (.cells #[.int .i64 y, .int .i64 z] 24)) fun e w' => ∃ v, e = .returned v ∧ Bs w' v (catI [Is y, Is z]) ∧ Below X.heap.size X w' := by
  have hB0 : Below X.heap.size X (X.alloc (.cells #[.int .i64 y, .int .i64 z] 24)) := (Below.refl _ _).alloc (Nat.le_refl _) _
  refine (rows_any (C := 2) [y, z] (fun u hu => by
    rcases List.mem_cons.1 hu with rfl | hu
    · exact hy
    · rw [List.mem_singleton.1 hu]; exact hz) (by simp) (fun j hj => ?_) (by simp) (hL.below hB0)).mono ?_
  · have h := heap_alloc_new X (.cells #[.int .i64 y, .int .i64 z] 24)
    have hj' : j < 2 := hj
    rw [cell_at h]
    rcases j with _ | _ | j
    · rfl
    · rfl
    · omega
  · rintro e w' ⟨v, rfl, hv, hb⟩
    exact ⟨v, rfl, hv, hB0.trans (hb.mono hB0.size)⟩
theorem bs_head {w : World} {b o n C : Nat} {l : List UInt8} (h : Bs w (.slice (some ⟨b, o, none⟩) n C) l) (k : Nat) (hk : k ≤ l.length) : Bs w (.slice (some ⟨b, o, none⟩) k C) (l.take k) := by
  rcases h with ⟨h, rfl⟩ | ⟨ad, c, h, rfl⟩ | ⟨h0, b', o', c, hv, h1, h2, h3⟩
  · cases h
  · cases h
    have : k = 0 := by simpa using hk
    subst this
    exact .inr (.inl ⟨_, _, rfl, rfl⟩)
  · cases hv
    exact Bs.mk b o C (by rw [List.length_take]; omega) (by rw [List.length_take]; omega) h2 (fun j hj => by
      rw [List.length_take] at hj
      rw [h3 j (by omega), List.getElem_take])
theorem cat1 : (14 : Int) = ((catI [Is 1]).length : Nat) := by rw [catI_one, Fs_len1]; rfl
theorem cat2 : (14 : Int) = ((catI [Is 2]).length : Nat) := by rw [catI_one, Fs_len2]; rfl
theorem cat12 : (28 : Int) = ((catI [Is 1, Is 2]).length : Nat) := by
  have := B12_len
  unfold B12 at this
  rw [this]
  rfl
theorem cat21_len : (catI [Is 2, Is 1]).length = 28 := by
  show (itB (Is 2) ++ (itB (Is 1) ++ [])).length = 28
  rw [List.length_append, List.length_append, Fs_len1, Fs_len2]
  rfl

set_option maxRecDepth 100000 in
set_option maxHeartbeats 8000000 in
theorem awake_seg (w : World) (hL : PA.Laid w) : Calls Tryd.prog 6 #[] w fun e w' => e = .returned (.bool true) ∧ Below w.heap.size w w' := by
  have HL : Hid (PA.Laid w) := hL
  clear hL
  have hrw := rows2 1 2 Fs_ok1 Fs_ok2 HL.out
  go_enter Tryd.func6, Tryd.ntmps6
  go_wp2_with fail
  refine hrw.mono ?_
  rintro e w1 ⟨v, rfl, hb1, hB1⟩
  have hb1' : Bs w1 v B12 := hb1
  have HB1 : Hid (Below w.heap.size w w1) := hB1
  have HV1 : Hid (Bs w1 v B12) := hb1'
  obtain ⟨AX, CX, rfl⟩ := bs_form hb1'
  obtain ⟨b0, o0, rfl, hC0, -, -⟩ := bs_drop hb1' 0 (by omega) (by rw [B12_len]; omega)
  rw [B12_len] at hC0
  clear hrw hb1 hb1' hB1
  have hpu : ∀ X : World, Below w.heap.size w X → Calls Tryd.prog 7 #[.agg #[.int .i64 0, .int .u8 0, .int .i64 0, .int .i64 0, .int .i64 0, .int .i64 0, .string ⟨#[]⟩, .slice none 0 0, .int .i64 0, .int .i64 0, .int .i64 0, .int .i64 0, .int .i64 0, .int .i64 0, .slice none 0 0, .slice none 0 0]] X fun e w' => e = .returned (.tuple #[.slice none 0 0, .int .i64 4]) ∧ Below X.heap.size X w' := fun X hX => sput_no Fzz [] none none none 0 0 0 X (HL.out.below hX) ⟨.inl ⟨rfl, rfl⟩, .inl ⟨rfl, rfl⟩, .inl ⟨rfl, rfl⟩⟩ Fzz_fit Fzz_not
  rw [B12_len] at HV1 ⊢
  go_wp2_with fail
  refine (hpu w1 HB1.out).mono ?_
  rintro e w2 ⟨rfl, hB2⟩
  have HB2 : Hid (Below w.heap.size w w2) := HB1.out.trans (hB2.mono HB1.out.size)
  have HV2 : Hid (Bs w2 (.slice (some ⟨b0, o0, none⟩) 28 CX) B12) := Bs.below' HV1.out hB2
  clear hpu hB2 HB1 HV1
  have ht := tells2 1 2 28 HV2.out (by rw [B12_len]; omega) scan12 cat12 Fs_ok1 Fs_ok2 (HL.out.below HB2.out)
  go_wp2_with fail
  refine ht.mono ?_
  rintro e w3 ⟨rfl, hB3⟩
  have HB3 : Hid (Below w.heap.size w w3) := HB2.out.trans (hB3.mono HB2.out.size)
  have HV3 : Hid (Bs w3 (.slice (some ⟨b0, o0, none⟩) 28 CX) B12) := Bs.below' HV2.out hB3
  clear ht hB3 HB2 HV2
  have ht := tells1 1 14 (bs_head HV3.out 27 (by rw [B12_len]; omega)) (by rw [List.length_take, B12_len]; omega) scan27 cat1 Fs_ok1 (HL.out.below HB3.out)
  have hcap : (27 : Int) ≤ (CX : Int) := by omega
  go_wp2_with fail
  refine ht.mono ?_
  rintro e w4 ⟨rfl, hB4⟩
  have HB4 : Hid (Below w.heap.size w w4) := HB3.out.trans (hB4.mono HB3.out.size)
  clear ht hB4 HB3 HV3 hcap
  have hrw := rows2 2 1 Fs_ok2 Fs_ok1 (HL.out.below HB4.out)
  go_wp2_with fail
  refine hrw.mono ?_
  rintro e w5 ⟨v, rfl, hb5, hB5⟩
  have HB5 : Hid (Below w.heap.size w w5) := HB4.out.trans (hB5.mono HB4.out.size)
  have HV5 : Hid (Bs w5 v (catI [Is 2, Is 1])) := hb5
  obtain ⟨AY, CY, rfl⟩ := bs_form hb5
  clear hrw hb5 hB5 HB4
  have ht := tells1 2 14 HV5.out (by rw [cat21_len]; omega) scan21 cat2 Fs_ok2 (HL.out.below HB5.out)
  rw [cat21_len] at ht ⊢
  go_wp2_with fail
  refine ht.mono ?_
  rintro e w6 ⟨rfl, hB6⟩
  have HB6 : Hid (Below w.heap.size w w6) := HB5.out.trans (hB6.mono HB5.out.size)
  clear ht hB6 HB5 HV5
  have ht := tells_any (C := 0) (L := none) [] 0 (Bs.nil w6) (by decide) scan0 (by decide) (fun z hz => (nomatch hz)) (by decide) (.inl rfl) (HL.out.below HB6.out)
  rw [show ([] : List Int).length = 0 from rfl] at ht
  go_wp2_with fail
  refine ht.mono ?_
  rintro e w7 ⟨rfl, hB7⟩
  have HB7 : Hid (Below w.heap.size w w7) := HB6.out.trans (hB7.mono HB6.out.size)
  clear ht hB7 HB6
  go_wp2
  go_ret
  exact ⟨rfl, HB7.out⟩
end Go.Proofs.YtogikhondibifaaDoor.DD
