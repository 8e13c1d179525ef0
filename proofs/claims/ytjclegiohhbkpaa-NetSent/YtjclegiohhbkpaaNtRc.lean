/- The document's net: clearing. -/
import Derived.Test.YtjclegiohhbkpaaNtRb
namespace Go.Proofs.Ytjclegiohhbkpaa
open Go.RowKit Go.MapKept

def outP (a b : Int) (p : PkV) : Bool := !(decide (p.1.1 = (a, b)) || decide (p.1.1 = (b, a)))
theorem outP_eq (a b x0 x1 : Int) (bb : List UInt8) (v : Value) : outP a b (((x0, x1), bb), v) = !((x0 == a && x1 == b) || (x0 == b && x1 == a)) := by
  unfold outP
  rw [Bool.eq_iff_iff]
  simp
theorem clear_in {w wr w5 : World} {base : Nat} {A2 : Option Addr} {C2 : Nat} {v5 : Value} {M : List PkV} {P : PkV} {o1 o2 : Obj} {n : Nat} {xs : List Value} (HF : ∀ g, blk (.slice A2 M.length C2) = some g → w.heap.size ≤ g) (HB : Below w.heap.size w wr)
    (ho5 : w5.ownsRow base 58 3 v5 n (M.flatMap cel ++ xs)) (hn : n = M.length + 1) (hx : xs = cel P) (hg5 : ((wr.alloc o1).alloc o2).grownBy w5 (blk (.slice A2 M.length C2))) (hl5 : blk v5 = blk (.slice A2 M.length C2) ∨ blk v5 = some ((wr.alloc o1).alloc o2).heap.size) :
    w5.ownsRow base 58 3 v5 (M ++ [P]).length ((M ++ [P]).flatMap cel) ∧ (∀ g, blk v5 = some g → w.heap.size ≤ g) ∧ Below w.heap.size w w5 := by
  subst hn hx
  have hs := HB.size
  refine ⟨?_, ?_, ?_⟩
  · rw [List.length_append, List.flatMap_append]
    simpa using ho5
  · intro g hg
    rcases hl5 with e | e
    · exact HF g (e.symm.trans hg)
    · have e' : some ((wr.alloc o1).alloc o2).heap.size = some g := e.symm.trans hg
      cases e'
      simp; omega
  · refine ((HB.alloc hs o1).alloc (by simp; omega) o2).trans ((Chg.of_grown hg5).below (fun k hk => HF k hk) (by simp; omega))
set_option maxRecDepth 100000 in
set_option maxHeartbeats 8000000 in
theorem rclear_any {w : World} {base r : Nat} {v : Value} {L : List PkV} (hb : base ≤ w.heap.size) (h : Rk w base r v L) (hL : L.length ≤ 1000000) (a b : Int) :
    Calls Try.prog 28 #[.pointer (some ⟨r, 0, none⟩), .int .i64 a, .int .i64 b] w fun e w' => e = .returned (.tuple #[]) ∧ ∃ v', Rk w' base r v' (L.filter (outP a b)) ∧ Chg (fun g => g = r ∨ blk v = some g) w w' ∧ ∀ g, Bx r v' (L.filter (outP a b)) g → Bx r v L g ∨ w.heap.size ≤ g := by
  obtain ⟨A1, C1, rfl⟩ := owns_formN h.row
  have hc0 := cell_at h.cell 0
  simp at hc0
  have HR : Hid (Rk w base r (.slice A1 L.length C1) L) := h
  obtain ⟨N, hN⟩ : ∃ N, N = L.length := ⟨_, rfl⟩
  have HN : Hid (N = L.length) := hN
  rw [← hN] at hc0 hL
  clear h hN
  obtain ⟨i0, hi0, hz0, hz1, hz2⟩ := info_parts infoP
  go_enter Try.func28, Try.ntmps28
  go_wp2_with fail
  go_loopw [6, 7] (fun o i wr => ∃ (j : Nat) (M : List PkV), j ≤ N ∧ i = .int .i64 j ∧ M = (L.take j).filter (outP a b) ∧ wr.ownsRow base 58 3 o M.length (M.flatMap cel) ∧ (∀ g, blk o = some g → w.heap.size ≤ g) ∧ Below w.heap.size w wr) (fun _ i _ => N - (intOf i).toNat)
  case atStart => exact ⟨0, [], Nat.zero_le _, rfl, rfl, World.ownsRow_nil _ _ _ _, (fun g hg => nomatch hg), Below.refl _ _⟩
  case round =>
    obtain ⟨j, M, hj, rfl, hM, ho, hf, hB⟩ := hrel
    have HRr := HR.out.below hB
    have hc1 := cell_at HRr.cell 0
    simp at hc1
    rw [← HN.out] at hc1
    obtain ⟨A2, C2, hv2⟩ := owns_formN ho
    subst hv2
    have hMl : M.length ≤ 1000000 := by rw [hM]; have := List.length_filter_le (outP a b) (L.take j); rw [List.length_take] at this; omega
    by_cases hlt : j < N
    · have hj' : j < L.length := by have := HN.out; omega
      obtain ⟨g, hA, y0, y1, y2⟩ := HRr.at j hj'
      obtain ⟨A3, C3, hv3⟩ := owns_formN (HRr.bs _ (List.getElem_mem hj')).1
      have HT : Hid ((L.take (j + 1)).filter (outP a b) = M ++ (if outP a b (L[j]'hj') then [L[j]'hj'] else [])) := by
        unfold Hid
        rw [List.take_succ_eq_append_getElem hj', List.filter_append, ← hM]
        simp [List.filter_cons]
      have HO : Hid (wr.ownsRow base 58 3 (.slice A2 M.length C2) M.length (M.flatMap cel)) := ho
      have HF : Hid (∀ g, blk (.slice A2 M.length C2) = some g → w.heap.size ≤ g) := hf
      have HB : Hid (Below w.heap.size w wr) := hB
      obtain ⟨P, hP⟩ : ∃ P : PkV, P = L[j]'hj' := ⟨_, rfl⟩
      have HPm : Hid (P ∈ L) := by rw [hP]; exact List.getElem_mem hj'
      rw [← hP] at y0 y1 y2 hv3 HT
      clear hP ho hf hB HRr hM
      obtain ⟨⟨⟨x0, x1⟩, bb⟩, xv⟩ := P
      simp only at y0 y1 y2 hv3
      subst hv3
      subst hA
      rw [outP_eq] at HT
      obtain ⟨e1, he1⟩ : ∃ e, (x0 == a) = e := ⟨_, rfl⟩
      obtain ⟨e2, he2⟩ : ∃ e, (x1 == b) = e := ⟨_, rfl⟩
      obtain ⟨e3, he3⟩ : ∃ e, (x0 == b) = e := ⟨_, rfl⟩
      obtain ⟨e4, he4⟩ : ∃ e, (x1 == a) = e := ⟨_, rfl⟩
      rw [he1, he2, he3, he4] at HT
      cases e1 <;> cases e2 <;> cases e3 <;> cases e4
      all_goals
        go_wp2_with (first
          | (at_builtin; refine wpList_append_own_at _ rfl (.tmp 48) (.tmp 50) 52 rfl base 58 i0 (.agg #[.int .i64 0, .int .i64 0, .slice none 0 0]) 3 40 Try.underlying52 hi0 hz0 hz1 hz2 rfl (by decide) _ M.length (M.flatMap cel) rfl ((HO.out.alloc _).alloc _) ⟨wr.heap.size + 1, 0, none⟩ 1 1 [.int .i64 x0, .int .i64 x1, .slice A3 bb.length C3] rfl rfl (by have := cell_three_new (wr.alloc (.cells #[.int .i64 x0, .int .i64 x1, .slice A3 bb.length C3] 58)) (.int .i64 x0) (.int .i64 x1) (.slice A3 bb.length C3) 58; simpa using this) (fun u hu => by simp at hu; rcases hu with rfl | rfl | rfl <;> rfl) (by unfold maxLen; omega) (by omega) (by simp; have := HB.out.size; omega) ?_; intro v5 w5 ho5 hg5 hn5 hl5)
          | fail)
      all_goals
        go_roundw
        case rel =>
          first
            | (have hE : (L.take (j + 1)).filter (outP a b) = M ++ [(((x0, x1), bb), Value.slice A3 bb.length C3)] := by simpa using HT.out
               exact ⟨j + 1, _, by omega, by go_num, hE.symm, clear_in HF.out HB.out ho5 rfl rfl hg5 hl5⟩)
            | (have hE : (L.take (j + 1)).filter (outP a b) = M := by simpa using HT.out
               exact ⟨j + 1, M, by omega, by go_num, hE.symm, HO.out.alloc _, HF.out, HB.out.alloc HB.out.size _⟩)
        case measure => simp [intOf]; omega
    · have hL0 : L.take j = L := List.take_of_length_le (by have := HN.out; omega)
      rw [hL0] at hM
      have HE : Hid (wr.cell? ⟨r, 0, none⟩ = some (.slice A1 N C1) ∧ wr.frozen? ⟨r, 0, none⟩ = false) := ⟨hc1, frozen_at HRr.cell 0⟩
      have hfz := HE.out.2
      have HQ := HR.out.row_set (Chg.of_below hB) (fun g e => e.elim) (v7 := .slice A2 M.length C2) (L' := M) ho hf (fun p hp => by rw [hM] at hp; exact (List.mem_filter.1 hp).1)
      have HQ' : Hid _ := HQ
      have HM : Hid (M = L.filter (outP a b)) := hM
      clear HQ ho hf hM HRr hL0
      go_wp2_with fail
      go_end0
      obtain ⟨q1, q2, q3⟩ := HQ'.out
      rw [← HM.out]
      exact ⟨rfl, _, q1, q2, q3⟩
theorem rclear_rx {w : World} {r : Nat} {l : List Pk} {B : Nat → Prop} (h : Rx w r l B) (hL : l.length ≤ 1000000) (a b : Int) :
    Calls Try.prog 28 #[.pointer (some ⟨r, 0, none⟩), .int .i64 a, .int .i64 b] w fun e w' => e = .returned (.tuple #[]) ∧ Rx w' r (clearP l a b) (Gw B w w') ∧ Chg B w w' := by
  obtain ⟨base, v, L, h1, h2, rfl, h4, h5⟩ := h
  refine (rclear_any h1 h2 (by simpa using hL) a b).mono ?_
  rintro e w' ⟨rfl, v', g1, g2, g3⟩
  have := Rx.of_next h1 h4 h5 g1 g2 g3
  have he : (L.filter (outP a b)).map Prod.fst = clearP (L.map Prod.fst) a b := by
    unfold clearP
    rw [List.filter_map]
    rfl
  rw [he] at this
  exact ⟨rfl, this⟩
end Go.Proofs.Ytjclegiohhbkpaa
