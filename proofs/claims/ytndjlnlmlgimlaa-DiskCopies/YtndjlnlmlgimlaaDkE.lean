/- The walks of what changes a disk: Sync, Cut, Remove, Rename, Append. -/
import Derived.Test.YtndjlnlmlgimlaaDkD
import Derived.Deep.RegionWith
namespace Go.Proofs.Ytndjlnlmlgimlaa
open Go.RowKit Go.MapKept

/- A file put at the name of another one, in the words of Nxt. -/
theorem nxt_put {T S : Nat → Prop} {w w1 w2 : World} {base d m : Nat} {room : Int} {L : List Fv} (hb : base ≤ w.heap.size) (h : Dk w base d m room L) (hx : ∀ k, Sx d m L k → S k) (hS : ∀ k, S k → base ≤ k ∧ k < w.heap.size) (p : Fv) (c1 : Chg T w w1)
    (hT : ∀ k, k < w.heap.size → T k → S k ∧ k ≠ d ∧ k ≠ m ∧ ∀ q ∈ L, q.1.nm ≠ p.1.nm → blk q.2 ≠ some k)
    (hrow : w1.ownsRow base 5 1 p.2 p.1.b.length (bv p.1.b)) (hloc : ∀ k, blk p.2 = some k → (S k ∧ ∀ q ∈ L, q.1.nm ≠ p.1.nm → blk q.2 ≠ some k) ∨ w.heap.size ≤ k)
    (hm : MapIs w2 m (putL p L)) (c2 : Chg (fun k => k = m) w1 w2) (hf : p.1.sy ≤ p.1.b.length ∧ p.1.b.length ≤ 4194304) (hu : (used (putF p.1 (L.map Prod.fst)) : Int) ≤ room) :
    Nxt base d room S w w2 (putF p.1 (L.map Prod.fst)) := by
  refine Nxt.of hb hS ?_ (put_F p L) (h.put p c1 (fun k hk ht => (hT k hk ht).2) hrow (fun k hk => (hloc k hk).imp (fun e => e.2) id) hm c2 hf hu) ?_
  · refine (c1.weak (fun k hk ht => (hT k hk ht).1)).trans' c2 ?_
    intro k _ e; subst e; exact hx k (.inr (.inl rfl))
  · rintro k (e | e | ⟨q, hq, hk⟩)
    · exact .inl (hx k (.inl e))
    · exact .inl (hx k (.inr (.inl e)))
    · rcases put_mem hq with rfl | hq
      · exact (hloc k hk).imp (fun e => e.1) id
      · exact .inl (hx k (.inr (.inr ⟨q, hq, hk⟩)))

set_option maxRecDepth 100000 in
theorem sync_some {w : World} {base d : Nat} {room : Int} {F : List Fi} {S : Nat → Prop} (hb : base ≤ w.heap.size) (h : Dsk w base d room F S) {k : List UInt8} {f : Fi} (hk : lookF k F = some f) :
    Calls Try.prog 20 #[.pointer (some ⟨d, 0, none⟩), .string (mkS k)] w fun e w' => e = .returned (.int .i64 0) ∧ Nxt base d room S w w' (putF ⟨f.nm, f.b, f.b.length⟩ F) := by
  obtain ⟨m, L, rfl, hD, hx, hS⟩ := h
  obtain ⟨A, C, hlk, ho, hl, hsy, hnm⟩ := hD.at hk
  have HO : Hid (w.ownsRow base 5 1 (.slice A f.b.length C) f.b.length (bv f.b)) := ho
  have HK : Hid (look k L = some (f, .slice A f.b.length C)) := hlk
  have HF : Hid (lookF k (L.map Prod.fst) = some f) := hk
  subst hnm
  clear hk hlk ho
  go_enter Try.func20, Try.ntmps20
  go_wp2_with fail
  refine (find_some hD f.nm HK.out).mono ?_
  rintro e w1 ⟨rfl, hB⟩
  have hD2 := ((hD.below hB).alloc (.cells #[.slice A f.b.length C, .int .i64 (f.b.length : Int)] 58)).keep (Chg.drew Non _) (fun _ _ => id)
  have hc0 := cell_at ((hD.below hB).alloc (.cells #[.slice A f.b.length C, .int .i64 (f.b.length : Int)] 58)).cell 0
  simp at hc0
  obtain ⟨w3, hrun, hm3, hc3, hs3⟩ := hD2.map.update (⟨f.nm, f.b, f.b.length⟩, .slice A f.b.length C)
  simp only [valOf] at hrun
  have HB : Hid (Below w.heap.size w (w1.alloc (.cells #[.slice A f.b.length C, .int .i64 (f.b.length : Int)] 58)).drew) := (hB.alloc hB.size _).drew
  have HM : Hid (MapIs w3 m (putL (⟨f.nm, f.b, f.b.length⟩, .slice A f.b.length C) L)) := hm3
  have HC : Hid (Chg (fun k => k = m) (w1.alloc (.cells #[.slice A f.b.length C, .int .i64 (f.b.length : Int)] 58)).drew w3) := hc3
  clear hm3 hc3 hs3 hD2
  go_wp2_with fail
  go_region
  all_goals
    go_wp2_with fail
    go_ret
    refine ⟨rfl, nxt_put hb hD hx hS (⟨f.nm, f.b, f.b.length⟩, .slice A f.b.length C) (Chg.of_below HB.out) (fun _ _ e => e.elim) ?_ ?_ HM.out HC.out ⟨Nat.le_refl _, hl⟩ ?_⟩
    · exact owns_keep HO.out (Chg.of_below HB.out) (fun _ _ => id)
    · intro k hk
      exact .inl ⟨hx k (.inr (.inr ⟨_, (look_some HK.out).1, hk⟩)), fun q hq hne => look_ne hD.apart HK.out hq hne hk⟩
    · show ((used (putF ⟨f.nm, f.b, f.b.length⟩ (L.map Prod.fst)) : Nat) : Int) ≤ room
      have h1 := used_put ⟨f.nm, f.b, f.b.length⟩ (L.map Prod.fst)
      have h2 := get_look HK.out
      simp only [h2] at h1
      have := hD.usd
      omega

set_option maxRecDepth 100000 in
theorem cut_bad {w : World} {base d m : Nat} {room : Int} {L : List Fv} (h : Dk w base d m room L) {k : List UInt8} {f : Fi} (hk : lookF k (L.map Prod.fst) = some f) (n : Int) (hn : n < 0 ∨ (f.b.length : Int) < n) :
    Calls Try.prog 22 #[.pointer (some ⟨d, 0, none⟩), .string (mkS k), .int .i64 n] w fun e w' => e = .returned (.int .i64 2) ∧ Below w.heap.size w w' := by
  obtain ⟨A, C, hlk, ho, hl, hsy, hnm⟩ := h.at hk
  go_enter Try.func22, Try.ntmps22
  go_wp2_with fail
  refine (find_some h k hlk).mono ?_
  rintro e w1 ⟨rfl, hB⟩
  clear hlk ho hk
  rcases hn with hn | hn
  · go_wp2_with fail
    go_ret
    exact ⟨rfl, hB.alloc hB.size _⟩
  · have hn2 : ¬ n < 0 := by omega
    go_wp2_with fail
    go_ret
    exact ⟨rfl, hB.alloc hB.size _⟩
set_option maxRecDepth 100000 in
theorem cut_some {w : World} {base d : Nat} {room : Int} {F : List Fi} {S : Nat → Prop} (hb : base ≤ w.heap.size) (h : Dsk w base d room F S) {k : List UInt8} {f : Fi} (hk : lookF k F = some f) (n : Nat) (hn : n ≤ f.b.length) :
    Calls Try.prog 22 #[.pointer (some ⟨d, 0, none⟩), .string (mkS k), .int .i64 (n : Int)] w fun e w' => e = .returned (.int .i64 0) ∧ Nxt base d room S w w' (putF ⟨f.nm, f.b.take n, n⟩ F) := by
  obtain ⟨m, L, rfl, hD, hx, hS⟩ := h
  obtain ⟨A, C, hlk, ho, hl, hsy, hnm⟩ := hD.at hk
  have HO : Hid (w.ownsRow base 5 1 (.slice A f.b.length C) f.b.length (bv f.b)) := ho
  have HK : Hid (look k L = some (f, .slice A f.b.length C)) := hlk
  subst hnm
  clear hk hlk ho
  go_enter Try.func22, Try.ntmps22
  go_wp2_with fail
  refine (find_some hD f.nm HK.out).mono ?_
  rintro e w1 ⟨rfl, hB⟩
  obtain ⟨w2, hw2⟩ : ∃ X, X = (w1.alloc (.cells #[.slice A f.b.length C, .int .i64 (f.sy : Int)] 58)).drew := ⟨_, rfl⟩
  have HB2 : Hid (Below w.heap.size w w2) := by rw [hw2]; exact (hB.alloc hB.size _).drew
  have HW : Hid (w2 = (w1.alloc (.cells #[.slice A f.b.length C, .int .i64 (f.sy : Int)] 58)).drew) := hw2
  have hc0 := cell_at ((hD.below hB).alloc (.cells #[.slice A f.b.length C, .int .i64 (f.sy : Int)] 58)).cell 0
  simp at hc0
  have hcall := beginning_any (owns_keep HO.out (Chg.of_below HB2.out) (fun _ _ => id)) (f.sy : Int) n hn hl
  have HCL : Hid (∀ {e w4} {A4 : Option Addr} {C4 : Nat}, e = Ending.returned (.agg #[.slice A4 n C4, .int .i64 (n : Int)]) → w4.ownsRow w2.heap.size 5 1 (.slice A4 n C4) n (bv (f.b.take n)) → Below w2.heap.size w2 w4 →
      w4.cell? ⟨d, 0, none⟩ = some (.map (some m)) ∧ ∃ w5, (Instr.mapUpdate 43 (.map (some m)) (.string (mkS f.nm)) (.agg #[.slice A4 n C4, .int .i64 (n : Int)])).run Try.prog w4 = .ok () w5 ∧ Hid (Nxt base d room S w w5 (putF ⟨f.nm, f.b.take n, n⟩ (L.map Prod.fst)))) := by
    intro e w4 A4 C4 _ ho4 hB4
    have hB24 := HB2.out.trans (hB4.mono HB2.out.size)
    have hD4 := hD.below hB24
    have hc4 := cell_at hD4.cell 0
    simp at hc4
    obtain ⟨w5, hrun, hm5, hc5, hs5⟩ := hD4.map.update (⟨f.nm, f.b.take n, n⟩, .slice A4 n C4)
    refine ⟨hc4, w5, hrun, nxt_put hb hD hx hS (⟨f.nm, f.b.take n, n⟩, .slice A4 n C4) (Chg.of_below hB24) (fun _ _ e => e.elim) ?_ ?_ hm5 hc5 ⟨by simp; omega, by simp; omega⟩ ?_⟩
    · have e1 : (f.b.take n).length = n := by simp; omega
      show w4.ownsRow base 5 1 _ (f.b.take n).length _
      rw [e1]
      exact owns_low ho4 (Nat.le_trans hb HB2.out.size)
    · intro i hi
      obtain ⟨_, _, hle⟩ := owns_block ho4 hi
      exact .inr (Nat.le_trans HB2.out.size hle)
    · show ((used (putF ⟨f.nm, f.b.take n, n⟩ (L.map Prod.fst)) : Nat) : Int) ≤ room
      have h1 := used_put ⟨f.nm, f.b.take n, n⟩ (L.map Prod.fst)
      have h2 := get_look HK.out
      simp only [h2, List.length_take] at h1
      have := hD.usd
      omega
  rw [hw2] at hcall
  clear hw2
  have hn1 : ¬ (n : Int) < 0 := by omega
  have hn2 : ¬ (f.b.length : Int) < (n : Int) := by omega
  go_wp2_with fail
  go_region_with (go_at_call 37; refine hcall.mono ?_; rintro e w4 ⟨A4, C4, rfl, ho4, hB4⟩; rw [← HW.out] at ho4 hB4; obtain ⟨hc4, w5, hrun5, HN⟩ := HCL.out rfl ho4 hB4)
  all_goals
    go_wp2_with fail
    go_ret
    exact ⟨rfl, HN.out⟩
set_option maxRecDepth 100000 in
theorem remove_some {w : World} {base d : Nat} {room : Int} {F : List Fi} {S : Nat → Prop} (hb : base ≤ w.heap.size) (h : Dsk w base d room F S) {k : List UInt8} {f : Fi} (hk : lookF k F = some f) :
    Calls Try.prog 26 #[.pointer (some ⟨d, 0, none⟩), .string (mkS k)] w fun e w' => e = .returned (.int .i64 0) ∧ Nxt base d room S w w' (delF k F) := by
  obtain ⟨m, L, rfl, hD, hx, hS⟩ := h
  obtain ⟨A, C, hlk, ho, hl, hsy, hnm⟩ := hD.at hk
  go_enter Try.func26, Try.ntmps26
  go_wp2_with fail
  refine (find_some hD k hlk).mono ?_
  rintro e w1 ⟨rfl, hB⟩
  have hDB := hD.below (hB.alloc hB.size (.cells #[.slice A f.b.length C, .int .i64 (f.sy : Int)] 58))
  have hc0 := cell_at hDB.cell 0
  simp at hc0
  have HM : Hid (MapIs (w1.alloc (.cells #[.slice A f.b.length C, .int .i64 (f.sy : Int)] 58)) m L) := hDB.map
  clear hlk ho hk
  go_wp2_with (first
    | (at_delete; refine wpList_del rfl _ _ rfl k rfl rfl HM.out ?_; intro w2 hm2 hc2 hs2)
    | fail)
  go_ret
  have hB2 := hB.alloc hB.size (.cells #[.slice A f.b.length C, .int .i64 (f.sy : Int)] 58)
  refine ⟨rfl, Nxt.of hb hS ?_ (del_F k L) (hDB.del k hm2 hc2) ?_⟩
  · exact (Chg.of_below hB2).weak (fun _ _ e => e.elim) |>.trans' hc2 (fun i _ e => hx i (.inr (.inl e)))
  · rintro i (e | e | ⟨q, hq, hi⟩)
    · exact .inl (hx i (.inl e))
    · exact .inl (hx i (.inr (.inl e)))
    · exact .inl (hx i (.inr (.inr ⟨q, del_mem hq, hi⟩)))
end Go.Proofs.Ytndjlnlmlgimlaa
