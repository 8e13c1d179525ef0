/- The walk of put. -/
import Derived.Test.YtjclegiohhbkpaaNtC
import Derived.Deep.RegionHeld3
namespace Go.Proofs.Ytjclegiohhbkpaa
open Go.RowKit Go.MapKept

set_option maxRecDepth 100000 in
theorem put_full {w : World} {base n m : Nat} {L : List Bg} (h0 : Nk w base n m L) {l : List Pk} (hf : Fit L l) (k : Int × Int) (hi : 32 ≤ (bagOf l k).length) (x : Value) :
    Calls Try.prog 32 #[.pointer (some ⟨n, 0, none⟩), keyV k, x] w fun e w' => e = .returned (.bool false) ∧ Below w.heap.size w w' := by
  have h := h0.alloc (kB k)
  have hc0 := cell_at h.cell 0
  simp at hc0
  have hlk := fun q => (h.drewN q).map.lookup k
  obtain ⟨A, C, hv⟩ := valAt_form h hf k
  rw [hv] at hlk
  clear hv h h0
  simp only [keyV] at hlk ⊢
  go_enter Try.func32, Try.ntmps32
  go_wp2_with fail
  go_quiet (fail)
  go_wp2_with fail
  go_ret
  exact ⟨rfl, below_drewN (below1 _ _) _⟩
theorem info27 : (Try.prog.info? 27).map (fun i => (i.zero, i.size, i.bytes)) = some (some (.slice none 0 0), 1, 24) := by kernel_rfl
/- The packets that stand at a link, with their slices. -/
def psAt (k : Int × Int) (L : List Bg) : List (List UInt8 × Value) := ((look k L).map (·.ps)).getD []
theorem psAt_fst {L : List Bg} {l : List Pk} (hf : Fit L l) (k : Int × Int) : (psAt k L).map Prod.fst = bagOf l k := by
  rw [← hf k]; unfold psAt bytesAt; cases look k L <;> rfl
theorem psAt_len {L : List Bg} {l : List Pk} (hf : Fit L l) (k : Int × Int) : (psAt k L).length = (bagOf l k).length := by
  rw [← psAt_fst hf k, List.length_map]
theorem psAt_owns {w : World} {base n m : Nat} {L : List Bg} (h : Nk w base n m L) (k : Int × Int) : w.ownsRow base 27 1 (valAt k L) (psAt k L).length ((psAt k L).map Prod.snd) := by
  unfold psAt valAt
  cases hq : look k L with
  | none => exact World.ownsRow_nil _ _ _ _
  | some q => exact h.bags q (look_some hq).1
theorem psAt_mem {L : List Bg} {k : Int × Int} {x : List UInt8 × Value} (hx : x ∈ psAt k L) : ∃ q, look k L = some q ∧ x ∈ q.ps := by
  unfold psAt at hx
  cases hq : look k L with
  | none => rw [hq] at hx; cases hx
  | some q => rw [hq] at hx; exact ⟨q, rfl, hx⟩
theorem valAt_blk {L : List Bg} {k : Int × Int} {g : Nat} (hx : blk (valAt k L) = some g) : ∃ q, look k L = some q ∧ blk q.v = some g := by
  unfold valAt at hx
  cases hq : look k L with
  | none => rw [hq] at hx; cases hx
  | some q => rw [hq] at hx; exact ⟨q, rfl, hx⟩
theorem psAt_ap {w : World} {base n m : Nat} {L : List Bg} (h : Nk w base n m L) (k : Int × Int) : (psAt k L).Pairwise fun x y => ∀ g, blk x.2 = some g → blk y.2 ≠ some g := by
  unfold psAt
  cases hq : look k L with
  | none => exact .nil
  | some q => exact h.apP q (look_some hq).1
theorem cell_one_new (w : World) (v : Value) (T : TypeId) : ∀ j u, [v][j]? = some u → (w.alloc (.cells #[v] T)).cell? ((⟨w.heap.size, 0, none⟩ : Addr).add j) = some u := by
  intro j u hu
  cases j with
  | zero =>
    simp at hu; subst hu
    rw [show (⟨w.heap.size, 0, none⟩ : Addr).add 0 = ⟨w.heap.size, 0, none⟩ by simp only [Addr.add]; split <;> simp_all]
    rw [cell_at (heap_alloc_new w _)]; rfl
  | succ j => simp at hu
theorem slc_one {A : Option Addr} {n C : Nat} : (Value.slice A n C).oneCell' = true := rfl
theorem ps_one {w : World} {base n m : Nat} {L : List Bg} (h : Nk w base n m L) {q : Bg} (hq : q ∈ L) : ∀ u ∈ q.ps.map Prod.snd, u.oneCell' = true := by
  intro u hu
  obtain ⟨x, hx, rfl⟩ := List.mem_map.1 hu
  obtain ⟨A, C, hv⟩ := owns_formT (h.rows q hq x hx)
  rw [hv]; rfl

theorem put_math {W w6 : World} {base n m : Nat} {L : List Bg} (hb : base ≤ W.heap.size) (h : Nk W base n m L) {l : List Pk} (hf : Fit L l) (k : Int × Int) (hi : (bagOf l k).length < 32) {b : List UInt8} (hl : b.length ≤ 1048576)
    {A : Option Addr} {C : Nat} (hv : valAt k L = .slice A (bagOf l k).length C) {A6 : Option Addr} {C6 : Nat} (hB : Below W.heap.size W w6) (ho : w6.ownsRow W.heap.size 5 1 (.slice A6 b.length C6) b.length (bv b)) (ty : TypeId) :
    ∃ A8 C8 w8 w9, (Builtin.append_ #[42, 42] ty #[.slice A (bagOf l k).length C, .slice (some ⟨w6.heap.size, 0, none⟩) 1 1]).run Try.prog (w6.alloc (.cells #[.slice A6 b.length C6] 27)) = .ok (.slice A8 ((bagOf l k).length + 1) C8) w8 ∧
      (Instr.mapUpdate 38 (.map (some m)) (.agg #[.int .i64 k.1, .int .i64 k.2]) (.slice A8 ((bagOf l k).length + 1) C8)).run Try.prog w8 = .ok () w9 ∧
      Hid (∃ L', Nk w9 base n m L' ∧ Fit L' (l ++ [(k, b)]) ∧ Chg (fun g => Sx n m L g) W w9 ∧ ∀ g, Sx n m L' g → Sx n m L g ∨ W.heap.size ≤ g) ∧
      Hid (∀ g, g < W.heap.size → (g = n ∨ ¬ Sx n m L g) → w8.heap[g]? = W.heap[g]? ∧ w9.heap[g]? = W.heap[g]?) := by
  obtain ⟨i0, hi0, hz0, hz1, hz2⟩ := info_parts info27
  have hlen := psAt_len hf k
  have hown := psAt_owns h k
  rw [hv] at hown
  rw [hlen] at hown
  have hown6 : (w6.alloc (.cells #[.slice A6 b.length C6] 27)).ownsRow base 27 1 (.slice A (bagOf l k).length C) (bagOf l k).length ((psAt k L).map Prod.snd) :=
    owns_keepT (owns_keepT hown (Chg.of_below hB) (fun _ _ => id)) (Chg.alloc Non _ _) (fun _ _ => id)
  have hs6 : W.heap.size ≤ w6.heap.size := hB.size
  obtain ⟨v8, w8, hr, ho8, hg8, hn8, hl8⟩ := run_append_own_at (P := Try.prog) (w6.alloc (.cells #[.slice A6 b.length C6] 27)) base 42 ty 27 i0 (.slice none 0 0) 1 24 Try.underlying42 hi0 hz0 hz1 hz2 rfl (by decide) (.slice A (bagOf l k).length C) (bagOf l k).length ((psAt k L).map Prod.snd) hown6 ⟨w6.heap.size, 0, none⟩ 1 1 [.slice A6 b.length C6] rfl (cell_one_new _ _ _) (fun u hu => by simp at hu; subst hu; rfl)
      (by unfold maxLen; omega) (by omega) (by simp; omega)
  obtain ⟨A8, C8, rfl⟩ := owns_formT ho8
  have c1 : Chg (fun g => blk (.slice A (bagOf l k).length C) = some g) W w8 := by
    have a1 : Chg (fun g => blk (.slice A (bagOf l k).length C) = some g) W w6 := (Chg.of_below hB).weak (fun _ _ e => e.elim)
    exact (a1.trans (Chg.alloc _ _ _)).trans (Chg.of_grown hg8)
  have hbk : ∀ g, blk (.slice A (bagOf l k).length C) = some g → ∃ q, look k L = some q ∧ blk q.v = some g := fun g hg => valAt_blk (by rw [hv]; exact hg)
  have hmn : ¬ blk (.slice A (bagOf l k).length C) = some m := by
    intro e
    obtain ⟨q, hq, hqb⟩ := hbk m e
    exact (h.bag_ne (look_some hq).1 hqb).2.1 rfl
  have hM8 : MapIs w8 m L := h.map.keep c1 hmn
  have hup := hM8.update ⟨k, .slice A8 ((bagOf l k).length + 1) C8, psAt k L ++ [(b, Value.slice A6 b.length C6)]⟩
  obtain ⟨w9, hrun9, hm9, hc9, hs9⟩ := hup
  have hrow6 : w6.ownsRow base 5 1 (.slice A6 b.length C6) b.length (bv b) := owns_lowT ho hb
  have hA6 : ∀ g, blk (.slice A6 b.length C6) = some g → W.heap.size ≤ g ∧ g < w6.heap.size := by
    intro g hg
    obtain ⟨cur, hc, hle⟩ := owns_blockT ho hg
    exact ⟨hle, heap_lt hc⟩
  have hgb : ∀ g, blk (.slice A (bagOf l k).length C) = some g → g < W.heap.size := by
    intro g hg
    obtain ⟨cur, hc, _⟩ := owns_blockT hown hg
    exact heap_lt hc
  have hrow8 : w8.ownsRow base 5 1 (.slice A6 b.length C6) b.length (bv b) := by
    refine owns_keepT (owns_keepT hrow6 (Chg.alloc Non _ _) (fun _ _ => id)) (Chg.of_grown hg8) fun g hg e => ?_
    have h1 := hA6 g hg
    have h2 := hgb g e
    omega
  refine ⟨A8, C8, w8, w9, hr, hrun9, ⟨putL ⟨k, .slice A8 ((bagOf l k).length + 1) C8, psAt k L ++ [(b, Value.slice A6 b.length C6)]⟩ L, ?_, ?_, ?_, ?_⟩, ?_⟩
  · refine h.put _ c1 (fun g _ e => hbk g e) ?_ ?_ ?_ ?_ ?_ ?_ hm9 hc9
    · show w8.ownsRow base 27 1 (.slice A8 ((bagOf l k).length + 1) C8) (psAt k L ++ [(b, Value.slice A6 b.length C6)]).length _
      rw [List.length_append, hlen, List.map_append]
      exact ho8
    · intro g hg
      rcases hl8 with e | e
      · exact .inr (hbk g (e.symm.trans hg))
      · have hg' : some (w6.alloc (.cells #[.slice A6 b.length C6] 27)).heap.size = some g := e.symm.trans hg
        cases hg'
        exact .inl (by simp; omega)
    · intro x hx
      rcases List.mem_append.1 hx with hx | hx
      · obtain ⟨q, hq, hxq⟩ := psAt_mem hx
        refine owns_keepT (h.rows q (look_some hq).1 x hxq) c1 fun g hg e => ?_
        obtain ⟨r, hr, hrb⟩ := hbk g e
        exact (h.row_ne (look_some hq).1 hxq hg).2.2 r (look_some hr).1 hrb
      · simp at hx; subst hx; exact hrow8
    · intro x hx
      rcases List.mem_append.1 hx with hx | hx
      · exact .inr (psAt_mem hx)
      · simp at hx; subst hx; exact .inl fun g hg => (hA6 g hg).1
    · rw [List.pairwise_append]
      refine ⟨psAt_ap h k, List.pairwise_singleton _ _, fun x hx y hy g hg e => ?_⟩
      simp at hy; subst hy
      obtain ⟨q, hq, hxq⟩ := psAt_mem hx
      have h1 := (h.lt g (.inr (.inr (.inr ⟨q, (look_some hq).1, x, hxq, hg⟩)))).2
      have h2 := (hA6 g e).1
      omega
    · show 0 < (psAt k L ++ [(b, Value.slice A6 b.length C6)]).length ∧ _
      rw [List.length_append, hlen]
      refine ⟨by simp, by simp; omega, fun x hx => ?_⟩
      rcases List.mem_append.1 hx with hx | hx
      · obtain ⟨q, hq, hxq⟩ := psAt_mem hx
        exact (h.fits q (look_some hq).1).2.2 x hxq
      · simp at hx; subst hx; exact hl
  · refine hf.put _ _ ?_ ?_
    · show (psAt k L ++ [(b, Value.slice A6 b.length C6)]).map Prod.fst = bagOf (l ++ [(k, b)]) k
      rw [List.map_append, psAt_fst hf, bag_app, if_pos rfl]; rfl
    · intro k' hk'
      rw [bag_app, if_neg hk']
  · refine (c1.weak fun g _ e => ?_).trans (hc9.weak fun g _ e => .inr (.inl e))
    obtain ⟨q, hq, hqb⟩ := hbk g e
    exact .inr (.inr (.inl ⟨q, (look_some hq).1, hqb⟩))
  · rintro g (rfl | rfl | ⟨p, hp, hk⟩ | ⟨p, hp, x, hx, hk⟩)
    · exact .inl (.inl rfl)
    · exact .inl (.inr (.inl rfl))
    · rcases put_mem' h.map.names hp with rfl | ⟨hp, _⟩
      · rcases hl8 with e | e
        · obtain ⟨q, hq, hqb⟩ := hbk g (e.symm.trans hk)
          exact .inl (.inr (.inr (.inl ⟨q, (look_some hq).1, hqb⟩)))
        · have hg' : some (w6.alloc (.cells #[.slice A6 b.length C6] 27)).heap.size = some g := e.symm.trans hk
          cases hg'
          exact .inr (by simp; omega)
      · exact .inl (.inr (.inr (.inl ⟨p, hp, hk⟩)))
    · rcases put_mem' h.map.names hp with rfl | ⟨hp, _⟩
      · rcases List.mem_append.1 hx with hx | hx
        · obtain ⟨q, hq, hxq⟩ := psAt_mem hx
          exact .inl (.inr (.inr (.inr ⟨q, (look_some hq).1, x, hxq, hk⟩)))
        · simp at hx; subst hx; exact .inr (hA6 g hk).1
      · exact .inl (.inr (.inr (.inr ⟨p, hp, x, hx, hk⟩)))
  · intro g hg hn
    have h1 : ¬ blk (.slice A (bagOf l k).length C) = some g := by
      intro e
      obtain ⟨q, hq, hqb⟩ := hbk g e
      rcases hn with rfl | hn
      · exact (h.bag_ne (look_some hq).1 hqb).1 rfl
      · exact hn (.inr (.inr (.inl ⟨q, (look_some hq).1, hqb⟩)))
    have h2 : g ≠ m := by
      rintro rfl
      rcases hn with e | hn
      · exact h.ne e.symm
      · exact hn (.inr (.inl rfl))
    have e8 := c1.block g hg h1
    exact ⟨e8, by rw [hc9.block g (c1.lt_of hg) h2]; exact e8⟩
theorem step_app2 {w : World} {ops : Array Oper} {o : Oper} {a : Act} {K : Act → World → Prop} {Q : Exit → Act → World → Prop} {E : Prop} (hgd : o.guard = none) (s x : Operand) (ho : o.op = .call { callee := .builtin .append, args := #[s, x], argTypes := #[42, 42] })
    (vs vx v' : Value) (w' : World) (hs : a.eval s = vs) (hx : a.eval x = vx) (hrun : (Builtin.append_ #[42, 42] o.type #[vs, vx]).run Try.prog w = .ok v' w') (h : K (a.put o.dst v') w') :
    if Region.wanted o (yielded ops a.tmps) = true then Oper.wp Try.prog o a w K Q else E := by
  have hw : Region.wanted o (yielded ops a.tmps) = true := by simp [Region.wanted, hgd]
  rw [if_pos hw]
  unfold Oper.wp execOp
  simp only [ho, resolve, invoke, builtin, Sem.run_bind, Sem.run_pure, Result.andThen_ok, List.map_toArray, List.map_cons, List.map_nil, hs, hx, hrun]
  exact h
/- The cells that put reads. -/
def PutS (n m kb : Nat) (k : Int × Int) (w : World) : Prop := w.cell? ⟨n, 0, none⟩ = some (.map (some m)) ∧ w.cell? ⟨kb, 0, none⟩ = some (.int .i64 k.1) ∧ w.cell? ⟨kb, 1, none⟩ = some (.int .i64 k.2)
theorem PutS.of {w w' : World} {n m kb : Nat} {k : Int × Int} (h : PutS n m kb k w) (h1 : w'.heap[n]? = w.heap[n]?) (h2 : w'.heap[kb]? = w.heap[kb]?) : PutS n m kb k w' := by
  obtain ⟨a, b, c⟩ := h
  exact ⟨by rw [World.cell?_of_block (a := ⟨n, 0, none⟩) h1]; exact a, by rw [World.cell?_of_block (a := ⟨kb, 0, none⟩) h2]; exact b, by rw [World.cell?_of_block (a := ⟨kb, 1, none⟩) h2]; exact c⟩
def PutNext (base n m kb N : Nat) (L : List Bg) (l : List Pk) (k : Int × Int) (b : List UInt8) (A : Option Addr) (C : Nat) (W w6 : World) (A6 : Option Addr) (C6 : Nat) : Prop :=
    ∃ A8 C8 w8 w9, (Builtin.append_ #[42, 42] 42 #[.slice A N C, .slice (some ⟨w6.heap.size, 0, none⟩) 1 1]).run Try.prog (w6.alloc (.cells #[.slice A6 b.length C6] 27)) = .ok (.slice A8 (N + 1) C8) w8 ∧
      (Instr.mapUpdate 38 (.map (some m)) (.agg #[.int .i64 k.1, .int .i64 k.2]) (.slice A8 (N + 1) C8)).run Try.prog w8 = .ok () w9 ∧
      Hid (∃ L', Nk w9 base n m L' ∧ Fit L' (l ++ [(k, b)]) ∧ Chg (fun g => Sx n m L g) W w9 ∧ ∀ g, Sx n m L' g → Sx n m L g ∨ W.heap.size ≤ g) ∧
      PutS n m kb k w6 ∧ PutS n m kb k (w6.alloc (.cells #[.slice A6 b.length C6] 27)) ∧ PutS n m kb k w8 ∧ PutS n m kb k w9
theorem put_step {W w6 : World} {base n m kb N : Nat} {L : List Bg} (hb : base ≤ W.heap.size) (h : Nk W base n m L) {l : List Pk} (hf : Fit L l) (k : Int × Int) (hi : N < 32) (hN : N = (bagOf l k).length) {b : List UInt8} (hl : b.length ≤ 1048576)
    {A : Option Addr} {C : Nat} (hv : valAt k L = .slice A N C) (hS : PutS n m kb k W) (hkb : kb < W.heap.size ∧ ¬ Sx n m L kb) {A6 : Option Addr} {C6 : Nat} (hB : Below W.heap.size W w6) (ho : w6.ownsRow W.heap.size 5 1 (.slice A6 b.length C6) b.length (bv b)) :
    PutNext base n m kb N L l k b A C W w6 A6 C6 := by
  subst hN
  obtain ⟨A8, C8, w8, w9, h1, h2, h3, h4⟩ := put_math hb h hf k hi hl hv hB ho 42
  have hn := heap_lt h.cell
  have s6 : PutS n m kb k w6 := hS.of (hB.block n hn) (hB.block kb hkb.1)
  have a1 := h4.out n hn (.inl rfl)
  have a2 := h4.out kb hkb.1 (.inr hkb.2)
  have hs := hB.size
  exact ⟨A8, C8, w8, w9, h1, h2, h3, s6, s6.of (Below.heap_alloc _ _ _ (by omega)) (Below.heap_alloc _ _ _ (by omega)), hS.of a1.1 a2.1, hS.of a1.2 a2.2⟩
set_option maxRecDepth 100000 in
theorem put_ok {w : World} {base n m : Nat} {L : List Bg} (hb : base ≤ w.heap.size) (h0 : Nk w base n m L) {l : List Pk} (hf : Fit L l) (k : Int × Int) (hi : (bagOf l k).length < 32) {x : Value} {b : List UInt8} (hx : Bs w x b) (hl : b.length ≤ 1048576) :
    Calls Try.prog 32 #[.pointer (some ⟨n, 0, none⟩), keyV k, x] w fun e w' => e = .returned (.bool true) ∧ ∃ L', Nk w' base n m L' ∧ Fit L' (l ++ [(k, b)]) ∧ Chg (fun g => Sx n m L g) w w' ∧ ∀ g, Sx n m L' g → Sx n m L g ∨ w.heap.size ≤ g := by
  have h := h0.alloc (kB k)
  have hc0 := cell_at h.cell 0
  simp at hc0
  have hlk := fun q => (h.drewN q).map.lookup k
  obtain ⟨A, C, hv⟩ := valAt_form h hf k
  rw [hv] at hlk
  obtain ⟨N, hN⟩ : ∃ N, N = (bagOf l k).length := ⟨_, rfl⟩
  have HN : Hid (N = (bagOf l k).length) := hN
  rw [← hN] at hlk hi hv
  have HS : Hid (PutS n m w.heap.size k (w.alloc (kB k))) := ⟨hc0, by simp [kB], by simp [kB]⟩
  have HX : Hid (∀ q : Nat, ∃ W, W = ((w.alloc (kB k)).drewN q).drew ∧ Bs W x b ∧ PutS n m w.heap.size k W ∧ Below w.heap.size w W ∧ ∀ (w6 : World) (A6 : Option Addr) (C6 : Nat), Below W.heap.size W w6 → w6.ownsRow W.heap.size 5 1 (.slice A6 b.length C6) b.length (bv b) → PutNext base n m w.heap.size N L l k b A C W w6 A6 C6) :=
    fun q => ⟨_, rfl, ((hx.alloc _).keep (Chg.drewN Non _ q) (fun _ _ => id)).drew, HS.out.of (by cases q <;> rfl) (by cases q <;> rfl), (below_drewN (below1 w (kB k)) q).drew, fun w6 A6 C6 hB6 ho6 =>
      put_step (kb := w.heap.size) (by simp; omega) (h.drewN q).drew hf k hi hN hl hv (HS.out.of (by cases q <;> rfl) (by cases q <;> rfl)) ⟨by simp, fun e => by have := (h0.lt _ e).2; omega⟩ hB6 ho6⟩
  obtain ⟨X, c, rfl⟩ := bs_form hx
  clear hN hv h hx h0 hf
  simp only [keyV] at hlk ⊢
  go_enter Try.func32, Try.ntmps32
  go_wp2_with fail
  go_quiet (fail)
  obtain ⟨W, hW, hxW, hSW, hBW, hstep⟩ := HX.out nq
  have hcl := clone_any hxW (by omega)
  have HW : Hid (W = ((w.alloc (kB k)).drewN nq).drew) := hW
  have HB : Hid (Below w.heap.size w W) := hBW
  have HST : Hid _ := hstep
  have hS0 := hSW
  rw [hW] at hcl hS0
  clear hW hxW hBW hstep hSW
  go_wp2_with fail
  go_region_held3 (fun w' => w'.cell? ⟨n, 0, none⟩ = some (.map (some m)) ∧ w'.cell? ⟨w.heap.size, 0, none⟩ = some (.int .i64 k.1) ∧ w'.cell? ⟨w.heap.size, 1, none⟩ = some (.int .i64 k.2))
    (first | exact hS0 | exact hS6 | exact hS7 | exact hS8 | exact hS9 | go_keep)
    (first
      | (go_at_call 39; refine hcl.mono ?_; rintro e w6 ⟨A6, C6, rfl, ho6, hB6⟩; rw [← HW.out] at ho6 hB6; obtain ⟨A8, C8, w8, w9, hrun8, hrun9, HN9, hS6, hS7, hS8, hS9⟩ := HST.out w6 A6 C6 hB6 ho6)
      | (refine step_app2 rfl (.tmp 22) (.tmp 25) rfl _ _ _ _ (by simp [Act.eval]) (by simp [Act.eval]) hrun8 ?_))
  go_wp2_with fail
  go_ret
  obtain ⟨L', g1, g2, g3, g4⟩ := HN9.out
  refine ⟨rfl, L', g1, g2, ?_, fun g hg => ?_⟩
  · exact ((Chg.of_below HB.out).weak (fun _ _ e => e.elim)).trans g3
  · rcases g4 g hg with e | e
    · exact .inl e
    · exact .inr (Nat.le_trans HB.out.size e)
/- A net behind a put. -/
theorem Nx.of_next {w w' : World} {base n m : Nat} {L L' : List Bg} {l' : List Pk} {T : Nat → Prop} (hb : base ≤ w.heap.size) (h4 : ∀ g, T g → ¬ Sx n m L g) (h5 : ∀ g, T g → g < w.heap.size)
    (g1 : Nk w' base n m L') (g2 : Fit L' l') (g3 : Chg (fun g => Sx n m L g) w w') (g4 : ∀ g, Sx n m L' g → Sx n m L g ∨ w.heap.size ≤ g) : Nx w' n l' T ∧ Kp T w w' := by
  refine ⟨⟨base, m, L', Nat.le_trans hb g3.size, g1, g2, fun g hg e => ?_, fun g hg => g3.lt_of (h5 g hg)⟩, g3.weak fun g _ e f => h4 g f e⟩
  rcases g4 g e with e | e
  · exact h4 g hg e
  · have := h5 g hg; omega
def sendOk (l : List Pk) (k : Int × Int) (b : List UInt8) : Bool := decide ((bagOf l k).length < 32) && decide (b.length ≤ 1048576)
theorem put_any {w : World} {n : Nat} {l : List Pk} {T : Nat → Prop} (h : Nx w n l T) (k : Int × Int) {x : Value} {b : List UInt8} (hx : Bs w x b) (hl : b.length ≤ 1048576) :
    Calls Try.prog 32 #[.pointer (some ⟨n, 0, none⟩), keyV k, x] w fun e w' => e = .returned (.bool (sendOk l k b)) ∧ Nx w' n (if sendOk l k b then l ++ [(k, b)] else l) T ∧ Kp T w w' := by
  have h0 := h
  obtain ⟨base, m, L, h1, h2, h3, h4, h5⟩ := h
  by_cases hi : (bagOf l k).length < 32
  · have hs : sendOk l k b = true := by simp [sendOk, hi, hl]
    rw [hs]
    refine (put_ok h1 h2 h3 k hi hx hl).mono ?_
    rintro e w' ⟨rfl, L', g1, g2, g3, g4⟩
    exact ⟨rfl, Nx.of_next h1 h4 h5 g1 (by simpa using g2) g3 g4⟩
  · have hs : sendOk l k b = false := by simp [sendOk, hi]
    rw [hs]
    refine (put_full h2 h3 k (by omega) x).mono ?_
    rintro e w' ⟨rfl, hB⟩
    exact ⟨rfl, by simpa using h0.below hB, Kp.of_below hB⟩
end Go.Proofs.Ytjclegiohhbkpaa
