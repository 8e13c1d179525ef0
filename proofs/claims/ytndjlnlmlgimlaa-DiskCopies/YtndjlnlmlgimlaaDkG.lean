/- The walk of Crash. -/
import Derived.Test.YtndjlnlmlgimlaaDkF
import Derived.Deep.RegionHeld3
namespace Go.Proofs.Ytndjlnlmlgimlaa
open Go.RowKit Go.MapKept

/- What a crash leaves of a file. -/
def keepN (keep : Int) (f : Fi) : Nat := f.sy + min (max keep 0).toNat (f.b.length - f.sy)
def crash1 (keep : Int) (f : Fi) : Fi := ⟨f.nm, f.b.take (keepN keep f), keepN keep f⟩
theorem keepN_le (keep : Int) (f : Fi) (h : f.sy ≤ f.b.length) : keepN keep f ≤ f.b.length := by unfold keepN; omega
/- The files while a crash goes on: those whose names are still to come are as they were. -/
def crashF (keep : Int) (left : List (List UInt8)) (F : List Fi) : List Fi := F.map fun f => if f.nm ∈ left then f else crash1 keep f
theorem crashF_all (keep : Int) (F : List Fi) : crashF keep (F.map (·.nm)) F = F := by
  unfold crashF
  have : ∀ f ∈ F, (if f.nm ∈ F.map (·.nm) then f else crash1 keep f) = f := fun f hf => if_pos (List.mem_map.2 ⟨f, hf, rfl⟩)
  exact (List.map_congr_left this).trans (List.map_id _)
theorem crashF_none (keep : Int) (F : List Fi) : crashF keep [] F = F.map (crash1 keep) := by
  unfold crashF; simp
theorem crashF_put (keep : Int) (f : Fi) {l1 l2 : List (List UInt8)} (hn : f.nm ∉ l1 ++ l2) : ∀ (F : List Fi), (F.map (·.nm)).Nodup → f ∈ F → putF (crash1 keep f) (crashF keep (l1 ++ f.nm :: l2) F) = crashF keep (l1 ++ l2) F
  | [], _, h => by cases h
  | q :: F, hd, h => by
    simp only [List.map_cons, List.nodup_cons] at hd
    have hmem : ∀ k : List UInt8, k ≠ f.nm → (k ∈ l1 ++ f.nm :: l2 ↔ k ∈ l1 ++ l2) := by
      intro k hk; simp [hk]
    by_cases hq : q.nm = f.nm
    · have hqf : q = f := by
        rcases List.mem_cons.1 h with h | h
        · exact h.symm
        · exact absurd (List.mem_map.2 ⟨f, h, hq.symm⟩) hd.1
      subst hqf
      have h1 : crashF keep (l1 ++ q.nm :: l2) (q :: F) = q :: crashF keep (l1 ++ q.nm :: l2) F := by simp [crashF]
      have h2 : crashF keep (l1 ++ l2) (q :: F) = crash1 keep q :: crashF keep (l1 ++ l2) F := by simp only [crashF, List.map_cons, if_neg hn]
      rw [h1, h2]
      unfold putF
      rw [if_pos (show q.nm = (crash1 keep q).nm from rfl)]
      congr 1
      unfold crashF
      apply List.map_congr_left
      intro g hg
      have hne : g.nm ≠ q.nm := fun e => hd.1 (List.mem_map.2 ⟨g, hg, e⟩)
      simp only [hmem g.nm hne]
    · have hf : f ∈ F := by
        rcases List.mem_cons.1 h with h | h
        · exact absurd (by rw [h]) hq
        · exact h
      have ih := crashF_put keep f hn F hd.2 hf
      have hx : (if q.nm ∈ l1 ++ f.nm :: l2 then q else crash1 keep q).nm = q.nm := by split <;> rfl
      have h1 : crashF keep (l1 ++ f.nm :: l2) (q :: F) = (if q.nm ∈ l1 ++ f.nm :: l2 then q else crash1 keep q) :: crashF keep (l1 ++ f.nm :: l2) F := rfl
      rw [h1]
      unfold putF
      rw [if_neg (by rw [hx]; exact hq), ih]
      have h2 : crashF keep (l1 ++ l2) (q :: F) = (if q.nm ∈ l1 ++ l2 then q else crash1 keep q) :: crashF keep (l1 ++ l2) F := rfl
      rw [h2]
      simp only [hmem q.nm hq]
theorem lookF_mem : ∀ {F : List Fi} {k : List UInt8} {f : Fi}, lookF k F = some f → f ∈ F ∧ f.nm = k
  | q :: F, k, f, h => by
    unfold lookF at h
    split at h
    · cases h; exact ⟨.head _, by assumption⟩
    · exact ⟨.tail _ (lookF_mem h).1, (lookF_mem h).2⟩
/- A file of those while a crash goes on, whose name is still to come, is as it was. -/
theorem crashF_look (keep : Int) (left : List (List UInt8)) {F : List Fi} {k : List UInt8} (hk : k ∈ left) {f : Fi} (h : lookF k (crashF keep left F) = some f) : f ∈ F := by
  obtain ⟨hm, hn⟩ := lookF_mem h
  obtain ⟨g, hg, he⟩ := List.mem_map.1 hm
  have hgn : g.nm = k := by
    have : (if g.nm ∈ left then g else crash1 keep g).nm = g.nm := by split <;> rfl
    rw [← this, he, hn]
  rw [if_pos (by rw [hgn]; exact hk)] at he
  rw [← he]; exact hg
theorem crashF_used (keep : Int) (left : List (List UInt8)) : ∀ (F : List Fi), used (crashF keep left F) ≤ used F
  | [] => Nat.le_refl _
  | q :: F => by
    have ih := crashF_used keep left F
    have : (if q.nm ∈ left then q else crash1 keep q).b.length ≤ q.b.length := by
      split
      · exact Nat.le_refl _
      · simp [crash1]; omega
    show (if q.nm ∈ left then q else crash1 keep q).b.length + used (crashF keep left F) ≤ q.b.length + used F
    omega
theorem crashF_names (keep : Int) (left : List (List UInt8)) (F : List Fi) : (crashF keep left F).map (·.nm) = F.map (·.nm) := by
  unfold crashF
  rw [List.map_map]
  apply List.map_congr_left
  intro f _
  simp only [Function.comp_apply]
  split <;> rfl

/- The world behind a round: the file is put anew. -/
theorem crash_round {w1 w4 w5 : World} {base d m r : Nat} {room keep : Int} {L Lc : List Fv} {S : Nat → Prop} {l1 l2 : List (List UInt8)} {f : Fi} {A A5 : Option Addr} {C C5 : Nat} (hL : (L.map fun p => p.1.nm).Nodup) (hLc : Lc.map Prod.fst = crashF keep (l1 ++ f.nm :: l2) (L.map Prod.fst)) (hnd : (l1 ++ f.nm :: l2).Nodup) (hrg : Ranges w4 m r Lc (l1 ++ l2)) (hD : Dk w4 base d m room Lc)
    (hxc : ∀ k, Sx d m Lc k → S k ∨ w1.heap.size ≤ k) (hm : S m) (hcc : Chg S w1 w4) (hlk : look f.nm Lc = some (f, .slice A f.b.length C)) (hb4 : base ≤ w4.heap.size)
    (hB : Below w4.heap.size w4 w5) (ho5 : w5.ownsRow w4.heap.size 5 1 (.slice A5 (keepN keep f) C5) (keepN keep f) (bv (f.b.take (keepN keep f)))) :
    w5.cell? ⟨d, 0, none⟩ = some (.map (some m)) ∧ ∃ w6, (Instr.mapUpdate 43 (.map (some m)) (.string (mkS f.nm)) (.agg #[.slice A5 (keepN keep f) C5, .int .i64 (keepN keep f : Int)])).run Try.prog w5 = .ok () w6 ∧ Hid (Chg (fun k => k = m) w5 w6) ∧
      Hid (∃ Ln, Ln.map Prod.fst = crashF keep (l1 ++ l2) (L.map Prod.fst) ∧ (l1 ++ l2).Nodup ∧ Ranges w6 m r Ln (l1 ++ l2) ∧ Dk w6 base d m room Ln ∧ (∀ k, Sx d m Ln k → S k ∨ w1.heap.size ≤ k) ∧ Chg S w1 w6) := by
  have hD5 := hD.below hB
  have hc := cell_at hD5.cell 0
  simp at hc
  obtain ⟨hfm, _⟩ := look_some hlk
  have hfit := hD.fits _ hfm
  have hkl := keepN_le keep f hfit.1
  have hrg5 := hrg.keep (Chg.of_below hB) id id
  obtain ⟨w6, hrun, hrg6, hc6, hs6⟩ := hrg5.update (crash1 keep f, .slice A5 (keepN keep f) C5) (q := (f, .slice A f.b.length C)) hlk
  have hsub : (l1 ++ l2).Nodup ∧ f.nm ∉ l1 ++ l2 := by
    have := hnd
    simp only [List.nodup_append, List.nodup_cons, List.mem_cons, List.mem_append] at this ⊢
    refine ⟨⟨this.1, this.2.1.2, fun a ha b hb => this.2.2 a ha b (.inr hb)⟩, ?_⟩
    rintro (h | h)
    · exact this.2.2 f.nm h f.nm (.inl rfl) rfl
    · exact this.2.1.1 h
  have hfL : f ∈ L.map Prod.fst := by
    have h1 : lookF f.nm (Lc.map Prod.fst) = some f := by rw [← look_F, hlk]; rfl
    rw [hLc] at h1
    exact crashF_look keep _ (by simp) h1
  have e1 : (f.b.take (keepN keep f)).length = keepN keep f := by simp; omega
  refine ⟨hc, w6, hrun, hc6, putL (crash1 keep f, .slice A5 (keepN keep f) C5) Lc, ?_, hsub.1, hrg6, ?_, ?_, ?_⟩
  · rw [put_F, hLc]
    rw [names_eq] at hL
    exact crashF_put keep f hsub.2 _ hL hfL
  · refine hD.put (crash1 keep f, .slice A5 (keepN keep f) C5) (Chg.of_below hB) (fun _ _ e => e.elim) ?_ ?_ hrg6.map hc6 ⟨?_, ?_⟩ ?_
    · show w5.ownsRow base 5 1 _ (f.b.take (keepN keep f)).length _
      rw [e1]
      exact owns_low ho5 hb4
    · intro i hi
      obtain ⟨_, _, hle⟩ := owns_block ho5 hi
      exact .inr hle
    · show keepN keep f ≤ (f.b.take (keepN keep f)).length
      omega
    · show (f.b.take (keepN keep f)).length ≤ 4194304
      have := hfit.2
      simp only at this
      omega
    · have h1 := used_put (crash1 keep f) (Lc.map Prod.fst)
      have h2 := get_look hlk
      have h3 : (crash1 keep f).nm = f.nm := rfl
      rw [h3, h2] at h1
      have h4 := hD.usd
      have h5 : (crash1 keep f).b.length ≤ f.b.length := by show (f.b.take (keepN keep f)).length ≤ _; omega
      simp only at h1
      show ((used (putF (crash1 keep f) (Lc.map Prod.fst)) : Nat) : Int) ≤ room
      omega
  · rintro i (e | e | ⟨q, hq, hi⟩)
    · exact hxc i (.inl e)
    · exact hxc i (.inr (.inl e))
    · rcases put_mem hq with rfl | hq
      · obtain ⟨_, _, hle⟩ := owns_block ho5 hi
        exact .inr (Nat.le_trans hcc.size hle)
      · exact hxc i (.inr (.inr ⟨q, hq, hi⟩))
  · exact (hcc.trans ((Chg.of_below hB).weak (fun _ _ e => e.elim))).trans' hc6 (fun i _ e => by subst e; exact hm)
set_option maxRecDepth 100000 in
theorem crash_any {w : World} {base d : Nat} {room : Int} {F : List Fi} {S : Nat → Prop} (hb : base ≤ w.heap.size) (hdk : Dsk w base d room F S) (keep : Int) (hkp : -9223372036854775808 ≤ keep ∧ keep < 9223372036854775808) :
    Calls Try.prog 16 #[.pointer (some ⟨d, 0, none⟩), .int .i64 keep] w fun e w' => e = .returned (.tuple #[]) ∧ Nxt base d room S w w' (F.map (crash1 keep)) := by
  obtain ⟨m, L, rfl, h, hx, hS⟩ := hdk
  have hc0 := cell_at h.cell 0
  simp at hc0
  have hm := h.map
  go_enter Try.func16, Try.ntmps16
  go_wp2_with fail
  refine (there_any hc0).mono ?_
  rintro e w1 ⟨rfl, rfl⟩
  go_wp2_with (first
    | (at_range; refine wpList_rng rfl _ rfl rfl hm ?_; intro w2 hr2 hc2 hs2)
    | fail)
  go_frame
  have HR : Hid (Ranges w2 m w1.heap.size L (L.map fun p => p.1.nm)) := hr2
  have HB2 : Hid (Below w1.heap.size w1 w2) := hc2.below (fun _ e => e.elim) (Nat.le_refl _)
  have HD : Hid (Dk w1 base d m room L) := h
  have HS : Hid (∀ k, Sx d m L k → S k) := hx
  have HS2 : Hid (∀ k, S k → base ≤ k ∧ k < w1.heap.size) := hS
  clear hr2 hc2 hs2 hm h hx hS hc0
  go_loopw [15] (fun _ wr => ∃ (left : List (List UInt8)) (Lc : List Fv), Lc.map Prod.fst = crashF keep left (L.map Prod.fst) ∧ left.Nodup ∧ Ranges wr m w1.heap.size Lc left ∧ Dk wr base d m room Lc ∧ (∀ k, Sx d m Lc k → S k ∨ w1.heap.size ≤ k) ∧ Chg S w1 wr) (fun _ wr => wr.rangeLeft m w1.heap.size)
  case atStart =>
    refine ⟨_, L, by rw [names_eq, crashF_all], HD.out.map.names, HR.out, HD.out.below HB2.out, fun k hk => .inl (HS.out k hk), (Chg.of_below HB2.out).weak (fun _ _ e => e.elim)⟩
  case round =>
    obtain ⟨left, Lc, hLc, hnd, hrg, hDc, hxc, hcc⟩ := hrel
    go_wp2_with (first
      | (at_next; refine wpList_nxt rfl _ rfl rfl hrg hDc.form ?_ ?_)
      | fail)
    · intro hl0
      subst hl0
      go_wp2_with fail
      go_end0
      exact ⟨rfl, Nxt.of hb HS2.out hcc (by rw [hLc, crashF_none]) hDc hxc⟩
    · intro l1 l2 f A C w3 hl hlk hrg3 hc3 hs3 hen
      have hnr : ¬ Sx d m Lc w1.heap.size := by
        obtain ⟨es, cl, si, se, c0, _, _, _, h4, _⟩ := hrg
        exact hDc.other h4 (fun _ _ e => by cases e) (fun _ _ e => by cases e) (fun _ _ e => by cases e)
      have hD3 := hDc.keep hc3 (fun k hk e => hnr (e ▸ hk))
      obtain ⟨w4, hw4⟩ : ∃ X, X = (w3.alloc (.cells #[.slice A f.b.length C, .int .i64 (f.sy : Int)] 58)).drew := ⟨_, rfl⟩
      have hD4 : Dk w4 base d m room Lc := by rw [hw4]; exact (hD3.alloc _).keep (Chg.drew Non _) (fun _ _ => id)
      have hrg4 : Ranges w4 m w1.heap.size Lc (l1 ++ l2) := by rw [hw4]; exact (hrg3.alloc _).keep (Chg.drew Non _) id id
      have hcc4 : Chg S w1 w4 := by
        rw [hw4]
        exact ((hcc.trans' hc3 (fun i hi e => by omega)).trans (Chg.alloc _ _ _)).trans (Chg.drew _ _)
      have hfm := look_some hlk
      have hfit := hD4.fits _ hfm.1
      have hfo := hD4.rows _ hfm.1
      have hkl := keepN_le keep f hfit.1
      have HCL : Hid (∀ {w5 : World} {A5 : Option Addr} {C5 : Nat}, Below w4.heap.size w4 w5 → w5.ownsRow w4.heap.size 5 1 (.slice A5 (keepN keep f) C5) (keepN keep f) (bv (f.b.take (keepN keep f))) → _) :=
        fun hB5 ho5 => crash_round HD.out.map.names (by rw [hLc, hl]) (by rw [← hl]; exact hnd) hrg4 hD4 hxc (HS.out m (.inr (.inl rfl))) hcc4 hlk (Nat.le_trans hb hcc4.size) hB5 ho5
      have hcall := beginning_any hfo (f.sy : Int) (keepN keep f) hkl hfit.2
      have HW : Hid (w4 = (w3.alloc (.cells #[.slice A f.b.length C, .int .i64 (f.sy : Int)] 58)).drew) := hw4
      have HM5 : Hid (∀ {w5 : World}, Below w4.heap.size w4 w5 → d < w5.heap.size ∧ d ≠ m ∧ w3.heap.size < w5.heap.size ∧ w3.heap.size ≠ m) := by
        intro w5 hB5
        have h1 := hB5.size
        have h2 := heap_lt hD4.cell
        have h3 := hD3.map.lt
        have h4 : w4.heap.size = w3.heap.size + 1 := by rw [hw4]; simp
        exact ⟨by omega, hD4.ne, by omega, by omega⟩
      have hcd := cell_at (hD3.alloc (.cells #[.slice A f.b.length C, .int .i64 (f.sy : Int)] 58)).cell 0
      simp at hcd
      have HLL : Hid (left.length = (l1 ++ l2).length + 1) := by rw [hl]; simp; unfold Hid; omega
      have HRG : Hid (Ranges wr m w1.heap.size Lc left) := hrg
      obtain ⟨K, hK⟩ : ∃ K : Int, K = (if keep < 0 then 0 else keep) := ⟨_, rfl⟩
      obtain ⟨J, hJ⟩ : ∃ J : Int, J = (if (f.b.length : Int) - (f.sy : Int) < K then (f.b.length : Int) - (f.sy : Int) else K) := ⟨_, rfl⟩
      have hle1 := hfit.1
      have hle2 := hfit.2
      simp only at hle1 hle2
      have hJn : (f.sy : Int) + J = (keepN keep f : Nat) := by
        unfold keepN
        rw [hJ, hK]
        split <;> split <;> omega
      have hw1 : IntKind.i64.wrap ((f.b.length : Int) - (f.sy : Int)) = (f.b.length : Int) - (f.sy : Int) := Go.IntWalk.i64_in _ (by omega)
      have hw2 : IntKind.i64.wrap ((f.sy : Int) + J) = (keepN keep f : Nat) := by rw [hJn]; exact Go.IntWalk.i64_in _ (by omega)
      have hK2 := hK.symm
      have hJ2 := hJ.symm
      rw [hw4] at hcall
      clear hw4 hK hJ hJn hD4 hrg4 hcc4 hD3 hrg3 hc3 hs3 hlk hl hLc hnd hrg hDc hxc hcc hfm hfo hfit hnr hkl
      generalize keepN keep f = N at *
      have hq0 : (w3.alloc (.cells #[.slice A f.b.length C, .int .i64 (f.sy : Int)] 58)).cell? ⟨w3.heap.size, 0, none⟩ = some (.slice A f.b.length C) := by simp
      have hq1 : (w3.alloc (.cells #[.slice A f.b.length C, .int .i64 (f.sy : Int)] 58)).cell? ⟨w3.heap.size, 1, none⟩ = some (.int .i64 (f.sy : Int)) := by simp
      go_wp2_with fail
      go_region_held3 (fun w' => w'.cell? ⟨d, 0, none⟩ = some (.map (some m)) ∧ w'.cell? ⟨w3.heap.size, 0, none⟩ = some (.slice A f.b.length C) ∧ w'.cell? ⟨w3.heap.size, 1, none⟩ = some (.int .i64 (f.sy : Int)))
        (first | exact ⟨hcd, hq0, hq1⟩ | exact ⟨hc5, hk50, hk51⟩ | exact ⟨hk60, hk61, hk62⟩ | go_keep)
        ((go_at_call 37; refine hcall.mono ?_; rintro e w5 ⟨A5, C5, rfl, ho5, hB5⟩; have hk50 := (hB5.cell (p := ⟨w3.heap.size, 0, none⟩) (by simp)).trans hq0; have hk51 := (hB5.cell (p := ⟨w3.heap.size, 1, none⟩) (by simp)).trans hq1; rw [← HW.out] at ho5 hB5; obtain ⟨hc5, w6, hrun6, HC6, HN6⟩ := HCL.out hB5 ho5; have hk60 := (HC6.out.cell (a := ⟨d, 0, none⟩) (HM5.out hB5).1 (HM5.out hB5).2.1).trans hc5; have hk61 := (HC6.out.cell (a := ⟨w3.heap.size, 0, none⟩) (HM5.out hB5).2.2.1 (HM5.out hB5).2.2.2).trans hk50; have hk62 := (HC6.out.cell (a := ⟨w3.heap.size, 1, none⟩) (HM5.out hB5).2.2.1 (HM5.out hB5).2.2.2).trans hk51))
      go_wp2_with fail
      go_roundw
      case rel => 
        obtain ⟨Ln, g1, g2, g3, g4, g5, g6⟩ := HN6.out
        exact ⟨_, Ln, g1, g2, g3, g4, g5, g6⟩
      case measure =>
        obtain ⟨Ln, g1, g2, g3, g4, g5, g6⟩ := HN6.out
        rw [HRG.out.left_eq, g3.left_eq, HLL.out]; omega
end Go.Proofs.Ytndjlnlmlgimlaa
