/- The walk of NetLives. -/
import Derived.Test.YtpkbedbnbkcgiaaNtL
namespace Go.Proofs.Ytpkbedbnbkcgiaa
open Go.RowKit Go.MapKept

theorem Dos.take {w : World} {A : Option Addr} {n C : Nat} {l : List Do1} (h : Dos w (.slice A n C) l) (m : Nat) (hm : m ≤ l.length) : Dos w (.slice A m C) (l.take m) ∧ n = l.length ∧ m ≤ C := by
  obtain ⟨A', C', e, h1, h2, h3⟩ := h
  injection e with e1 e2 e3
  subst e1 e3
  refine ⟨⟨A, C, by rw [List.length_take, Nat.min_eq_left hm], by rw [List.length_take]; omega, fun x hx => h2 x (List.mem_of_mem_take hx), fun j hj => ?_⟩, e2, by omega⟩
  have hj' : j < l.length := by rw [List.length_take] at hj; omega
  have := h3 j hj'
  simpa using this
theorem Two.start {w wa wb : World} {n r : Nat} (h1 : Nx wa n [] (fun k => k < w.heap.size)) (b1 : Below w.heap.size w wa) (h2 : Rx wb r [] (Gw Non wa wb)) (b2 : Below wa.heap.size wa wb) : Two (fun g => g < w.heap.size) w wb n r [] := by
  refine ⟨_, _, h1.more b2, h2, fun g hg => ?_, fun g hg => ⟨.inl hg, fun e => ?_⟩, Kp.of_below (b1.trans (b2.mono b1.size)), fun g hg => hg⟩
  · rcases hg with hg | hg
    · exact hg.elim
    · exact .inr hg
  · have := b1.size
    rcases e with e | e
    · exact e
    · omega
theorem Two.low {w0 w : World} {n r : Nat} {l : List Pk} (h : Two (fun g => g < w0.heap.size) w0 w n r l) : Below w0.heap.size w0 w := Kp.below h.bel (fun _ h => h) (Nat.le_refl _)
theorem two_count {D : Nat → Prop} {w0 w : World} {n r : Nat} {l : List Pk} (h : Two D w0 w n r l) (a b : Int) :
    Calls Try.prog 9 #[.pointer (some ⟨n, 0, none⟩), .int .i64 a, .int .i64 b] w fun e w' => ∃ c : Int, e = .returned (.int .i64 c) ∧ Hid (c = (bagOf l (a, b)).length) ∧ Two D w0 w' n r l := by
  have h' := h
  obtain ⟨T, B, h1, _⟩ := h'
  refine (count_any h1 (a, b)).mono ?_
  rintro e w' ⟨rfl, hb⟩
  exact ⟨_, rfl, rfl, h.below hb⟩
theorem two_rcount {D : Nat → Prop} {w0 w : World} {n r : Nat} {l : List Pk} (h : Two D w0 w n r l) (hl : l.length ≤ 1000000) (a b : Int) {c : Int} (hc : Hid (c = (bagOf l (a, b)).length)) :
    Calls Try.prog 10 #[.pointer (some ⟨r, 0, none⟩), .int .i64 a, .int .i64 b] w fun e w' => e = .returned (.int .i64 c) ∧ Two D w0 w' n r l := by
  have h' := h
  obtain ⟨T, B, _, h1, _⟩ := h'
  refine (rcount_rx h1 hl (a, b)).mono ?_
  rintro e w' ⟨rfl, rfl⟩
  exact ⟨by rw [hc.out], h⟩
theorem two_links {D : Nat → Prop} {w0 w : World} {n r : Nat} {l : List Pk} (h : Two D w0 w n r l) (hl : l.length ≤ 1000000) :
    Calls Try.prog 12 #[.pointer (some ⟨n, 0, none⟩)] w fun e w' => ∃ A C, e = .returned (.slice A (linksOf l).length C) ∧ Ls w' (.slice A (linksOf l).length C) (linksOf l) ∧ Two D w0 w' n r l := by
  have h' := h
  obtain ⟨T, B, h1, _⟩ := h'
  refine (links_any h1 hl).mono ?_
  rintro e w' ⟨A, C, rfl, ho, hb⟩
  exact ⟨A, C, rfl, Ls.of_owns ho, h.below hb⟩
theorem two_rlinks {D : Nat → Prop} {w0 w : World} {n r : Nat} {l : List Pk} (h : Two D w0 w n r l) (hl : l.length ≤ 1000000) {v : Value} {la : List (Int × Int)} (hv : Ls w v la) :
    Calls Try.prog 13 #[.pointer (some ⟨r, 0, none⟩)] w fun e w' => ∃ A C, e = .returned (.slice A (linksOf l).length C) ∧ Ls w' v la ∧ Ls w' (.slice A (linksOf l).length C) (linksOf l) ∧ Two D w0 w' n r l := by
  have h' := h
  obtain ⟨T, B, _, h1, _⟩ := h'
  refine (rlinks_rx h1 hl).mono ?_
  rintro e w' ⟨A, C, rfl, ho, hb⟩
  exact ⟨A, C, rfl, hv.below hb, ho, h.below hb⟩
theorem two_eq {D : Nat → Prop} {w0 w : World} {n r : Nat} {l : List Pk} (h : Two D w0 w n r l) {u v : Value} {la : List (Int × Int)} (hm : la.length ≤ 1000000) (hu : Ls w u la) (hv : Ls w v la) :
    Calls Try.prog 11 #[u, v] w fun e w' => e = .returned (.bool true) ∧ Two D w0 w' n r l := by
  refine (links_eq hu hv hm).mono ?_
  rintro e w' ⟨rfl, q, rfl⟩
  exact ⟨by simp, h.below (below_drewN (Below.refl _ _) _)⟩
set_option maxRecDepth 100000 in
set_option maxHeartbeats 4000000 in
theorem lives_short {w : World} {A : Option Addr} {C : Nat} {l : List Do1} (h : Dos w (.slice A l.length C) l) (hl : l.length ≤ 200) {N C0 : Nat} (hN : (N = l.length ∧ 200 ≥ N) ∨ (200 < N ∧ l.length = 200 ∧ 200 ≤ C ∧ C0 = C)) (hC : C0 = C) :
    Calls Try.prog 3 #[.slice A N C0] w fun e w' => e = .returned (.bool true) ∧ Below w.heap.size w w' := by
  subst hC
  have HD : Hid (Dos w (.slice A l.length C0) l) := h
  clear h
  obtain ⟨K, hK⟩ : ∃ K, K = l.length := ⟨_, rfl⟩
  have HK : Hid (K = l.length) := hK
  rw [← hK] at hl hN
  clear hK
  have hnew := new_any w
  go_enter Try.func3, Try.ntmps3
  rcases hN with ⟨rfl, h2⟩ | ⟨h1, rfl, h3, _⟩
  · go_wp2_with fail
    refine hnew.mono ?_
    rintro e wa ⟨n, rfl, hn1, hb1⟩
    have hrn := rnew_rx wa
    clear hnew
    go_wp2_with fail
    refine hrn.mono ?_
    rintro e wb ⟨r, rfl, hr1, hb2⟩
    have HTW : Hid (Two (fun g => g < w.heap.size) w wb n r []) := Two.start hn1 hb1 hr1 hb2
    clear hrn hn1 hb1 hr1 hb2
    go_wp2_with fail
    go_loopw [5] (fun i wr => ∃ (j : Nat) (p : List Pk), j ≤ N ∧ i = .int .i64 j ∧ p.length ≤ j ∧ Two (fun g => g < w.heap.size) w wr n r p) (fun i _ => N - (intOf i).toNat)
    case atStart => exact ⟨0, [], Nat.zero_le _, rfl, by simp, HTW.out⟩
    case round =>
      obtain ⟨j, p, hj, rfl, hp, hT⟩ := hrel
      have HT : Hid (Two (fun g => g < w.heap.size) w wr n r p) := hT
      by_cases hlt : j < N
      · have hj' : j < l.length := by have := HK.out; omega
        obtain ⟨x, hx⟩ : ∃ x : Do1, x = l[j]'hj' := ⟨_, rfl⟩
        obtain ⟨g, o, A', C', hA, a0, a1, a2, a3, a4, a5⟩ := HD.out.at j hj'
        rw [← hx] at a0 a1 a2 a3 a4 a5
        have hxr : i64 x.op ∧ i64 x.fr ∧ i64 x.tt ∧ i64 x.pl := by rw [hx]; obtain ⟨_, _, _, _, h2, _⟩ := HD.out; exact h2 _ (List.getElem_mem hj')
        have hB := hT.low
        have hlc : ∀ {i : Nat} {u : Value}, w.cell? ⟨g, i, none⟩ = some u → wr.cell? ⟨g, i, none⟩ = some u := by
          intro i u hu
          rw [World.cell?_of_block (hB.block g (World.block_lt_of_cell? w _ hu))]; exact hu
        have c0 := hlc a0
        have c1 := hlc a1
        have c2 := hlc a2
        have c3 := hlc a3
        have c4 := hlc a4
        have HBX : Hid (∀ w', Below w.heap.size w w' → Bs w' (.slice A' x.b.length C') x.b) := fun w' hw' => a5.keep (Chg.of_below hw') (fun _ _ => id)
        have HBL : Hid (∀ k, bk (.slice A' x.b.length C') = some k → k < w.heap.size) := fun k hk => a5.lt hk
        have HXR : Hid (i64 x.op ∧ i64 x.fr ∧ i64 x.tt ∧ i64 x.pl) := hxr
        clear hx a0 a1 a2 a3 a4 a5 hlc hxr hT hB
        subst hA
        go_wp2_with fail
        obtain ⟨W, hW⟩ : ∃ W, W = (wr.alloc (.cells #[.int .i64 x.op, .int .i64 x.fr, .int .i64 x.tt, .int .i64 x.pl, .slice A' x.b.length C'] 29)).drew := ⟨_, rfl⟩
        have HW : Hid (W = (wr.alloc (.cells #[.int .i64 x.op, .int .i64 x.fr, .int .i64 x.tt, .int .i64 x.pl, .slice A' x.b.length C'] 29)).drew) := hW
        have hBW : Below wr.heap.size wr W := by rw [hW]; exact (below1 wr (stepB x A' C')).drew
        have hbx : Box W wr.heap.size (stepC x A' C') := by rw [hW]; exact ⟨_, heap_alloc_new wr _⟩
        have hbk : wr.heap.size < W.heap.size := by obtain ⟨U, h⟩ := hbx; exact heap_lt h
        have hlow : Below w.heap.size w W := HT.out.low.trans (hBW.mono HT.out.low.size)
        have hTW : Two (fun g => g < w.heap.size ∨ (wr.heap.size ≤ g ∧ g < W.heap.size)) W W n r p := HT.out.more hBW
        have HBK : Hid (∀ {wz : World} {q : List Pk}, Two (fun g => g < w.heap.size ∨ (wr.heap.size ≤ g ∧ g < W.heap.size)) W wz n r q → Two (fun g => g < w.heap.size) w wz n r q) := fun h => h.back (fun g hg => .inl hg) (Kp.of_below hlow) (fun g hg => hg)
        have hst := step_any hTW (by omega) x HXR.out (HBX.out W hlow) (fun k hk => .inl (HBL.out k hk))
        simp only [stepO] at hst
        have HS : Hid (∀ wa, Kp (fun g => g < w.heap.size ∨ (wr.heap.size ≤ g ∧ g < W.heap.size)) W wa → wa.cell? ⟨wr.heap.size, 0, none⟩ = some (.int .i64 x.op) ∧ wa.cell? ⟨wr.heap.size, 1, none⟩ = some (.int .i64 x.fr) ∧ wa.cell? ⟨wr.heap.size, 2, none⟩ = some (.int .i64 x.tt) ∧ wa.cell? ⟨wr.heap.size, 3, none⟩ = some (.int .i64 x.pl) ∧ wa.cell? ⟨wr.heap.size, 4, none⟩ = some (.slice A' x.b.length C')) := by
          intro wa hk
          have := hbx.kp hk (.inr ⟨Nat.le_refl _, hbk⟩)
          exact ⟨this.at 0, this.at 1, this.at 2, this.at 3, this.at 4⟩
        have hS0 := HS.out W (Chg.refl _ _)
        have hpl : p.length ≤ 200 := by omega
        have HC1 : Hid (∀ (wa : World) (q : List Pk), q.length ≤ p.length + 1 → Two (fun g => g < w.heap.size ∨ (wr.heap.size ≤ g ∧ g < W.heap.size)) W wa n r q → (wa.cell? ⟨wr.heap.size, 0, none⟩ = some (.int .i64 x.op) ∧ wa.cell? ⟨wr.heap.size, 1, none⟩ = some (.int .i64 x.fr) ∧ wa.cell? ⟨wr.heap.size, 2, none⟩ = some (.int .i64 x.tt) ∧ wa.cell? ⟨wr.heap.size, 3, none⟩ = some (.int .i64 x.pl) ∧ wa.cell? ⟨wr.heap.size, 4, none⟩ = some (.slice A' x.b.length C')) ∧ Calls Try.prog 9 #[.pointer (some ⟨n, 0, none⟩), .int .i64 x.fr, .int .i64 x.tt] wa fun e w' => ∃ c : Int, e = .returned (.int .i64 c) ∧ Hid (c = (bagOf q (x.fr, x.tt)).length) ∧ Two (fun g => g < w.heap.size ∨ (wr.heap.size ≤ g ∧ g < W.heap.size)) W w' n r q) := fun wa q hq h => ⟨HS.out wa h.bel, two_count h _ _⟩
        have HC2 : Hid (∀ (wa : World) (q : List Pk) (c : Int), Hid (c = (bagOf q (x.fr, x.tt)).length) → q.length ≤ p.length + 1 → Two (fun g => g < w.heap.size ∨ (wr.heap.size ≤ g ∧ g < W.heap.size)) W wa n r q → (wa.cell? ⟨wr.heap.size, 0, none⟩ = some (.int .i64 x.op) ∧ wa.cell? ⟨wr.heap.size, 1, none⟩ = some (.int .i64 x.fr) ∧ wa.cell? ⟨wr.heap.size, 2, none⟩ = some (.int .i64 x.tt) ∧ wa.cell? ⟨wr.heap.size, 3, none⟩ = some (.int .i64 x.pl) ∧ wa.cell? ⟨wr.heap.size, 4, none⟩ = some (.slice A' x.b.length C')) ∧ Calls Try.prog 10 #[.pointer (some ⟨r, 0, none⟩), .int .i64 x.fr, .int .i64 x.tt] wa fun e w' => e = .returned (.int .i64 c) ∧ Two (fun g => g < w.heap.size ∨ (wr.heap.size ≤ g ∧ g < W.heap.size)) W w' n r q) := fun wa q c hc hq h => ⟨HS.out wa h.bel, two_rcount h (by omega) _ _ hc⟩
        have HC3 : Hid (∀ (wa : World) (q : List Pk), q.length ≤ p.length + 1 → Two (fun g => g < w.heap.size ∨ (wr.heap.size ≤ g ∧ g < W.heap.size)) W wa n r q → (wa.cell? ⟨wr.heap.size, 0, none⟩ = some (.int .i64 x.op) ∧ wa.cell? ⟨wr.heap.size, 1, none⟩ = some (.int .i64 x.fr) ∧ wa.cell? ⟨wr.heap.size, 2, none⟩ = some (.int .i64 x.tt) ∧ wa.cell? ⟨wr.heap.size, 3, none⟩ = some (.int .i64 x.pl) ∧ wa.cell? ⟨wr.heap.size, 4, none⟩ = some (.slice A' x.b.length C')) ∧ Calls Try.prog 9 #[.pointer (some ⟨n, 0, none⟩), .int .i64 x.tt, .int .i64 x.fr] wa fun e w' => ∃ c : Int, e = .returned (.int .i64 c) ∧ Hid (c = (bagOf q (x.tt, x.fr)).length) ∧ Two (fun g => g < w.heap.size ∨ (wr.heap.size ≤ g ∧ g < W.heap.size)) W w' n r q) := fun wa q hq h => ⟨HS.out wa h.bel, two_count h _ _⟩
        have HC4 : Hid (∀ (wa : World) (q : List Pk) (c : Int), Hid (c = (bagOf q (x.tt, x.fr)).length) → q.length ≤ p.length + 1 → Two (fun g => g < w.heap.size ∨ (wr.heap.size ≤ g ∧ g < W.heap.size)) W wa n r q → (wa.cell? ⟨wr.heap.size, 0, none⟩ = some (.int .i64 x.op) ∧ wa.cell? ⟨wr.heap.size, 1, none⟩ = some (.int .i64 x.fr) ∧ wa.cell? ⟨wr.heap.size, 2, none⟩ = some (.int .i64 x.tt) ∧ wa.cell? ⟨wr.heap.size, 3, none⟩ = some (.int .i64 x.pl) ∧ wa.cell? ⟨wr.heap.size, 4, none⟩ = some (.slice A' x.b.length C')) ∧ Calls Try.prog 10 #[.pointer (some ⟨r, 0, none⟩), .int .i64 x.tt, .int .i64 x.fr] wa fun e w' => e = .returned (.int .i64 c) ∧ Two (fun g => g < w.heap.size ∨ (wr.heap.size ≤ g ∧ g < W.heap.size)) W w' n r q) := fun wa q c hc hq h => ⟨HS.out wa h.bel, two_rcount h (by omega) _ _ hc⟩
        have HC5 : Hid (∀ (wa : World) (q : List Pk), q.length ≤ p.length + 1 → Two (fun g => g < w.heap.size ∨ (wr.heap.size ≤ g ∧ g < W.heap.size)) W wa n r q → (wa.cell? ⟨wr.heap.size, 0, none⟩ = some (.int .i64 x.op) ∧ wa.cell? ⟨wr.heap.size, 1, none⟩ = some (.int .i64 x.fr) ∧ wa.cell? ⟨wr.heap.size, 2, none⟩ = some (.int .i64 x.tt) ∧ wa.cell? ⟨wr.heap.size, 3, none⟩ = some (.int .i64 x.pl) ∧ wa.cell? ⟨wr.heap.size, 4, none⟩ = some (.slice A' x.b.length C')) ∧ Calls Try.prog 12 #[.pointer (some ⟨n, 0, none⟩)] wa fun e w' => ∃ A C, e = .returned (.slice A (linksOf q).length C) ∧ Ls w' (.slice A (linksOf q).length C) (linksOf q) ∧ Two (fun g => g < w.heap.size ∨ (wr.heap.size ≤ g ∧ g < W.heap.size)) W w' n r q) := fun wa q hq h => ⟨HS.out wa h.bel, two_links h (by omega)⟩
        have HC6 : Hid (∀ (wa : World) (q : List Pk) (A : Option Addr) (C : Nat), q.length ≤ p.length + 1 → Ls wa (.slice A (linksOf q).length C) (linksOf q) → Two (fun g => g < w.heap.size ∨ (wr.heap.size ≤ g ∧ g < W.heap.size)) W wa n r q → (wa.cell? ⟨wr.heap.size, 0, none⟩ = some (.int .i64 x.op) ∧ wa.cell? ⟨wr.heap.size, 1, none⟩ = some (.int .i64 x.fr) ∧ wa.cell? ⟨wr.heap.size, 2, none⟩ = some (.int .i64 x.tt) ∧ wa.cell? ⟨wr.heap.size, 3, none⟩ = some (.int .i64 x.pl) ∧ wa.cell? ⟨wr.heap.size, 4, none⟩ = some (.slice A' x.b.length C')) ∧ Calls Try.prog 13 #[.pointer (some ⟨r, 0, none⟩)] wa fun e w' => ∃ A' C', e = .returned (.slice A' (linksOf q).length C') ∧ Ls w' (.slice A (linksOf q).length C) (linksOf q) ∧ Ls w' (.slice A' (linksOf q).length C') (linksOf q) ∧ Two (fun g => g < w.heap.size ∨ (wr.heap.size ≤ g ∧ g < W.heap.size)) W w' n r q) := fun wa q A C hq hv h => ⟨HS.out wa h.bel, two_rlinks h (by omega) hv⟩
        have HC7 : Hid (∀ (wa : World) (q : List Pk) (A : Option Addr) (C : Nat) (A2 : Option Addr) (C2 : Nat), q.length ≤ p.length + 1 → Ls wa (.slice A (linksOf q).length C) (linksOf q) → Ls wa (.slice A2 (linksOf q).length C2) (linksOf q) → Two (fun g => g < w.heap.size ∨ (wr.heap.size ≤ g ∧ g < W.heap.size)) W wa n r q → (wa.cell? ⟨wr.heap.size, 0, none⟩ = some (.int .i64 x.op) ∧ wa.cell? ⟨wr.heap.size, 1, none⟩ = some (.int .i64 x.fr) ∧ wa.cell? ⟨wr.heap.size, 2, none⟩ = some (.int .i64 x.tt) ∧ wa.cell? ⟨wr.heap.size, 3, none⟩ = some (.int .i64 x.pl) ∧ wa.cell? ⟨wr.heap.size, 4, none⟩ = some (.slice A' x.b.length C')) ∧ Calls Try.prog 11 #[.slice A (linksOf q).length C, .slice A2 (linksOf q).length C2] wa fun e w' => e = .returned (.bool true) ∧ Two (fun g => g < w.heap.size ∨ (wr.heap.size ≤ g ∧ g < W.heap.size)) W w' n r q) := fun wa q A C A2 C2 hq hv hv2 h => ⟨HS.out wa h.bel, two_eq h (Nat.le_trans (links_len q) (by omega)) hv hv2⟩
        rw [hW] at hst hS0
        clear hW hBW hbx hbk hlow hTW c0 c1 c2 c3 c4
        have HP : Hid (p.length ≤ j) := hp
        go_region_held3 (fun w' => w'.cell? ⟨wr.heap.size, 0, none⟩ = some (.int .i64 x.op) ∧ w'.cell? ⟨wr.heap.size, 1, none⟩ = some (.int .i64 x.fr) ∧ w'.cell? ⟨wr.heap.size, 2, none⟩ = some (.int .i64 x.tt) ∧ w'.cell? ⟨wr.heap.size, 3, none⟩ = some (.int .i64 x.pl) ∧ w'.cell? ⟨wr.heap.size, 4, none⟩ = some (.slice A' x.b.length C'))
          (first | exact hS0 | exact hS1 | exact hS2 | exact hS3 | exact hS4 | exact hS5 | exact hS6 | exact hS7 | exact hS8 | go_keep)
          (first
            | (go_at_call 8; refine hst.mono ?_; rintro e w1 ⟨rfl, l', hl', hT1⟩; rw [← HW.out] at hT1; have hr1 := HC1.out w1 l' hl' hT1; have hS1 := hr1.1; clear hst)
            | (go_at_call 9; refine hr1.2.mono ?_; rintro e w2 ⟨c, rfl, hc, hT2⟩; have hr2 := HC2.out w2 l' c hc hl' hT2; have hS2 := hr2.1; clear hr1)
            | (go_at_call 10; refine hr2.2.mono ?_; rintro e w3 ⟨rfl, hT3⟩; have hr3 := HC3.out w3 l' hl' hT3; have hS3 := hr3.1; clear hr2)
            | (go_at_call 9; refine hr3.2.mono ?_; rintro e w4 ⟨d, rfl, hd, hT4⟩; have hr4 := HC4.out w4 l' d hd hl' hT4; have hS4 := hr4.1; clear hr3)
            | (go_at_call 10; refine hr4.2.mono ?_; rintro e w5 ⟨rfl, hT5⟩; have hr5 := HC5.out w5 l' hl' hT5; have hS5 := hr5.1; clear hr4)
            | (go_at_call 12; refine hr5.2.mono ?_; rintro e w6 ⟨A1, C1, rfl, hv1, hT6⟩; have hr6 := HC6.out w6 l' A1 C1 hl' hv1 hT6; have hS6 := hr6.1; clear hr5)
            | (go_at_call 13; refine hr6.2.mono ?_; rintro e w7 ⟨A2, C2, rfl, hv2, hv3, hT7⟩; have hr7 := HC7.out w7 l' A1 C1 A2 C2 hl' hv2 hv3 hT7; have hS7 := hr7.1; clear hr6)
            | (go_at_call 11; refine hr7.2.mono ?_; rintro e w8 ⟨rfl, hT8⟩; have hS8 := HS.out w8 hT8.bel; clear hr7))
        have HF : Hid (l'.length ≤ p.length + 1 ∧ Two (fun g => g < w.heap.size) w w8 n r l') := ⟨hl', HBK.out hT8⟩
        go_wp2
        go_roundw
        case rel => exact ⟨j + 1, l', by omega, by go_num, by have := HF.out.1; omega, HF.out.2⟩
        case measure => simp [intOf]; omega
      · go_wp2_with fail
        refine (awake_any _).mono ?_
        rintro e wz ⟨rfl, hbz⟩
        have HB : Hid (Below w.heap.size w wz) := HT.out.low.trans (hbz.mono HT.out.low.size)
        clear hbz hT
        go_wp2_with fail
        go_ret
        exact ⟨rfl, HB.out⟩
  · go_wp2_with fail
    refine hnew.mono ?_
    rintro e wa ⟨n, rfl, hn1, hb1⟩
    have hrn := rnew_rx wa
    clear hnew
    go_wp2_with fail
    refine hrn.mono ?_
    rintro e wb ⟨r, rfl, hr1, hb2⟩
    have HTW : Hid (Two (fun g => g < w.heap.size) w wb n r []) := Two.start hn1 hb1 hr1 hb2
    clear hrn hn1 hb1 hr1 hb2
    go_wp2_with fail
    go_loopw [5] (fun i wr => ∃ (j : Nat) (p : List Pk), j ≤ 200 ∧ i = .int .i64 j ∧ p.length ≤ j ∧ Two (fun g => g < w.heap.size) w wr n r p) (fun i _ => 200 - (intOf i).toNat)
    case atStart => exact ⟨0, [], Nat.zero_le _, rfl, by simp, HTW.out⟩
    case round =>
      obtain ⟨j, p, hj, rfl, hp, hT⟩ := hrel
      have HT : Hid (Two (fun g => g < w.heap.size) w wr n r p) := hT
      by_cases hlt : j < 200
      · have hj' : j < l.length := by have := HK.out; omega
        obtain ⟨x, hx⟩ : ∃ x : Do1, x = l[j]'hj' := ⟨_, rfl⟩
        obtain ⟨g, o, A', C', hA, a0, a1, a2, a3, a4, a5⟩ := HD.out.at j hj'
        rw [← hx] at a0 a1 a2 a3 a4 a5
        have hxr : i64 x.op ∧ i64 x.fr ∧ i64 x.tt ∧ i64 x.pl := by rw [hx]; obtain ⟨_, _, _, _, h2, _⟩ := HD.out; exact h2 _ (List.getElem_mem hj')
        have hB := hT.low
        have hlc : ∀ {i : Nat} {u : Value}, w.cell? ⟨g, i, none⟩ = some u → wr.cell? ⟨g, i, none⟩ = some u := by
          intro i u hu
          rw [World.cell?_of_block (hB.block g (World.block_lt_of_cell? w _ hu))]; exact hu
        have c0 := hlc a0
        have c1 := hlc a1
        have c2 := hlc a2
        have c3 := hlc a3
        have c4 := hlc a4
        have HBX : Hid (∀ w', Below w.heap.size w w' → Bs w' (.slice A' x.b.length C') x.b) := fun w' hw' => a5.keep (Chg.of_below hw') (fun _ _ => id)
        have HBL : Hid (∀ k, bk (.slice A' x.b.length C') = some k → k < w.heap.size) := fun k hk => a5.lt hk
        have HXR : Hid (i64 x.op ∧ i64 x.fr ∧ i64 x.tt ∧ i64 x.pl) := hxr
        clear hx a0 a1 a2 a3 a4 a5 hlc hxr hT hB
        subst hA
        go_wp2_with fail
        obtain ⟨W, hW⟩ : ∃ W, W = (wr.alloc (.cells #[.int .i64 x.op, .int .i64 x.fr, .int .i64 x.tt, .int .i64 x.pl, .slice A' x.b.length C'] 29)).drew := ⟨_, rfl⟩
        have HW : Hid (W = (wr.alloc (.cells #[.int .i64 x.op, .int .i64 x.fr, .int .i64 x.tt, .int .i64 x.pl, .slice A' x.b.length C'] 29)).drew) := hW
        have hBW : Below wr.heap.size wr W := by rw [hW]; exact (below1 wr (stepB x A' C')).drew
        have hbx : Box W wr.heap.size (stepC x A' C') := by rw [hW]; exact ⟨_, heap_alloc_new wr _⟩
        have hbk : wr.heap.size < W.heap.size := by obtain ⟨U, h⟩ := hbx; exact heap_lt h
        have hlow : Below w.heap.size w W := HT.out.low.trans (hBW.mono HT.out.low.size)
        have hTW : Two (fun g => g < w.heap.size ∨ (wr.heap.size ≤ g ∧ g < W.heap.size)) W W n r p := HT.out.more hBW
        have HBK : Hid (∀ {wz : World} {q : List Pk}, Two (fun g => g < w.heap.size ∨ (wr.heap.size ≤ g ∧ g < W.heap.size)) W wz n r q → Two (fun g => g < w.heap.size) w wz n r q) := fun h => h.back (fun g hg => .inl hg) (Kp.of_below hlow) (fun g hg => hg)
        have hst := step_any hTW (by omega) x HXR.out (HBX.out W hlow) (fun k hk => .inl (HBL.out k hk))
        simp only [stepO] at hst
        have HS : Hid (∀ wa, Kp (fun g => g < w.heap.size ∨ (wr.heap.size ≤ g ∧ g < W.heap.size)) W wa → wa.cell? ⟨wr.heap.size, 0, none⟩ = some (.int .i64 x.op) ∧ wa.cell? ⟨wr.heap.size, 1, none⟩ = some (.int .i64 x.fr) ∧ wa.cell? ⟨wr.heap.size, 2, none⟩ = some (.int .i64 x.tt) ∧ wa.cell? ⟨wr.heap.size, 3, none⟩ = some (.int .i64 x.pl) ∧ wa.cell? ⟨wr.heap.size, 4, none⟩ = some (.slice A' x.b.length C')) := by
          intro wa hk
          have := hbx.kp hk (.inr ⟨Nat.le_refl _, hbk⟩)
          exact ⟨this.at 0, this.at 1, this.at 2, this.at 3, this.at 4⟩
        have hS0 := HS.out W (Chg.refl _ _)
        have hpl : p.length ≤ 200 := by omega
        have HC1 : Hid (∀ (wa : World) (q : List Pk), q.length ≤ p.length + 1 → Two (fun g => g < w.heap.size ∨ (wr.heap.size ≤ g ∧ g < W.heap.size)) W wa n r q → (wa.cell? ⟨wr.heap.size, 0, none⟩ = some (.int .i64 x.op) ∧ wa.cell? ⟨wr.heap.size, 1, none⟩ = some (.int .i64 x.fr) ∧ wa.cell? ⟨wr.heap.size, 2, none⟩ = some (.int .i64 x.tt) ∧ wa.cell? ⟨wr.heap.size, 3, none⟩ = some (.int .i64 x.pl) ∧ wa.cell? ⟨wr.heap.size, 4, none⟩ = some (.slice A' x.b.length C')) ∧ Calls Try.prog 9 #[.pointer (some ⟨n, 0, none⟩), .int .i64 x.fr, .int .i64 x.tt] wa fun e w' => ∃ c : Int, e = .returned (.int .i64 c) ∧ Hid (c = (bagOf q (x.fr, x.tt)).length) ∧ Two (fun g => g < w.heap.size ∨ (wr.heap.size ≤ g ∧ g < W.heap.size)) W w' n r q) := fun wa q hq h => ⟨HS.out wa h.bel, two_count h _ _⟩
        have HC2 : Hid (∀ (wa : World) (q : List Pk) (c : Int), Hid (c = (bagOf q (x.fr, x.tt)).length) → q.length ≤ p.length + 1 → Two (fun g => g < w.heap.size ∨ (wr.heap.size ≤ g ∧ g < W.heap.size)) W wa n r q → (wa.cell? ⟨wr.heap.size, 0, none⟩ = some (.int .i64 x.op) ∧ wa.cell? ⟨wr.heap.size, 1, none⟩ = some (.int .i64 x.fr) ∧ wa.cell? ⟨wr.heap.size, 2, none⟩ = some (.int .i64 x.tt) ∧ wa.cell? ⟨wr.heap.size, 3, none⟩ = some (.int .i64 x.pl) ∧ wa.cell? ⟨wr.heap.size, 4, none⟩ = some (.slice A' x.b.length C')) ∧ Calls Try.prog 10 #[.pointer (some ⟨r, 0, none⟩), .int .i64 x.fr, .int .i64 x.tt] wa fun e w' => e = .returned (.int .i64 c) ∧ Two (fun g => g < w.heap.size ∨ (wr.heap.size ≤ g ∧ g < W.heap.size)) W w' n r q) := fun wa q c hc hq h => ⟨HS.out wa h.bel, two_rcount h (by omega) _ _ hc⟩
        have HC3 : Hid (∀ (wa : World) (q : List Pk), q.length ≤ p.length + 1 → Two (fun g => g < w.heap.size ∨ (wr.heap.size ≤ g ∧ g < W.heap.size)) W wa n r q → (wa.cell? ⟨wr.heap.size, 0, none⟩ = some (.int .i64 x.op) ∧ wa.cell? ⟨wr.heap.size, 1, none⟩ = some (.int .i64 x.fr) ∧ wa.cell? ⟨wr.heap.size, 2, none⟩ = some (.int .i64 x.tt) ∧ wa.cell? ⟨wr.heap.size, 3, none⟩ = some (.int .i64 x.pl) ∧ wa.cell? ⟨wr.heap.size, 4, none⟩ = some (.slice A' x.b.length C')) ∧ Calls Try.prog 9 #[.pointer (some ⟨n, 0, none⟩), .int .i64 x.tt, .int .i64 x.fr] wa fun e w' => ∃ c : Int, e = .returned (.int .i64 c) ∧ Hid (c = (bagOf q (x.tt, x.fr)).length) ∧ Two (fun g => g < w.heap.size ∨ (wr.heap.size ≤ g ∧ g < W.heap.size)) W w' n r q) := fun wa q hq h => ⟨HS.out wa h.bel, two_count h _ _⟩
        have HC4 : Hid (∀ (wa : World) (q : List Pk) (c : Int), Hid (c = (bagOf q (x.tt, x.fr)).length) → q.length ≤ p.length + 1 → Two (fun g => g < w.heap.size ∨ (wr.heap.size ≤ g ∧ g < W.heap.size)) W wa n r q → (wa.cell? ⟨wr.heap.size, 0, none⟩ = some (.int .i64 x.op) ∧ wa.cell? ⟨wr.heap.size, 1, none⟩ = some (.int .i64 x.fr) ∧ wa.cell? ⟨wr.heap.size, 2, none⟩ = some (.int .i64 x.tt) ∧ wa.cell? ⟨wr.heap.size, 3, none⟩ = some (.int .i64 x.pl) ∧ wa.cell? ⟨wr.heap.size, 4, none⟩ = some (.slice A' x.b.length C')) ∧ Calls Try.prog 10 #[.pointer (some ⟨r, 0, none⟩), .int .i64 x.tt, .int .i64 x.fr] wa fun e w' => e = .returned (.int .i64 c) ∧ Two (fun g => g < w.heap.size ∨ (wr.heap.size ≤ g ∧ g < W.heap.size)) W w' n r q) := fun wa q c hc hq h => ⟨HS.out wa h.bel, two_rcount h (by omega) _ _ hc⟩
        have HC5 : Hid (∀ (wa : World) (q : List Pk), q.length ≤ p.length + 1 → Two (fun g => g < w.heap.size ∨ (wr.heap.size ≤ g ∧ g < W.heap.size)) W wa n r q → (wa.cell? ⟨wr.heap.size, 0, none⟩ = some (.int .i64 x.op) ∧ wa.cell? ⟨wr.heap.size, 1, none⟩ = some (.int .i64 x.fr) ∧ wa.cell? ⟨wr.heap.size, 2, none⟩ = some (.int .i64 x.tt) ∧ wa.cell? ⟨wr.heap.size, 3, none⟩ = some (.int .i64 x.pl) ∧ wa.cell? ⟨wr.heap.size, 4, none⟩ = some (.slice A' x.b.length C')) ∧ Calls Try.prog 12 #[.pointer (some ⟨n, 0, none⟩)] wa fun e w' => ∃ A C, e = .returned (.slice A (linksOf q).length C) ∧ Ls w' (.slice A (linksOf q).length C) (linksOf q) ∧ Two (fun g => g < w.heap.size ∨ (wr.heap.size ≤ g ∧ g < W.heap.size)) W w' n r q) := fun wa q hq h => ⟨HS.out wa h.bel, two_links h (by omega)⟩
        have HC6 : Hid (∀ (wa : World) (q : List Pk) (A : Option Addr) (C : Nat), q.length ≤ p.length + 1 → Ls wa (.slice A (linksOf q).length C) (linksOf q) → Two (fun g => g < w.heap.size ∨ (wr.heap.size ≤ g ∧ g < W.heap.size)) W wa n r q → (wa.cell? ⟨wr.heap.size, 0, none⟩ = some (.int .i64 x.op) ∧ wa.cell? ⟨wr.heap.size, 1, none⟩ = some (.int .i64 x.fr) ∧ wa.cell? ⟨wr.heap.size, 2, none⟩ = some (.int .i64 x.tt) ∧ wa.cell? ⟨wr.heap.size, 3, none⟩ = some (.int .i64 x.pl) ∧ wa.cell? ⟨wr.heap.size, 4, none⟩ = some (.slice A' x.b.length C')) ∧ Calls Try.prog 13 #[.pointer (some ⟨r, 0, none⟩)] wa fun e w' => ∃ A' C', e = .returned (.slice A' (linksOf q).length C') ∧ Ls w' (.slice A (linksOf q).length C) (linksOf q) ∧ Ls w' (.slice A' (linksOf q).length C') (linksOf q) ∧ Two (fun g => g < w.heap.size ∨ (wr.heap.size ≤ g ∧ g < W.heap.size)) W w' n r q) := fun wa q A C hq hv h => ⟨HS.out wa h.bel, two_rlinks h (by omega) hv⟩
        have HC7 : Hid (∀ (wa : World) (q : List Pk) (A : Option Addr) (C : Nat) (A2 : Option Addr) (C2 : Nat), q.length ≤ p.length + 1 → Ls wa (.slice A (linksOf q).length C) (linksOf q) → Ls wa (.slice A2 (linksOf q).length C2) (linksOf q) → Two (fun g => g < w.heap.size ∨ (wr.heap.size ≤ g ∧ g < W.heap.size)) W wa n r q → (wa.cell? ⟨wr.heap.size, 0, none⟩ = some (.int .i64 x.op) ∧ wa.cell? ⟨wr.heap.size, 1, none⟩ = some (.int .i64 x.fr) ∧ wa.cell? ⟨wr.heap.size, 2, none⟩ = some (.int .i64 x.tt) ∧ wa.cell? ⟨wr.heap.size, 3, none⟩ = some (.int .i64 x.pl) ∧ wa.cell? ⟨wr.heap.size, 4, none⟩ = some (.slice A' x.b.length C')) ∧ Calls Try.prog 11 #[.slice A (linksOf q).length C, .slice A2 (linksOf q).length C2] wa fun e w' => e = .returned (.bool true) ∧ Two (fun g => g < w.heap.size ∨ (wr.heap.size ≤ g ∧ g < W.heap.size)) W w' n r q) := fun wa q A C A2 C2 hq hv hv2 h => ⟨HS.out wa h.bel, two_eq h (Nat.le_trans (links_len q) (by omega)) hv hv2⟩
        rw [hW] at hst hS0
        clear hW hBW hbx hbk hlow hTW c0 c1 c2 c3 c4
        have HP : Hid (p.length ≤ j) := hp
        go_region_held3 (fun w' => w'.cell? ⟨wr.heap.size, 0, none⟩ = some (.int .i64 x.op) ∧ w'.cell? ⟨wr.heap.size, 1, none⟩ = some (.int .i64 x.fr) ∧ w'.cell? ⟨wr.heap.size, 2, none⟩ = some (.int .i64 x.tt) ∧ w'.cell? ⟨wr.heap.size, 3, none⟩ = some (.int .i64 x.pl) ∧ w'.cell? ⟨wr.heap.size, 4, none⟩ = some (.slice A' x.b.length C'))
          (first | exact hS0 | exact hS1 | exact hS2 | exact hS3 | exact hS4 | exact hS5 | exact hS6 | exact hS7 | exact hS8 | go_keep)
          (first
            | (go_at_call 8; refine hst.mono ?_; rintro e w1 ⟨rfl, l', hl', hT1⟩; rw [← HW.out] at hT1; have hr1 := HC1.out w1 l' hl' hT1; have hS1 := hr1.1; clear hst)
            | (go_at_call 9; refine hr1.2.mono ?_; rintro e w2 ⟨c, rfl, hc, hT2⟩; have hr2 := HC2.out w2 l' c hc hl' hT2; have hS2 := hr2.1; clear hr1)
            | (go_at_call 10; refine hr2.2.mono ?_; rintro e w3 ⟨rfl, hT3⟩; have hr3 := HC3.out w3 l' hl' hT3; have hS3 := hr3.1; clear hr2)
            | (go_at_call 9; refine hr3.2.mono ?_; rintro e w4 ⟨d, rfl, hd, hT4⟩; have hr4 := HC4.out w4 l' d hd hl' hT4; have hS4 := hr4.1; clear hr3)
            | (go_at_call 10; refine hr4.2.mono ?_; rintro e w5 ⟨rfl, hT5⟩; have hr5 := HC5.out w5 l' hl' hT5; have hS5 := hr5.1; clear hr4)
            | (go_at_call 12; refine hr5.2.mono ?_; rintro e w6 ⟨A1, C1, rfl, hv1, hT6⟩; have hr6 := HC6.out w6 l' A1 C1 hl' hv1 hT6; have hS6 := hr6.1; clear hr5)
            | (go_at_call 13; refine hr6.2.mono ?_; rintro e w7 ⟨A2, C2, rfl, hv2, hv3, hT7⟩; have hr7 := HC7.out w7 l' A1 C1 A2 C2 hl' hv2 hv3 hT7; have hS7 := hr7.1; clear hr6)
            | (go_at_call 11; refine hr7.2.mono ?_; rintro e w8 ⟨rfl, hT8⟩; have hS8 := HS.out w8 hT8.bel; clear hr7))
        have HF : Hid (l'.length ≤ p.length + 1 ∧ Two (fun g => g < w.heap.size) w w8 n r l') := ⟨hl', HBK.out hT8⟩
        go_wp2
        go_roundw
        case rel => exact ⟨j + 1, l', by omega, by go_num, by have := HF.out.1; omega, HF.out.2⟩
        case measure => simp [intOf]; omega
      · go_wp2_with fail
        refine (awake_any _).mono ?_
        rintro e wz ⟨rfl, hbz⟩
        have HB : Hid (Below w.heap.size w wz) := HT.out.low.trans (hbz.mono HT.out.low.size)
        clear hbz hT
        go_wp2_with fail
        go_ret
        exact ⟨rfl, HB.out⟩
/- NetLives is true, of whatever steps. -/
theorem lives_any {w : World} {v : Value} {l : List Do1} (h : Dos w v l) : Calls Try.prog 3 #[v] w fun e w' => e = .returned (.bool true) ∧ Below w.heap.size w w' := by
  have h' := h
  obtain ⟨A, C, rfl, hC, _, _⟩ := h'
  by_cases hl : l.length ≤ 200
  · exact lives_short h hl (.inl ⟨rfl, hl⟩) rfl
  · have ht := h.take 200 (by omega)
    have e : (l.take 200).length = 200 := by rw [List.length_take]; omega
    exact lives_short (l := l.take 200) (by rw [e]; exact ht.1) (by omega) (.inr ⟨by omega, e, by omega, rfl⟩) rfl
end Go.Proofs.Ytpkbedbnbkcgiaa
