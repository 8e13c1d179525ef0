/- The walks of what is taken off a reader. -/
import Derived.Test.YtbcfeeahlhoggaaDoorWalksE
namespace Go.Proofs.YtbcfeeahlhoggaaDoor
open Go.RowKit

theorem take_none {w : World} {g : Nat} {q : Option Nat} (h : Rdr w g q none) (n : Value) :
    Calls Tryd.prog 51 #[.pointer (some ⟨g, 0, none⟩), n] w fun e w' => e = .returned (.slice none 0 0) ∧ w' = w := by
  go_enter Tryd.func51, Tryd.ntmps51
  go_wp2_with fail
  refine (good_any h).mono ?_
  rintro e w1 ⟨rfl, rfl⟩
  go_wp2
  go_ret
  exact ⟨rfl, rfl⟩
theorem take_nil (w : World) (n : Value) : Calls Tryd.prog 51 #[.pointer none, n] w fun e w' => e = .returned (.slice none 0 0) ∧ w' = w := by
  go_enter Tryd.func51, Tryd.ntmps51
  go_wp2_with fail
  refine (good_nil _).mono ?_
  rintro e w1 ⟨rfl, rfl⟩
  go_wp2
  go_ret
  exact ⟨rfl, rfl⟩
theorem take_over {w : World} {g : Nat} {q : Option Nat} {l : List UInt8} (h : Rdr w g q (some l)) (n : Nat) (hn : l.length < n) :
    Calls Tryd.prog 51 #[.pointer (some ⟨g, 0, none⟩), .int .i64 n] w fun e w' => e = .returned (.slice none 0 0) ∧ Rdr w' g q none ∧ Chg (One g) w w' := by
  have HH : Hid (Rdr w g q (some l)) := h
  obtain ⟨v, h1, h2, _, _, hlim⟩ := h
  have hc0 := cell_at h1 0
  rw [show #[v, Value.bool (some l).isSome][0]? = some v from rfl] at hc0
  obtain ⟨A, C, rfl⟩ := bs_form h2
  clear h1 h2
  have hn' : (l.length : Int) < n := by omega
  go_enter Tryd.func51, Tryd.ntmps51
  go_wp2_with fail
  refine (good_any HH.out).mono ?_
  rintro e w1 ⟨rfl, rfl⟩
  go_wp2_with fail
  refine (fail_any HH.out).mono ?_
  rintro e w2 ⟨rfl, hr, hch⟩
  go_wp2
  go_ret
  exact ⟨rfl, hr, hch⟩
theorem Bs.head {w : World} {b o c : Nat} {l : List UInt8} (h : ∀ j (h : j < l.length), w.cell? ⟨b, o + j, none⟩ = some (.int .u8 ((l[j]'h).toNat : Int))) (hb : b < w.heap.size) (n : Nat) (hn : n ≤ l.length) (hc : n ≤ c) : Bs w (.slice (some ⟨b, o, none⟩) n c) (l.take n) := by
  refine Bs.mk b o c (by rw [List.length_take, Nat.min_eq_left hn]) (by rw [List.length_take]; omega) hb fun j hj => ?_
  have hj' : j < l.length := by rw [List.length_take] at hj; omega
  rw [h j hj', List.getElem_take]
theorem Bs.tail {w : World} {b o c m : Nat} {l : List UInt8} (h : ∀ j (h : j < l.length), w.cell? ⟨b, o + j, none⟩ = some (.int .u8 ((l[j]'h).toNat : Int))) (hb : b < w.heap.size) (n : Nat) (hm : m = l.length - n) (hc : m ≤ c) : Bs w (.slice (some ⟨b, o + n, none⟩) m c) (l.drop n) := by
  subst hm
  refine Bs.mk b (o + n) c (by rw [List.length_drop]) (by rw [List.length_drop]; exact hc) hb fun j hj => ?_
  rw [List.length_drop] at hj
  rw [show o + n + j = o + (n + j) by omega, h (n + j) (by omega), List.getElem_drop]
theorem Bs.none' {w : World} {ad : Addr} {c : Nat} : Bs w (.slice (some ad) 0 c) [] := .inr (.inl ⟨_, c, rfl, rfl⟩)
set_option maxRecDepth 100000 in
theorem take_in {w : World} {g : Nat} {q : Option Nat} {l : List UInt8} (h : Rdr w g q (some l)) (n : Nat) (hn : n ≤ l.length) :
    Calls Tryd.prog 51 #[.pointer (some ⟨g, 0, none⟩), .int .i64 n] w fun e w' => ∃ v, e = .returned v ∧ Bs w' v (l.take n) ∧ (∀ k, bk v = some k → q = some k) ∧ Rdr w' g q (some (l.drop n)) ∧ Chg (One g) w w' := by
  have HH : Hid (Rdr w g q (some l)) := h
  obtain ⟨v, h1, h2, h3, h4, hlim⟩ := h
  have hc0 := cell_at h1 0
  have hf0 := frozen_at h1 0
  rw [show #[v, Value.bool (some l).isSome][0]? = some v from rfl] at hc0
  have H3 : Hid (∀ k, bk v = some k → q = some k) := h3
  have H4 : Hid (q ≠ some g) := h4
  clear h1 h3 h4
  change Bs w v l at h2
  change l.length ≤ _ at hlim
  rcases h2 with ⟨rfl, rfl⟩ | ⟨ad, c, rfl, rfl⟩ | ⟨hpos, b, o, c, rfl, hc, hb, hcl⟩
  · have : n = 0 := by simpa using hn
    subst this
    go_enter Tryd.func51, Tryd.ntmps51
    go_wp2_with fail
    refine (good_any HH.out).mono ?_
    rintro e w1 ⟨rfl, rfl⟩
    go_wp2
    go_ret
    have := HH.out.turn1 (.slice none 0 0) [] (Bs.nil _) (fun k hk => absurd hk (bk_zero _ _ _)) (by simp)
    exact ⟨.slice none 0 0, rfl, Bs.nil _, (fun k hk => absurd hk (bk_zero _ _ _)), this.1, this.2⟩
  · have : n = 0 := by simpa using hn
    subst this
    go_enter Tryd.func51, Tryd.ntmps51
    go_wp2_with fail
    refine (good_any HH.out).mono ?_
    rintro e w1 ⟨rfl, rfl⟩
    go_wp2
    go_ret
    have := HH.out.turn1 (.slice (some ad) 0 0) [] Bs.none' (fun k hk => absurd hk (bk_zero _ _ _)) (by simp)
    exact ⟨.slice (some ad) 0 0, rfl, Bs.none', (fun k hk => absurd hk (bk_zero _ _ _)), this.1, this.2⟩
  · have hn' : ¬ ((l.length : Int) < n) := by omega
    have HC : Hid (∀ j (h : j < l.length), w.cell? ⟨b, o + j, none⟩ = some (.int .u8 ((l[j]'h).toNat : Int))) := hcl
    clear hcl
    by_cases hz : n < l.length
    · go_enter Tryd.func51, Tryd.ntmps51
      go_wp2_with fail
      refine (good_any HH.out).mono ?_
      rintro e w1 ⟨rfl, rfl⟩
      go_wp2
      go_ret
      have hB := Bs.tail HC.out hb n (m := l.length - n) (c := l.length - n) rfl (Nat.le_refl _)
      have hq3 : q = some b := H3.out b (bk_pos hpos)
      have ht := HH.out.turn1 _ _ hB (fun k hk => by rw [hq3]; exact bk_blk hk) (by rw [List.length_drop]; omega)
      exact ⟨.slice (some ⟨b, o, none⟩) n n, rfl, (Bs.head HC.out hb n hn (Nat.le_refl _)).keep ht.2 (fun k hk e => H4.out (by rw [hq3, ← e]; exact bk_blk hk)), (fun k hk => by rw [hq3]; exact bk_blk hk), ht.1, ht.2⟩
    · have : n = l.length := by omega
      subst this
      go_enter Tryd.func51, Tryd.ntmps51
      go_wp2_with fail
      refine (good_any HH.out).mono ?_
      rintro e w1 ⟨rfl, rfl⟩
      go_wp2
      go_ret
      have hB : ∀ o', Bs w1 (.slice (some ⟨b, o', none⟩) 0 0) (l.drop l.length) := fun o' => by rw [List.drop_length]; exact Bs.none'
      have hq3 : q = some b := H3.out b (bk_pos hpos)
      have ht := HH.out.turn1 (.slice (some ⟨b, o, none⟩) 0 0) (l.drop l.length) (hB o) (fun k hk => absurd hk (bk_zero _ _ _)) (by rw [List.length_drop]; omega)
      exact ⟨.slice (some ⟨b, o, none⟩) l.length l.length, rfl, (Bs.head HC.out hb l.length hn (Nat.le_refl _)).keep ht.2 (fun k hk e => H4.out (by rw [hq3, ← e]; exact bk_blk hk)), (fun k hk => by rw [hq3]; exact bk_blk hk), ht.1, ht.2⟩
theorem take_any {w : World} {g : Nat} {q : Option Nat} {r : Rd} (h : Rdr w g q r) (n : Nat) :
    Calls Tryd.prog 51 #[.pointer (some ⟨g, 0, none⟩), .int .i64 n] w fun e w' => ∃ v, e = .returned v ∧ Bs w' v (rdTake r n).1 ∧ (∀ k, bk v = some k → q = some k) ∧ Rdr w' g q (rdTake r n).2 ∧ Chg (One g) w w' := by
  cases r with
  | none =>
    refine (take_none h _).mono ?_
    rintro e w' ⟨rfl, rfl⟩
    exact ⟨_, rfl, Bs.nil _, (fun k hk => absurd hk (bk_zero _ _ _)), h, Chg.refl _ _⟩
  | some l =>
    unfold rdTake
    dsimp only
    by_cases hn : l.length < n
    · rw [if_pos hn]
      refine (take_over h n hn).mono ?_
      rintro e w' ⟨rfl, hr, hc⟩
      exact ⟨_, rfl, Bs.nil _, (fun k hk => absurd hk (bk_zero _ _ _)), hr, hc⟩
    · rw [if_neg hn]
      exact take_in h n (by omega)

theorem rByte_any {w : World} {g : Nat} {q : Option Nat} {r : Rd} (h : Rdr w g q r) :
    Calls Tryd.prog 34 #[.pointer (some ⟨g, 0, none⟩)] w fun e w' => e = .returned (.int .u8 ((rdByte r).1.toNat : Nat)) ∧ Rdr w' g q (rdByte r).2 ∧ Chg (One g) w w' := by
  have ht := take_any h 1
  have hcase : (∃ x t, r = some (x :: t)) ∨ (rdByte r = (0, none) ∧ rdTake r 1 = ([], none)) := by
    rcases r with _ | _ | ⟨x, t⟩
    · exact .inr ⟨rfl, rfl⟩
    · exact .inr ⟨rfl, rfl⟩
    · exact .inl ⟨x, t, rfl⟩
  have HT : Hid (Calls Tryd.prog 51 #[.pointer (some ⟨g, 0, none⟩), .int .i64 (1 : Nat)] w fun e w' => ∃ v, e = .returned v ∧ Bs w' v (rdTake r 1).1 ∧ (∀ k, bk v = some k → q = some k) ∧ Rdr w' g q (rdTake r 1).2 ∧ Chg (One g) w w') := ht
  clear ht h
  rcases hcase with ⟨x, t, rfl⟩ | ⟨e1, e2⟩
  · have e2 : rdTake (some (x :: t)) 1 = ([x], some t) := by simp [rdTake]
    rw [e2] at HT
    clear e2
    go_enter Tryd.func34, Tryd.ntmps34
    go_wp2_with fail
    refine HT.out.mono ?_
    rintro e w1 ⟨v, rfl, hb, _, hr, hc⟩
    rcases hb with ⟨_, h0⟩ | ⟨_, _, _, h0⟩ | ⟨_, b, o, c, rfl, hcap, hlt, hcl⟩
    · cases h0
    · cases h0
    · have hc0 := hcl 0 (by simp)
      simp only [Nat.add_zero, List.getElem_cons_zero] at hc0
      have hcap' : 1 ≤ c := hcap
      clear hcl HT hcap
      go_wp2
      go_ret
      exact ⟨rfl, hr, hc⟩
  · rw [e1]
    rw [e2] at HT
    go_enter Tryd.func34, Tryd.ntmps34
    go_wp2_with fail
    refine HT.out.mono ?_
    rintro e w1 ⟨v, rfl, hb, _, hr, hc⟩
    obtain ⟨A, C, rfl⟩ := bs_form hb
    go_wp2
    go_ret
    exact ⟨rfl, hr, hc⟩
theorem rByte_nil (w : World) : Calls Tryd.prog 34 #[.pointer none] w fun e w' => e = .returned (.int .u8 0) ∧ w' = w := by
  go_enter Tryd.func34, Tryd.ntmps34
  go_wp2_with fail
  refine (take_nil _ _).mono ?_
  rintro e w1 ⟨rfl, rfl⟩
  go_wp2
  go_ret
  exact ⟨rfl, rfl⟩
theorem rInt_none {w : World} {g : Nat} {q : Option Nat} (h : Rdr w g q none) : Calls Tryd.prog 35 #[.pointer (some ⟨g, 0, none⟩)] w fun e w' => e = .returned (.int .i64 0) ∧ w' = w := by
  go_enter Tryd.func35, Tryd.ntmps35
  go_wp2_with fail
  refine (good_any h).mono ?_
  rintro e w1 ⟨rfl, rfl⟩
  go_wp2
  go_ret
  exact ⟨rfl, rfl⟩
theorem rInt_nil (w : World) : Calls Tryd.prog 35 #[.pointer none] w fun e w' => e = .returned (.int .i64 0) ∧ w' = w := by
  go_enter Tryd.func35, Tryd.ntmps35
  go_wp2_with fail
  refine (good_nil _).mono ?_
  rintro e w1 ⟨rfl, rfl⟩
  go_wp2
  go_ret
  exact ⟨rfl, rfl⟩
theorem rInt_bad {w : World} {g : Nat} {q : Option Nat} {l : List UInt8} (h : Rdr w g q (some l)) (hd : dec 0 l = none) : Calls Tryd.prog 35 #[.pointer (some ⟨g, 0, none⟩)] w fun e w' => e = .returned (.int .i64 0) ∧ Rdr w' g q none ∧ Chg (One g) w w' := by
  have HH : Hid (Rdr w g q (some l)) := h
  obtain ⟨v, h1, h2, _, _, hlim⟩ := h
  have hc0 := cell_at h1 0
  rw [show #[v, Value.bool (some l).isSome][0]? = some v from rfl] at hc0
  have hdg := digits_any h2 hlim
  change Calls Tryd.prog 53 #[v] w fun e w' => e = .returned (.tuple #[.int .u64 (((dec 0 l).getD (0, 0)).1 : Nat), .int .i64 (((dec 0 l).getD (0, 0)).2 : Nat)]) ∧ w' = w at hdg
  rw [hd] at hdg
  obtain ⟨A, C, rfl⟩ := bs_form h2
  clear h1 h2 hd
  go_enter Tryd.func35, Tryd.ntmps35
  go_wp2_with fail
  refine (good_any HH.out).mono ?_
  rintro e w1 ⟨rfl, rfl⟩
  go_wp2_with fail
  refine hdg.mono ?_
  rintro e w1 ⟨rfl, rfl⟩
  go_wp2_with fail
  refine (fail_any HH.out).mono ?_
  rintro e w2 ⟨rfl, hr, hch⟩
  go_wp2
  go_ret
  exact ⟨rfl, hr, hch⟩
end Go.Proofs.YtbcfeeahlhoggaaDoor
