/- What wakes the statements on nets. -/
import Derived.Test.YtjclegiohhbkpaaNtJ
import Derived.Lib.SlBytesConst
namespace Go.Proofs.Ytjclegiohhbkpaa
open Go.RowKit Go.MapKept

theorem Bs_new (w : World) (l : List UInt8) (cs : Array Value) (fr : Nat × Nat) (c : Nat) (hc : l.length ≤ c) (h : ∀ j (h : j < l.length), cs[j]? = some (.int .u8 ((l[j]'h).toNat : Int))) :
    Bs (w.alloc (.cells cs 5 fr)) (.slice (some ⟨w.heap.size, 0, none⟩) l.length c) l := by
  refine Bs.mk _ _ c rfl hc (by simp) fun j hj => ?_
  rw [cell_at (heap_alloc_new w _), Nat.zero_add]
  exact h j hj
theorem litB (w : World) (l : List UInt8) {cs : Array Value} (h : (bv l).toArray = cs) {n : Nat} (hn : l.length = n) : Bs (w.alloc (.cells cs 5)) (.slice (some ⟨w.heap.size, 0, none⟩) n n) l := by
  subst h; subst hn
  exact Bs_new w l _ _ _ (Nat.le_refl _) (fun j hj => by simp [bv, hj])
theorem convert_bytes {w : World} {x : Value} {l : List UInt8} (h : Bs w x l) : (convert 27 9 x).run Try.prog w = .ok (.string (mkS l)) w := by
  rcases h with ⟨rfl, rfl⟩ | ⟨ad, c, rfl, rfl⟩ | ⟨_, b, o, c, rfl, h1, h2, h3⟩
  · rw [run_convert_bytes_string w 27 9 5 none 0 0 Try.underlying27 Try.underlying5 Try.underlying9]
    rfl
  · exact run_convert_bytes_back w 27 9 5 ad c [] Try.underlying27 Try.underlying5 Try.underlying9 (fun j hj => by simp at hj)
  · refine run_convert_bytes_back w 27 9 5 ⟨b, o, none⟩ c l Try.underlying27 Try.underlying5 Try.underlying9 (fun j hj => ?_)
    rw [show (⟨b, o, none⟩ : Addr).add j = ⟨b, o + j, none⟩ by simp only [Addr.add]; split <;> simp_all]
    exact h3 j hj
/- Bytes that are written down in the text. -/
theorem litM (w : World) (l : List UInt8) {cs : Array Value} (h : (bv l).toArray = cs) {n : Nat} (hn : l.length = n) (fr : Nat × Nat) : Bs (w.alloc (.cells cs 5 fr)) (.slice (some ⟨w.heap.size, 0, none⟩) n n) l := by
  subst h; subst hn
  exact Bs_new w l _ _ _ (Nat.le_refl _) (fun j hj => by simp [bv, hj])
set_option maxRecDepth 100000 in
set_option maxHeartbeats 1000000 in
theorem awake_any (w : World) : Calls Try.prog 14 #[] w fun e w' => e = .returned (.bool true) ∧ Below w.heap.size w w' := by
  have kc := fun (w : World) (C : Array Value) (n c : Nat) => Go.Lib.run_convert_bytes_const (P := Try.prog) w 27 5 C n c Try.underlying27 Try.underlying5
  go_enter Try.func14, Try.ntmps14
  go_wp2_with fail
  refine (new_any w).mono ?_
  rintro e w1 ⟨n, rfl, h1, hB1⟩
  obtain ⟨T, hT⟩ : ∃ T : Nat → Prop, T = fun k => k < w.heap.size := ⟨_, rfl⟩
  rw [← hT] at h1
  have HT : Hid (∀ k, k < w.heap.size → T k) := by rw [hT]; exact fun _ h => h
  clear hT
  have HB : Hid (Below w.heap.size w w1) := hB1
  clear hB1
  have hc2 := send_any (h1.alloc (.cells #[.int .u8 120] 5 (1, 2))) (1, 2) (litM w1 [120] (cs := #[.int .u8 120]) rfl rfl (1, 2))
  replace HB : Hid (Below w.heap.size w (w1.alloc (.cells #[.int .u8 120] 5 (1, 2)))) := HB.out.alloc HB.out.size _
  rw [show sendOk [] (1, 2) [120] = true by decide] at hc2
  simp only [if_true, List.nil_append] at hc2
  clear h1
  go_wp2_with fail
  refine hc2.mono ?_
  rintro e w2 ⟨rfl, h2, k2⟩
  replace HB : Hid (Below w.heap.size w w2) := HB.out.trans (k2.below HT.out HB.out.size)
  clear hc2 k2
  have hc3 := send_any (h2.alloc (.cells #[.int .u8 121] 5 (1, 2))) (1, 2) (litM w2 [121] (cs := #[.int .u8 121]) rfl rfl (1, 2))
  replace HB : Hid (Below w.heap.size w (w2.alloc (.cells #[.int .u8 121] 5 (1, 2)))) := HB.out.alloc HB.out.size _
  rw [show sendOk [((1, 2), [120])] (1, 2) [121] = true by decide] at hc3
  simp only [if_true, List.cons_append, List.nil_append] at hc3
  clear h2
  go_wp2_with fail
  refine hc3.mono ?_
  rintro e w3 ⟨rfl, h3, k3⟩
  replace HB : Hid (Below w.heap.size w w3) := HB.out.trans (k3.below HT.out HB.out.size)
  clear hc3 k3
  have hc4 := count_any h3 (1, 2)
  rw [show (bagOf [((1, 2), [120]), ((1, 2), [121])] (1, 2)).length = 2 by decide] at hc4
  go_wp2_with fail
  refine hc4.mono ?_
  rintro e w4 ⟨rfl, b4⟩
  replace h3 := h3.below b4
  replace HB : Hid (Below w.heap.size w w4) := HB.out.trans (b4.mono HB.out.size)
  clear hc4 b4
  have hc5 := count_any h3 (2, 1)
  rw [show (bagOf [((1, 2), [120]), ((1, 2), [121])] (2, 1)).length = 0 by decide] at hc5
  go_wp2_with fail
  refine hc5.mono ?_
  rintro e w5 ⟨rfl, b5⟩
  replace h3 := h3.below b5
  replace HB : Hid (Below w.heap.size w w5) := HB.out.trans (b5.mono HB.out.size)
  clear hc5 b5
  have hc6 := links_any h3 (by decide)
  rw [show linksOf [((1, 2), [120]), ((1, 2), [121])] = [(1, 2)] by decide] at hc6
  go_wp2_with fail
  refine hc6.mono ?_
  rintro e w6 ⟨A6, C6, rfl, ho6, b6⟩
  replace h3 := h3.below b6
  replace HB : Hid (Below w.heap.size w w6) := HB.out.trans (b6.mono HB.out.size)
  have hL6 := Ls.of_owns ho6
  clear hc6 b6 ho6
  have hc7 := links_eq (hL6.below (below1 w6 (.cells #[.int .i64 1, .int .i64 2] 56))) (Ls.lit w6 [(1, 2)] (cs := #[.int .i64 1, .int .i64 2]) rfl rfl) (by decide)
  replace h3 := h3.alloc (.cells #[.int .i64 1, .int .i64 2] 56)
  replace HB : Hid (Below w.heap.size w (w6.alloc (.cells #[.int .i64 1, .int .i64 2] 56))) := HB.out.alloc HB.out.size _
  rw [show decide ([((1 : Int), (2 : Int))] = [(1, 2)]) = true by decide] at hc7
  clear hL6
  go_wp2_with fail
  refine hc7.mono ?_
  rintro e w7 ⟨rfl, q7, hw7⟩
  replace h3 := h3.drewN q7
  replace HB := below_drewN HB.out q7
  rw [← hw7] at h3 HB
  replace HB : Hid (Below w.heap.size w w7) := HB
  clear hc7 hw7
  have hc8 := twice_any h3 (1, 2) 0
  rw [show twiceR [((1, 2), [120]), ((1, 2), [121])] (1, 2) 0 = (true, [((1, 2), [120]), ((1, 2), [121]), ((1, 2), [120])]) by decide] at hc8
  simp only at hc8
  clear h3
  go_wp2_with fail
  refine hc8.mono ?_
  rintro e w8 ⟨rfl, h8, k8⟩
  replace HB : Hid (Below w.heap.size w w8) := HB.out.trans (k8.below HT.out HB.out.size)
  clear hc8 k8
  have hc9 := take_some h8 (1, 2) 0 (b := [120]) (by decide)
  rw [show takeP [((1, 2), [120]), ((1, 2), [121]), ((1, 2), [120])] (1, 2) (Int.toNat 0) = [((1, 2), [121]), ((1, 2), [120])] by decide] at hc9
  clear h8
  go_wp2_with fail
  refine hc9.mono ?_
  rintro e w9 ⟨A9, C9, rfl, ho9, hn9, h9, k9⟩
  replace HB : Hid (Below w.heap.size w w9) := HB.out.trans (k9.below HT.out HB.out.size)
  have HS9 : Hid (Bs w9 (.slice A9 [(120 : UInt8)].length C9) [120]) := Bs.of_owns ho9
  clear hc9 k9 ho9 hn9
  have hc10 := take_some h9 (1, 2) 1 (b := [120]) (by decide)
  rw [show takeP [((1, 2), [121]), ((1, 2), [120])] (1, 2) (Int.toNat 1) = [((1, 2), [121])] by decide] at hc10
  clear h9
  go_wp2_with fail
  refine hc10.mono ?_
  rintro e w10 ⟨A10, C10, rfl, ho10, hn10, h10, k10⟩
  replace HB : Hid (Below w.heap.size w w10) := HB.out.trans (k10.below (fun k hk => .inl (HT.out k hk)) HB.out.size)
  have HS10 : Hid (Bs w10 (.slice A10 [(120 : UInt8)].length C10) [120]) := Bs.of_owns ho10
  replace HS9 : Hid (Bs w10 (.slice A9 [(120 : UInt8)].length C9) [120]) := HS9.out.kp k10 (fun k hk => .inr (bk_blk hk))
  clear hc10 k10 ho10 hn10
  have hc11 := take_none h10 (1, 2) 1 (by decide)
  go_wp2_with fail
  refine hc11.mono ?_
  rintro e w11 ⟨rfl, b11⟩
  replace h10 := h10.below b11
  replace HB : Hid (Below w.heap.size w w11) := HB.out.trans (b11.mono HB.out.size)
  have hv9 := convert_bytes (HS9.out.keep (Chg.of_below b11) (fun _ _ => id))
  have hv10 := convert_bytes (HS10.out.keep (Chg.of_below b11) (fun _ _ => id))
  clear hc11 b11 HS9 HS10
  have hc12 := count_any h10 (1, 2)
  rw [show (bagOf [((1, 2), [121])] (1, 2)).length = 1 by decide] at hc12
  simp only [List.length_cons, List.length_nil, Nat.zero_add] at hv9 hv10
  rw [show mkS [120] = ⟨#[120]⟩ from rfl] at hv9 hv10
  go_wp2_with fail
  refine hc12.mono ?_
  rintro e w12 ⟨rfl, b12⟩
  replace HB : Hid (Below w.heap.size w w12) := HB.out.trans (b12.mono HB.out.size)
  clear hc12 b12 hv9 hv10
  go_wp2_with fail
  go_ret
  exact ⟨rfl, HB.out⟩
/- A net that is none, or that nobody made. -/
set_option maxRecDepth 100000 in
theorem none_any {w : World} {v : Value} (h : NoNet w v) (i : Int) : Calls Try.prog 15 #[v, .int .i64 i] w fun e w' => e = .returned (.bool true) ∧ Below w.heap.size w w' := by
  go_enter Try.func15, Try.ntmps15
  go_wp2_with fail
  refine (take_no h (1, 1) _).mono ?_
  rintro e w1 ⟨rfl, b1⟩
  replace h := h.below b1
  have HB : Hid (Below w.heap.size w w1) := b1
  clear b1
  go_wp2_with fail
  refine (clear_no h _ _).mono ?_
  rintro e w2 ⟨rfl, b2⟩
  replace h := h.below b2
  replace HB : Hid (Below w.heap.size w w2) := HB.out.trans (b2.mono HB.out.size)
  clear b2
  go_wp2_with fail
  refine (send_no h _ _ _).mono ?_
  rintro e w3 ⟨rfl, b3⟩
  replace h := h.below b3
  replace HB : Hid (Below w.heap.size w w3) := HB.out.trans (b3.mono HB.out.size)
  clear b3
  go_wp2_with fail
  refine (count_no h _ _).mono ?_
  rintro e w4 ⟨rfl, b4⟩
  replace h := h.below b4
  replace HB : Hid (Below w.heap.size w w4) := HB.out.trans (b4.mono HB.out.size)
  clear b4
  go_wp2_with fail
  refine (twice_no h (1, 1) _).mono ?_
  rintro e w5 ⟨rfl, b5⟩
  replace h := h.below b5
  replace HB : Hid (Below w.heap.size w w5) := HB.out.trans (b5.mono HB.out.size)
  clear b5
  go_wp2_with fail
  refine (links_no h).mono ?_
  rintro e w6 ⟨rfl, b6⟩
  replace HB : Hid (Below w.heap.size w w6) := HB.out.trans (b6.mono HB.out.size)
  clear b6 h
  go_wp2_with fail
  go_ret
  exact ⟨rfl, HB.out⟩
set_option maxRecDepth 100000 in
theorem nil_any (i : Int) (w : World) : Calls Try.prog 4 #[.int .i64 i] w fun e w' => e = .returned (.bool true) ∧ Below w.heap.size w w' := by
  go_enter Try.func4, Try.ntmps4
  go_wp2_with fail
  refine (awake_any w).mono ?_
  rintro e w1 ⟨rfl, hB1⟩
  go_wp2_with fail
  refine (none_any (.inl rfl) _).mono ?_
  rintro e w2 ⟨rfl, hB2'⟩
  have hB2 := hB1.trans (hB2'.mono hB1.size)
  clear hB2' hB1
  go_wp2_with fail
  refine (none_any (.inr ⟨w2.heap.size, rfl, by simp⟩) _).mono ?_
  rintro e w3 ⟨rfl, hB3'⟩
  have hB3 := (hB2.alloc hB2.size (.cells #[.map none] 40)).trans (hB3'.mono (by have := hB2.size; simp; omega))
  clear hB3' hB2
  go_wp2_with fail
  go_ret
  exact ⟨rfl, hB3⟩
end Go.Proofs.Ytjclegiohhbkpaa
