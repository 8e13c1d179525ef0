/- The walks of the document's writer. -/
import Derived.Lib.AppendStr
import Derived.Test.YtbbllgpocjipjaaGreatDoorWalksS
import Derived.Test.YtbbllgpocjipjaaGreatDoorRefC
import Derived.Test.YtbbllgpocjipjaaGreatDoorRefS
namespace Go.Proofs.YtbbllgpocjipjaaGreatDoor
open Go.RowKit

/- The document's writer at block g to which the bytes l were put. -/
abbrev WrF (w : World) (base g : Nat) (q : Option Nat) (l : List UInt8) : Prop := RowAt w base g 87 [] q l
theorem owns_al {w : World} {base n : Nat} {v : Value} {xs : List Value} (h : w.ownsRow base 5 1 v n xs) (o : Obj) : (w.alloc o).ownsRow base 5 1 v n xs := by
  refine ⟨h.1, ?_⟩
  rcases h.2 with h | ⟨b, cap, cur, hv, hb, hb2, hr⟩
  · exact .inl h
  · exact .inr ⟨b, cap, cur, hv, hb, (Below.heap_alloc w o b (heap_lt hb2)).trans hb2, hr⟩
theorem row_al {w w1 : World} {base g T : Nat} {tl : List Value} {v v' : Value} {l' : List UInt8} (h1 : w.heap[g]? = some (.cells (v :: tl).toArray T (0, 0))) (hb : base ≤ w.heap.size) (hne : blk v ≠ some g) {o : Obj}
    (hg : (w.alloc o).grownBy w1 (blk v)) {n : Nat} (ho : w1.ownsRow base 5 1 v' n (bv l')) (hat : blk v' = blk v ∨ blk v' = some (w.alloc o).heap.size) :
    RowAt (w1.setCell ⟨g, 0, none⟩ v') base g T tl (blk v') l' ∧ Put g (blk v) w (w1.setCell ⟨g, 0, none⟩ v') (blk v') := by
  have := RowAt.turn ((Below.heap_alloc w o g (heap_lt h1)).trans h1) (by simp; omega) hne hg ho hat
  exact ⟨this.1, (Put.alloc g _ w o).trans this.2⟩
theorem al_le {w : World} {base : Nat} (h : base ≤ w.heap.size) (o : Obj) : base ≤ (w.alloc o).heap.size := by simp; omega
theorem strCells_mkS (s : List UInt8) : Go.Lib.strCells (mkS s) = bv s := by
  simp [Go.Lib.strCells, mkS, bv]
/- A text's bytes behind a row of one's own that is there. -/
theorem app_str {w : World} {base : Nat} {v : Value} {l : List UInt8} {n : Nat} (ty : TypeId) (hown : w.ownsRow base 5 1 v n (bv l)) (s : List UInt8) (hb : base ≤ w.heap.size) (hl : 0 < l.length) (hn : l.length + s.length ≤ 140737488355328) :
    ∃ v' w', (Builtin.append_ #[24, 9] ty #[v, .string (mkS s)]).run Tryz.prog w = .ok v' w' ∧ w'.ownsRow base 5 1 v' (l.length + s.length) (bv (l ++ s)) ∧ w.grownBy w' (blk v) ∧ (blk v' = blk v ∨ blk v' = some w.heap.size) := by
  obtain ⟨i0, hi, hz0, hz1, hz2⟩ := info_parts info5
  have hn' : n = l.length := by have := hown.1; rw [bv_len] at this; omega
  subst hn'
  obtain ⟨v', w', hr, ho, hg, _⟩ := Go.Lib.run_append_own_string (P := Tryz.prog) w base 24 9 ty 5 i0 Tryz.underlying24 Tryz.underlying9 hi hz0 hz1 hz2 v l.length (bv l) hown (mkS s) (by rw [mkS_size]; unfold maxLen; omega) (by rw [mkS_size]; omega) hb
  refine ⟨v', w', hr, ?_, hg, ?_⟩
  · rw [mkS_size, strCells_mkS, ← bv_app] at ho; exact ho
  · rcases hown.2 with ⟨rfl, h0⟩ | ⟨g, cap, cur, rfl, hbg, hgg, hnc, hcm, hcs, htake⟩
    · omega
    · by_cases hroom : l.length + (mkS s).size ≤ cap
      · have hr2 := Go.Lib.run_append_room_string (P := Tryz.prog) w 24 9 ty 5 i0 Tryz.underlying24 Tryz.underlying9 hi hz1 g l.length cap cur hgg (mkS s) hroom (by rw [mkS_size] at *; omega)
        rw [hr] at hr2
        injection hr2 with e1 e2
        exact .inl (by rw [e1]; rfl)
      · have hr2 := Go.Lib.run_append_grow_string (P := Tryz.prog) w 24 9 ty 5 i0 (.int .u8 0) Tryz.underlying24 Tryz.underlying9 hi hz0 ⟨g, 0, none⟩ l.length cap (bv l) (by rw [hz1, bv_len]; omega) (hown.cells (g := g) rfl) (mkS s) (by omega) (by rw [mkS_size] at *; omega) (by rw [hz2]; exact growslice_fits (by omega) (by rw [mkS_size] at *; omega))
        rw [hr] at hr2
        injection hr2 with e1 e2
        exact .inr (by rw [e1]; rfl)
theorem wpList_apps {w : World} {ops : Array Oper} {rest : List Oper} {o : Oper} {a : Act} {Q : Exit → Act → World → Prop} (hgd : o.guard = none) (s x : Operand)
    (ho : o.op = .call { callee := .builtin .append, args := #[s, x], argTypes := #[24, 9] })
    {base n : Nat} (v : Value) {l news : List UInt8} (hs : a.eval s = v) (hxe : a.eval x = .string (mkS news)) (hown : w.ownsRow base 5 1 v n (bv l))
    (hb : base ≤ w.heap.size) (hl : 0 < l.length) (hn : l.length + news.length ≤ 140737488355328)
    (h : ∀ A C w', w'.ownsRow base 5 1 (.slice A (l.length + news.length) C) (l.length + news.length) (bv (l ++ news)) → w.grownBy w' (blk v) → (blk (.slice A (l.length + news.length) C) = blk v ∨ blk (.slice A (l.length + news.length) C) = some w.heap.size) → wpList Tryz.prog ops Q rest (a.put o.dst (.slice A (l.length + news.length) C)) w') :
    wpList Tryz.prog ops Q (o :: rest) a w := by
  refine wpList_plain hgd fun K hK => ?_
  obtain ⟨v', w', hr, h2, h3, h4⟩ := app_str o.type hown news hb hl hn
  unfold Oper.wp execOp
  simp only [ho, resolve, invoke, builtin, Sem.run_bind, Sem.run_pure, Result.andThen_ok, List.map_toArray, List.map_cons, List.map_nil, hs, hxe, hr]
  obtain ⟨A, C, rfl⟩ := owns_form h2
  exact hK _ _ (h A C w' h2 h3 h4)

theorem rfNewW_any (w : World) (base : Nat) (hb : base ≤ w.heap.size) :
    Calls Tryz.prog 25 #[] w fun e w' => e = .returned (.pointer (some ⟨w.heap.size, 0, none⟩)) ∧ WrF w' base w.heap.size none [] ∧ Below w.heap.size w w' ∧ w'.heap.size = w.heap.size + 1 := by
  go_enter Tryz.func25, Tryz.ntmps25
  go_wp2
  go_ret
  refine ⟨rfl, ⟨.slice none 0 0, heap_alloc_new w _, World.ownsRow_nil _ _ _ _, rfl, by simp, ?_⟩, (Below.refl _ _).alloc (Nat.le_refl _) _, by simp⟩
  simp; omega
theorem rfWByte_any {w : World} {base g : Nat} {q : Option Nat} {l : List UInt8} (h : WrF w base g q l) (z : Int) (x : UInt8) (hz : z = (x.toNat : Int)) (hl : l.length + 1 ≤ 140737488355328) :
    Calls Tryz.prog 26 #[.pointer (some ⟨g, 0, none⟩), .int .u8 z] w fun e w' => e = .returned (.tuple #[]) ∧ ∃ q', WrF w' base g q' (l ++ [x]) ∧ Put g q w w' q' := by
  obtain ⟨v, h1, h2, rfl, hne, hb⟩ := h
  have hc := cell_at h1 0
  rw [show (v :: ([] : List Value)).toArray[0]? = some v from rfl] at hc
  have H1 : Hid (w.heap[g]? = some (.cells (v :: []).toArray 87 (0, 0))) := h1
  have HZ : Hid (z = (x.toNat : Int)) := hz
  have hgl := heap_lt h1
  clear h1 hz
  go_enter Tryz.func26, Tryz.ntmps26
  go_wp2_with (at_builtin; refine wpList_app rfl (.tmp 8) (.tmp 10) rfl v _ rfl rfl (owns_al h2 _) (Bs_one _ _ x HZ.out) (al_le hb _) (by simpa using hl) ?_; intro A C w1 ho hg hat _; (have hf1 : w1.frozen? ⟨g, 0, none⟩ = false := frozen_at ((hg.block g (by simp; omega) (fun e => hne e.symm)).trans ((Below.heap_alloc w _ g hgl).trans H1.out)) 0); (have hc1 : w1.cell? ⟨g, 0, none⟩ = some v := by rw [cell_at ((hg.block g (by simp; omega) (fun e => hne e.symm)).trans ((Below.heap_alloc w _ g hgl).trans H1.out)) 0]; rfl))
  go_end0
  have := row_al H1.out hb hne hg ho hat
  exact ⟨rfl, _, this.1, this.2⟩
theorem zw_pos (n : Int) (h0 : 0 ≤ n) (h2 : n < 9223372036854775808) : (zz n : Int) = 2 * n := by
  unfold zz; rw [if_pos h0]; omega
theorem zw_neg (n : Int) (h0 : n < 0) : (zz n : Int) = 2 * (-(n + 1)) + 1 := by
  unfold zz; rw [if_neg (by omega)]; omega
set_option maxRecDepth 100000 in
set_option maxHeartbeats 1000000 in
theorem rfWInt_any {w : World} {base g : Nat} {q : Option Nat} {l : List UInt8} (h : WrF w base g q l) (n : Int) (h1 : -9223372036854775808 ≤ n) (h2 : n < 9223372036854775808) (hn : l.length + (numB n).length ≤ 140737488355328) :
    Calls Tryz.prog 27 #[.pointer (some ⟨g, 0, none⟩), .int .i64 n] w fun e w' => e = .returned (.tuple #[]) ∧ ∃ q', WrF w' base g q' (l ++ numB n) ∧ Put g q w w' q' := by
  have hzl := zz_lt n h1 h2
  have HH : Hid (WrF w base g q l) := h
  have HN : Hid (l.length + (numB n).length ≤ 140737488355328) := hn
  clear h hn
  rcases Int.lt_or_le n 0 with h0 | h0
  · have hz := zw_neg n h0
    go_enter Tryz.func27, Tryz.ntmps27
    go_wp2_with fail
    go_loopw [4] (fun u wr => ∃ (x : Nat) (pre : List UInt8) (q1 : Option Nat), u = .int .u64 x ∧ x < 18446744073709551616 ∧ numB n = pre ++ digs x ∧ WrF wr base g q1 (l ++ pre) ∧ Put g q w wr q1)
      (fun u _ => (intOf u).toNat)
    case atStart =>
      refine ⟨zz n, [], q, ?_, hzl, rfl, by rw [List.append_nil]; exact HH.out, Put.refl _ _ _⟩
      rw [hz]
    case round =>
      obtain ⟨x, pre, q1, rfl, hx, hd, hr, hp⟩ := hrel
      have hl1 : (numB n).length = pre.length + (digs x).length := by rw [hd]; simp
      have hpos := digs_pos x
      obtain ⟨v, r1, r2, rfl, hne, hb⟩ := hr
      have hc := cell_at r1 0
      rw [show (v :: ([] : List Value)).toArray[0]? = some v from rfl] at hc
      have H1 : Hid (wr.heap[g]? = some (.cells (v :: []).toArray 87 (0, 0))) := r1
      have hgl := heap_lt r1
      clear r1
      by_cases hbb : x < 128
      · have hb1 : ¬ ((128 : Int) ≤ x) := by omega
        rw [digs_small hbb] at hd
        have hlen : (l ++ pre).length + [UInt8.ofNat x].length ≤ 140737488355328 := by rw [digs_small hbb] at hl1; simp at hl1 ⊢; have := HN.out; omega
        go_wp2_with (at_builtin; refine wpList_app rfl (.tmp 37) (.tmp 40) rfl v _ rfl rfl (owns_al r2 _) (Bs_one _ _ (UInt8.ofNat x) (by rw [ofNat_small (by omega)])) (al_le hb _) hlen ?_; intro A C w1 ho hg hat _; (have hf1 : w1.frozen? ⟨g, 0, none⟩ = false := frozen_at ((hg.block g (by simp; omega) (fun e => hne e.symm)).trans ((Below.heap_alloc wr _ g hgl).trans H1.out)) 0); (have hc1 : w1.cell? ⟨g, 0, none⟩ = some v := by rw [cell_at ((hg.block g (by simp; omega) (fun e => hne e.symm)).trans ((Below.heap_alloc wr _ g hgl).trans H1.out)) 0]; rfl))
        go_end0
        have h3 := row_al H1.out hb hne hg ho hat
        simp only [List.length_append, List.length_cons, List.length_nil, Nat.zero_add] at h3
        rw [List.append_assoc] at h3
        exact ⟨rfl, _, h3.1, hp.trans h3.2⟩
      · have hb1 : (128 : Int) ≤ x := by omega
        rw [digs_big hbb] at hd hl1
        have hlen : (l ++ pre).length + [UInt8.ofNat (x % 128 + 128)].length ≤ 140737488355328 := by simp at hl1 ⊢; have := HN.out; omega
        go_wp2_with (at_builtin; refine wpList_app rfl (.tmp 22) (.tmp 27) rfl v _ rfl rfl (owns_al r2 _) (Bs_one _ _ (UInt8.ofNat (x % 128 + 128)) (by rw [ofNat_small (by omega)]; omega)) (al_le hb _) hlen ?_; intro A C w1 ho hg hat _; (have hf1 : w1.frozen? ⟨g, 0, none⟩ = false := frozen_at ((hg.block g (by simp; omega) (fun e => hne e.symm)).trans ((Below.heap_alloc wr _ g hgl).trans H1.out)) 0); (have hc1 : w1.cell? ⟨g, 0, none⟩ = some v := by rw [cell_at ((hg.block g (by simp; omega) (fun e => hne e.symm)).trans ((Below.heap_alloc wr _ g hgl).trans H1.out)) 0]; rfl))
        have h3 := row_al H1.out hb hne hg ho hat
        simp only [List.length_append, List.length_cons, List.length_nil, Nat.zero_add] at h3
        rw [List.append_assoc] at h3
        go_roundw
        case rel =>
          refine ⟨x / 128, pre ++ [UInt8.ofNat (x % 128 + 128)], _, by simp, by omega, by rw [hd]; simp, h3.1, hp.trans h3.2⟩
        case measure =>
          simp [intOf]; omega
  · have hz := zw_pos n h0 h2
    go_enter Tryz.func27, Tryz.ntmps27
    go_wp2_with fail
    go_loopw [4] (fun u wr => ∃ (x : Nat) (pre : List UInt8) (q1 : Option Nat), u = .int .u64 x ∧ x < 18446744073709551616 ∧ numB n = pre ++ digs x ∧ WrF wr base g q1 (l ++ pre) ∧ Put g q w wr q1)
      (fun u _ => (intOf u).toNat)
    case atStart =>
      refine ⟨zz n, [], q, ?_, hzl, rfl, by rw [List.append_nil]; exact HH.out, Put.refl _ _ _⟩
      rw [hz]
    case round =>
      obtain ⟨x, pre, q1, rfl, hx, hd, hr, hp⟩ := hrel
      have hl1 : (numB n).length = pre.length + (digs x).length := by rw [hd]; simp
      have hpos := digs_pos x
      obtain ⟨v, r1, r2, rfl, hne, hb⟩ := hr
      have hc := cell_at r1 0
      rw [show (v :: ([] : List Value)).toArray[0]? = some v from rfl] at hc
      have H1 : Hid (wr.heap[g]? = some (.cells (v :: []).toArray 87 (0, 0))) := r1
      have hgl := heap_lt r1
      clear r1
      by_cases hbb : x < 128
      · have hb1 : ¬ ((128 : Int) ≤ x) := by omega
        rw [digs_small hbb] at hd
        have hlen : (l ++ pre).length + [UInt8.ofNat x].length ≤ 140737488355328 := by rw [digs_small hbb] at hl1; simp at hl1 ⊢; have := HN.out; omega
        go_wp2_with (at_builtin; refine wpList_app rfl (.tmp 37) (.tmp 40) rfl v _ rfl rfl (owns_al r2 _) (Bs_one _ _ (UInt8.ofNat x) (by rw [ofNat_small (by omega)])) (al_le hb _) hlen ?_; intro A C w1 ho hg hat _; (have hf1 : w1.frozen? ⟨g, 0, none⟩ = false := frozen_at ((hg.block g (by simp; omega) (fun e => hne e.symm)).trans ((Below.heap_alloc wr _ g hgl).trans H1.out)) 0); (have hc1 : w1.cell? ⟨g, 0, none⟩ = some v := by rw [cell_at ((hg.block g (by simp; omega) (fun e => hne e.symm)).trans ((Below.heap_alloc wr _ g hgl).trans H1.out)) 0]; rfl))
        go_end0
        have h3 := row_al H1.out hb hne hg ho hat
        simp only [List.length_append, List.length_cons, List.length_nil, Nat.zero_add] at h3
        rw [List.append_assoc] at h3
        exact ⟨rfl, _, h3.1, hp.trans h3.2⟩
      · have hb1 : (128 : Int) ≤ x := by omega
        rw [digs_big hbb] at hd hl1
        have hlen : (l ++ pre).length + [UInt8.ofNat (x % 128 + 128)].length ≤ 140737488355328 := by simp at hl1 ⊢; have := HN.out; omega
        go_wp2_with (at_builtin; refine wpList_app rfl (.tmp 22) (.tmp 27) rfl v _ rfl rfl (owns_al r2 _) (Bs_one _ _ (UInt8.ofNat (x % 128 + 128)) (by rw [ofNat_small (by omega)]; omega)) (al_le hb _) hlen ?_; intro A C w1 ho hg hat _; (have hf1 : w1.frozen? ⟨g, 0, none⟩ = false := frozen_at ((hg.block g (by simp; omega) (fun e => hne e.symm)).trans ((Below.heap_alloc wr _ g hgl).trans H1.out)) 0); (have hc1 : w1.cell? ⟨g, 0, none⟩ = some v := by rw [cell_at ((hg.block g (by simp; omega) (fun e => hne e.symm)).trans ((Below.heap_alloc wr _ g hgl).trans H1.out)) 0]; rfl))
        have h3 := row_al H1.out hb hne hg ho hat
        simp only [List.length_append, List.length_cons, List.length_nil, Nat.zero_add] at h3
        rw [List.append_assoc] at h3
        go_roundw
        case rel =>
          refine ⟨x / 128, pre ++ [UInt8.ofNat (x % 128 + 128)], _, by simp, by omega, by rw [hd]; simp, h3.1, hp.trans h3.2⟩
        case measure =>
          simp [intOf]; omega
theorem rfWDone_any {w : World} {base g : Nat} {q : Option Nat} {l : List UInt8} (h : WrF w base g q l) (hl : l.length ≤ 140737488355328) :
    Calls Tryz.prog 29 #[.pointer (some ⟨g, 0, none⟩)] w fun e w' => ∃ v, e = .returned v ∧ New w w' v l := by
  obtain ⟨v, h1, h2, rfl, hne, hb⟩ := h
  have hc := cell_at h1 0
  rw [show (v :: ([] : List Value)).toArray[0]? = some v from rfl] at hc
  have HX : Hid (Bs w v l) := Bs.of_owns h2
  have hgl := heap_lt h1
  obtain ⟨A, C, rfl⟩ := owns_form h2
  clear h1 h2
  go_enter Tryz.func29, Tryz.ntmps29
  go_wp2_with (at_builtin; refine wpList_app rfl (.tmp 3) (.tmp 7) rfl (.slice (some ⟨w.heap.size, 0, none⟩) 0 0) (.slice A l.length C) rfl rfl (owns_empty w) (HX.out.alloc _) (by simp) (by simp; omega) ?_; intro A1 C1 w1 ho hg hat _; (have HO : Hid (w1.ownsRow w.heap.size 5 1 (.slice A1 l.length C1) l.length (bv l)) := by simpa [Hid] using ho); (have HB : Hid (Below w.heap.size w w1) := ((Below.refl _ _).alloc (Nat.le_refl _) _).grown hg (by simp) (fun k hk => by simp [blk, Value.ownBlock] at hk; omega)); clear ho hg hat)
  go_ret
  exact ⟨_, rfl, HO.out, HB.out⟩
theorem rfWText_any {w : World} {base g : Nat} {q : Option Nat} {l : List UInt8} (h : WrF w base g q l) (s : List UInt8) (hb : s.length < 4611686018427387904) (hn : l.length + (textB s).length ≤ 140737488355328) :
    Calls Tryz.prog 58 #[.pointer (some ⟨g, 0, none⟩), .string (mkS s)] w fun e w' => e = .returned (.tuple #[]) ∧ ∃ q', WrF w' base g q' (l ++ textB s) ∧ Put g q w w' q' := by
  have HH : Hid (WrF w base g q l) := h
  have HN : Hid (l.length + (textB s).length ≤ 140737488355328) := hn
  have ht : (textB s).length = (numB s.length).length + s.length := by simp [textB]
  have HT : Hid ((textB s).length = (numB s.length).length + s.length) := ht
  clear ht
  have hms := mkS_size s
  clear h hn
  go_enter Tryz.func58, Tryz.ntmps58
  go_wp2_with fail
  refine (rfWInt_any HH.out (s.length : Int) (by omega) (by omega) (by have := HN.out; have := HT.out; omega)).mono ?_
  rintro e w2 ⟨rfl, q2, hr2, hp2⟩
  obtain ⟨v, h1, h2, rfl, hne, hb2⟩ := hr2
  have hc := cell_at h1 0
  rw [show (v :: ([] : List Value)).toArray[0]? = some v from rfl] at hc
  have H1 : Hid (w2.heap[g]? = some (.cells (v :: []).toArray 87 (0, 0))) := h1
  have hpos : 0 < (l ++ numB s.length).length := by have := digs_pos (zz s.length); simp [numB]; omega
  have hlen : (l ++ numB s.length).length + s.length ≤ 140737488355328 := by have := HN.out; have := HT.out; simp; omega
  clear h1
  go_wp2_with (at_builtin; refine wpList_apps rfl (.tmp 12) (.tmp 13) rfl v rfl rfl h2 hb2 hpos hlen ?_; intro A C w1 ho hg hat; (have hf1 : w1.frozen? ⟨g, 0, none⟩ = false := frozen_at ((hg.block g (heap_lt H1.out) (fun e => hne e.symm)).trans H1.out) 0); (have hc1 : w1.cell? ⟨g, 0, none⟩ = some v := by rw [cell_at ((hg.block g (heap_lt H1.out) (fun e => hne e.symm)).trans H1.out) 0]; rfl))
  go_end0
  have h3 := RowAt.turn H1.out hb2 hne hg ho hat
  simp only [List.length_append] at h3
  rw [List.append_assoc] at h3
  exact ⟨rfl, _, h3.1, hp2.trans h3.2⟩
theorem rfWBytes_any {w : World} {base g : Nat} {q : Option Nat} {l : List UInt8} (h : WrF w base g q l) {x : Value} {b : List UInt8} (hx : Bs w x b) (hb : b.length < 4611686018427387904) (hn : l.length + (textB b).length ≤ 140737488355328) :
    Calls Tryz.prog 59 #[.pointer (some ⟨g, 0, none⟩), x] w fun e w' => e = .returned (.tuple #[]) ∧ ∃ q', WrF w' base g q' (l ++ textB b) ∧ Put g q w w' q' := by
  have HH : Hid (WrF w base g q l) := h
  have hcv := convert_bytes hx
  obtain ⟨A, C, rfl⟩ := bs_form hx
  clear h hx
  go_enter Tryz.func59, Tryz.ntmps59
  go_wp2_with fail
  refine (rfWText_any HH.out b hb hn).mono ?_
  rintro e w2 ⟨rfl, q2, hr2, hp2⟩
  go_wp2
  go_end0
  exact ⟨rfl, q2, hr2, hp2⟩
end Go.Proofs.YtbbllgpocjipjaaGreatDoor
/- The walks of the document's configs as bytes: Write, Put. -/
namespace Go.Proofs.YtbbllgpocjipjaaGreatDoor
open Go.RowKit

theorem blk_lt {w : World} {bx : Nat} {o : Obj} (h : w.heap[bx]? = some o) : bx < w.heap.size := by
  rcases Nat.lt_or_ge bx w.heap.size with h1 | h1
  · exact h1
  · rw [Array.getElem?_eq_none h1] at h; cases h
theorem box_put {w w' : World} {g bx : Nat} {q q' : Option Nat} {o : Obj} (hp : Put g q w w' q') (h : w.heap[bx]? = some o) (hg : g ≠ bx) (hq : q ≠ some bx) : w'.heap[bx]? = some o ∧ q' ≠ some bx := by
  have hlt := blk_lt h
  refine ⟨?_, ?_⟩
  · rw [hp.chg.block bx hlt (by rintro (e | e); exact hg e.symm; exact hq e)]; exact h
  · rcases hp.lies with rfl | ⟨k, rfl, hk⟩
    · exact hq
    · intro e; cases e; omega
theorem box_al {w : World} {bx : Nat} {o : Obj} (h : w.heap[bx]? = some o) (o' : Obj) : (w.alloc o').heap[bx]? = some o := by
  rw [Below.heap_alloc _ _ _ (blk_lt h)]; exact h
set_option maxRecDepth 100000 in
set_option maxHeartbeats 4000000 in
theorem rf4Write_any {w0 w : World} {base g : Nat} {q : Option Nat} {B : List UInt8} (hB0 : Below w0.heap.size w0 w) (hb : w0.heap.size ≤ base) (hg : base ≤ g) (hw : WrF w base g q B) (hBl : B.length ≤ 1000000) {v : Value} {l : List Mem} (h : Mems w0 v l) (ver : Int) (hc : chk ver l = 0) :
    Calls Tryz.prog 81 #[.pointer (some ⟨g, 0, none⟩), .agg #[.int .i64 ver, v]] w fun e w' => e = .returned (.tuple #[]) ∧ ∃ q', WrF w' base g q' (B ++ cfgB ver l) ∧ Put g q w w' q' := by
  have HM : Hid (Mems w0 v l) := h
  have HB0 : Hid (Below w0.heap.size w0 w) := hB0
  obtain ⟨A, C, rfl⟩ := h.form
  clear h hB0
  obtain ⟨h7, hv1, hv2, hfa, -⟩ := chk_ok hc
  have hall : ∀ m ∈ l, fitRole m = true ∧ 0 < m.id ∧ m.id ≤ 7 := fun m hm => ⟨(fitAll_mem hfa m hm).1, (fitAll_mem hfa m hm).2⟩
  have HALL : Hid (∀ m ∈ l, fitRole m = true ∧ 0 < m.id ∧ m.id ≤ 7) := hall
  have hb1 := numB_len ver (by omega) (by omega)
  have hb2 := numB_len (l.length : Int) (by omega) (by omega)
  have hgl := hw.lt
  have hgn : g ≠ w.heap.size := by omega
  have HBQ := fun i e => (hw.qlt i e).1
  have hqn : q ≠ some w.heap.size := fun e => by have := hw.qlt _ e; omega
  clear hc hfa hall
  go_enter Tryz.func81, Tryz.ntmps81
  go_wp2_with fail
  have hx0 := heap_alloc_new w (.cells #[.int .i64 ver, .slice A l.length C] 28 (0, 0))
  have h1 := rfWInt_any (hw.alloc (.cells #[.int .i64 ver, .slice A l.length C] 28)) ver (by omega) (by omega) (by omega)
  refine h1.mono ?_
  rintro e w1 ⟨rfl, q1, hw1, hp1⟩
  obtain ⟨hx1, hq1⟩ := box_put hp1 hx0 hgn hqn
  have P1 := (Put.alloc g q w _).trans hp1
  have z1 : w1.cell? ⟨w.heap.size, 1, none⟩ = some (.slice A l.length C) := by rw [cell_at hx1]; rfl
  clear h1 hx0 hp1 hw
  go_wp2_with fail
  have h2 := rfWInt_any hw1 (l.length : Int) (by omega) (by omega) (by simp only [List.length_append]; omega)
  refine h2.mono ?_
  rintro e w2 ⟨rfl, q2, hw2, hp2⟩
  obtain ⟨hx2, hq2⟩ := box_put hp2 hx1 hgn hq1
  have P2 := P1.trans hp2
  have HW2 : Hid (WrF w2 base g q2 (B ++ numB ver ++ numB l.length)) := hw2
  clear h2 hx1 hp2 hw1 P1 z1 hw2
  go_wp2_with fail
  go_loopw [4] (fun i wr => ∃ (k : Nat) (q' : Option Nat), i = .int .i64 k ∧ k ≤ l.length ∧ WrF wr base g q' (B ++ (numB ver ++ (numB l.length ++ memsB (l.take k)))) ∧ Put g q w wr q' ∧ q' ≠ some w.heap.size ∧ wr.heap[w.heap.size]? = some (.cells #[.int .i64 ver, .slice A l.length C] 28 (0, 0))) (fun i _ => l.length - (intOf i).toNat)
  case atStart => exact ⟨0, q2, rfl, by omega, by simpa [memsB] using HW2.out, P2, hq2, hx2⟩
  case round =>
    clear P2 hq2 hx2 HW2
    obtain ⟨k, q3, rfl, hk, hw, hp, hqr, hx⟩ := hrel
    have HW : Hid (WrF wr base g q3 (B ++ (numB ver ++ (numB l.length ++ memsB (l.take k))))) := hw
    have HP : Hid (Put g q w wr q3) := hp
    have HX : Hid (wr.heap[w.heap.size]? = some (.cells #[.int .i64 ver, .slice A l.length C] 28 (0, 0))) := hx
    have hln := memsB_len (l.take k) (fun m hm => HALL.out m (List.mem_of_mem_take hm))
    have hlk : (l.take k).length ≤ 7 := by rw [List.length_take]; omega
    have hltx : w.heap.size < wr.heap.size := blk_lt hx
    have hgr := hw.lt
    have z1 : wr.cell? ⟨w.heap.size, 1, none⟩ = some (.slice A l.length C) := by rw [cell_at hx]; rfl
    have HBr : Hid (Below w0.heap.size w0 wr) := by
      refine HB0.out.trans (hp.chg.below ?_ HB0.out.size)
      rintro i (e | e)
      · omega
      · have := HBQ i e
        omega
    clear hw hp hx
    by_cases hlt : k < l.length
    · obtain ⟨b, o, rfl, hbb, c0, c1, c2, c3⟩ := (HM.out.below' HBr.out).at' k hlt
      have hx := HALL.out _ (List.getElem_mem hlt)
      have hr := fitRole_weight hx.1
      have HT : Hid (l.take (k + 1) = l.take k ++ [l[k]'hlt]) := take_snoc hlt
      generalize (l[k]'hlt) = m at c0 c1 c2 c3 HT hx hr
      obtain ⟨mi, mr, mw, mg⟩ := m
      dsimp only at c0 c1 c2 c3 hx hr
      have hro : 0 ≤ mr ∧ mr ≤ 2 := by rcases hr.2.2.2.2.2 with h | h <;> omega
      obtain ⟨-, hi1, hi2⟩ := hx
      obtain ⟨hwt1, hwt2, hg1, hg2, -, -⟩ := hr
      obtain ⟨hr1, hr2⟩ := hro
      have n1 := numB_len mi (by omega) (by omega)
      have n2 := numB_len mr (by omega) (by omega)
      have n3 := numB_len mw (by omega) (by omega)
      have n4 := numB_len mg (by omega) (by omega)
      have hgm : g ≠ wr.heap.size := by omega
      have hqy5 : q3 ≠ some wr.heap.size := fun e => by have := HW.out.qlt _ e; omega
      have hqx5 := hqr
      have hx5 := box_al HX.out (.cells #[.int .i64 mi, .int .u8 mr, .int .i64 mw, .int .i64 mg] 96)
      have hy5 := heap_alloc_new wr (.cells #[.int .i64 mi, .int .u8 mr, .int .i64 mw, .int .i64 mg] 96 (0, 0))
      have P5 := HP.out.trans (Put.alloc g q3 wr (.cells #[.int .i64 mi, .int .u8 mr, .int .i64 mw, .int .i64 mg] 96))
      have HX5 : Hid ((wr.alloc (.cells #[.int .i64 mi, .int .u8 mr, .int .i64 mw, .int .i64 mg] 96)).heap[w.heap.size]? = some (.cells #[.int .i64 ver, .slice (some ⟨b, o, none⟩) l.length C] 28 (0, 0))) := hx5
      have HY5 : Hid ((wr.alloc (.cells #[.int .i64 mi, .int .u8 mr, .int .i64 mw, .int .i64 mg] 96)).heap[wr.heap.size]? = some (.cells #[.int .i64 mi, .int .u8 mr, .int .i64 mw, .int .i64 mg] 96 (0, 0))) := hy5
      clear hx5 hy5
      go_wp2_with fail
      have hx5 := HX5.out
      have hy5 := HY5.out
      have h6 := rfWInt_any (HW.out.alloc (.cells #[.int .i64 mi, .int .u8 mr, .int .i64 mw, .int .i64 mg] 96)) mi (by omega) (by omega) (by simp only [List.length_append]; omega)
      refine h6.mono ?_
      clear h6
      rintro e w6 ⟨rfl, q6, hw6, hp6⟩
      obtain ⟨hx6, hqx6⟩ := box_put hp6 hx5 hgn hqx5
      obtain ⟨hy6, hqy6⟩ := box_put hp6 hy5 hgm hqy5
      have P6 := P5.trans hp6
      have y1_6 : w6.cell? ⟨wr.heap.size, 1, none⟩ = some (.int .u8 mr) := by rw [cell_at hy6]; rfl
      clear c0 c1 c2 c3 z1
      go_wp2_with fail
      have h7 := rfWInt_any hw6 mr (by omega) (by omega) (by simp only [List.length_append]; omega)
      refine h7.mono ?_
      clear h7
      rintro e w7 ⟨rfl, q7, hw7, hp7⟩
      obtain ⟨hx7, hqx7⟩ := box_put hp7 hx6 hgn hqx6
      obtain ⟨hy7, hqy7⟩ := box_put hp7 hy6 hgm hqy6
      have P7 := P6.trans hp7
      have y2_7 : w7.cell? ⟨wr.heap.size, 2, none⟩ = some (.int .i64 mw) := by rw [cell_at hy7]; rfl
      go_wp2_with fail
      have h8 := rfWInt_any hw7 mw (by omega) (by omega) (by simp only [List.length_append]; omega)
      refine h8.mono ?_
      clear h8
      rintro e w8 ⟨rfl, q8, hw8, hp8⟩
      obtain ⟨hx8, hqx8⟩ := box_put hp8 hx7 hgn hqx7
      obtain ⟨hy8, hqy8⟩ := box_put hp8 hy7 hgm hqy7
      have P8 := P7.trans hp8
      have y3_8 : w8.cell? ⟨wr.heap.size, 3, none⟩ = some (.int .i64 mg) := by rw [cell_at hy8]; rfl
      go_wp2_with fail
      have h9 := rfWInt_any hw8 mg (by omega) (by omega) (by simp only [List.length_append]; omega)
      refine h9.mono ?_
      clear h9
      rintro e w9 ⟨rfl, q9, hw9, hp9⟩
      obtain ⟨hx9, hqx9⟩ := box_put hp9 hx8 hgn hqx8
      obtain ⟨hy9, hqy9⟩ := box_put hp9 hy8 hgm hqy8
      have P9 := P8.trans hp9
      have HW9 : Hid (WrF w9 base g q9 (B ++ (numB ver ++ (numB l.length ++ memsB (l.take (k + 1)))))) := by
        show WrF _ _ _ _ _
        rw [HT.out, memsB_snoc]
        simpa [memB] using hw9
      have P9 := P9
      clear hw6 hw7 hw8 hw9
      go_wp2
      exact ⟨⟨k + 1, q9, by go_num, by omega, HW9.out, P9, hqx9, hx9⟩, by simp [intOf]; omega⟩
    · have hkk : k = l.length := by omega
      subst hkk
      rw [List.take_length] at HW
      go_wp2
      go_end0
      exact ⟨rfl, q3, HW.out, HP.out⟩
theorem rf4Put_no {w : World} {v : Value} {l : List Mem} (h : Mems w v l) (ver : Int) (hc : chk ver l ≠ 0) :
    Calls Tryz.prog 61 #[.agg #[.int .i64 ver, v]] w fun e w' => e = .returned (.tuple #[.slice none 0 0, .int .i64 (chk ver l)]) ∧ Below w.heap.size w w' := by
  have HM : Hid (Mems w v l) := h
  obtain ⟨A, C, rfl⟩ := h.form
  clear h
  have hB1 : Below w.heap.size w (w.alloc (.cells #[.int .i64 ver, .slice A l.length C] 28)) := (Below.refl _ _).alloc (Nat.le_refl _) _
  have hck := rf4Check_any (HM.out.below' hB1) ver
  have hcb : (chk ver l != 0) = true := by simpa using hc
  generalize chk ver l = K at hck hcb ⊢
  clear hc
  go_enter Tryz.func61, Tryz.ntmps61
  go_wp2_with fail
  refine hck.mono ?_
  rintro e w2 ⟨rfl, hB2⟩
  have HB2 : Hid (Below w.heap.size w w2) := hB1.trans (hB2.mono (by simp))
  clear hB1 hB2 hck
  go_wp2
  go_ret2
  exact ⟨rfl, HB2.out⟩
theorem rf4Put_yes {w : World} {v : Value} {l : List Mem} (h : Mems w v l) (ver : Int) (hc : chk ver l = 0) :
    Calls Tryz.prog 61 #[.agg #[.int .i64 ver, v]] w fun e w' => ∃ x, e = .returned (.tuple #[x, .int .i64 0]) ∧ New w w' x (cfgB ver l) := by
  have HM : Hid (Mems w v l) := h
  have HCC : Hid (chk ver l = 0) := hc
  obtain ⟨A, C, rfl⟩ := h.form
  clear h
  have hB1 : Below w.heap.size w (w.alloc (.cells #[.int .i64 ver, .slice A l.length C] 28)) := (Below.refl _ _).alloc (Nat.le_refl _) _
  have hck := rf4Check_any (HM.out.below' hB1) ver
  rw [hc] at hck
  clear hc
  go_enter Tryz.func61, Tryz.ntmps61
  go_wp2_with fail
  refine hck.mono ?_
  rintro e w2 ⟨rfl, hB2⟩
  have HB2 : Hid (Below w.heap.size w w2) := hB1.trans (hB2.mono (by simp))
  have hx2 : w2.heap[w.heap.size]? = some (.cells #[.int .i64 ver, .slice A l.length C] 28 (0, 0)) := by rw [hB2.block _ (by simp)]; exact heap_alloc_new w _
  have hs2 := blk_lt hx2
  clear hB1 hB2 hck
  go_wp2_with fail
  refine (rfNewW_any w2 w2.heap.size (Nat.le_refl _)).mono ?_
  rintro e w3 ⟨rfl, hw3, hB3, -⟩
  have HB3 : Hid (Below w.heap.size w w3) := HB2.out.trans (hB3.mono HB2.out.size)
  have hx3 : w3.heap[w.heap.size]? = some (.cells #[.int .i64 ver, .slice A l.length C] 28 (0, 0)) := by rw [hB3.block _ hs2]; exact hx2
  have z0 : w3.cell? ⟨w.heap.size, 0, none⟩ = some (.int .i64 ver) := by rw [cell_at hx3]; rfl
  have z1 : w3.cell? ⟨w.heap.size, 1, none⟩ = some (.slice A l.length C) := by rw [cell_at hx3]; rfl
  have h4 := rf4Write_any HB3.out (base := w2.heap.size) (by have := HB2.out.size; omega) (Nat.le_refl _) hw3 (by simp) HM.out ver HCC.out
  have HW3 : Hid (WrF w3 w2.heap.size w2.heap.size none []) := hw3
  clear hx2 hB3 hx3 hw3
  go_wp2_with fail
  refine h4.mono ?_
  rintro e w4 ⟨rfl, q4, hw4, hp4⟩
  have HB4 : Hid (Below w.heap.size w w4) := HB3.out.trans ((Put.far HW3.out (Nat.le_refl _) hp4).mono (by have := HB2.out.size; omega))
  rw [List.nil_append] at hw4
  have h5 := rfWDone_any hw4 (by have := cfgB_len HCC.out; omega)
  clear h4 hw4 hp4 z0 z1
  go_wp2_with fail
  refine h5.mono ?_
  rintro e w5 ⟨v5, rfl, hn5⟩
  have HN5 : Hid (New w w5 v5 (cfgB ver l)) := hn5.over HB4.out
  obtain ⟨A5, C5, rfl⟩ := bs_form hn5.bs
  clear h5 hn5
  generalize (cfgB ver l).length = N5 at HN5
  go_wp2
  go_ret2
  exact ⟨_, rfl, HN5.out⟩
end Go.Proofs.YtbbllgpocjipjaaGreatDoor
/- The walks of the document's configs as bytes: small, Read, Get. -/
namespace Go.Proofs.YtbbllgpocjipjaaGreatDoor
open Go.RowKit

set_option maxRecDepth 100000 in
theorem rf4small_any {w : World} {g : Nat} {q : Option Nat} {r : Rd} (h : Rdf w g q r) (most : Int) (h0 : 0 ≤ most) (h1 : most ≤ 1000000) :
    Calls Tryz.prog 96 #[.pointer (some ⟨g, 0, none⟩), .int .i64 most] w fun e w' => e = .returned (.int .i64 (rdSmall r most).1) ∧ Rdf w' g q (rdSmall r most).2 ∧ Chg (One g) w w' := by
  have hi := rfInt_any h
  have hr := rdInt_range r
  unfold rdSmall
  generalize rdInt r = p at hi hr ⊢
  obtain ⟨n, r'⟩ := p
  dsimp only at hi hr ⊢
  generalize hZ : (if n < 0 ∨ most < n then most + 1 else n) = Z
  have HZ : Hid ((if n < 0 ∨ most < n then most + 1 else n) = Z) := hZ
  clear hZ
  go_enter Tryz.func96, Tryz.ntmps96
  go_wp2_with fail
  refine hi.mono ?_
  rintro e w1 ⟨rfl, hq, hc⟩
  have HQ : Hid (Rdf w1 g q r') := hq
  have HC : Hid (Chg (One g) w w1) := hc
  clear hi hq hc h
  by_cases hn : n < 0
  · obtain rfl : most + 1 = Z := by have := HZ.out; rw [if_pos (Or.inl hn)] at this; exact this
    go_wp2
    go_ret
    exact ⟨rfl, HQ.out, HC.out⟩
  · by_cases hn2 : most < n
    · obtain rfl : most + 1 = Z := by have := HZ.out; rw [if_pos (Or.inr hn2)] at this; exact this
      go_wp2
      go_ret
      exact ⟨rfl, HQ.out, HC.out⟩
    · obtain rfl : n = Z := by have := HZ.out; rw [if_neg (by omega)] at this; exact this
      go_wp2
      go_ret
      exact ⟨rfl, HQ.out, HC.out⟩
theorem rdSmall_le (r : Rd) (m : Int) (hm : 0 ≤ m) : 0 ≤ (rdSmall r m).1 ∧ (rdSmall r m).1 ≤ m + 1 := by
  unfold rdSmall
  dsimp only
  split <;> omega
/- What Read tells: a config, or that it may not be; the reader has gone on. -/
def RGot (w w' : World) (g : Nat) (q : Option Nat) (e : Ending) (ver : Int) (ms : List Mem) (r : Rd) : Prop :=
  Rdf w' g q r ∧ Chg (One g) w w' ∧ ((r.isSome = true ∧ chk ver ms = 0 ∧ ∃ v, e = .returned (.tuple #[.agg #[.int .i64 ver, v], .bool true]) ∧ w'.ownsRow w.heap.size 96 4 v ms.length (mvs ms)) ∨
    (¬ (r.isSome = true ∧ chk ver ms = 0) ∧ e = .returned (.tuple #[.agg #[.int .i64 0, .slice none 0 0], .bool false])))
/- What holds between the rounds of Read. -/
structure RS (w w2 : World) (g p1 : Nat) (q : Option Nat) (ver : Int) (W : World) (r : Rd) (v : Value) (k : Nat) (ms : List Mem) : Prop where
  rd : Rdf W g q r
  ev : W.heap[p1]? = some (.cells #[.int .i64 ver, v] 28 (0, 0))
  re : W.heap[w.heap.size]? = some (.cells #[.int .i64 0, .slice none 0 0] 28 (0, 0))
  row : W.ownsRow w2.heap.size 96 4 v k (mvs ms)
  chg : Chg (One g) w W
  sz : w2.heap.size ≤ W.heap.size
  g1 : g < w.heap.size
  q1 : ∀ i, q = some i → i < w.heap.size
  p0 : w.heap.size < p1
  p2 : p1 < w2.heap.size
theorem RS.call {w w2 : World} {g p1 : Nat} {q : Option Nat} {ver : Int} {W W' : World} {r r' : Rd} {v : Value} {k : Nat} {ms : List Mem} (h : RS w w2 g p1 q ver W r v k ms) (hc : Chg (One g) W W') (hq : Rdf W' g q r') : RS w w2 g p1 q ver W' r' v k ms := by
  have hp0 := h.p0
  have hp2 := h.p2
  have hg1 := h.g1
  refine ⟨hq, ?_, ?_, ?_, h.chg.trans hc, Nat.le_trans h.sz hc.size, h.g1, h.q1, h.p0, h.p2⟩
  · rw [hc.block _ (blk_lt h.ev) (fun e => by have : p1 = g := e; omega)]; exact h.ev
  · rw [hc.block _ (blk_lt h.re) (fun e => by have : w.heap.size = g := e; omega)]; exact h.re
  · exact owns_keep h.row hc (fun i hi e => by have := (h.row.lt i hi).1; have : i = g := e; omega)
theorem RS.keep {S : Nat → Prop} {w w2 : World} {g p1 : Nat} {q : Option Nat} {ver : Int} {W W' : World} {r : Rd} {v : Value} {k : Nat} {ms : List Mem} (h : RS w w2 g p1 q ver W r v k ms) (hc : Chg S W W') (hS : ∀ i, S i → w2.heap.size ≤ i ∧ v.ownBlock ≠ some i) : RS w w2 g p1 q ver W' r v k ms := by
  have hp0 := h.p0
  have hp2 := h.p2
  have hg1 := h.g1
  refine ⟨h.rd.keep hc (fun e => by have := (hS _ e).1; omega) (fun i hi e => by have := (hS _ e).1; have := h.q1 i hi; omega), ?_, ?_, ?_, h.chg.trans' hc (fun i hi e => by have := (hS _ e).1; omega), Nat.le_trans h.sz hc.size, h.g1, h.q1, h.p0, h.p2⟩
  · rw [hc.block _ (blk_lt h.ev) (fun e => by have := (hS _ e).1; omega)]; exact h.ev
  · rw [hc.block _ (blk_lt h.re) (fun e => by have := (hS _ e).1; omega)]; exact h.re
  · exact owns_keep h.row hc (fun i hi e => (hS _ e).2 hi)
theorem RS.at8 {w w2 : World} {g p1 : Nat} {q : Option Nat} {ver : Int} {X w8 : World} {r : Rd} {v : Value} {k : Nat} {ms : List Mem} {o : Obj} (h : RS w w2 g p1 q ver X r v k ms) (hg : (X.alloc o).grownBy w8 v.ownBlock) : w8.heap[p1]? = some (.cells #[.int .i64 ver, v] 28 (0, 0)) := by
  have hp2 := h.p2
  have hc : Chg (fun i => v.ownBlock = some i) X w8 := (Chg.alloc _ X o).trans (Chg.of_grown hg)
  rw [hc.block _ (blk_lt h.ev) (fun e => by have := (h.row.lt _ e).1; omega)]; exact h.ev
theorem RS.app {w w2 : World} {g p1 : Nat} {q : Option Nat} {ver : Int} {X w8 : World} {r : Rd} {v v' : Value} {k : Nat} {ms : List Mem} {o : Obj} (m : Mem) (h : RS w w2 g p1 q ver X r v k ms) (hg : (X.alloc o).grownBy w8 v.ownBlock)
    (hown : w8.ownsRow w2.heap.size 96 4 v' (k + 1) (mvs ms ++ mvs [m])) : RS w w2 g p1 q ver (w8.setCell ⟨p1, 1, none⟩ v') r v' (k + 1) (ms ++ [m]) := by
  have hp0 := h.p0
  have hp2 := h.p2
  have hg1 := h.g1
  have hc : Chg (fun i => v.ownBlock = some i) X w8 := (Chg.alloc _ X o).trans (Chg.of_grown hg)
  have hvb : ∀ i, v.ownBlock = some i → w2.heap.size ≤ i := fun i hi => (h.row.lt i hi).1
  have hc2 : Chg (One p1) w8 (w8.setCell ⟨p1, 1, none⟩ v') := Chg.setCell w8 ⟨p1, 1, none⟩ _ rfl
  have h8 : w8.heap[p1]? = _ := h.at8 hg
  have hr8 : w8.heap[w.heap.size]? = some (.cells #[.int .i64 0, .slice none 0 0] 28 (0, 0)) := by
    rw [hc.block _ (blk_lt h.re) (fun e => by have := hvb _ e; omega)]; exact h.re
  refine ⟨?_, heap_set h8 1 v', ?_, ?_, ?_, Nat.le_trans h.sz (Nat.le_trans hc.size hc2.size), h.g1, h.q1, h.p0, h.p2⟩
  · exact (h.rd.keep hc (fun e => by have := hvb _ e; omega) (fun i hi e => by have := hvb _ e; have := h.q1 i hi; omega)).keep hc2 (fun e => by have : g = p1 := e; omega) (fun i hi e => by have : i = p1 := e; have := h.q1 i hi; omega)
  · rw [hc2.block _ (blk_lt hr8) (fun e => by have : w.heap.size = p1 := e; omega)]; exact hr8
  · rw [mvs_app]
    exact owns_keep hown hc2 (fun i hi e => by have := (hown.lt i hi).1; have : i = p1 := e; omega)
  · exact (h.chg.trans' hc (fun i hi e => by have := hvb _ e; omega)).trans' hc2 (fun i hi e => by have : i = p1 := e; omega)
theorem rfm_step (n : Nat) (r : Rd) : rfMems (n + 1) r = ((rfMem r).1 :: (rfMems n (rfMem r).2).1, (rfMems n (rfMem r).2).2) := rfl
set_option maxRecDepth 100000 in
set_option maxHeartbeats 4000000 in
theorem rf4Read_any {w : World} {g : Nat} {q : Option Nat} {r : Rd} (h : Rdf w g q r) (hqw : ∀ k, q = some k → k < w.heap.size) :
    Calls Tryz.prog 89 #[.pointer (some ⟨g, 0, none⟩)] w fun e w' => RGot w w' g q e (rdInt r).1 (rfMems (rdCount (rdInt r).2 7).1.toNat (rdCount (rdInt r).2 7).2).1 (rfMems (rdCount (rdInt r).2 7).1.toNat (rdCount (rdInt r).2 7).2).2 := by
  have hgw : g < w.heap.size := h.lt
  have HQ0 : Hid (Rdf w g q r) := h
  have hr0 := rdInt_range r
  have hr1 := rdCount_le (rdInt r).2 7 (by omega)
  have k1 := fun {w1 : World} (hh : Rdf w1 g q r) => rfInt_any hh
  have k2 := fun {w1 : World} (hh : Rdf w1 g q (rdInt r).2) => rfCount_any hh 7
  generalize rdInt r = p1 at *
  obtain ⟨ver, r1⟩ := p1
  dsimp only at *
  generalize rdCount r1 7 = p2 at *
  obtain ⟨nn, r2⟩ := p2
  dsimp only at *
  obtain ⟨n, rfl⟩ := Int.eq_ofNat_of_zero_le hr1.1
  rw [Int.toNat_natCast]
  have K1 : Hid (∀ {w1 : World}, Rdf w1 g q r → Calls Tryz.prog 45 #[.pointer (some ⟨g, 0, none⟩)] w1 fun e w' => e = .returned (.int .i64 ver) ∧ Rdf w' g q r1 ∧ Chg (One g) w1 w') := k1
  have K2 : Hid (∀ {w1 : World}, Rdf w1 g q r1 → Calls Tryz.prog 87 #[.pointer (some ⟨g, 0, none⟩), .int .i64 7] w1 fun e w' => e = .returned (.int .i64 (n : Nat)) ∧ Rdf w' g q r2 ∧ Chg (One g) w1 w') := k2
  have HQW : Hid (∀ k, q = some k → k < w.heap.size) := hqw
  obtain ⟨hr11, hr12⟩ := hr1
  clear k1 k2 h hqw
  generalize hRR : rfMems n r2 = RR
  have HRR : Hid (rfMems n r2 = RR) := hRR
  clear hRR
  go_enter Tryz.func89, Tryz.ntmps89
  go_wp2_with fail
  have hx0 := heap_alloc_new w (.cells #[.int .i64 0, .slice none 0 0] 28 (0, 0))
  have h1 := K1.out (HQ0.out.keep (Chg.alloc Non w (.cells #[.int .i64 0, .slice none 0 0] 28)) id (fun _ _ => id))
  refine h1.mono ?_
  rintro e w1 ⟨rfl, hq1, hc1⟩
  have hx1 : w1.heap[w.heap.size]? = some (.cells #[.int .i64 0, .slice none 0 0] 28 (0, 0)) := by rw [hc1.block _ (by simp) (fun e => by have : w.heap.size = g := e; omega)]; exact hx0
  have C1 : Chg (One g) w w1 := (Chg.alloc _ w _).trans hc1
  have hs1 := blk_lt hx1
  clear h1 hx0 hc1 HQ0
  go_wp2_with fail
  have hy1 := heap_alloc_new w1 (.cells #[.int .i64 ver, .slice none 0 0] 28 (0, 0))
  have hx1a := box_al hx1 (.cells #[.int .i64 ver, .slice none 0 0] 28)
  have h2 := K2.out (hq1.keep (Chg.alloc Non w1 (.cells #[.int .i64 ver, .slice none 0 0] 28)) id (fun _ _ => id))
  refine h2.mono ?_
  rintro e w2 ⟨rfl, hq2, hc2⟩
  have hx2 : w2.heap[w.heap.size]? = some (.cells #[.int .i64 0, .slice none 0 0] 28 (0, 0)) := by rw [hc2.block _ (blk_lt hx1a) (fun e => by have : w.heap.size = g := e; omega)]; exact hx1a
  have hy2 : w2.heap[w1.heap.size]? = some (.cells #[.int .i64 ver, .slice none 0 0] 28 (0, 0)) := by rw [hc2.block _ (by simp) (fun e => by have : w1.heap.size = g := e; omega)]; exact hy1
  have C2 : Chg (One g) w w2 := (C1.trans (Chg.alloc _ w1 _)).trans hc2
  have hs2 := blk_lt hy2
  have HX2 : Hid (w2.heap[w.heap.size]? = some (.cells #[.int .i64 0, .slice none 0 0] 28 (0, 0))) := hx2
  have HY2 : Hid (w2.heap[w1.heap.size]? = some (.cells #[.int .i64 ver, .slice none 0 0] 28 (0, 0))) := hy2
  have HQ2 : Hid (Rdf w2 g q r2) := hq2
  have HC2 : Hid (Chg (One g) w w2) := C2
  clear h2 hx1 hx1a hy1 hc2 hq1 hq2 hx2 hy2 C1 C2
  obtain ⟨p1, hp1⟩ : ∃ p, p = w1.heap.size := ⟨_, rfl⟩
  rw [← hp1] at hs1 hs2 HY2 ⊢
  clear hp1 K1 K2
  have HRS : Hid (RS w w2 g p1 q ver w2 r2 (.slice none 0 0) 0 []) := ⟨HQ2.out, HY2.out, HX2.out, World.ownsRow_nil _ _ _ _, HC2.out, Nat.le_refl _, hgw, HQW.out, hs1, hs2⟩
  clear HX2 HY2 HQ2 HC2
  go_wp2_with fail
  go_loopw [6] (fun i wr => ∃ (k : Nat) (ms : List Mem) (r : Rd) (v : Value), i = .int .i64 k ∧ k ≤ n ∧ ms.length = k ∧ RR = (ms ++ (rfMems (n - k) r).1, (rfMems (n - k) r).2) ∧ RS w w2 g p1 q ver wr r v k ms) (fun i _ => n - (intOf i).toNat)
  case atStart => exact ⟨0, [], r2, .slice none 0 0, rfl, by omega, rfl, HRR.out.symm, HRS.out⟩
  case round =>
    clear HRS
    obtain ⟨k, ms, r3, v, rfl, hk, hms, hrd, hs⟩ := hrel
    have HRD : Hid (RR = (ms ++ (rfMems (n - k) r3).1, (rfMems (n - k) r3).2)) := hrd
    have HS : Hid (RS w w2 g p1 q ver wr r3 v k ms) := hs
    have HMS : Hid (ms.length = k) := hms
    clear hrd hs hms
    by_cases hlt : k < n
    · obtain ⟨j, hj⟩ : ∃ j, n - k = j + 1 := ⟨n - k - 1, by omega⟩
      have HJ : Hid (n - k = j + 1) := hj
      clear hj
      have hst := rfm_step j r3
      have s1 := rdSmall_le r3 7 (by omega)
      have a1 := rf4small_any HS.out.rd 7 (by omega) (by omega)
      unfold rfMem at hst
      generalize rdSmall r3 7 = t1 at hst s1 a1
      obtain ⟨mi, r4⟩ := t1
      dsimp only at hst s1 a1
      have s2 := rdSmall_le r4 2 (by omega)
      have a2 := fun {W : World} (hh : Rdf W g q r4) => rf4small_any hh 2 (by omega) (by omega)
      generalize rdSmall r4 2 = t2 at hst s2 a2
      obtain ⟨mr, r5⟩ := t2
      dsimp only at hst s2 a2
      have s3 := rdSmall_le r5 1000 (by omega)
      have a3 := fun {W : World} (hh : Rdf W g q r5) => rf4small_any hh 1000 (by omega) (by omega)
      generalize rdSmall r5 1000 = t3 at hst s3 a3
      obtain ⟨mw, r6⟩ := t3
      dsimp only at hst s3 a3
      have s4 := rdSmall_le r6 7 (by omega)
      have a4 := fun {W : World} (hh : Rdf W g q r6) => rf4small_any hh 7 (by omega) (by omega)
      generalize rdSmall r6 7 = t4 at hst s4 a4
      obtain ⟨mg, r7⟩ := t4
      dsimp only at hst s4 a4
      have HST : Hid (rfMems (j + 1) r3 = (⟨mi, mr, mw, mg⟩ :: (rfMems j r7).1, (rfMems j r7).2)) := hst
      have A2 : Hid (∀ {W : World}, Rdf W g q r4 → Calls Tryz.prog 96 #[.pointer (some ⟨g, 0, none⟩), .int .i64 2] W fun e w' => e = .returned (.int .i64 mr) ∧ Rdf w' g q r5 ∧ Chg (One g) W w') := a2
      have A3 : Hid (∀ {W : World}, Rdf W g q r5 → Calls Tryz.prog 96 #[.pointer (some ⟨g, 0, none⟩), .int .i64 1000] W fun e w' => e = .returned (.int .i64 mw) ∧ Rdf w' g q r6 ∧ Chg (One g) W w') := a3
      have A4 : Hid (∀ {W : World}, Rdf W g q r6 → Calls Tryz.prog 96 #[.pointer (some ⟨g, 0, none⟩), .int .i64 7] W fun e w' => e = .returned (.int .i64 mg) ∧ Rdf w' g q r7 ∧ Chg (One g) W w') := a4
      obtain ⟨s21, s22⟩ := s2
      clear hst a2 a3 a4
      go_wp2_with fail
      refine a1.mono ?_
      rintro e w3 ⟨rfl, hq3, hc3⟩
      have HS3 : Hid (RS w w2 g p1 q ver w3 r4 v k ms) := HS.out.call hc3 hq3
      clear a1 hq3 hc3
      have hvb : v.ownBlock ≠ some w3.heap.size := fun e => by have := (HS3.out.row.lt _ e).2; omega
      have hsz3 := HS3.out.sz
      have HS3a : Hid (RS w w2 g p1 q ver (w3.alloc (.cells #[.int .i64 mi, .int .u8 0, .int .i64 0, .int .i64 0] 96)) r4 v k ms) := HS3.out.keep (Chg.alloc Non w3 _) (fun _ e => e.elim)
      have HM3 : Hid ((w3.alloc (.cells #[.int .i64 mi, .int .u8 0, .int .i64 0, .int .i64 0] 96)).heap[w3.heap.size]? = some (.cells #[.int .i64 mi, .int .u8 0, .int .i64 0, .int .i64 0] 96 (0, 0))) := heap_alloc_new w3 _
      go_wp2_with fail
      have h4 := A2.out HS3a.out.rd
      refine h4.mono ?_
      rintro e w4 ⟨rfl, hq4, hc4⟩
      have HS4 : Hid (RS w w2 g p1 q ver w4 r5 v k ms) := HS3a.out.call hc4 hq4
      obtain ⟨mb, hmb⟩ : ∃ mb, mb = w3.heap.size := ⟨_, rfl⟩
      have hgmb : mb ≠ g := by have := HS3.out.g1; have := HS3.out.p0; have := HS3.out.p2; omega
      have hm4 : w4.heap[mb]? = some (.cells #[.int .i64 mi, .int .u8 0, .int .i64 0, .int .i64 0] 96 (0, 0)) := by rw [hc4.block mb (by rw [hmb]; simp) (fun e => hgmb e), hmb]; exact HM3.out
      rw [← hmb] at hvb hsz3 ⊢
      clear h4 hq4 hc4 HM3 HS3a HS3 hmb HS
      clear w3
      have y1 : w4.cell? ⟨mb, 1, none⟩ = some (.int .u8 0) := by rw [cell_at hm4]; rfl
      have f1 : w4.frozen? ⟨mb, 1, none⟩ = false := frozen_at hm4 1
      have HM4 : Hid (w4.heap[mb]? = some (.cells #[.int .i64 mi, .int .u8 0, .int .i64 0, .int .i64 0] 96 (0, 0))) := hm4
      clear hm4
      have HS4a : Hid (RS w w2 g p1 q ver (w4.setCell ⟨mb, 1, none⟩ (.int .u8 mr)) r5 v k ms) := HS4.out.keep (Chg.setCell (S := One mb) w4 ⟨mb, 1, none⟩ _ rfl) (fun i e => by have : i = mb := e; subst this; exact ⟨hsz3, hvb⟩)
      have HM4a : Hid ((w4.setCell ⟨mb, 1, none⟩ (.int .u8 mr)).heap[mb]? = some (.cells #[.int .i64 mi, .int .u8 mr, .int .i64 0, .int .i64 0] 96 (0, 0))) := heap_set HM4.out 1 _
      go_wp2_with fail
      have h5 := A3.out HS4a.out.rd
      refine h5.mono ?_
      rintro e w5 ⟨rfl, hq5, hc5⟩
      have HS5 : Hid (RS w w2 g p1 q ver w5 r6 v k ms) := HS4a.out.call hc5 hq5
      have hm5 : w5.heap[mb]? = some (.cells #[.int .i64 mi, .int .u8 mr, .int .i64 0, .int .i64 0] 96 (0, 0)) := by rw [hc5.block mb (blk_lt HM4a.out) (fun e => hgmb e)]; exact HM4a.out
      clear h5 hq5 hc5 HM4a HS4a HS4 HM4 y1 f1
      clear w4
      have y2 : w5.cell? ⟨mb, 2, none⟩ = some (.int .i64 0) := by rw [cell_at hm5]; rfl
      have f2 : w5.frozen? ⟨mb, 2, none⟩ = false := frozen_at hm5 2
      have HM5 : Hid (w5.heap[mb]? = some (.cells #[.int .i64 mi, .int .u8 mr, .int .i64 0, .int .i64 0] 96 (0, 0))) := hm5
      clear hm5
      have HS5a : Hid (RS w w2 g p1 q ver (w5.setCell ⟨mb, 2, none⟩ (.int .i64 mw)) r6 v k ms) := HS5.out.keep (Chg.setCell (S := One mb) w5 ⟨mb, 2, none⟩ _ rfl) (fun i e => by have : i = mb := e; subst this; exact ⟨hsz3, hvb⟩)
      have HM5a : Hid ((w5.setCell ⟨mb, 2, none⟩ (.int .i64 mw)).heap[mb]? = some (.cells #[.int .i64 mi, .int .u8 mr, .int .i64 mw, .int .i64 0] 96 (0, 0))) := heap_set HM5.out 2 _
      go_wp2_with fail
      have h6 := A4.out HS5a.out.rd
      refine h6.mono ?_
      rintro e w6 ⟨rfl, hq6, hc6⟩
      have HS6 : Hid (RS w w2 g p1 q ver w6 r7 v k ms) := HS5a.out.call hc6 hq6
      have hm6 : w6.heap[mb]? = some (.cells #[.int .i64 mi, .int .u8 mr, .int .i64 mw, .int .i64 0] 96 (0, 0)) := by rw [hc6.block mb (blk_lt HM5a.out) (fun e => hgmb e)]; exact HM5a.out
      clear h6 hq6 hc6 HM5a HS5a HS5 HM5 y2 f2
      clear w5
      have y0 : w6.cell? ⟨mb, 0, none⟩ = some (.int .i64 mi) := by rw [cell_at hm6]; rfl
      have y1 : w6.cell? ⟨mb, 1, none⟩ = some (.int .u8 mr) := by rw [cell_at hm6]; rfl
      have y2 : w6.cell? ⟨mb, 2, none⟩ = some (.int .i64 mw) := by rw [cell_at hm6]; rfl
      have y3 : w6.cell? ⟨mb, 3, none⟩ = some (.int .i64 0) := by rw [cell_at hm6]; rfl
      have f3 : w6.frozen? ⟨mb, 3, none⟩ = false := frozen_at hm6 3
      have x1 : w6.cell? ⟨p1, 1, none⟩ = some v := by rw [cell_at HS6.out.ev]; rfl
      have hpmb : p1 ≠ mb := by have := HS6.out.p2; omega
      have hlp : p1 < w6.heap.size := blk_lt HS6.out.ev
      have hlm : mb < w6.heap.size := blk_lt hm6
      have HS6a : Hid (RS w w2 g p1 q ver (w6.setCell ⟨mb, 3, none⟩ (.int .i64 mg)) r7 v k ms) := HS6.out.keep (Chg.setCell (S := One mb) w6 ⟨mb, 3, none⟩ _ rfl) (fun i e => by have : i = mb := e; subst this; exact ⟨hsz3, hvb⟩)
      obtain ⟨Av, Cv, rfl⟩ := owns_form' HS6.out.row
      clear hm6 HS6
      have HNW : Hid (∀ j u, [Value.int .i64 mi, .int .u8 mr, .int .i64 mw, .int .i64 mg][j]? = some u → ((w6.setCell ⟨mb, 3, none⟩ (.int .i64 mg)).alloc (.cells #[.int .i64 mi, .int .u8 mr, .int .i64 mw, .int .i64 mg] 96)).cell? ((⟨w6.heap.size, 0, none⟩ : Addr).add j) = some u) := by
        have e : w6.heap.size = (w6.setCell ⟨mb, 3, none⟩ (.int .i64 mg)).heap.size := by simp
        show ∀ j u, _
        rw [e]
        exact four_new _ _ _ _ _ _
      have HBS : Hid (w2.heap.size ≤ ((w6.setCell ⟨mb, 3, none⟩ (.int .i64 mg)).alloc (.cells #[.int .i64 mi, .int .u8 mr, .int .i64 mw, .int .i64 mg] 96)).heap.size) := by
        show _ ≤ _
        have := HS6a.out.sz; simp at this ⊢; omega
      obtain ⟨i0, hi, hz0, hz1, hz2⟩ := info_parts info30
      go_wp2_with (at_builtin; refine wpList_append_own_at _ rfl (.tmp 32) (.tmp 34) 26 rfl w2.heap.size 96 i0 _ 4 32 Tryz.underlying26 hi hz0 hz1 hz2 rfl (by decide) (.slice Av k Cv) k (mvs ms) rfl (HS6a.out.row.alloc _) ⟨_, 0, none⟩ 1 1 [.int .i64 mi, .int .u8 mr, .int .i64 mw, .int .i64 mg] rfl rfl HNW.out (mvs_one [⟨mi, mr, mw, mg⟩]) (by unfold maxLen; omega) (by omega) HBS.out ?_; intro v8 w8 hown hgrow hnil hat; (obtain ⟨A8, C8, rfl⟩ := owns_form' hown); (have HO8 : Hid (w8.ownsRow w2.heap.size 96 4 (.slice A8 (k + 1) C8) (k + 1) (mvs ms ++ mvs [⟨mi, mr, mw, mg⟩])) := hown); (have he8 := HS6a.out.at8 hgrow); (have HSN := HS6a.out.app ⟨mi, mr, mw, mg⟩ hgrow hown); (have HSN' : Hid _ := HSN); (have c81 : w8.cell? ⟨p1, 1, none⟩ = some (.slice Av k Cv) := by rw [cell_at he8]; rfl); (have f81 : w8.frozen? ⟨p1, 1, none⟩ = false := frozen_at he8 1); clear he8 HSN hnil hat hown hgrow)
      exact ⟨⟨k + 1, ms ++ [⟨mi, mr, mw, mg⟩], r7, _, by go_num, by omega, by rw [List.length_append, HMS.out]; rfl, by rw [HRD.out, HJ.out, HST.out, show n - (k + 1) = j by have := HJ.out; omega, List.append_assoc]; rfl, HSN'.out⟩, by simp [intOf]; omega⟩
    · have hkk : k = n := by omega
      subst hkk
      have hrr : RR = (ms, r3) := by
        have := HRD.out
        rw [Nat.sub_self] at this
        rw [this]
        simp [rfMems]
      subst hrr
      obtain ⟨Av, Cv, rfl⟩ := owns_form' HS.out.row
      have hz0 : wr.cell? ⟨w.heap.size, 0, none⟩ = some (.int .i64 0) := by rw [cell_at HS.out.re]; rfl
      have hz1 : wr.cell? ⟨w.heap.size, 1, none⟩ = some (.slice none 0 0) := by rw [cell_at HS.out.re]; rfl
      have hf0 : wr.frozen? ⟨w.heap.size, 0, none⟩ = false := frozen_at HS.out.re 0
      have hf1 : wr.frozen? ⟨w.heap.size, 1, none⟩ = false := frozen_at HS.out.re 1
      have hlw := blk_lt HS.out.re
      have hx0 : wr.cell? ⟨p1, 0, none⟩ = some (.int .i64 ver) := by rw [cell_at HS.out.ev]; rfl
      have hx1 : wr.cell? ⟨p1, 1, none⟩ = some (.slice Av k Cv) := by rw [cell_at HS.out.ev]; rfl
      have hlp := blk_lt HS.out.ev
      have hmm : Mems wr (.slice Av k Cv) ms := mems_of_owns (base := w2.heap.size) (by rw [HMS.out]; exact HS.out.row)
      have hck := rf4Check_any hmm ver
      have hgd := rfGood_any HS.out.rd
      generalize hsm : r3.isSome = so at hgd
      have HSM : Hid (r3.isSome = so) := hsm
      clear hmm hsm HRD HRR
      cases so with
      | false =>
        have hc9 : Chg (One w.heap.size) wr ((wr.setCell ⟨w.heap.size, 0, none⟩ (.int .i64 0)).setCell ⟨w.heap.size, 1, none⟩ (.slice none 0 0)) :=
          (Chg.setCell (S := One w.heap.size) wr ⟨w.heap.size, 0, none⟩ _ rfl).trans (Chg.setCell (S := One w.heap.size) _ ⟨w.heap.size, 1, none⟩ _ rfl)
        have HC9 : Hid (Chg (One w.heap.size) wr ((wr.setCell ⟨w.heap.size, 0, none⟩ (.int .i64 0)).setCell ⟨w.heap.size, 1, none⟩ (.slice none 0 0))) := hc9
        clear hck hc9
        go_wp2_with fail
        refine hgd.mono ?_
        rintro e w8 ⟨rfl, rfl⟩
        go_wp2
        refine bodyPost_ret (v := .tuple #[.agg #[.int .i64 0, .slice none 0 0], .bool false]) (by simp [results, Tryz.results89, go_sem, hz0, hz1]) rfl ⟨?_, ?_, .inr ⟨?_, rfl⟩⟩
        · exact HS.out.rd.keep HC9.out (fun e => by have : g = w.heap.size := e; omega) (fun i hi e => by have : i = w.heap.size := e; have := HQW.out i hi; omega)
        · exact HS.out.chg.trans' HC9.out (fun i hi e => by have : i = w.heap.size := e; omega)
        · rw [HSM.out]; simp
      | true =>
        by_cases hc : chk ver ms = 0
        · rw [hc] at hck
          have HCC : Hid (chk ver ms = 0) := hc
          clear hc
          go_wp2_with fail
          refine hgd.mono ?_
          rintro e w8 ⟨rfl, rfl⟩
          go_wp2_with fail
          refine hck.mono ?_
          rintro e w9 ⟨rfl, hB9⟩
          have y0 : w9.cell? ⟨w.heap.size, 0, none⟩ = some (.int .i64 0) := by rw [hB9.cell (p := ⟨w.heap.size, 0, none⟩) hlw]; exact hz0
          have y1 : w9.cell? ⟨w.heap.size, 1, none⟩ = some (.slice none 0 0) := by rw [hB9.cell (p := ⟨w.heap.size, 1, none⟩) hlw]; exact hz1
          have g0 : w9.frozen? ⟨w.heap.size, 0, none⟩ = false := by rw [hB9.frozen (p := ⟨w.heap.size, 0, none⟩) hlw]; exact hf0
          have g1 : w9.frozen? ⟨w.heap.size, 1, none⟩ = false := by rw [hB9.frozen (p := ⟨w.heap.size, 1, none⟩) hlw]; exact hf1
          have x0 : w9.cell? ⟨p1, 0, none⟩ = some (.int .i64 ver) := by rw [hB9.cell (p := ⟨p1, 0, none⟩) hlp]; exact hx0
          have x1 : w9.cell? ⟨p1, 1, none⟩ = some (.slice Av k Cv) := by rw [hB9.cell (p := ⟨p1, 1, none⟩) hlp]; exact hx1
          have hlw9 : w.heap.size < w9.heap.size := Nat.lt_of_lt_of_le hlw hB9.size
          have HC9 : Hid (Chg (One w.heap.size) w8 ((w9.setCell ⟨w.heap.size, 0, none⟩ (.int .i64 ver)).setCell ⟨w.heap.size, 1, none⟩ (.slice Av k Cv))) :=
            ((Chg.of_below hB9).weak (fun _ _ e => e.elim)).trans ((Chg.setCell (S := One w.heap.size) w9 ⟨w.heap.size, 0, none⟩ _ rfl).trans (Chg.setCell (S := One w.heap.size) _ ⟨w.heap.size, 1, none⟩ _ rfl))
          clear hz0 hz1 hf0 hf1
          go_wp2
          refine bodyPost_ret (v := .tuple #[.agg #[.int .i64 ver, .slice Av k Cv], .bool true]) (by simp [results, Tryz.results89, go_sem, y0, y1]) rfl ⟨?_, ?_, .inl ⟨HSM.out, HCC.out, _, rfl, ?_⟩⟩
          · exact HS.out.rd.keep HC9.out (fun e => by have : g = w.heap.size := e; omega) (fun i hi e => by have : i = w.heap.size := e; have := HQW.out i hi; omega)
          · exact HS.out.chg.trans' HC9.out (fun i hi e => by have : i = w.heap.size := e; omega)
          · have h1 := owns_keep HS.out.row HC9.out (fun i hi e => by have := (HS.out.row.lt i hi).1; have : i = w.heap.size := e; omega)
            rw [HMS.out]
            refine ⟨h1.1, ?_⟩
            rcases h1.2 with h2 | ⟨gg, cap, cur, hv, hg, h3⟩
            · exact .inl h2
            · exact .inr ⟨gg, cap, cur, hv, by omega, h3⟩
        · have hcb : (chk ver ms != 0) = true := by simpa using hc
          have HCC : Hid (¬ chk ver ms = 0) := hc
          generalize chk ver ms = c at hck hcb
          clear hc
          go_wp2_with fail
          refine hgd.mono ?_
          rintro e w8 ⟨rfl, rfl⟩
          go_wp2_with fail
          refine hck.mono ?_
          rintro e w9 ⟨rfl, hB9⟩
          have y0 : w9.cell? ⟨w.heap.size, 0, none⟩ = some (.int .i64 0) := by rw [hB9.cell (p := ⟨w.heap.size, 0, none⟩) hlw]; exact hz0
          have y1 : w9.cell? ⟨w.heap.size, 1, none⟩ = some (.slice none 0 0) := by rw [hB9.cell (p := ⟨w.heap.size, 1, none⟩) hlw]; exact hz1
          have g0 : w9.frozen? ⟨w.heap.size, 0, none⟩ = false := by rw [hB9.frozen (p := ⟨w.heap.size, 0, none⟩) hlw]; exact hf0
          have g1 : w9.frozen? ⟨w.heap.size, 1, none⟩ = false := by rw [hB9.frozen (p := ⟨w.heap.size, 1, none⟩) hlw]; exact hf1
          have hlw9 : w.heap.size < w9.heap.size := Nat.lt_of_lt_of_le hlw hB9.size
          have HC9 : Hid (Chg (One w.heap.size) w8 ((w9.setCell ⟨w.heap.size, 0, none⟩ (.int .i64 0)).setCell ⟨w.heap.size, 1, none⟩ (.slice none 0 0))) :=
            ((Chg.of_below hB9).weak (fun _ _ e => e.elim)).trans ((Chg.setCell (S := One w.heap.size) w9 ⟨w.heap.size, 0, none⟩ _ rfl).trans (Chg.setCell (S := One w.heap.size) _ ⟨w.heap.size, 1, none⟩ _ rfl))
          clear hz0 hz1 hf0 hf1
          go_wp2
          refine bodyPost_ret (v := .tuple #[.agg #[.int .i64 0, .slice none 0 0], .bool false]) (by simp [results, Tryz.results89, go_sem, y0, y1]) rfl ⟨?_, ?_, .inr ⟨fun h => HCC.out h.2, rfl⟩⟩
          · exact HS.out.rd.keep HC9.out (fun e => by have : g = w.heap.size := e; omega) (fun i hi e => by have : i = w.heap.size := e; have := HQW.out i hi; omega)
          · exact HS.out.chg.trans' HC9.out (fun i hi e => by have : i = w.heap.size := e; omega)
set_option maxRecDepth 100000 in
set_option maxHeartbeats 2000000 in
theorem rf4Get_any {w : World} {x : Value} {b : List UInt8} (hx : Bs w x b) (hb : b.length ≤ 140737488355328) :
    Calls Tryz.prog 78 #[x] w fun e w' => Got w w' e (cfgRf b) := by
  have HX : Hid (Bs w x b) := hx
  obtain ⟨AX, CX, rfl⟩ := bs_form hx
  have hB1 : Below w.heap.size w (w.alloc (.cells #[.int .i64 0, .slice none 0 0] 28)) := (Below.refl _ _).alloc (Nat.le_refl _) _
  clear hx
  have hcf : cfgRf b = if (rfMems (rdCount (rdInt (some b)).2 7).1.toNat (rdCount (rdInt (some b)).2 7).2).2 = some [] ∧ chk (rdInt (some b)).1 (rfMems (rdCount (rdInt (some b)).2 7).1.toNat (rdCount (rdInt (some b)).2 7).2).1 = 0 then some ((rdInt (some b)).1, (rfMems (rdCount (rdInt (some b)).2 7).1.toNat (rdCount (rdInt (some b)).2 7).2).1) else none := rfl
  rw [hcf]
  clear hcf
  have k1 := fun {w1 : World} {g : Nat} {q : Option Nat} (hh : Rdf w1 g q (some b)) hq => rf4Read_any hh hq
  generalize (rfMems (rdCount (rdInt (some b)).2 7).1.toNat (rdCount (rdInt (some b)).2 7).2) = p1 at *
  obtain ⟨ms, r⟩ := p1
  generalize (rdInt (some b)).1 = ver at *
  dsimp only at *
  have K1 : Hid (∀ {w1 : World} {g : Nat} {q : Option Nat}, Rdf w1 g q (some b) → (∀ k, q = some k → k < w1.heap.size) → Calls Tryz.prog 89 #[.pointer (some ⟨g, 0, none⟩)] w1 fun e w' => RGot w1 w' g q e ver ms r) := k1
  clear k1
  generalize hOO : (if r = some [] ∧ chk ver ms = 0 then some (ver, ms) else none) = OO
  have HOO : Hid ((if r = some [] ∧ chk ver ms = 0 then some (ver, ms) else none) = OO) := hOO
  clear hOO
  go_enter Tryz.func78, Tryz.ntmps78
  go_wp2_with fail
  have h2 := rfNew_any (HX.out.below hB1 (fun k hk => HX.out.lt hk)) hb
  refine h2.mono ?_
  clear h2
  rintro e w2 ⟨g, q, rfl, hq2, hB2, hg2, hqq2⟩
  have hs1 : w.heap.size < g := by simp at hg2; omega
  have hx2 : w2.heap[w.heap.size]? = some (.cells #[.int .i64 0, .slice none 0 0] 28 (0, 0)) := by rw [hB2.block _ (by simp)]; exact heap_alloc_new w _
  have HB2 : Hid (Below w.heap.size w w2) := hB1.trans (hB2.mono (by simp))
  have hsz2 : w.heap.size < w2.heap.size := blk_lt hx2
  have h3 := K1.out hq2 (fun k hk => (hqq2 k hk).2)
  clear hB1 hB2 hg2 K1
  go_wp2_with fail
  refine h3.mono ?_
  rintro e w3 ⟨hq3, hc3, hres⟩
  have hx3 : w3.heap[w.heap.size]? = some (.cells #[.int .i64 0, .slice none 0 0] 28 (0, 0)) := by rw [hc3.block _ hsz2 (fun e => by have : w.heap.size = g := e; omega)]; exact hx2
  have HB3 : Hid (Below w.heap.size w w3) := HB2.out.trans (hc3.below (fun k e => by have : k = g := e; omega) HB2.out.size)
  have hz0 : w3.cell? ⟨w.heap.size, 0, none⟩ = some (.int .i64 0) := by rw [cell_at hx3]; rfl
  have hz1 : w3.cell? ⟨w.heap.size, 1, none⟩ = some (.slice none 0 0) := by rw [cell_at hx3]; rfl
  have hf0 : w3.frozen? ⟨w.heap.size, 0, none⟩ = false := frozen_at hx3 0
  have hf1 : w3.frozen? ⟨w.heap.size, 1, none⟩ = false := frozen_at hx3 1
  have hlw := blk_lt hx3
  have HQ3 : Hid (Rdf w3 g q r) := hq3
  clear h3 hq2 hqq2 hx2 hc3 hq3 hx3
  have hB8 := fun o => (Below.refl w3.heap.size w3).alloc (Nat.le_refl _) o
  have HW8 : Hid (∀ (a b : Value) (w8 : World), w8 = w3.alloc (.cells #[a, b] 28) → w8.cell? ⟨w.heap.size, 0, none⟩ = some (.int .i64 0) ∧ w8.cell? ⟨w.heap.size, 1, none⟩ = some (.slice none 0 0) ∧ w8.frozen? ⟨w.heap.size, 0, none⟩ = false ∧ w8.frozen? ⟨w.heap.size, 1, none⟩ = false ∧ w.heap.size < w8.heap.size ∧ w8.cell? ⟨w3.heap.size, 0, none⟩ = some a ∧ w8.cell? ⟨w3.heap.size, 1, none⟩ = some b ∧ w3.heap.size < w8.heap.size ∧
      (∀ x y, Below w.heap.size w ((w8.setCell ⟨w.heap.size, 0, none⟩ x).setCell ⟨w.heap.size, 1, none⟩ y)) ∧ (∀ x y, Chg (One w.heap.size) w3 ((w8.setCell ⟨w.heap.size, 0, none⟩ x).setCell ⟨w.heap.size, 1, none⟩ y))) := by
    rintro a b w8 rfl
    have hn := heap_alloc_new w3 (.cells #[a, b] 28 (0, 0))
    have hc := fun x y => ((Chg.alloc (One w.heap.size) w3 (.cells #[a, b] 28)).trans (Chg.setCell (S := One w.heap.size) _ ⟨w.heap.size, 0, none⟩ x rfl)).trans (Chg.setCell (S := One w.heap.size) _ ⟨w.heap.size, 1, none⟩ y rfl)
    refine ⟨?_, ?_, ?_, ?_, by simp; omega, by rw [cell_at hn]; rfl, by rw [cell_at hn]; rfl, by simp, fun x y => HB3.out.trans ((hc x y).below (fun k e => by have : k = w.heap.size := e; omega) HB3.out.size), hc⟩
    · rw [(hB8 _).cell (p := ⟨w.heap.size, 0, none⟩) hlw]; exact hz0
    · rw [(hB8 _).cell (p := ⟨w.heap.size, 1, none⟩) hlw]; exact hz1
    · rw [(hB8 _).frozen (p := ⟨w.heap.size, 0, none⟩) hlw]; exact hf0
    · rw [(hB8 _).frozen (p := ⟨w.heap.size, 1, none⟩) hlw]; exact hf1
  have HZ : Hid (w3.cell? ⟨w.heap.size, 0, none⟩ = some (.int .i64 0) ∧ w3.cell? ⟨w.heap.size, 1, none⟩ = some (.slice none 0 0) ∧ w3.frozen? ⟨w.heap.size, 0, none⟩ = false ∧ w3.frozen? ⟨w.heap.size, 1, none⟩ = false) := ⟨hz0, hz1, hf0, hf1⟩
  clear hz0 hz1 hf0 hf1 hB8
  rcases hres with ⟨hso, hck, v, rfl, hown⟩ | ⟨hno, rfl⟩
  · obtain ⟨Av, Cv, rfl⟩ := owns_form' hown
    have HOW : Hid (w3.ownsRow w2.heap.size 96 4 (.slice Av ms.length Cv) ms.length (mvs ms)) := hown
    clear hown
    have hwh0 := fun o => rfWhole_any (HQ3.out.keep (Chg.alloc Non w3 o) id (fun _ _ => id))
    by_cases hw : r = some []
    · obtain rfl : some (ver, ms) = OO := by have := HOO.out; rw [if_pos ⟨hw, hck⟩] at this; exact this
      rw [decide_eq_true hw] at hwh0
      clear hw hck hso HOO
      obtain ⟨N, hN⟩ : ∃ N, N = ms.length := ⟨_, rfl⟩
      rw [← hN] at HOW ⊢
      have HN : Hid (N = ms.length) := hN
      clear hN
      go_wp2_with fail
      refine (hwh0 _).mono ?_
      rintro e w8 ⟨rfl, hw8⟩
      obtain ⟨z0, z1, f0, f1, l0, x0, x1, l1, b8, c8⟩ := HW8.out _ _ _ hw8
      have B8 : Hid (∀ x y, Below w.heap.size w ((w8.setCell ⟨w.heap.size, 0, none⟩ x).setCell ⟨w.heap.size, 1, none⟩ y)) := b8
      have C8 : Hid (∀ x y, Chg (One w.heap.size) w3 ((w8.setCell ⟨w.heap.size, 0, none⟩ x).setCell ⟨w.heap.size, 1, none⟩ y)) := c8
      clear hw8 b8 c8 hwh0
      go_wp2
      refine bodyPost_ret (v := .tuple #[.agg #[.int .i64 ver, .slice Av N Cv], .int .i64 0]) (by simp [results, Tryz.results78, go_sem, z0, z1]) rfl ?_
      refine Got.yes _ ?_ (B8.out _ _)
      have hle := HB2.out.size
      have h1 := owns_keep HOW.out (C8.out (.int .i64 ver) (.slice Av N Cv)) (fun i hi e => by have := (HOW.out.lt i hi).1; have : i = w.heap.size := e; omega)
      rw [← HN.out]
      refine ⟨h1.1, ?_⟩
      rcases h1.2 with h2 | ⟨gg, cap, cur, hv, hg, h3⟩
      · exact .inl h2
      · exact .inr ⟨gg, cap, cur, hv, by omega, h3⟩
    · obtain rfl : none = OO := by have := HOO.out; rw [if_neg (fun h => hw h.1)] at this; exact this
      rw [decide_eq_false hw] at hwh0
      clear hw hck hso HOO
      go_wp2_with fail
      refine (hwh0 _).mono ?_
      rintro e w8 ⟨rfl, hw8⟩
      obtain ⟨z0, z1, f0, f1, l0, x0, x1, l1, b8, c8⟩ := HW8.out _ _ _ hw8
      have B8 : Hid (∀ x y, Below w.heap.size w ((w8.setCell ⟨w.heap.size, 0, none⟩ x).setCell ⟨w.heap.size, 1, none⟩ y)) := b8
      clear hw8 b8 c8 hwh0
      go_wp2
      exact bodyPost_ret (v := .tuple #[.agg #[.int .i64 0, .slice none 0 0], .int .i64 4]) (by simp [results, Tryz.results78, go_sem, z0, z1]) rfl (Got.no (B8.out _ _))
  · obtain rfl : none = OO := by have := HOO.out; rw [if_neg (fun h => hno ⟨by rw [h.1]; rfl, h.2⟩)] at this; exact this
    clear hno HOO
    obtain ⟨hz0, hz1, hf0, hf1⟩ := HZ.out
    have hbb : ∀ x y o, Below w.heap.size w (((w3.setCell ⟨w.heap.size, 0, none⟩ x).setCell ⟨w.heap.size, 1, none⟩ y).alloc o) := fun x y o =>
      HB3.out.trans ((((Chg.setCell (S := One w.heap.size) w3 ⟨w.heap.size, 0, none⟩ x rfl).trans (Chg.setCell (S := One w.heap.size) _ ⟨w.heap.size, 1, none⟩ y rfl)).trans (Chg.alloc (One w.heap.size) _ o)).below (fun k e => by have : k = w.heap.size := e; omega) HB3.out.size)
    have HBB : Hid (∀ x y o, Below w.heap.size w (((w3.setCell ⟨w.heap.size, 0, none⟩ x).setCell ⟨w.heap.size, 1, none⟩ y).alloc o)) := hbb
    clear hbb
    go_wp2
    exact bodyPost_ret (v := .tuple #[.agg #[.int .i64 0, .slice none 0 0], .int .i64 4]) (by simp [results, Tryz.results78, go_sem, hz0, hz1, hlw]) rfl (Got.no (HBB.out _ _ _))
end Go.Proofs.YtbbllgpocjipjaaGreatDoor
